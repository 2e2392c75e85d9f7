/- GoodPolicy of the specification and of the program. -/
import Derived.Test.YtocgghhlfmgndaaPol7
import Derived.Test.YtocgghhlfmgndaaS7a
import Derived.Test.YtocgghhlfmgndaaI7c
namespace Go.Proofs.Ytocgghhlfmgndaa
open Go.RowKit

theorem pl_eight {n : Nat} {T : Nat → Tc} (h : ¬ n ≤ 8) : plB n T = false := by
  unfold plB
  rw [decide_eq_false h, Bool.and_false]
theorem pl_no {n k : Nat} {T : Nat → Tc} (hk : k < n) (h : tmT (T k) = false) : plB n T = false := by
  unfold plB
  rw [all_false (n := n) (p := fun i => tmT (T i)) hk h, Bool.false_and]
theorem pl_all {n : Nat} {T : Nat → Tc} (h : ∀ i, i < n → tmT (T i) = true) : plB n T = decide (n ≤ 8) := by
  unfold plB
  rw [all_true (n := n) (p := fun i => tmT (T i)) h, Bool.true_and]
theorem s_tmT (ra : Option Addr) (rc : Nat) (pa : Option Addr) (pc : Nat) (aa : Option Addr) (ac : Nat) (t : Tc) (w : World) (h1 : t.nr ≤ 1048576) (h2 : t.np ≤ 1048576) (h3 : t.na ≤ 1048576) (hT : TmIn ra pa pc aa t w) :
    Calls Try.prog 61 #[.agg #[.slice ra t.nr rc, .slice pa t.np pc, .int .i64 t.cm, .slice aa t.na ac, .int .i64 t.vd]] w fun e w' => e = .returned (.bool (tmT t)) ∧ Below w.heap.size w w' := by
  have h := s_term ra t.nr rc t.f0 t.f1 t.f2 t.f3 pa pc (listQ t.np t.q0 t.q1) t.cm aa t.na ac t.g0 t.g1 t.vd w h1 (by rw [listQ_len]; exact h2) h3 hT.2.1 (RowQ.of hT.2.2.1) hT.2.2.2
  rw [listQ_len] at h
  exact h
set_option maxRecDepth 100000 in
set_option maxHeartbeats 1600000 in
theorem s_goodPolicy (a : Option Addr) (n c : Nat) (acc : Bool) (T : Nat → Tc) (w : World) (hn : n ≤ 1048576) (hl : LowT n T) (hR : RowT a n T w) :
    Calls Try.prog 16 #[.agg #[.slice a n c, .bool acc]] w fun e w' => e = .returned (.bool (plB n T)) ∧ Below w.heap.size w w' := by
  have M0 := Mut.new w #[.slice a n c, .bool acc] 45
  have d0 : Below w.heap.size w (w.alloc (.cells #[.slice a n c, .bool acc] 45)) := below_box (Below.refl _ _)
  go_enter Try.func16, Try.ntmps16
  go_wp2_with fail
  generalize w.alloc (.cells #[.slice a n c, .bool acc] 45) = w1 at *
  go_loopw [8] (fun y wr => ∃ k : Nat, y = .int .i64 k ∧ k ≤ n ∧ Hid (∀ i, i < k → tmT (T i) = true) ∧ Mut wr w.heap.size [.slice a n c, .bool acc] ∧ Below w.heap.size w wr) (fun y _ => n - (intOf y).toNat)
  case atStart => exact ⟨0, rfl, Nat.zero_le _, fun i hi => absurd hi (by omega), M0, d0⟩
  case round =>
    clear M0 d0
    obtain ⟨k, rfl, hk, hall, Mt, hb⟩ := hrel
    by_cases hlt : k < n
    · obtain ⟨b, off, ra, rc, pa, pc, aa, ac, rfl, hbw, u0, u1, u2, u3, u4, ht⟩ := hR k hlt
      replace u0 := (hb.cell (p := ⟨b, off + k * 5, none⟩) hbw).trans u0
      replace u1 := (hb.cell (p := ⟨b, off + k * 5 + 1, none⟩) hbw).trans u1
      replace u2 := (hb.cell (p := ⟨b, off + k * 5 + 2, none⟩) hbw).trans u2
      replace u3 := (hb.cell (p := ⟨b, off + k * 5 + 3, none⟩) hbw).trans u3
      replace u4 := (hb.cell (p := ⟨b, off + k * 5 + 4, none⟩) hbw).trans u4
      have hlt' : (k : Int) < (n : Int) := by omega
      obtain ⟨l1, l2, l3⟩ := hl k hlt
      have hyes := hide (fun e => all_next (n := n) (p := fun i => tmT (T i)) hall.out e hlt)
      have hno := hide (fun e => pl_no (T := T) hlt e)
      have GT := hide (fun w hT => s_tmT ra rc pa pc aa ac (T k) w l1 l2 l3 hT)
      generalize T k = t at *
      have bX : Below wr.heap.size wr (wr.alloc (.cells #[.slice ra t.nr rc, .slice pa t.np pc, .int .i64 t.cm, .slice aa t.na ac, .int .i64 t.vd] 107)) := below_box (Below.refl _ _)
      have dX := hide (hb.trans (bX.mono hb.size))
      have MX := hide (Mt.below bX)
      have hT := hide (ht.below dX.out)
      clear l1 l2 l3 hall Mt bX ht
      cases hg : tmT t with
      | true =>
        have hN := hide (hyes.out hg)
        rw [hg] at GT
        clear hg hyes hno
        go_wp2_with fail
        refine (GT.out _ hT.out).mono ?_
        rintro e w3 ⟨rfl, b3⟩
        go_wp2_with fail
        exact ⟨⟨k + 1, by go_num, by omega, hN.out, MX.out.below b3, dX.out.trans (b3.mono dX.out.size)⟩, by simp [intOf]; omega⟩
      | false =>
        have hN := hide (hno.out hg)
        rw [hg] at GT
        clear hg hyes hno
        go_wp2_with fail
        refine (GT.out _ hT.out).mono ?_
        rintro e w3 ⟨rfl, b3⟩
        go_wp2_with fail
        go_ret
        exact ⟨by rw [hN.out]; rfl, dX.out.trans (b3.mono dX.out.size)⟩
    · have hlt' : ¬ (k : Int) < (n : Int) := by omega
      have hN := hide (pl_all (n := n) (T := T) (fun i hi => hall.out i (by omega)))
      clear hall
      by_cases h8 : n ≤ 8
      · have h8' : (n : Int) ≤ 8 := by omega
        have m0 := Mt.2.1 0 _ rfl
        go_wp2_with fail
        go_ret
        exact ⟨by rw [hN.out, decide_eq_true h8]; rfl, hb⟩
      · have h8' : ¬ (n : Int) ≤ 8 := by omega
        have m0 := Mt.2.1 0 _ rfl
        go_wp2_with fail
        go_ret
        exact ⟨by rw [hN.out, decide_eq_false h8]; rfl, hb⟩
theorem i_tmT (ra : Option Addr) (rc : Nat) (pa : Option Addr) (pc : Nat) (aa : Option Addr) (ac : Nat) (t : Tc) (w : World) (h1 : t.nr ≤ 1048576) (h2 : t.np ≤ 1048576) (h3 : t.na ≤ 1048576) (hT : TmIn ra pa pc aa t w) :
    Calls Try.prog 63 #[.agg #[.slice ra t.nr rc, .slice pa t.np pc, .int .i64 t.cm, .slice aa t.na ac, .int .i64 t.vd]] w fun e w' => e = .returned (.bool (tmT t)) ∧ Below w.heap.size w w' := by
  have h := i_goodTerm ra t.nr rc t.f0 t.f1 t.f2 t.f3 pa pc (listQ t.np t.q0 t.q1) t.cm aa t.na ac t.g0 t.g1 t.vd w h1 (by rw [listQ_len]; exact h2) (by rw [listQ_len]; exact hT.1) h3 hT.2.1 (RowQ.of hT.2.2.1) hT.2.2.2
  rw [listQ_len] at h
  exact h
set_option maxRecDepth 100000 in
set_option maxHeartbeats 1600000 in
theorem i_goodPolicy (a : Option Addr) (n c : Nat) (acc : Bool) (T : Nat → Tc) (w : World) (hn : n ≤ 1048576) (hl : LowT n T) (hR : RowT a n T w) :
    Calls Try.prog 18 #[.agg #[.slice a n c, .bool acc]] w fun e w' => e = .returned (.bool (plB n T)) ∧ Below w.heap.size w w' := by
  have M0 := Mut.new w #[.slice a n c, .bool acc] 45
  have d0 : Below w.heap.size w (w.alloc (.cells #[.slice a n c, .bool acc] 45)) := below_box (Below.refl _ _)
  by_cases h8 : n ≤ 8
  · have h8' : ¬ ((n : Int) > 8) := by omega
    go_enter Try.func18, Try.ntmps18
    go_wp2_with fail
    generalize w.alloc (.cells #[.slice a n c, .bool acc] 45) = w1 at *
    go_loopw [12] (fun y wr => ∃ k : Nat, y = .int .i64 k ∧ k ≤ n ∧ Hid (∀ i, i < k → tmT (T i) = true) ∧ Mut wr w.heap.size [.slice a n c, .bool acc] ∧ Below w.heap.size w wr) (fun y _ => n - (intOf y).toNat)
    case atStart => exact ⟨0, rfl, Nat.zero_le _, fun i hi => absurd hi (by omega), M0, d0⟩
    case round =>
      clear M0 d0
      obtain ⟨k, rfl, hk, hall, Mt, hb⟩ := hrel
      by_cases hlt : k < n
      · obtain ⟨b, off, ra, rc, pa, pc, aa, ac, rfl, hbw, u0, u1, u2, u3, u4, ht⟩ := hR k hlt
        replace u0 := (hb.cell (p := ⟨b, off + k * 5, none⟩) hbw).trans u0
        replace u1 := (hb.cell (p := ⟨b, off + k * 5 + 1, none⟩) hbw).trans u1
        replace u2 := (hb.cell (p := ⟨b, off + k * 5 + 2, none⟩) hbw).trans u2
        replace u3 := (hb.cell (p := ⟨b, off + k * 5 + 3, none⟩) hbw).trans u3
        replace u4 := (hb.cell (p := ⟨b, off + k * 5 + 4, none⟩) hbw).trans u4
        have hlt' : (k : Int) < (n : Int) := by omega
        obtain ⟨l1, l2, l3⟩ := hl k hlt
        have hyes := hide (fun e => all_next (n := n) (p := fun i => tmT (T i)) hall.out e hlt)
        have hno := hide (fun e => pl_no (T := T) hlt e)
        have GT := hide (fun w hT => i_tmT ra rc pa pc aa ac (T k) w l1 l2 l3 hT)
        generalize T k = t at *
        have bX : Below wr.heap.size wr (wr.alloc (.cells #[.slice ra t.nr rc, .slice pa t.np pc, .int .i64 t.cm, .slice aa t.na ac, .int .i64 t.vd] 107)) := below_box (Below.refl _ _)
        have dX := hide (hb.trans (bX.mono hb.size))
        have MX := hide (Mt.below bX)
        have hT := hide (ht.below dX.out)
        clear l1 l2 l3 hall Mt bX ht
        cases hg : tmT t with
        | true =>
          have hN := hide (hyes.out hg)
          rw [hg] at GT
          clear hg hyes hno
          go_wp2_with fail
          refine (GT.out _ hT.out).mono ?_
          rintro e w3 ⟨rfl, b3⟩
          go_wp2_with fail
          exact ⟨⟨k + 1, by go_num, by omega, hN.out, MX.out.below b3, dX.out.trans (b3.mono dX.out.size)⟩, by simp [intOf]; omega⟩
        | false =>
          have hN := hide (hno.out hg)
          rw [hg] at GT
          clear hg hyes hno
          go_wp2_with fail
          refine (GT.out _ hT.out).mono ?_
          rintro e w3 ⟨rfl, b3⟩
          go_wp2_with fail
          go_ret
          exact ⟨by rw [hN.out]; rfl, dX.out.trans (b3.mono dX.out.size)⟩
      · have hlt' : ¬ (k : Int) < (n : Int) := by omega
        have hN := hide (pl_all (n := n) (T := T) (fun i hi => hall.out i (by omega)))
        clear hall
        go_wp2_with fail
        go_ret
        exact ⟨by rw [hN.out, decide_eq_true h8]; rfl, hb⟩
  · have h8' : (n : Int) > 8 := by omega
    rw [pl_eight h8]
    clear h8
    go_enter Try.func18, Try.ntmps18
    go_wp2_with fail
    go_ret
    exact ⟨rfl, d0⟩
end Go.Proofs.Ytocgghhlfmgndaa
