/- How paths compare, of the program. -/
import Derived.Test.YtnficndeblkjhaaGreatDoorI15a
namespace Go.Proofs.YtnficndeblkjhaaGreatDoor
open Go.RowKit

set_option maxRecDepth 100000 in
set_option maxHeartbeats 800000 in
theorem i_isNaN (s : ByteArray) (w : World) :
    Calls Tryz.prog 126 #[.string s] w fun e w' => e = .returned (.bool false) ∧ w' = w := by
  go_enter Tryz.func126, Tryz.ntmps126
  go_wp2_with fail
  go_ret
  exact ⟨rfl, rfl⟩
set_option maxRecDepth 100000 in
set_option maxHeartbeats 800000 in
theorem i_cmpS (x y : ByteArray) (w : World) :
    Calls Tryz.prog 114 #[.string x, .string y] w fun e w' => e = .returned (.int .i64 (if x = y then 0 else if sLt x y then -1 else 1)) ∧ w' = w := by
  have N := hide (fun s w => i_isNaN s w)
  by_cases he : x = y
  · subst he
    have k0 : Op.bytesLess x.toList x.toList = false := sLt_irrefl x
    rw [if_pos rfl]
    go_enter Tryz.func114, Tryz.ntmps114
    go_wp2_with fail
    refine (N.out _ _).mono ?_
    rintro e w1 ⟨rfl, rfl⟩
    go_wp2_with fail
    refine (N.out _ _).mono ?_
    rintro e w2 ⟨rfl, rfl⟩
    go_wp2_with fail
    go_ret
    exact ⟨rfl, rfl⟩
  · rw [if_neg he]
    have k1 := sEq_f he
    clear he
    cases hl : sLt x y with
    | true =>
      have k0 : Op.bytesLess x.toList y.toList = true := hl
      clear hl
      go_enter Tryz.func114, Tryz.ntmps114
      go_wp2_with fail
      refine (N.out _ _).mono ?_
      rintro e w1 ⟨rfl, rfl⟩
      go_wp2_with fail
      refine (N.out _ _).mono ?_
      rintro e w2 ⟨rfl, rfl⟩
      go_wp2_with fail
      go_ret
      exact ⟨rfl, rfl⟩
    | false =>
      have k0 : Op.bytesLess x.toList y.toList = false := hl
      clear hl
      go_enter Tryz.func114, Tryz.ntmps114
      go_wp2_with fail
      refine (N.out _ _).mono ?_
      rintro e w1 ⟨rfl, rfl⟩
      go_wp2_with fail
      refine (N.out _ _).mono ?_
      rintro e w2 ⟨rfl, rfl⟩
      go_wp2_with fail
      go_ret
      exact ⟨rfl, rfl⟩
set_option maxRecDepth 100000 in
set_option maxHeartbeats 1600000 in
theorem i_cmpP (a a' : Option Addr) (n m c c' : Nat) (p q : Nat → ByteArray) (w : World) (hn : n ≤ 1048576) (hR : RowStr a n p w) (hQ : RowStr a' m q w) :
    Calls Tryz.prog 104 #[.slice a n c, .slice a' m c'] w fun e w' => e = .returned (.int .i64 (cmpW n p m q)) ∧ w' = w := by
  have C := hide (fun x y w => i_cmpS x y w)
  go_enter Tryz.func104, Tryz.ntmps104
  go_wp2_with fail
  go_loopw [5, 6, 7, 8, 11] (fun _ _ _ _ y wr => ∃ k : Nat, y = .int .i64 k ∧ k ≤ n ∧ k ≤ m ∧ Hid (∀ i, i < k → p i = q i) ∧ wr = w) (fun _ _ _ _ y _ => n - (intOf y).toNat)
  case atStart => exact ⟨0, rfl, Nat.zero_le _, Nat.zero_le _, fun i hi => absurd hi (by omega), rfl⟩
  case round =>
    obtain ⟨k, rfl, hk, hkm, hx, rfl⟩ := hrel
    by_cases hlt : k < n
    · obtain ⟨b, off, rfl, hbw, u0⟩ := hR k hlt
      have hlt' : (k : Int) < (n : Int) := by omega
      by_cases hm : k < m
      · obtain ⟨b', off', rfl, hbw', v0⟩ := hQ k hm
        have hm' : ¬ ((k : Int) ≥ (m : Int)) := by omega
        have hm2 : (k : Int) < (m : Int) := by omega
        have C := hide (C.out (p k) (q k))
        by_cases he : p k = q k
        · rw [if_pos he] at C
          have hN : Hid (∀ i, i < k + 1 → p i = q i) := fun i hi => by
            by_cases e : i = k
            · subst e; exact he
            · exact hx.out i (by omega)
          clear hx he hR hQ
          generalize p k = x at *
          generalize q k = z at *
          go_wp2_with fail
          refine (C.out _).mono ?_
          rintro e w2 ⟨rfl, rfl⟩
          go_wp2_with fail
          exact ⟨⟨k + 1, by go_num, by omega, by omega, hN.out, (by first | exact trivial | rfl)⟩, by simp [intOf]; omega⟩
        · rw [if_neg he] at C
          have hE := hide (cmpW_at hx.out hlt hm he)
          cases hl : sLt (p k) (q k) with
          | true =>
            rw [hl, if_pos rfl] at C hE
            clear hx he hR hQ hl
            generalize p k = x at *
            generalize q k = z at *
            go_wp2_with fail
            refine (C.out _).mono ?_
            rintro e w2 ⟨rfl, rfl⟩
            go_wp2_with fail
            go_ret
            exact ⟨by rw [hE.out]; rfl, rfl⟩
          | false =>
            rw [hl, if_neg (by simp)] at C hE
            clear hx he hR hQ hl
            generalize p k = x at *
            generalize q k = z at *
            go_wp2_with fail
            refine (C.out _).mono ?_
            rintro e w2 ⟨rfl, rfl⟩
            go_wp2_with fail
            go_ret
            exact ⟨by rw [hE.out]; rfl, rfl⟩
      · have hm' : (k : Int) ≥ (m : Int) := by omega
        obtain rfl : k = m := by omega
        have hE := hide (cmpW_over hlt hx.out)
        clear hx hR hQ C
        go_wp2_with fail
        go_ret
        exact ⟨by rw [hE.out]; rfl, rfl⟩
    · have hlt' : ¬ (k : Int) < (n : Int) := by omega
      obtain rfl : k = n := by omega
      have hE := hide (cmpW_end hkm hx.out)
      by_cases hnm : k < m
      · rw [if_pos hnm] at hE
        have hm' : (k : Int) < (m : Int) := by omega
        clear hx hR hQ C
        go_wp2_with fail
        go_ret
        exact ⟨by rw [hE.out]; rfl, rfl⟩
      · rw [if_neg hnm] at hE
        have hm' : ¬ (k : Int) < (m : Int) := by omega
        clear hx hR hQ C
        go_wp2_with fail
        go_ret
        exact ⟨by rw [hE.out]; rfl, rfl⟩
set_option maxRecDepth 100000 in
set_option maxHeartbeats 1600000 in
theorem i_eqP (a a' : Option Addr) (n m c c' : Nat) (p q : Nat → ByteArray) (w : World) (hn : n ≤ 1048576) (hR : RowStr a n p w) (hQ : RowStr a' m q w) :
    Calls Tryz.prog 105 #[.slice a n c, .slice a' m c'] w fun e w' => e = .returned (.bool (tB (n = m ∧ Bg n p m q))) ∧ Below w.heap.size w w' := by
  have hT : Hid (n = m → (∀ i, i < n → p i = q i) → tB (n = m ∧ Bg n p m q) = true) := fun h k => tB_t ⟨h, by omega, k⟩
  have hF : Hid (∀ i, i < n → p i ≠ q i → tB (n = m ∧ Bg n p m q) = false) := fun i hi h => tB_f (fun k => h (k.2.2 i hi))
  have hG : Hid (n ≠ m → tB (n = m ∧ Bg n p m q) = false) := fun h => tB_f (fun k => h k.1)
  generalize tB (n = m ∧ Bg n p m q) = b at *
  by_cases hnm : n = m
  · have hT2 := hide (hT.out hnm)
    clear hT
    subst hnm
    have hne : ((n : Int) != (n : Int)) = false := by simp
    go_enter Tryz.func105, Tryz.ntmps105
    go_wp2_with fail
    go_loopw [5, 13] (fun _ y wr => ∃ k : Nat, y = .int .i64 k ∧ k ≤ n ∧ Hid (∀ i, i < k → p i = q i) ∧ Below w.heap.size w wr) (fun _ y _ => n - (intOf y).toNat)
    case atStart => exact ⟨0, rfl, Nat.zero_le _, fun i hi => absurd hi (by omega), Below.refl _ _⟩
    case round =>
      clear hne
      obtain ⟨k, rfl, hk, hx, hb⟩ := hrel
      by_cases hlt : k < n
      · obtain ⟨b0, off, rfl, hbw, u0⟩ := hR k hlt
        obtain ⟨b1, off1, rfl, hbw1, v0⟩ := hQ k hlt
        replace u0 := (hb.cell (p := ⟨b0, off + k, none⟩) hbw).trans u0
        replace v0 := (hb.cell (p := ⟨b1, off1 + k, none⟩) hbw1).trans v0
        have hlt' : (k : Int) < (n : Int) := by omega
        by_cases he : p k = q k
        · have hN : Hid (∀ i, i < k + 1 → p i = q i) := fun i hi => by
            by_cases e : i = k
            · subst e; exact he
            · exact hx.out i (by omega)
          rw [← he] at v0
          clear hx he hR hQ hT2 hF hG
          generalize p k = x at *
          go_wp2_with fail
          go_quiet (fail)
          go_wp2_with fail
          exact ⟨⟨k + 1, by go_num, by omega, hN.out, below_drewN hb _⟩, by simp [intOf]; omega⟩
        · have hE := hide (hF.out k hlt he)
          have k1 := sEq_f he
          clear hx he hR hQ hT2 hF hG
          generalize p k = x at *
          generalize q k = z at *
          go_wp2_with fail
          go_quiet (fail)
          go_wp2_with fail
          go_ret
          exact ⟨by rw [hE.out]; rfl, below_drewN hb _⟩
      · have hlt' : ¬ (k : Int) < (n : Int) := by omega
        obtain rfl : k = n := by omega
        have hE := hide (hT2.out hx.out)
        clear hR hQ hx hT2 hF hG
        go_wp2_with fail
        go_ret
        exact ⟨by rw [hE.out]; rfl, hb⟩
  · have hE := hide (hG.out hnm)
    have hne : ((n : Int) != (m : Int)) = true := by simp; omega
    clear hT hF hG hR hQ hnm
    go_enter Tryz.func105, Tryz.ntmps105
    go_wp2_with fail
    go_ret
    exact ⟨by rw [hE.out]; rfl, Below.refl _ _⟩
theorem RowStr.less {a : Option Addr} {n m : Nat} {f : Nat → ByteArray} {w : World} (h : RowStr a n f w) (hm : m ≤ n) : RowStr a m f w := fun i hi => h i (by omega)
set_option maxRecDepth 100000 in
set_option maxHeartbeats 1600000 in
/-- Whether q (the second) is the beginning of p, or it. -/
theorem i_begins (a a' : Option Addr) (n m c c' : Nat) (p q : Nat → ByteArray) (w : World) (hn : n ≤ 1048576) (hc : n ≤ c) (hR : RowStr a n p w) (hQ : RowStr a' m q w) :
    Calls Tryz.prog 88 #[.slice a n c, .slice a' m c'] w fun e w' => e = .returned (.bool (tB (Bg m q n p))) ∧ Below w.heap.size w w' := by
  have hT : Hid (m ≤ n → tB (m = m ∧ Bg m p m q) = tB (Bg m q n p)) := fun h => tB_congr ⟨fun k => ⟨h, fun i hi => (k.2.2 i hi).symm⟩, fun k => ⟨rfl, Nat.le_refl _, fun i hi => (k.2 i hi).symm⟩⟩
  have hG : Hid (¬ m ≤ n → tB (Bg m q n p) = false) := fun h => tB_f (fun k => h k.1)
  generalize tB (Bg m q n p) = b at *
  by_cases hmn : m ≤ n
  · have hT := hT.out hmn
    have E := hide (fun c0 w R Q => i_eqP a a' m m c0 c' p q w (by omega) R Q)
    rw [hT] at E
    have hmn' : (m : Int) ≤ (n : Int) := by omega
    have hmc : (m : Int) ≤ (c : Int) := by omega
    have hR := hR.less hmn
    clear hT hG
    go_enter Tryz.func88, Tryz.ntmps88
    go_wp2_with fail
    refine (E.out _ _ hR hQ).mono ?_
    rintro e w1 ⟨rfl, b1⟩
    go_wp2_with fail
    go_ret
    exact ⟨rfl, b1⟩
  · have hE := hide (hG.out hmn)
    have hmn' : ¬ (m : Int) ≤ (n : Int) := by omega
    clear hT hG hR hQ
    go_enter Tryz.func88, Tryz.ntmps88
    go_wp2_with fail
    go_ret
    exact ⟨by rw [hE.out]; rfl, Below.refl _ _⟩
set_option maxRecDepth 100000 in
set_option maxHeartbeats 1600000 in
theorem i_order (a a' : Option Addr) (c c' : Nat) (s t : Lf) (w : World) (hn : s.n ≤ 1048576) (hR : RowStr a s.n s.p w) (hQ : RowStr a' t.n t.p w) :
    Calls Tryz.prog 87 #[.agg #[.slice a s.n c, .string s.v], .agg #[.slice a' t.n c', .string t.v]] w fun e w' => e = .returned (.int .i64 (cmpW s.n s.p t.n t.p)) ∧ Below w.heap.size w w' := by
  have C := hide (fun w R Q => i_cmpP a a' s.n t.n c c' s.p t.p w hn R Q)
  generalize cmpW s.n s.p t.n t.p = r at *
  have d0 : Below w.heap.size w ((w.alloc (.cells #[.slice a s.n c, .string s.v] 87)).alloc (.cells #[.slice a' t.n c', .string t.v] 87)) := below_box2 (Below.refl _ _)
  have hR := hR.below d0
  have hQ := hQ.below d0
  obtain ⟨sn, sp, sv⟩ := s
  obtain ⟨tn, tp, tv⟩ := t
  dsimp only at *
  go_enter Tryz.func87, Tryz.ntmps87
  go_wp2_with fail
  refine (C.out _ hR hQ).mono ?_
  rintro e w1 ⟨rfl, rfl⟩
  go_wp2_with fail
  go_ret
  exact ⟨rfl, d0⟩
end Go.Proofs.YtnficndeblkjhaaGreatDoor
