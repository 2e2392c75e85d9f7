/- SameRoutes of the program. -/
import Derived.Test.YtlhdeeihpaogkaaSA14
import Derived.Test.YtlhdeeihpaogkaaI14g
import Derived.Lib.QuietBelow
namespace Go.Proofs.Ytlhdeeihpaogkaa
open Go.RowKit

set_option maxRecDepth 100000 in
set_option maxHeartbeats 3200000 in
theorem i_equalRoutes (a : Option Addr) (n c : Nat) (T : Nat → Ro) (a' : Option Addr) (n' c' : Nat) (T' : Nat → Ro) (w : World) (hn : n ≤ 1048576) (hl : LowG n T) (hn' : n' ≤ 1048576) (hl' : LowG n' T') (hR : RowG a n T w) (hR' : RowG a' n' T' w) :
    Calls Try.prog 39 #[.slice a n c, .slice a' n' c', .func (.func 40) #[] #[]] w fun e w' => e = .returned (.bool (pB (TsP n T n' T'))) ∧ Below w.heap.size w w' := by
  by_cases hnn : n = n'
  · subst hnn
    have hne : ((n : Int) != (n : Int)) = false := by simp
    have hno : Hid (∀ i, i < n → ¬ SrP (T i) (T' i) → pB (TsP n T n T') = false) := fun i hi h => ts_no hi h
    have hyes : Hid ((∀ i, i < n → SrP (T i) (T' i)) → pB (TsP n T n T') = true) := ts_yes
    generalize pB (TsP n T n T') = r at *
    go_enter Try.func39, Try.ntmps39
    go_wp2_with fail
    go_loopw [17] (fun i wr => ∃ k : Nat, k ≤ n ∧ i = .int .i64 k ∧ Hid (∀ j, j < k → SrP (T j) (T' j)) ∧ Below w.heap.size w wr) (fun i _ => n - (intOf i).toNat)
    case atStart => exact ⟨0, Nat.zero_le _, rfl, fun j hj => absurd hj (by omega), Below.refl _ _⟩
    case round =>
      obtain ⟨k, hk, rfl, hall, hb⟩ := hrel
      by_cases hlt : k < n
      · obtain ⟨b, off, a0, c0, a1, c1, rfl, hC, ht⟩ := hR k hlt
        obtain ⟨b', off', b0, e0, b1, e1, rfl, hC', hu⟩ := hR' k hlt
        have hbw := hC.1
        have hbw' := hC'.1
        have u0 := (hb.cell (p := ⟨b, off + k * 8, none⟩) hbw).trans (by simpa using hC.2 0 _ rfl)
        have u1 := (hb.cell (p := ⟨b, off + k * 8 + 1, none⟩) hbw).trans (hC.2 1 _ rfl)
        have u2 := (hb.cell (p := ⟨b, off + k * 8 + 2, none⟩) hbw).trans (hC.2 2 _ rfl)
        have u3 := (hb.cell (p := ⟨b, off + k * 8 + 3, none⟩) hbw).trans (hC.2 3 _ rfl)
        have u4 := (hb.cell (p := ⟨b, off + k * 8 + 4, none⟩) hbw).trans (hC.2 4 _ rfl)
        have u5 := (hb.cell (p := ⟨b, off + k * 8 + 5, none⟩) hbw).trans (hC.2 5 _ rfl)
        have u6 := (hb.cell (p := ⟨b, off + k * 8 + 6, none⟩) hbw).trans (hC.2 6 _ rfl)
        have u7 := (hb.cell (p := ⟨b, off + k * 8 + 7, none⟩) hbw).trans (hC.2 7 _ rfl)
        have bY : Below w.heap.size w (wr.alloc (.cells #[.int .i64 (T k).pa, .int .i64 (T k).pl, .int .i64 (T k).o, .slice a0 (T k).n0 c0, .int .i64 (T k).nx, .int .i64 (T k).md, .int .i64 (T k).pf, .slice a1 (T k).n1 c1] 60)) := hb.trans ((below_box (Below.refl _ _)).mono hb.size)
        have v0 := (bY.cell (p := ⟨b', off' + k * 8, none⟩) hbw').trans (by simpa using hC'.2 0 _ rfl)
        have v1 := (bY.cell (p := ⟨b', off' + k * 8 + 1, none⟩) hbw').trans (hC'.2 1 _ rfl)
        have v2 := (bY.cell (p := ⟨b', off' + k * 8 + 2, none⟩) hbw').trans (hC'.2 2 _ rfl)
        have v3 := (bY.cell (p := ⟨b', off' + k * 8 + 3, none⟩) hbw').trans (hC'.2 3 _ rfl)
        have v4 := (bY.cell (p := ⟨b', off' + k * 8 + 4, none⟩) hbw').trans (hC'.2 4 _ rfl)
        have v5 := (bY.cell (p := ⟨b', off' + k * 8 + 5, none⟩) hbw').trans (hC'.2 5 _ rfl)
        have v6 := (bY.cell (p := ⟨b', off' + k * 8 + 6, none⟩) hbw').trans (hC'.2 6 _ rfl)
        have v7 := (bY.cell (p := ⟨b', off' + k * 8 + 7, none⟩) hbw').trans (hC'.2 7 _ rfl)
        clear bY
        have hlt' : (k : Int) < (n : Int) := by omega
        have lo := hl k hlt
        have lo' := hl' k hlt
        have SC := hide (fun w R Q => i_sameRoute (T k) (T' k) a0 b0 a1 b1 c0 e0 c1 e1 w lo lo' R Q)
        have hnk := hide (hno.out k hlt)
        have bX : Below wr.heap.size wr ((wr.alloc (.cells #[.int .i64 (T k).pa, .int .i64 (T k).pl, .int .i64 (T k).o, .slice a0 (T k).n0 c0, .int .i64 (T k).nx, .int .i64 (T k).md, .int .i64 (T k).pf, .slice a1 (T k).n1 c1] 60)).alloc (.cells #[.int .i64 (T' k).pa, .int .i64 (T' k).pl, .int .i64 (T' k).o, .slice b0 (T' k).n0 e0, .int .i64 (T' k).nx, .int .i64 (T' k).md, .int .i64 (T' k).pf, .slice b1 (T' k).n1 e1] 60)) := below_box2 (Below.refl _ _)
        have dX := hide (hb.trans (bX.mono hb.size))
        have hT := hide (And.intro (ht.1.below dX.out) (ht.2.below dX.out))
        have hU := hide (And.intro (hu.1.below dX.out) (hu.2.below dX.out))
        clear lo lo' ht hu hC hC' bX hR hR' hl hl' hno
        have hz : Hid (pB (SrP (T k) (T' k)) = true → SrP (T k) (T' k)) := pB_iff.1
        have hz2 : Hid (pB (SrP (T k) (T' k)) = false → ¬ SrP (T k) (T' k)) := fun h k => by rw [pB_t k] at h; exact Bool.noConfusion h
        cases hs : pB (SrP (T k) (T' k)) with
        | false =>
          rw [hs] at SC
          have hN := hide (hnk.out (hz2.out hs))
          clear hz hz2 hs hnk hall hyes
          generalize T k = t at *
          generalize T' k = u at *
          go_wp2_with fail
          refine (SC.out _ hT.out hU.out).mono ?_
          rintro e w2 ⟨rfl, b2⟩
          have hbq := dX.out.trans (b2.mono dX.out.size)
          clear b2 dX
          go_wp2_with fail
          go_ret
          exact ⟨by rw [hN.out]; rfl, hbq⟩
        | true =>
          rw [hs] at SC
          have hN : Hid (∀ j, j < k + 1 → SrP (T j) (T' j)) := fun j hj => by
            by_cases e : j = k
            · rw [e]; exact hz.out hs
            · exact hall.out j (by omega)
          clear hz hz2 hs hnk hall hyes
          generalize T k = t at *
          generalize T' k = u at *
          go_wp2_with fail
          refine (SC.out _ hT.out hU.out).mono ?_
          rintro e w2 ⟨rfl, b2⟩
          have hbq := dX.out.trans (b2.mono dX.out.size)
          clear b2 dX
          go_wp2_with fail
          exact ⟨⟨k + 1, by omega, by go_num, hN.out, hbq⟩, by simp [intOf]; omega⟩
      · have hlt' : ¬ (k : Int) < (n : Int) := by omega
        obtain rfl : k = n := by omega
        have hE := hide (hyes.out hall.out)
        clear hall hyes hno hR hR' hl hl'
        go_wp2_with fail
        go_ret
        exact ⟨by rw [hE.out]; rfl, hb⟩
  · have hne : ((n : Int) != (n' : Int)) = true := by simp; omega
    rw [ts_len hnn]
    clear hl hl' hR hR' hnn
    go_enter Try.func39, Try.ntmps39
    go_wp2_with fail
    go_ret
    exact ⟨rfl, Below.refl _ _⟩
set_option maxRecDepth 100000 in
set_option maxHeartbeats 3200000 in
theorem i_sameRoutes (a : Option Addr) (n c : Nat) (T : Nat → Ro) (a' : Option Addr) (n' c' : Nat) (T' : Nat → Ro) (w : World) (hn : n ≤ 1048576) (hl : LowG n T) (hn' : n' ≤ 1048576) (hl' : LowG n' T') (hR : RowG a n T w) (hR' : RowG a' n' T' w) :
    Calls Try.prog 14 #[.slice a n c, .slice a' n' c'] w fun e w' => e = .returned (.tuple #[.bool (sroB n T n' T'), .bool (soB n T n' T')]) ∧ Below w.heap.size w w' := by
  have G1 := hide (fun w R => i_goodRoutes a n c T w hn hl R)
  have G2 := hide (fun w R => i_goodRoutes a' n' c' T' w hn' hl' R)
  have EQ := hide (fun w R R' => i_equalRoutes a n c T a' n' c' T' w hn hl hn' hl' R R')
  cases g1 : gtB n T with
  | false =>
    rw [g1] at G1
    obtain ⟨x0, x1⟩ := so_no1 (n' := n') (T' := T') g1
    rw [x0, x1]
    clear g1 x0 x1 hl hl'
    go_enter Try.func14, Try.ntmps14
    go_wp2_with fail
    refine (G1.out _ hR).mono ?_
    rintro e w1 ⟨rfl, d1⟩
    go_wp2_with fail
    exact bodyPost_ret (v := .tuple #[.bool false, .bool false]) (by simp [results, Try.results14, go_sem]) rfl ⟨rfl, d1⟩
  | true =>
    rw [g1] at G1
    cases g2 : gtB n' T' with
    | false =>
      rw [g2] at G2
      obtain ⟨x0, x1⟩ := so_no2 (n := n) (T := T) g2
      rw [x0, x1]
      clear g1 g2 x0 x1 hl hl'
      go_enter Try.func14, Try.ntmps14
      go_wp2_with fail
      refine (G1.out _ hR).mono ?_
      rintro e w1 ⟨rfl, d1⟩
      go_wp2_with fail
      refine (G2.out _ (hR'.below d1)).mono ?_
      rintro e w2 ⟨rfl, b2⟩
      replace d1 := d1.trans (b2.mono d1.size)
      clear b2
      go_wp2_with fail
      exact bodyPost_ret (v := .tuple #[.bool false, .bool false]) (by simp [results, Try.results14, go_sem]) rfl ⟨rfl, d1⟩
    | true =>
      rw [g2] at G2
      obtain ⟨x0, x1⟩ := so_yes g1 g2
      rw [x0, x1]
      clear g1 g2 x0 x1
      go_enter Try.func14, Try.ntmps14
      go_wp2_with fail
      refine (G1.out _ hR).mono ?_
      rintro e w1 ⟨rfl, d1⟩
      go_wp2_with fail
      refine (G2.out _ (hR'.below d1)).mono ?_
      rintro e w2 ⟨rfl, b2⟩
      replace d1 := d1.trans (b2.mono d1.size)
      clear b2
      go_wp2_with fail
      refine (EQ.out _ (hR.below d1) (hR'.below d1)).mono ?_
      rintro e w3 ⟨rfl, b3⟩
      go_wp2_with fail
      exact bodyPost_ret (v := .tuple #[.bool (pB (TsP n T n' T')), .bool true]) (by simp [results, Try.results14, go_sem]) rfl ⟨rfl, d1.trans (b3.mono d1.size)⟩
end Go.Proofs.Ytlhdeeihpaogkaa
