/- SameRoutes of the specification. -/
import Derived.Test.YtlhdeeihpaogkaaSA14
import Derived.Test.YtlhdeeihpaogkaaS14g
import Derived.Lib.QuietBelow
namespace Go.Proofs.Ytlhdeeihpaogkaa
open Go.RowKit

set_option maxRecDepth 100000 in
set_option maxHeartbeats 3200000 in
theorem s_sameRoutes (a : Option Addr) (n c : Nat) (T : Nat → Ro) (a' : Option Addr) (n' c' : Nat) (T' : Nat → Ro) (w : World) (hn : n ≤ 1048576) (hl : LowG n T) (hn' : n' ≤ 1048576) (hl' : LowG n' T') (hR : RowG a n T w) (hR' : RowG a' n' T' w) :
    Calls Try.prog 13 #[.slice a n c, .slice a' n' c'] w fun e w' => e = .returned (.tuple #[.bool (sroB n T n' T'), .bool (soB n T n' T')]) ∧ Below w.heap.size w w' := by
  have G1 := hide (fun w R => s_goodRoutes a n c T w hn hl R)
  have G2 := hide (fun w R => s_goodRoutes a' n' c' T' w hn' hl' R)
  cases g1 : gtB n T with
  | false =>
    rw [g1] at G1
    obtain ⟨x0, x1⟩ := so_no1 (n' := n') (T' := T') g1
    rw [x0, x1]
    clear g1 x0 x1 hl hl'
    go_enter Try.func13, Try.ntmps13
    go_wp2_with fail
    refine (G1.out _ hR).mono ?_
    rintro e w1 ⟨rfl, d1⟩
    go_wp2_with fail
    exact bodyPost_ret (v := .tuple #[.bool false, .bool false]) (by simp [results, Try.results13, go_sem]) rfl ⟨rfl, d1⟩
  | true =>
    rw [g1] at G1
    cases g2 : gtB n' T' with
    | false =>
      rw [g2] at G2
      obtain ⟨x0, x1⟩ := so_no2 (n := n) (T := T) g2
      rw [x0, x1]
      clear g1 g2 x0 x1 hl hl'
      go_enter Try.func13, Try.ntmps13
      go_wp2_with fail
      refine (G1.out _ hR).mono ?_
      rintro e w1 ⟨rfl, d1⟩
      go_wp2_with fail
      refine (G2.out _ (hR'.below d1)).mono ?_
      rintro e w2 ⟨rfl, b2⟩
      replace d1 := d1.trans (b2.mono d1.size)
      clear b2
      go_wp2_with fail
      exact bodyPost_ret (v := .tuple #[.bool false, .bool false]) (by simp [results, Try.results13, go_sem]) rfl ⟨rfl, d1⟩
    | true =>
      rw [g2] at G2
      obtain ⟨x0, x1⟩ := so_yes g1 g2
      rw [x0, x1]
      clear g1 g2 x0 x1
      by_cases hnn : n = n'
      · subst hnn
        have hne : ((n : Int) != (n : Int)) = false := by simp
        have hno : Hid (∀ i, i < n → ¬ SrP (T i) (T' i) → pB (TsP n T n T') = false) := fun i hi h => ts_no hi h
        have hyes : Hid ((∀ i, i < n → SrP (T i) (T' i)) → pB (TsP n T n T') = true) := ts_yes
        generalize pB (TsP n T n T') = r at *
        go_enter Try.func13, Try.ntmps13
        go_wp2_with fail
        refine (G1.out _ hR).mono ?_
        rintro e w1 ⟨rfl, d1⟩
        go_wp2_with fail
        refine (G2.out _ (hR'.below d1)).mono ?_
        rintro e w2 ⟨rfl, b2⟩
        replace d1 := d1.trans (b2.mono d1.size)
        clear b2
        go_wp2_with fail
        clear G1 G2
        go_loopw [22] (fun i wr => ∃ k : Nat, k ≤ n ∧ i = .int .i64 k ∧ Hid (∀ j, j < k → SrP (T j) (T' j)) ∧ Below w.heap.size w wr) (fun i _ => n - (intOf i).toNat)
        case atStart => exact ⟨0, Nat.zero_le _, rfl, fun j hj => absurd hj (by omega), d1⟩
        case round =>
          obtain ⟨k, hk, rfl, hall, hb⟩ := hrel
          by_cases hlt : k < n
          · obtain ⟨b, off, a0, c0, a1, c1, rfl, hC, ht⟩ := hR k hlt
            obtain ⟨b', off', b0, e0, b1, e1, rfl, hC', hu⟩ := hR' k hlt
            have hbw := hC.1
            have hbw' := hC'.1
            have u0 := (hb.cell (p := ⟨b, off + k * 8, none⟩) hbw).trans (by simpa using hC.2 0 _ rfl)
            have u1 := (hb.cell (p := ⟨b, off + k * 8 + 1, none⟩) hbw).trans (hC.2 1 _ rfl)
            have u2 := (hb.cell (p := ⟨b, off + k * 8 + 2, none⟩) hbw).trans (hC.2 2 _ rfl)
            have u3 := (hb.cell (p := ⟨b, off + k * 8 + 3, none⟩) hbw).trans (hC.2 3 _ rfl)
            have u4 := (hb.cell (p := ⟨b, off + k * 8 + 4, none⟩) hbw).trans (hC.2 4 _ rfl)
            have u5 := (hb.cell (p := ⟨b, off + k * 8 + 5, none⟩) hbw).trans (hC.2 5 _ rfl)
            have u6 := (hb.cell (p := ⟨b, off + k * 8 + 6, none⟩) hbw).trans (hC.2 6 _ rfl)
            have u7 := (hb.cell (p := ⟨b, off + k * 8 + 7, none⟩) hbw).trans (hC.2 7 _ rfl)
            have v0 := (hb.cell (p := ⟨b', off' + k * 8, none⟩) hbw').trans (by simpa using hC'.2 0 _ rfl)
            have v1 := (hb.cell (p := ⟨b', off' + k * 8 + 1, none⟩) hbw').trans (hC'.2 1 _ rfl)
            have v2 := (hb.cell (p := ⟨b', off' + k * 8 + 2, none⟩) hbw').trans (hC'.2 2 _ rfl)
            have v3 := (hb.cell (p := ⟨b', off' + k * 8 + 3, none⟩) hbw').trans (hC'.2 3 _ rfl)
            have v4 := (hb.cell (p := ⟨b', off' + k * 8 + 4, none⟩) hbw').trans (hC'.2 4 _ rfl)
            have v5 := (hb.cell (p := ⟨b', off' + k * 8 + 5, none⟩) hbw').trans (hC'.2 5 _ rfl)
            have v6 := (hb.cell (p := ⟨b', off' + k * 8 + 6, none⟩) hbw').trans (hC'.2 6 _ rfl)
            have v7 := (hb.cell (p := ⟨b', off' + k * 8 + 7, none⟩) hbw').trans (hC'.2 7 _ rfl)
            have hlt' : (k : Int) < (n : Int) := by omega
            have lo := hl k hlt
            have lo' := hl' k hlt
            have SC := hide (fun w R Q => s_sameRoute (T k) (T' k) a0 b0 a1 b1 c0 e0 c1 e1 w lo lo' R Q)
            have hnk := hide (hno.out k hlt)
            have hT := hide (And.intro (ht.1.below hb) (ht.2.below hb))
            have hU := hide (And.intro (hu.1.below hb) (hu.2.below hb))
            clear lo lo' ht hu hC hC' hR hR' hl hl' hno
            replace u0 := cell_regrown u0
            replace v0 := cell_regrown v0
            replace u1 := cell_regrown u1
            replace v1 := cell_regrown v1
            replace u2 := cell_regrown u2
            replace v2 := cell_regrown v2
            replace u3 := cell_regrown u3
            replace v3 := cell_regrown v3
            replace u4 := cell_regrown u4
            replace v4 := cell_regrown v4
            replace u5 := cell_regrown u5
            replace v5 := cell_regrown v5
            replace u6 := cell_regrown u6
            replace v6 := cell_regrown v6
            replace u7 := cell_regrown u7
            replace v7 := cell_regrown v7
            have hz : Hid (pB (SrP (T k) (T' k)) = true → SrP (T k) (T' k)) := pB_iff.1
            have hz2 : Hid (pB (SrP (T k) (T' k)) = false → ¬ SrP (T k) (T' k)) := fun h k => by rw [pB_t k] at h; exact Bool.noConfusion h
            cases hs : pB (SrP (T k) (T' k)) with
            | false =>
              rw [hs] at SC
              have hN := hide (hnk.out (hz2.out hs))
              clear hz hz2 hs hnk hall hyes
              generalize T k = t at *
              generalize T' k = u at *
              go_wp2_with fail
              refine wp_region_quiet_below (by kernel_rfl) (by kernel_rfl) ?_
              repeat (first | go_big_quiet_step ((go_at_call 38; exact Calls.regrown_of (SC.out _ ⟨hT.out.1.below (below_regrown _ _ _), hT.out.2.below (below_regrown _ _ _)⟩ ⟨hU.out.1.below (below_regrown _ _ _), hU.out.2.below (below_regrown _ _ _)⟩))) | quiet_step ((go_at_call 38; exact Calls.regrown_of (SC.out _ ⟨hT.out.1.below (below_regrown _ _ _), hT.out.2.below (below_regrown _ _ _)⟩ ⟨hU.out.1.below (below_regrown _ _ _), hU.out.2.below (below_regrown _ _ _)⟩))))
              refine wpQuiet_nil ?_
              intro _ hw'
              obtain ⟨⟨dq, osq⟩, hw''⟩ := hw'
              subst hw''
              have hq := below_regrown wr dq osq
              generalize Go.Sort.grow (redrawn wr dq) osq = wq at hq ⊢
              have hbq := hb.trans (hq.mono hb.size)
              clear hq u0 v0 u1 v1 u2 v2 u3 v3 u4 v4 u5 v5 u6 v6 u7 v7
              go_wp2_with fail
              exact bodyPost_ret (v := .tuple #[.bool false, .bool true]) (by simp [results, Try.results13, go_sem]) rfl ⟨by rw [hN.out], hbq⟩
            | true =>
              rw [hs] at SC
              have hN : Hid (∀ j, j < k + 1 → SrP (T j) (T' j)) := fun j hj => by
                by_cases e : j = k
                · rw [e]; exact hz.out hs
                · exact hall.out j (by omega)
              clear hz hz2 hs hnk hall hyes
              generalize T k = t at *
              generalize T' k = u at *
              go_wp2_with fail
              refine wp_region_quiet_below (by kernel_rfl) (by kernel_rfl) ?_
              repeat (first | go_big_quiet_step ((go_at_call 38; exact Calls.regrown_of (SC.out _ ⟨hT.out.1.below (below_regrown _ _ _), hT.out.2.below (below_regrown _ _ _)⟩ ⟨hU.out.1.below (below_regrown _ _ _), hU.out.2.below (below_regrown _ _ _)⟩))) | quiet_step ((go_at_call 38; exact Calls.regrown_of (SC.out _ ⟨hT.out.1.below (below_regrown _ _ _), hT.out.2.below (below_regrown _ _ _)⟩ ⟨hU.out.1.below (below_regrown _ _ _), hU.out.2.below (below_regrown _ _ _)⟩))))
              refine wpQuiet_nil ?_
              intro _ hw'
              obtain ⟨⟨dq, osq⟩, hw''⟩ := hw'
              subst hw''
              have hq := below_regrown wr dq osq
              generalize Go.Sort.grow (redrawn wr dq) osq = wq at hq ⊢
              have hbq := hb.trans (hq.mono hb.size)
              clear hq u0 v0 u1 v1 u2 v2 u3 v3 u4 v4 u5 v5 u6 v6 u7 v7
              go_wp2_with fail
              exact ⟨⟨k + 1, by omega, by go_num, hN.out, hbq⟩, by simp [intOf]; omega⟩
          · have hlt' : ¬ (k : Int) < (n : Int) := by omega
            obtain rfl : k = n := by omega
            have hE := hide (hyes.out hall.out)
            clear hall hyes hno hR hR' hl hl'
            go_wp2_with fail
            exact bodyPost_ret (v := .tuple #[.bool true, .bool true]) (by simp [results, Try.results13, go_sem]) rfl ⟨by rw [hE.out], hb⟩
      · have hne : ((n : Int) != (n' : Int)) = true := by simp; omega
        rw [ts_len hnn]
        clear hl hl' hnn
        go_enter Try.func13, Try.ntmps13
        go_wp2_with fail
        refine (G1.out _ hR).mono ?_
        rintro e w1 ⟨rfl, d1⟩
        go_wp2_with fail
        refine (G2.out _ (hR'.below d1)).mono ?_
        rintro e w2 ⟨rfl, b2⟩
        replace d1 := d1.trans (b2.mono d1.size)
        clear b2
        go_wp2_with fail
        exact bodyPost_ret (v := .tuple #[.bool false, .bool true]) (by simp [results, Try.results13, go_sem]) rfl ⟨rfl, d1⟩
end Go.Proofs.Ytlhdeeihpaogkaa
