/- GoodRoutes of the program. -/
import Derived.Test.YtlhdeeihpaogkaaPlain14
import Derived.Test.YtlhdeeihpaogkaaI2
import Derived.Lib.QuietBelow
namespace Go.Proofs.Ytlhdeeihpaogkaa
open Go.RowKit

set_option maxRecDepth 100000 in
set_option maxHeartbeats 3200000 in
theorem i_goodRoutes (a : Option Addr) (n c : Nat) (T : Nat → Ro) (w : World) (hn : n ≤ 1048576) (hl : LowG n T) (hR : RowG a n T w) :
    Calls Try.prog 11 #[.slice a n c] w fun e w' => e = .returned (.bool (gtB n T)) ∧ Below w.heap.size w w' := by
  by_cases h20 : n ≤ 20
  · have h20' : ¬ ((n : Int) > 20) := by omega
    have hgt : gtB n T = rgsB n T := by simp [gtB, h20]
    rw [hgt]
    clear hgt h20
    go_enter Try.func11, Try.ntmps11
    go_wp2_with fail
    go_loopw [10] (fun y wr => ∃ k : Nat, y = .int .i64 k ∧ k ≤ n ∧ Hid (∀ i, i < k → rgB T i = true) ∧ Below w.heap.size w wr) (fun y _ => n - (intOf y).toNat)
    case atStart => exact ⟨0, rfl, Nat.zero_le _, fun i hi => absurd hi (by omega), Below.refl _ _⟩
    case round =>
      obtain ⟨k, rfl, hk, hall, hb⟩ := hrel
      by_cases hlt : k < n
      · obtain ⟨b, off, a0, c0, a1, c1, rfl, hC, ht⟩ := hR k hlt
        have hbw := hC.1
        have u0 := (hb.cell (p := ⟨b, off + k * 8, none⟩) hbw).trans (by simpa using hC.2 0 _ rfl)
        have u1 := (hb.cell (p := ⟨b, off + k * 8 + 1, none⟩) hbw).trans (hC.2 1 _ rfl)
        have u2 := (hb.cell (p := ⟨b, off + k * 8 + 2, none⟩) hbw).trans (hC.2 2 _ rfl)
        have u3 := (hb.cell (p := ⟨b, off + k * 8 + 3, none⟩) hbw).trans (hC.2 3 _ rfl)
        have u4 := (hb.cell (p := ⟨b, off + k * 8 + 4, none⟩) hbw).trans (hC.2 4 _ rfl)
        have u5 := (hb.cell (p := ⟨b, off + k * 8 + 5, none⟩) hbw).trans (hC.2 5 _ rfl)
        have u6 := (hb.cell (p := ⟨b, off + k * 8 + 6, none⟩) hbw).trans (hC.2 6 _ rfl)
        have u7 := (hb.cell (p := ⟨b, off + k * 8 + 7, none⟩) hbw).trans (hC.2 7 _ rfl)
        have hlt' : (k : Int) < (n : Int) := by omega
        obtain ⟨l1, l2⟩ := hl k hlt
        have hyes := hide (fun e => rgs_next (T := T) hall.out e)
        have hno := hide (fun e => rgs_no (n := n) (T := T) hlt e)
        have bX : Below wr.heap.size wr (wr.alloc (.cells #[.int .i64 (T k).pa, .int .i64 (T k).pl, .int .i64 (T k).o, .slice a0 (T k).n0 c0, .int .i64 (T k).nx, .int .i64 (T k).md, .int .i64 (T k).pf, .slice a1 (T k).n1 c1] 60)) := below_box (Below.refl _ _)
        have dX := hide (hb.trans (bX.mono hb.size))
        have hT := hide (And.intro (ht.1.below dX.out) (ht.2.below dX.out))
        have hof : rgB T k = (rtB (T k) && ltG T k) := rfl
        have GRc := hide (fun w (R : RowInt a0 (T k).n0 (T k).f w ∧ RowInt a1 (T k).n1 (T k).g w) => i_goodRoute (T k).pa (T k).pl (T k).o (T k).nx (T k).md (T k).pf a0 (T k).n0 c0 (T k).f a1 (T k).n1 c1 (T k).g w l1 l2 R.1 R.2)
        rw [show routeB (T k).pa (T k).pl (T k).o (T k).nx (T k).md (T k).pf (T k).n0 (T k).f (T k).n1 (T k).g = rtB (T k) from rfl] at GRc
        have hgp : Hid (∀ i, i < k → rtB (T i) = true) := fun i hi => rg_good (hall.out i hi)
        clear l1 l2 hall bX ht hl hC
        cases hp : rtB (T k) with
        | false =>
          rw [hp] at GRc
          have hN := hide (hno.out (by rw [hof, hp]; rfl))
          clear hyes hno hof hR hgp
          generalize T k = t at *
          go_wp2_with fail
          have MX := Mut.new wr #[.int .i64 t.pa, .int .i64 t.pl, .int .i64 t.o, .slice a0 t.n0 c0, .int .i64 t.nx, .int .i64 t.md, .int .i64 t.pf, .slice a1 t.n1 c1] 60
          generalize wr.alloc (.cells #[.int .i64 t.pa, .int .i64 t.pl, .int .i64 t.o, .slice a0 t.n0 c0, .int .i64 t.nx, .int .i64 t.md, .int .i64 t.pf, .slice a1 t.n1 c1] 60) = wx at *
          have k0 := cell_regrown (MX.2.1 0 _ rfl)
          have k1 := cell_regrown (MX.2.1 1 _ rfl)
          have k2 := cell_regrown (MX.2.1 2 _ rfl)
          have k3 := cell_regrown (MX.2.1 3 _ rfl)
          have k4 := cell_regrown (MX.2.1 4 _ rfl)
          have k5 := cell_regrown (MX.2.1 5 _ rfl)
          have k6 := cell_regrown (MX.2.1 6 _ rfl)
          have k7 := cell_regrown (MX.2.1 7 _ rfl)
          refine wp_region_quiet_below (by kernel_rfl) (by kernel_rfl) ?_
          repeat (first | go_big_quiet_step ((go_at_call 35; exact Calls.regrown_of (GRc.out _ ⟨hT.out.1.below (below_regrown _ _ _), hT.out.2.below (below_regrown _ _ _)⟩))) | quiet_step ((go_at_call 35; exact Calls.regrown_of (GRc.out _ ⟨hT.out.1.below (below_regrown _ _ _), hT.out.2.below (below_regrown _ _ _)⟩))))
          refine wpQuiet_nil ?_
          intro _ hw'
          obtain ⟨⟨dq, osq⟩, hw''⟩ := hw'
          subst hw''
          have hq := below_regrown wx dq osq
          generalize Go.Sort.grow (redrawn wx dq) osq = wq at hq ⊢
          have hbq := dX.out.trans (hq.mono dX.out.size)
          clear hq k0 k1 k2 k3 k4 k5 k6 k7 MX hT
          go_wp2_with fail
          go_ret
          exact ⟨by rw [hN.out]; rfl, hbq⟩
        | true =>
          rw [hp] at GRc
          rw [hp] at hof
          simp only [Bool.true_and] at hof
          by_cases hk0 : k = 0
          · subst hk0
            have hN := hide (hyes.out (by rw [hof]; exact ltG_zero T))
            simp only [Nat.zero_mul, Nat.add_zero] at u0 u1 u2 u3 u4 u5 u6 u7
            clear hyes hno hof hR hgp hp
            generalize T 0 = t at *
            go_wp2_with fail
            have MX := Mut.new wr #[.int .i64 t.pa, .int .i64 t.pl, .int .i64 t.o, .slice a0 t.n0 c0, .int .i64 t.nx, .int .i64 t.md, .int .i64 t.pf, .slice a1 t.n1 c1] 60
            generalize wr.alloc (.cells #[.int .i64 t.pa, .int .i64 t.pl, .int .i64 t.o, .slice a0 t.n0 c0, .int .i64 t.nx, .int .i64 t.md, .int .i64 t.pf, .slice a1 t.n1 c1] 60) = wx at *
            have k0 := cell_regrown (MX.2.1 0 _ rfl)
            have k1 := cell_regrown (MX.2.1 1 _ rfl)
            have k2 := cell_regrown (MX.2.1 2 _ rfl)
            have k3 := cell_regrown (MX.2.1 3 _ rfl)
            have k4 := cell_regrown (MX.2.1 4 _ rfl)
            have k5 := cell_regrown (MX.2.1 5 _ rfl)
            have k6 := cell_regrown (MX.2.1 6 _ rfl)
            have k7 := cell_regrown (MX.2.1 7 _ rfl)
            refine wp_region_quiet_below (by kernel_rfl) (by kernel_rfl) ?_
            repeat (first | go_big_quiet_step ((go_at_call 35; exact Calls.regrown_of (GRc.out _ ⟨hT.out.1.below (below_regrown _ _ _), hT.out.2.below (below_regrown _ _ _)⟩))) | quiet_step ((go_at_call 35; exact Calls.regrown_of (GRc.out _ ⟨hT.out.1.below (below_regrown _ _ _), hT.out.2.below (below_regrown _ _ _)⟩))))
            refine wpQuiet_nil ?_
            intro _ hw'
            obtain ⟨⟨dq, osq⟩, hw''⟩ := hw'
            subst hw''
            have hq := below_regrown wx dq osq
            generalize Go.Sort.grow (redrawn wx dq) osq = wq at hq ⊢
            have hbq := dX.out.trans (hq.mono dX.out.size)
            clear hq k0 k1 k2 k3 k4 k5 k6 k7 MX hT
            go_wp2_with fail
            exact ⟨⟨1, by go_num, by omega, hN.out, hbq⟩, by simp [intOf]; omega⟩
          · obtain ⟨m, rfl⟩ : ∃ m, k = m + 1 := ⟨k - 1, by omega⟩
            obtain ⟨b', off', _, _, _, _, hbo, hC', _⟩ := hR m (by omega)
            simp only [Option.some.injEq, Addr.mk.injEq, and_true] at hbo
            obtain ⟨rfl, rfl⟩ := hbo
            have q0 := cell_regrown ((dX.out.cell (p := ⟨b, off + m * 8, none⟩) hbw).trans (by simpa using hC'.2 0 _ rfl))
            have q1 := cell_regrown ((dX.out.cell (p := ⟨b, off + m * 8 + 1, none⟩) hbw).trans (hC'.2 1 _ rfl))
            have hm1 : ((m + 1 : Nat) : Int) - 1 = (m : Int) := by omega
            have hm2 : (m : Int) < (n : Int) := by omega
            have hm3 : ((m + 1 : Nat) : Int) > 0 := by omega
            have CPc := hide (fun w => i_before (T m).pa (T m).pl (T (m + 1)).pa (T (m + 1)).pl w (rt_pre (hgp.out m (by omega))) (rt_pre hp))
            rw [ltG_succ] at hof
            cases hr : decide (cmpP (T m).pa (T m).pl (T (m + 1)).pa (T (m + 1)).pl < 0) with
            | true =>
              rw [hr] at CPc
              have hN := hide (hyes.out (hof.trans hr))
              clear hyes hno hof hR hk0 hr hp hC' hgp
              generalize (T m).pa = am at *
              generalize (T m).pl = lm at *
              generalize T (m + 1) = t at *
              go_wp2_with fail
              have MX := Mut.new wr #[.int .i64 t.pa, .int .i64 t.pl, .int .i64 t.o, .slice a0 t.n0 c0, .int .i64 t.nx, .int .i64 t.md, .int .i64 t.pf, .slice a1 t.n1 c1] 60
              generalize wr.alloc (.cells #[.int .i64 t.pa, .int .i64 t.pl, .int .i64 t.o, .slice a0 t.n0 c0, .int .i64 t.nx, .int .i64 t.md, .int .i64 t.pf, .slice a1 t.n1 c1] 60) = wx at *
              have k0 := cell_regrown (MX.2.1 0 _ rfl)
              have k1 := cell_regrown (MX.2.1 1 _ rfl)
              have k2 := cell_regrown (MX.2.1 2 _ rfl)
              have k3 := cell_regrown (MX.2.1 3 _ rfl)
              have k4 := cell_regrown (MX.2.1 4 _ rfl)
              have k5 := cell_regrown (MX.2.1 5 _ rfl)
              have k6 := cell_regrown (MX.2.1 6 _ rfl)
              have k7 := cell_regrown (MX.2.1 7 _ rfl)
              refine wp_region_quiet_below (by kernel_rfl) (by kernel_rfl) ?_
              repeat (first | go_big_quiet_step ((first | (go_at_call 35; exact Calls.regrown_of (GRc.out _ ⟨hT.out.1.below (below_regrown _ _ _), hT.out.2.below (below_regrown _ _ _)⟩)) | (go_at_call 36; exact Calls.regrown_of (CPc.out _)))) | quiet_step ((first | (go_at_call 35; exact Calls.regrown_of (GRc.out _ ⟨hT.out.1.below (below_regrown _ _ _), hT.out.2.below (below_regrown _ _ _)⟩)) | (go_at_call 36; exact Calls.regrown_of (CPc.out _)))))
              refine wpQuiet_nil ?_
              intro _ hw'
              obtain ⟨⟨dq, osq⟩, hw''⟩ := hw'
              subst hw''
              have hq := below_regrown wx dq osq
              generalize Go.Sort.grow (redrawn wx dq) osq = wq at hq ⊢
              have hbq := dX.out.trans (hq.mono dX.out.size)
              clear hq k0 k1 k2 k3 k4 k5 k6 k7 MX hT
              go_wp2_with fail
              exact ⟨⟨m + 1 + 1, by go_num, by omega, hN.out, hbq⟩, by simp [intOf]; omega⟩
            | false =>
              rw [hr] at CPc
              have hN := hide (hno.out (hof.trans hr))
              clear hyes hno hof hR hk0 hr hp hC' hgp
              generalize (T m).pa = am at *
              generalize (T m).pl = lm at *
              generalize T (m + 1) = t at *
              go_wp2_with fail
              have MX := Mut.new wr #[.int .i64 t.pa, .int .i64 t.pl, .int .i64 t.o, .slice a0 t.n0 c0, .int .i64 t.nx, .int .i64 t.md, .int .i64 t.pf, .slice a1 t.n1 c1] 60
              generalize wr.alloc (.cells #[.int .i64 t.pa, .int .i64 t.pl, .int .i64 t.o, .slice a0 t.n0 c0, .int .i64 t.nx, .int .i64 t.md, .int .i64 t.pf, .slice a1 t.n1 c1] 60) = wx at *
              have k0 := cell_regrown (MX.2.1 0 _ rfl)
              have k1 := cell_regrown (MX.2.1 1 _ rfl)
              have k2 := cell_regrown (MX.2.1 2 _ rfl)
              have k3 := cell_regrown (MX.2.1 3 _ rfl)
              have k4 := cell_regrown (MX.2.1 4 _ rfl)
              have k5 := cell_regrown (MX.2.1 5 _ rfl)
              have k6 := cell_regrown (MX.2.1 6 _ rfl)
              have k7 := cell_regrown (MX.2.1 7 _ rfl)
              refine wp_region_quiet_below (by kernel_rfl) (by kernel_rfl) ?_
              repeat (first | go_big_quiet_step ((first | (go_at_call 35; exact Calls.regrown_of (GRc.out _ ⟨hT.out.1.below (below_regrown _ _ _), hT.out.2.below (below_regrown _ _ _)⟩)) | (go_at_call 36; exact Calls.regrown_of (CPc.out _)))) | quiet_step ((first | (go_at_call 35; exact Calls.regrown_of (GRc.out _ ⟨hT.out.1.below (below_regrown _ _ _), hT.out.2.below (below_regrown _ _ _)⟩)) | (go_at_call 36; exact Calls.regrown_of (CPc.out _)))))
              refine wpQuiet_nil ?_
              intro _ hw'
              obtain ⟨⟨dq, osq⟩, hw''⟩ := hw'
              subst hw''
              have hq := below_regrown wx dq osq
              generalize Go.Sort.grow (redrawn wx dq) osq = wq at hq ⊢
              have hbq := dX.out.trans (hq.mono dX.out.size)
              clear hq k0 k1 k2 k3 k4 k5 k6 k7 MX hT
              go_wp2_with fail
              go_ret
              exact ⟨by rw [hN.out]; rfl, hbq⟩
      · have hlt' : ¬ (k : Int) < (n : Int) := by omega
        obtain rfl : k = n := by omega
        have hE : Hid (rgsB k T = true) := rgs_all hall.out
        clear hall hR hl
        go_wp2_with fail
        go_ret
        exact ⟨by rw [hE.out]; rfl, hb⟩
  · have h20' : (n : Int) > 20 := by omega
    have hE : Hid (gtB n T = false) := gt_over h20
    clear hl hR h20
    go_enter Try.func11, Try.ntmps11
    go_wp2_with fail
    go_ret
    exact ⟨by rw [hE.out]; rfl, Below.refl _ _⟩
end Go.Proofs.Ytlhdeeihpaogkaa
