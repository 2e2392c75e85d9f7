/- GoodRib of the specification. -/
import Derived.Test.YtjjdfniemlcnnaaAll7
import Derived.Test.YtjjdfniemlcnnaaSI8
import Derived.Lib.QuietBelow
namespace Go.Proofs.Ytjjdfniemlcnnaa
open Go.RowKit

set_option maxRecDepth 100000 in
set_option maxHeartbeats 3200000 in
theorem s_goodRib (ow : Int) (a : Option Addr) (n c : Nat) (U : Nat → Rc) (w : World) (hn : n ≤ 1048576) (hl : LowR n U) (hR : RowR a n U w) :
    Calls Try.prog 13 #[.agg #[.int .i64 ow, .slice a n c]] w fun e w' => e = .returned (.bool (rbB ow n U)) ∧ Below w.heap.size w w' := by
  have A := hide (fun w => s_in ow 1 65535 w)
  have hB0 : Below w.heap.size w (w.alloc (.cells #[.int .i64 ow, .slice a n c] 24)) := below_box (Below.refl _ _)
  have MB := Mut.new w #[.int .i64 ow, .slice a n c] 24
  go_enter Try.func13, Try.ntmps13
  go_wp2_with fail
  have hbs : w.heap.size < (w.alloc (.cells #[.int .i64 ow, .slice a n c] 24)).heap.size := by simp
  generalize w.alloc (.cells #[.int .i64 ow, .slice a n c] 24) = W at *
  go_loopw [8] (fun y wr => ∃ k : Nat, y = .int .i64 k ∧ k ≤ n ∧ Hid (∀ i, i < k → rwB U i = true) ∧ Below W.heap.size W wr) (fun y _ => n - (intOf y).toNat)
  case atStart => exact ⟨0, rfl, Nat.zero_le _, fun i hi => absurd hi (by omega), Below.refl _ _⟩
  case round =>
    obtain ⟨k, rfl, hk, hall, hb0⟩ := hrel
    have MBr := MB.below hb0
    have hb := hB0.trans (hb0.mono hB0.size)
    clear MB
    by_cases hlt : k < n
    · obtain ⟨b, off, a0, c0, rfl, hbw, u0, u1, u2, ht⟩ := hR k hlt
      replace u0 := (hb.cell (p := ⟨b, off + k * 3, none⟩) hbw).trans u0
      replace u1 := (hb.cell (p := ⟨b, off + k * 3 + 1, none⟩) hbw).trans u1
      replace u2 := (hb.cell (p := ⟨b, off + k * 3 + 2, none⟩) hbw).trans u2
      have hlt' : (k : Int) < (n : Int) := by omega
      obtain ⟨l1, l2⟩ := hl k hlt
      have hyes := hide (fun e => rs_next (U := U) hall.out e)
      have hno := hide (fun e => rb_no (ow := ow) (rs_no (m := n) (U := U) hlt e))
      have bX : Below wr.heap.size wr (wr.alloc (.cells #[.int .i64 (U k).ad, .int .i64 (U k).ln, .slice a0 (U k).n c0] 63)) := below_box (Below.refl _ _)
      have dX := hide (hb0.trans (bX.mono hb0.size))
      have hT := hide (ht.below (hB0.trans (dX.out.mono hB0.size)))
      have MR := hide ((MBr.below bX).2.1 1 _ rfl)
      have hof : rwB U k = (goodB (U k).ad (U k).ln && (decide (0 < (U k).n) && (osB (U k).n (U k).T && ltR U k))) := rfl
      have GPc := hide (fun w => s_good (U k).ad (U k).ln w)
      have GOc := hide (fun w R => s_goodOffers a0 (U k).n c0 (U k).T w l1 (lowO_of l2) R)
      clear l1 l2 hall bX ht MBr hl
      cases hp : goodB (U k).ad (U k).ln with
      | false =>
        rw [hp] at GPc
        have hN := hide (hno.out (by rw [hof]; rw [hp]; rfl))
        clear hyes hno hof hR
        generalize U k = t at *
        go_wp2_with fail
        have MX := Mut.new wr #[.int .i64 t.ad, .int .i64 t.ln, .slice a0 t.n c0] 63
        generalize wr.alloc (.cells #[.int .i64 t.ad, .int .i64 t.ln, .slice a0 t.n c0] 63) = wx at *
        have k0 := cell_regrown (MX.2.1 0 _ rfl)
        have k1 := cell_regrown (MX.2.1 1 _ rfl)
        have k2 := cell_regrown (MX.2.1 2 _ rfl)
        have r1 := cell_regrown MR.out
        refine wp_region_quiet_below (by kernel_rfl) (by kernel_rfl) ?_
        repeat (first | go_big_quiet_step ((go_at_call 33; exact Calls.regrown_of (GPc.out _))) | quiet_step ((go_at_call 33; exact Calls.regrown_of (GPc.out _))))
        refine wpQuiet_nil ?_
        intro _ hw'
        obtain ⟨⟨dq, osq⟩, hw''⟩ := hw'
        subst hw''
        have hq := below_regrown wx dq osq
        generalize Go.Sort.grow (redrawn wx dq) osq = wq at hq ⊢
        have hbq := dX.out.trans (hq.mono dX.out.size)
        clear hq k0 k1 k2 r1 MX hT MR
        go_wp2_with fail
        go_ret
        exact ⟨by rw [hN.out]; rfl, hB0.trans (hbq.mono hB0.size)⟩
      | true =>
        rw [hp] at GPc
        by_cases hz : (U k).n = 0
        · have hz2 : ((((U k).n : Nat) : Int) == 0) = true := by rw [hz]; rfl
          have hz3 : decide (0 < (U k).n) = false := by rw [hz]; rfl
          clear hz
          have hN := hide (hno.out (by rw [hof]; rw [hz3]; simp))
          clear hyes hno hof hR
          generalize U k = t at *
          go_wp2_with fail
          have MX := Mut.new wr #[.int .i64 t.ad, .int .i64 t.ln, .slice a0 t.n c0] 63
          generalize wr.alloc (.cells #[.int .i64 t.ad, .int .i64 t.ln, .slice a0 t.n c0] 63) = wx at *
          have k0 := cell_regrown (MX.2.1 0 _ rfl)
          have k1 := cell_regrown (MX.2.1 1 _ rfl)
          have k2 := cell_regrown (MX.2.1 2 _ rfl)
          have r1 := cell_regrown MR.out
          refine wp_region_quiet_below (by kernel_rfl) (by kernel_rfl) ?_
          repeat (first | go_big_quiet_step ((go_at_call 33; exact Calls.regrown_of (GPc.out _))) | quiet_step ((go_at_call 33; exact Calls.regrown_of (GPc.out _))))
          refine wpQuiet_nil ?_
          intro _ hw'
          obtain ⟨⟨dq, osq⟩, hw''⟩ := hw'
          subst hw''
          have hq := below_regrown wx dq osq
          generalize Go.Sort.grow (redrawn wx dq) osq = wq at hq ⊢
          have hbq := dX.out.trans (hq.mono dX.out.size)
          clear hq k0 k1 k2 r1 MX hT MR
          go_wp2_with fail
          go_ret
          exact ⟨by rw [hN.out]; rfl, hB0.trans (hbq.mono hB0.size)⟩
        · have hz2 : ((((U k).n : Nat) : Int) == 0) = false := by simp; omega
          have hz3 : decide (0 < (U k).n) = true := by simp; omega
          cases hg : osB (U k).n (U k).T with
          | false =>
            rw [hg] at GOc
            have hN := hide (hno.out (by rw [hof]; rw [hg]; simp))
            clear hyes hno hof hR
            generalize U k = t at *
            go_wp2_with fail
            have MX := Mut.new wr #[.int .i64 t.ad, .int .i64 t.ln, .slice a0 t.n c0] 63
            generalize wr.alloc (.cells #[.int .i64 t.ad, .int .i64 t.ln, .slice a0 t.n c0] 63) = wx at *
            have k0 := cell_regrown (MX.2.1 0 _ rfl)
            have k1 := cell_regrown (MX.2.1 1 _ rfl)
            have k2 := cell_regrown (MX.2.1 2 _ rfl)
            have r1 := cell_regrown MR.out
            refine wp_region_quiet_below (by kernel_rfl) (by kernel_rfl) ?_
            repeat (first | go_big_quiet_step ((first | (go_at_call 33; exact Calls.regrown_of (GPc.out _)) | (go_at_call 34; exact Calls.regrown_of (GOc.out _ (hT.out.below (below_regrown _ _ _)))))) | quiet_step ((first | (go_at_call 33; exact Calls.regrown_of (GPc.out _)) | (go_at_call 34; exact Calls.regrown_of (GOc.out _ (hT.out.below (below_regrown _ _ _)))))))
            refine wpQuiet_nil ?_
            intro _ hw'
            obtain ⟨⟨dq, osq⟩, hw''⟩ := hw'
            subst hw''
            have hq := below_regrown wx dq osq
            generalize Go.Sort.grow (redrawn wx dq) osq = wq at hq ⊢
            have hbq := dX.out.trans (hq.mono dX.out.size)
            clear hq k0 k1 k2 r1 MX hT MR
            go_wp2_with fail
            go_ret
            exact ⟨by rw [hN.out]; rfl, hB0.trans (hbq.mono hB0.size)⟩
          | true =>
            rw [hg] at GOc
            rw [hp, hz3, hg] at hof
            simp only [Bool.true_and] at hof
            by_cases hk0 : k = 0
            · subst hk0
              have hN := hide (hyes.out (by rw [hof]; exact ltR_zero U))
              simp only [Nat.zero_mul, Nat.add_zero] at u0 u1 u2
              clear hyes hno hof hR
              generalize U 0 = t at *
              go_wp2_with fail
              have MX := Mut.new wr #[.int .i64 t.ad, .int .i64 t.ln, .slice a0 t.n c0] 63
              generalize wr.alloc (.cells #[.int .i64 t.ad, .int .i64 t.ln, .slice a0 t.n c0] 63) = wx at *
              have k0 := cell_regrown (MX.2.1 0 _ rfl)
              have k1 := cell_regrown (MX.2.1 1 _ rfl)
              have k2 := cell_regrown (MX.2.1 2 _ rfl)
              have r1 := cell_regrown MR.out
              refine wp_region_quiet_below (by kernel_rfl) (by kernel_rfl) ?_
              repeat (first | go_big_quiet_step ((first | (go_at_call 33; exact Calls.regrown_of (GPc.out _)) | (go_at_call 34; exact Calls.regrown_of (GOc.out _ (hT.out.below (below_regrown _ _ _)))))) | quiet_step ((first | (go_at_call 33; exact Calls.regrown_of (GPc.out _)) | (go_at_call 34; exact Calls.regrown_of (GOc.out _ (hT.out.below (below_regrown _ _ _)))))))
              refine wpQuiet_nil ?_
              intro _ hw'
              obtain ⟨⟨dq, osq⟩, hw''⟩ := hw'
              subst hw''
              have hq := below_regrown wx dq osq
              generalize Go.Sort.grow (redrawn wx dq) osq = wq at hq ⊢
              have hbq := dX.out.trans (hq.mono dX.out.size)
              clear hq k0 k1 k2 r1 MX hT MR
              go_wp2_with fail
              exact ⟨⟨1, by go_num, by omega, hN.out, hbq⟩, by simp [intOf]; omega⟩
            · obtain ⟨m, rfl⟩ : ∃ m, k = m + 1 := ⟨k - 1, by omega⟩
              obtain ⟨b', off', _, _, hbo, _, q0, q1, _⟩ := hR m (by omega)
              simp only [Option.some.injEq, Addr.mk.injEq, and_true] at hbo
              obtain ⟨rfl, rfl⟩ := hbo
              have q0 := hide (((bcell (hB0.trans (dX.out.mono hB0.size))).1 _ _ hbw).trans q0)
              have q1 := hide (((bcell (hB0.trans (dX.out.mono hB0.size))).1 _ _ hbw).trans q1)
              have hm1 : ((m + 1 : Nat) : Int) - 1 = (m : Int) := by omega
              have hm2 : (m : Int) < (n : Int) := by omega
              have hm3 : ((m + 1 : Nat) : Int) > 0 := by omega
              have CPc := hide (fun w => s_compare1 (U m).ad (U m).ln (U (m + 1)).ad (U (m + 1)).ln w)
              rw [ltR_succ] at hof
              by_cases hr : cmpP (U m).ad (U m).ln (U (m + 1)).ad (U (m + 1)).ln < 0
              · have hN := hide (hyes.out (hof.trans (by simp [hr])))
                have hr' : ¬ (cmpP (U m).ad (U m).ln (U (m + 1)).ad (U (m + 1)).ln ≥ 0) := by omega
                clear hyes hno hof hR hk0 hr
                generalize cmpP (U m).ad (U m).ln (U (m + 1)).ad (U (m + 1)).ln = cc at *
                generalize (U m).ad = am at *
                generalize (U m).ln = lm at *
                generalize U (m + 1) = t at *
                go_wp2_with fail
                have MX := Mut.new wr #[.int .i64 t.ad, .int .i64 t.ln, .slice a0 t.n c0] 63
                generalize wr.alloc (.cells #[.int .i64 t.ad, .int .i64 t.ln, .slice a0 t.n c0] 63) = wx at *
                have k0 := cell_regrown (MX.2.1 0 _ rfl)
                have k1 := cell_regrown (MX.2.1 1 _ rfl)
                have k2 := cell_regrown (MX.2.1 2 _ rfl)
                have r1 := cell_regrown MR.out
                have s0 := cell_regrown q0.out
                have s1 := cell_regrown q1.out
                refine wp_region_quiet_below (by kernel_rfl) (by kernel_rfl) ?_
                repeat (first | go_big_quiet_step ((first | (go_at_call 33; exact Calls.regrown_of (GPc.out _)) | (go_at_call 34; exact Calls.regrown_of (GOc.out _ (hT.out.below (below_regrown _ _ _)))) | (go_at_call 35; exact Calls.regrown_of (CPc.out _)))) | quiet_step ((first | (go_at_call 33; exact Calls.regrown_of (GPc.out _)) | (go_at_call 34; exact Calls.regrown_of (GOc.out _ (hT.out.below (below_regrown _ _ _)))) | (go_at_call 35; exact Calls.regrown_of (CPc.out _)))))
                refine wpQuiet_nil ?_
                intro _ hw'
                obtain ⟨⟨dq, osq⟩, hw''⟩ := hw'
                subst hw''
                have hq := below_regrown wx dq osq
                generalize Go.Sort.grow (redrawn wx dq) osq = wq at hq ⊢
                have hbq := dX.out.trans (hq.mono dX.out.size)
                clear hq k0 k1 k2 r1 MX hT MR
                go_wp2_with fail
                exact ⟨⟨m + 1 + 1, by go_num, by omega, hN.out, hbq⟩, by simp [intOf]; omega⟩
              · have hN := hide (hno.out (hof.trans (by simp; omega)))
                have hr' : cmpP (U m).ad (U m).ln (U (m + 1)).ad (U (m + 1)).ln ≥ 0 := by omega
                clear hyes hno hof hR hk0 hr
                generalize cmpP (U m).ad (U m).ln (U (m + 1)).ad (U (m + 1)).ln = cc at *
                generalize (U m).ad = am at *
                generalize (U m).ln = lm at *
                generalize U (m + 1) = t at *
                go_wp2_with fail
                have MX := Mut.new wr #[.int .i64 t.ad, .int .i64 t.ln, .slice a0 t.n c0] 63
                generalize wr.alloc (.cells #[.int .i64 t.ad, .int .i64 t.ln, .slice a0 t.n c0] 63) = wx at *
                have k0 := cell_regrown (MX.2.1 0 _ rfl)
                have k1 := cell_regrown (MX.2.1 1 _ rfl)
                have k2 := cell_regrown (MX.2.1 2 _ rfl)
                have r1 := cell_regrown MR.out
                have s0 := cell_regrown q0.out
                have s1 := cell_regrown q1.out
                refine wp_region_quiet_below (by kernel_rfl) (by kernel_rfl) ?_
                repeat (first | go_big_quiet_step ((first | (go_at_call 33; exact Calls.regrown_of (GPc.out _)) | (go_at_call 34; exact Calls.regrown_of (GOc.out _ (hT.out.below (below_regrown _ _ _)))) | (go_at_call 35; exact Calls.regrown_of (CPc.out _)))) | quiet_step ((first | (go_at_call 33; exact Calls.regrown_of (GPc.out _)) | (go_at_call 34; exact Calls.regrown_of (GOc.out _ (hT.out.below (below_regrown _ _ _)))) | (go_at_call 35; exact Calls.regrown_of (CPc.out _)))))
                refine wpQuiet_nil ?_
                intro _ hw'
                obtain ⟨⟨dq, osq⟩, hw''⟩ := hw'
                subst hw''
                have hq := below_regrown wx dq osq
                generalize Go.Sort.grow (redrawn wx dq) osq = wq at hq ⊢
                have hbq := dX.out.trans (hq.mono dX.out.size)
                clear hq k0 k1 k2 r1 MX hT MR
                go_wp2_with fail
                go_ret
                exact ⟨by rw [hN.out]; rfl, hB0.trans (hbq.mono hB0.size)⟩
    · have hlt' : ¬ (k : Int) < (n : Int) := by omega
      obtain rfl : k = n := by omega
      have hE := hide (rb_all (ow := ow) hall.out)
      have m0 := MBr.2.1 0 _ rfl
      have m1 := MBr.2.1 1 _ rfl
      cases hx : inB ow 1 65535 with
      | false =>
        rw [hx] at A hE
        clear hall hR hl hx
        go_wp2_with fail
        refine (A.out _).mono ?_
        rintro e w1 ⟨rfl, rfl⟩
        go_wp2_with fail
        go_ret
        exact ⟨by rw [hE.out]; rfl, hb⟩
      | true =>
        rw [hx] at A hE
        have hE2 : Hid (rbB ow k U = decide ((k : Int) ≤ 20)) := by
          rw [Hid, hE.out, Bool.true_and]
          exact decide_eq_decide.2 (by omega)
        clear hall hR hl hx hE
        go_wp2_with fail
        refine (A.out _).mono ?_
        rintro e w1 ⟨rfl, rfl⟩
        go_wp2_with fail
        go_ret
        exact ⟨by rw [hE2.out]; rfl, hb⟩
end Go.Proofs.Ytjjdfniemlcnnaa
