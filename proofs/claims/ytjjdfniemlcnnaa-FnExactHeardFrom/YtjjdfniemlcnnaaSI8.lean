/- GoodOffers of the specification and of the program. -/
import Derived.Test.YtjjdfniemlcnnaaPlain8
import Derived.Test.YtjjdfniemlcnnaaS4
import Derived.Test.YtjjdfniemlcnnaaI4
import Derived.Test.YtjjdfniemlcnnaaAll4
import Derived.Test.YtjjdfniemlcnnaaAll7
import Derived.Lib.QuietBelow
namespace Go.Proofs.Ytjjdfniemlcnnaa
open Go.RowKit

set_option maxHeartbeats 400000 in
theorem i_isPeer (x : Int) (w : World) :
    Calls Try.prog 43 #[.int .i64 x] w fun e w' => e = .returned (.bool (inB x 0 5)) ∧ w' = w := by
  by_cases h0 : 0 ≤ x
  · by_cases h1 : x < 6
    · rw [inB_t h0 (by omega)]
      go_enter Try.func43, Try.ntmps43
      go_wp2_with fail
      go_ret
      exact ⟨rfl, rfl⟩
    · rw [inB_f2 (by omega)]
      go_enter Try.func43, Try.ntmps43
      go_wp2_with fail
      go_ret
      exact ⟨rfl, rfl⟩
  · rw [inB_f1 h0]
    go_enter Try.func43, Try.ntmps43
    go_wp2_with fail
    go_ret
    exact ⟨rfl, rfl⟩
set_option maxRecDepth 100000 in
set_option maxHeartbeats 800000 in
theorem i_goodOffer (a0 : Option Addr) (c0 : Nat) (a1 : Option Addr) (c1 : Nat) (t : Oc) (w : World) (h0 : t.n0 ≤ 1048576) (h1 : t.n1 ≤ 1048576) (hT : OfIn a0 a1 t w) :
    Calls Try.prog 64 #[.agg #[.int .i64 t.pe, .int .i64 t.o, .slice a0 t.n0 c0, .int .i64 t.nx, .int .i64 t.md, .int .i64 t.pf, .slice a1 t.n1 c1]] w fun e w' => e = .returned (.bool (ofB t)) ∧ Below w.heap.size w w' := by
  have s0 := hide (fun w => i_isPeer t.pe w)
  have s1 := hide (fun w R0 R1 => i_goodAttrs t.o t.nx t.md t.pf a0 t.n0 c0 t.f a1 t.n1 c1 t.g w h0 h1 R0 R1)
  have d0 : Below w.heap.size w (w.alloc (.cells #[.int .i64 t.pe, .int .i64 t.o, .slice a0 t.n0 c0, .int .i64 t.nx, .int .i64 t.md, .int .i64 t.pf, .slice a1 t.n1 c1] 49)) := below_box (Below.refl _ _)
  have M0 := Mut.new w #[.int .i64 t.pe, .int .i64 t.o, .slice a0 t.n0 c0, .int .i64 t.nx, .int .i64 t.md, .int .i64 t.pf, .slice a1 t.n1 c1] 49
  obtain ⟨R0, R1⟩ := hT
  have hd : ofB t = (inB t.pe 0 5 && attrB t.o t.nx t.md t.pf t.n0 t.f t.n1 t.g) := rfl
  rw [hd]
  clear h0 h1 hd
  generalize attrB t.o t.nx t.md t.pf t.n0 t.f t.n1 t.g = r at *
  cases hg : inB t.pe 0 5 with
  | false =>
    rw [hg] at s0
    go_enter Try.func64, Try.ntmps64
    go_wp2_with fail
    refine (s0.out _).mono ?_
    rintro e w1 ⟨rfl, rfl⟩
    go_wp2_with fail
    go_ret
    exact ⟨rfl, d0⟩
  | true =>
    rw [hg] at s0
    go_enter Try.func64, Try.ntmps64
    go_wp2_with fail
    refine (s0.out _).mono ?_
    rintro e w1 ⟨rfl, rfl⟩
    go_wp2_with fail
    refine (s1.out _ (R0.below d0) (R1.below d0)).mono ?_
    rintro e w2 ⟨rfl, b2⟩
    go_wp2_with fail
    go_ret
    exact ⟨rfl, d0.trans (b2.mono d0.size)⟩
set_option maxRecDepth 100000 in
set_option maxHeartbeats 3200000 in
theorem s_goodOffers (a : Option Addr) (n c : Nat) (T : Nat → Oc) (w : World) (hn : n ≤ 1048576) (hl : LowO n T) (hR : RowO a n T w) :
    Calls Try.prog 34 #[.slice a n c] w fun e w' => e = .returned (.bool (osB n T)) ∧ Below w.heap.size w w' := by
  go_enter Try.func34, Try.ntmps34
  go_wp2_with fail
  go_loopw [7] (fun y wr => ∃ k : Nat, y = .int .i64 k ∧ k ≤ n ∧ Hid (∀ i, i < k → stO T i = true) ∧ Below w.heap.size w wr) (fun y _ => n - (intOf y).toNat)
  case atStart => exact ⟨0, rfl, Nat.zero_le _, fun i hi => absurd hi (by omega), Below.refl _ _⟩
  case round =>
    obtain ⟨k, rfl, hk, hall, hb⟩ := hrel
    by_cases hlt : k < n
    · obtain ⟨b, off, a0, c0, a1, c1, rfl, hbw, u0, u1, u2, u3, u4, u5, u6, ht⟩ := hR k hlt

      replace u0 := (hb.cell (p := ⟨b, off + k * 7, none⟩) hbw).trans u0
      replace u1 := (hb.cell (p := ⟨b, off + k * 7 + 1, none⟩) hbw).trans u1
      replace u2 := (hb.cell (p := ⟨b, off + k * 7 + 2, none⟩) hbw).trans u2
      replace u3 := (hb.cell (p := ⟨b, off + k * 7 + 3, none⟩) hbw).trans u3
      replace u4 := (hb.cell (p := ⟨b, off + k * 7 + 4, none⟩) hbw).trans u4
      replace u5 := (hb.cell (p := ⟨b, off + k * 7 + 5, none⟩) hbw).trans u5
      replace u6 := (hb.cell (p := ⟨b, off + k * 7 + 6, none⟩) hbw).trans u6
      have hlt' : (k : Int) < (n : Int) := by omega
      obtain ⟨l1, l2⟩ := hl k hlt
      have hyes := hide (fun e => os_next (T := T) hall.out e)
      have hno := hide (fun e => os_no (n := n) (T := T) hlt e)
      have bX : Below wr.heap.size wr (wr.alloc (.cells #[.int .i64 (T k).pe, .int .i64 (T k).o, .slice a0 (T k).n0 c0, .int .i64 (T k).nx, .int .i64 (T k).md, .int .i64 (T k).pf, .slice a1 (T k).n1 c1] 49)) := below_box (Below.refl _ _)
      have dX := hide (hb.trans (bX.mono hb.size))
      have hT := hide (ht.below dX.out)
      have hof : ofB (T k) = (inB (T k).pe 0 5 && attrB (T k).o (T k).nx (T k).md (T k).pf (T k).n0 (T k).f (T k).n1 (T k).g) := rfl
      have SP := hide (fun w => s_in (T k).pe 0 5 w)
      have GT := hide (fun w R0 R1 => s_goodAttrs (T k).o (T k).nx (T k).md (T k).pf a0 (T k).n0 c0 (T k).f a1 (T k).n1 c1 (T k).g w l1 l2 R0 R1)
      clear l1 l2 hall bX ht
      cases hp : inB (T k).pe 0 5 with
      | false =>
        have hN := hide (hno.out (by unfold stO; rw [hof, hp]; rfl))
        rw [hp] at SP
        clear hp hyes hno hof hR
        generalize T k = t at *
        go_wp2_with fail
        have MX := Mut.new wr #[.int .i64 t.pe, .int .i64 t.o, .slice a0 t.n0 c0, .int .i64 t.nx, .int .i64 t.md, .int .i64 t.pf, .slice a1 t.n1 c1] 49
        generalize wr.alloc (.cells #[.int .i64 t.pe, .int .i64 t.o, .slice a0 t.n0 c0, .int .i64 t.nx, .int .i64 t.md, .int .i64 t.pf, .slice a1 t.n1 c1] 49) = wx at *
        have k0 := cell_regrown (MX.2.1 0 _ rfl)
        have k1 := cell_regrown (MX.2.1 1 _ rfl)
        have k2 := cell_regrown (MX.2.1 2 _ rfl)
        have k3 := cell_regrown (MX.2.1 3 _ rfl)
        have k4 := cell_regrown (MX.2.1 4 _ rfl)
        have k5 := cell_regrown (MX.2.1 5 _ rfl)
        have k6 := cell_regrown (MX.2.1 6 _ rfl)
        refine wp_region_quiet_below (by kernel_rfl) (by kernel_rfl) ?_
        repeat (first | go_big_quiet_step ((first | (go_at_call 27; exact Calls.regrown_of ((SP.out _).mono (fun e w h => ⟨h.1, by rw [h.2]; exact Below.refl _ _⟩))) | (go_at_call 62; exact Calls.regrown_of (GT.out _ (hT.out.1.below (below_regrown _ _ _)) (hT.out.2.below (below_regrown _ _ _)))))) | quiet_step ((first | (go_at_call 27; exact Calls.regrown_of ((SP.out _).mono (fun e w h => ⟨h.1, by rw [h.2]; exact Below.refl _ _⟩))) | (go_at_call 62; exact Calls.regrown_of (GT.out _ (hT.out.1.below (below_regrown _ _ _)) (hT.out.2.below (below_regrown _ _ _)))))))
        refine wpQuiet_nil ?_
        intro _ hw'
        obtain ⟨⟨dq, osq⟩, hw''⟩ := hw'
        subst hw''
        have hq := below_regrown wx dq osq
        generalize Go.Sort.grow (redrawn wx dq) osq = wq at hq ⊢
        have hbq := dX.out.trans (hq.mono dX.out.size)
        clear hq k0 k1 k2 k3 k4 k5 k6 MX hT
        go_wp2_with fail
        go_ret
        exact ⟨by rw [hN.out]; rfl, hbq⟩
      | true =>
        rw [hp] at SP
        cases hg : attrB (T k).o (T k).nx (T k).md (T k).pf (T k).n0 (T k).f (T k).n1 (T k).g with
        | false =>
          have hN := hide (hno.out (by unfold stO; rw [hof, hp, hg]; rfl))
          rw [hg] at GT
          clear hg hp hyes hno hof hR
          generalize T k = t at *
          go_wp2_with fail
          have MX := Mut.new wr #[.int .i64 t.pe, .int .i64 t.o, .slice a0 t.n0 c0, .int .i64 t.nx, .int .i64 t.md, .int .i64 t.pf, .slice a1 t.n1 c1] 49
          generalize wr.alloc (.cells #[.int .i64 t.pe, .int .i64 t.o, .slice a0 t.n0 c0, .int .i64 t.nx, .int .i64 t.md, .int .i64 t.pf, .slice a1 t.n1 c1] 49) = wx at *
          have k0 := cell_regrown (MX.2.1 0 _ rfl)
          have k1 := cell_regrown (MX.2.1 1 _ rfl)
          have k2 := cell_regrown (MX.2.1 2 _ rfl)
          have k3 := cell_regrown (MX.2.1 3 _ rfl)
          have k4 := cell_regrown (MX.2.1 4 _ rfl)
          have k5 := cell_regrown (MX.2.1 5 _ rfl)
          have k6 := cell_regrown (MX.2.1 6 _ rfl)
          refine wp_region_quiet_below (by kernel_rfl) (by kernel_rfl) ?_
          repeat (first | go_big_quiet_step ((first | (go_at_call 27; exact Calls.regrown_of ((SP.out _).mono (fun e w h => ⟨h.1, by rw [h.2]; exact Below.refl _ _⟩))) | (go_at_call 62; exact Calls.regrown_of (GT.out _ (hT.out.1.below (below_regrown _ _ _)) (hT.out.2.below (below_regrown _ _ _)))))) | quiet_step ((first | (go_at_call 27; exact Calls.regrown_of ((SP.out _).mono (fun e w h => ⟨h.1, by rw [h.2]; exact Below.refl _ _⟩))) | (go_at_call 62; exact Calls.regrown_of (GT.out _ (hT.out.1.below (below_regrown _ _ _)) (hT.out.2.below (below_regrown _ _ _)))))))
          refine wpQuiet_nil ?_
          intro _ hw'
          obtain ⟨⟨dq, osq⟩, hw''⟩ := hw'
          subst hw''
          have hq := below_regrown wx dq osq
          generalize Go.Sort.grow (redrawn wx dq) osq = wq at hq ⊢
          have hbq := dX.out.trans (hq.mono dX.out.size)
          clear hq k0 k1 k2 k3 k4 k5 k6 MX hT
          go_wp2_with fail
          go_ret
          exact ⟨by rw [hN.out]; rfl, hbq⟩
        | true =>
          rw [hg] at GT
          rw [hp, hg] at hof
          by_cases hz : k = 0
          · subst hz
            have hN := hide (hyes.out (by rw [st_zero]; first | exact hg | exact hof))
            simp only [Nat.zero_mul, Nat.add_zero] at u0 u1 u2 u3 u4 u5 u6
            clear hyes hno hof hR hg hp
            generalize T 0 = t at *
            go_wp2_with fail
            have MX := Mut.new wr #[.int .i64 t.pe, .int .i64 t.o, .slice a0 t.n0 c0, .int .i64 t.nx, .int .i64 t.md, .int .i64 t.pf, .slice a1 t.n1 c1] 49
            generalize wr.alloc (.cells #[.int .i64 t.pe, .int .i64 t.o, .slice a0 t.n0 c0, .int .i64 t.nx, .int .i64 t.md, .int .i64 t.pf, .slice a1 t.n1 c1] 49) = wx at *
            have k0 := cell_regrown (MX.2.1 0 _ rfl)
            have k1 := cell_regrown (MX.2.1 1 _ rfl)
            have k2 := cell_regrown (MX.2.1 2 _ rfl)
            have k3 := cell_regrown (MX.2.1 3 _ rfl)
            have k4 := cell_regrown (MX.2.1 4 _ rfl)
            have k5 := cell_regrown (MX.2.1 5 _ rfl)
            have k6 := cell_regrown (MX.2.1 6 _ rfl)
            refine wp_region_quiet_below (by kernel_rfl) (by kernel_rfl) ?_
            repeat (first | go_big_quiet_step ((first | (go_at_call 27; exact Calls.regrown_of ((SP.out _).mono (fun e w h => ⟨h.1, by rw [h.2]; exact Below.refl _ _⟩))) | (go_at_call 62; exact Calls.regrown_of (GT.out _ (hT.out.1.below (below_regrown _ _ _)) (hT.out.2.below (below_regrown _ _ _)))))) | quiet_step ((first | (go_at_call 27; exact Calls.regrown_of ((SP.out _).mono (fun e w h => ⟨h.1, by rw [h.2]; exact Below.refl _ _⟩))) | (go_at_call 62; exact Calls.regrown_of (GT.out _ (hT.out.1.below (below_regrown _ _ _)) (hT.out.2.below (below_regrown _ _ _)))))))
            refine wpQuiet_nil ?_
            intro _ hw'
            obtain ⟨⟨dq, osq⟩, hw''⟩ := hw'
            subst hw''
            have hq := below_regrown wx dq osq
            generalize Go.Sort.grow (redrawn wx dq) osq = wq at hq ⊢
            have hbq := dX.out.trans (hq.mono dX.out.size)
            clear hq k0 k1 k2 k3 k4 k5 k6 MX hT
            go_wp2_with fail
            exact ⟨⟨1, by go_num, by omega, hN.out, hbq⟩, by simp [intOf]; omega⟩
          · obtain ⟨m, rfl⟩ : ∃ m, k = m + 1 := ⟨k - 1, by omega⟩
            obtain ⟨b', off', _, _, _, _, hbo, _, q0, _⟩ := hR m (by omega)
            simp only [Option.some.injEq, Addr.mk.injEq, and_true] at hbo
            obtain ⟨rfl, rfl⟩ := hbo
            have q0 := hide (((bcell dX.out).1 _ _ hbw).trans q0)
            have hm1 : ((m + 1 : Nat) : Int) - 1 = (m : Int) := by omega
            have hm2 : (m : Int) < (n : Int) := by omega
            have hm3 : ((m + 1 : Nat) : Int) > 0 := by omega
            have hst : stO T (m + 1) = decide ((T m).pe < (T (m + 1)).pe) := by
              rw [st_succ T (by omega)]
              first | rw [hg] | rw [hof]
              simp
            by_cases hr : (T m).pe < (T (m + 1)).pe
            · have hN := hide (hyes.out (hst.trans (by simp [hr])))
              have hr' : ¬ ((T m).pe ≥ (T (m + 1)).pe) := by omega
              clear hyes hno hof hR hz hst hr hg hp
              generalize (T m).pe = pm at *
              generalize T (m + 1) = t at *
              go_wp2_with fail
              have MX := Mut.new wr #[.int .i64 t.pe, .int .i64 t.o, .slice a0 t.n0 c0, .int .i64 t.nx, .int .i64 t.md, .int .i64 t.pf, .slice a1 t.n1 c1] 49
              generalize wr.alloc (.cells #[.int .i64 t.pe, .int .i64 t.o, .slice a0 t.n0 c0, .int .i64 t.nx, .int .i64 t.md, .int .i64 t.pf, .slice a1 t.n1 c1] 49) = wx at *
              have k0 := cell_regrown (MX.2.1 0 _ rfl)
              have k1 := cell_regrown (MX.2.1 1 _ rfl)
              have k2 := cell_regrown (MX.2.1 2 _ rfl)
              have k3 := cell_regrown (MX.2.1 3 _ rfl)
              have k4 := cell_regrown (MX.2.1 4 _ rfl)
              have k5 := cell_regrown (MX.2.1 5 _ rfl)
              have k6 := cell_regrown (MX.2.1 6 _ rfl)
              have q1 := cell_regrown q0.out
              refine wp_region_quiet_below (by kernel_rfl) (by kernel_rfl) ?_
              repeat (first | go_big_quiet_step ((first | (go_at_call 27; exact Calls.regrown_of ((SP.out _).mono (fun e w h => ⟨h.1, by rw [h.2]; exact Below.refl _ _⟩))) | (go_at_call 62; exact Calls.regrown_of (GT.out _ (hT.out.1.below (below_regrown _ _ _)) (hT.out.2.below (below_regrown _ _ _)))))) | quiet_step ((first | (go_at_call 27; exact Calls.regrown_of ((SP.out _).mono (fun e w h => ⟨h.1, by rw [h.2]; exact Below.refl _ _⟩))) | (go_at_call 62; exact Calls.regrown_of (GT.out _ (hT.out.1.below (below_regrown _ _ _)) (hT.out.2.below (below_regrown _ _ _)))))))
              refine wpQuiet_nil ?_
              intro _ hw'
              obtain ⟨⟨dq, osq⟩, hw''⟩ := hw'
              subst hw''
              have hq := below_regrown wx dq osq
              generalize Go.Sort.grow (redrawn wx dq) osq = wq at hq ⊢
              have hbq := dX.out.trans (hq.mono dX.out.size)
              clear hq k0 k1 k2 k3 k4 k5 k6 MX hT q1 q0
              go_wp2_with fail
              exact ⟨⟨m + 2, by go_num, by omega, hN.out, hbq⟩, by simp [intOf]; omega⟩
            · have hN := hide (hno.out (hst.trans (by simp [hr])))
              have hr' : (T m).pe ≥ (T (m + 1)).pe := by omega
              clear hyes hno hof hR hz hst hr hg hp
              generalize (T m).pe = pm at *
              generalize T (m + 1) = t at *
              go_wp2_with fail
              have MX := Mut.new wr #[.int .i64 t.pe, .int .i64 t.o, .slice a0 t.n0 c0, .int .i64 t.nx, .int .i64 t.md, .int .i64 t.pf, .slice a1 t.n1 c1] 49
              generalize wr.alloc (.cells #[.int .i64 t.pe, .int .i64 t.o, .slice a0 t.n0 c0, .int .i64 t.nx, .int .i64 t.md, .int .i64 t.pf, .slice a1 t.n1 c1] 49) = wx at *
              have k0 := cell_regrown (MX.2.1 0 _ rfl)
              have k1 := cell_regrown (MX.2.1 1 _ rfl)
              have k2 := cell_regrown (MX.2.1 2 _ rfl)
              have k3 := cell_regrown (MX.2.1 3 _ rfl)
              have k4 := cell_regrown (MX.2.1 4 _ rfl)
              have k5 := cell_regrown (MX.2.1 5 _ rfl)
              have k6 := cell_regrown (MX.2.1 6 _ rfl)
              have q1 := cell_regrown q0.out
              refine wp_region_quiet_below (by kernel_rfl) (by kernel_rfl) ?_
              repeat (first | go_big_quiet_step ((first | (go_at_call 27; exact Calls.regrown_of ((SP.out _).mono (fun e w h => ⟨h.1, by rw [h.2]; exact Below.refl _ _⟩))) | (go_at_call 62; exact Calls.regrown_of (GT.out _ (hT.out.1.below (below_regrown _ _ _)) (hT.out.2.below (below_regrown _ _ _)))))) | quiet_step ((first | (go_at_call 27; exact Calls.regrown_of ((SP.out _).mono (fun e w h => ⟨h.1, by rw [h.2]; exact Below.refl _ _⟩))) | (go_at_call 62; exact Calls.regrown_of (GT.out _ (hT.out.1.below (below_regrown _ _ _)) (hT.out.2.below (below_regrown _ _ _)))))))
              refine wpQuiet_nil ?_
              intro _ hw'
              obtain ⟨⟨dq, osq⟩, hw''⟩ := hw'
              subst hw''
              have hq := below_regrown wx dq osq
              generalize Go.Sort.grow (redrawn wx dq) osq = wq at hq ⊢
              have hbq := dX.out.trans (hq.mono dX.out.size)
              clear hq k0 k1 k2 k3 k4 k5 k6 MX hT q1 q0
              go_wp2_with fail
              go_ret
              exact ⟨by rw [hN.out]; rfl, hbq⟩
    · have hlt' : ¬ (k : Int) < (n : Int) := by omega
      have hN := hide (os_all (n := n) (T := T) (fun i hi => hall.out i (by omega)))
      clear hall
      go_wp2_with fail
      go_ret
      exact ⟨by rw [hN.out]; rfl, hb⟩
set_option maxRecDepth 100000 in
set_option maxHeartbeats 3200000 in
theorem i_goodOffers (a : Option Addr) (n c : Nat) (T : Nat → Oc) (w : World) (hn : n ≤ 1048576) (hl : LowO n T) (hR : RowO a n T w) :
    Calls Try.prog 39 #[.slice a n c] w fun e w' => e = .returned (.bool (osB n T)) ∧ Below w.heap.size w w' := by
  go_enter Try.func39, Try.ntmps39
  go_wp2_with fail
  go_loopw [7] (fun y wr => ∃ k : Nat, y = .int .i64 k ∧ k ≤ n ∧ Hid (∀ i, i < k → stO T i = true) ∧ Below w.heap.size w wr) (fun y _ => n - (intOf y).toNat)
  case atStart => exact ⟨0, rfl, Nat.zero_le _, fun i hi => absurd hi (by omega), Below.refl _ _⟩
  case round =>
    obtain ⟨k, rfl, hk, hall, hb⟩ := hrel
    by_cases hlt : k < n
    · obtain ⟨b, off, a0, c0, a1, c1, rfl, hbw, u0, u1, u2, u3, u4, u5, u6, ht⟩ := hR k hlt

      replace u0 := (hb.cell (p := ⟨b, off + k * 7, none⟩) hbw).trans u0
      replace u1 := (hb.cell (p := ⟨b, off + k * 7 + 1, none⟩) hbw).trans u1
      replace u2 := (hb.cell (p := ⟨b, off + k * 7 + 2, none⟩) hbw).trans u2
      replace u3 := (hb.cell (p := ⟨b, off + k * 7 + 3, none⟩) hbw).trans u3
      replace u4 := (hb.cell (p := ⟨b, off + k * 7 + 4, none⟩) hbw).trans u4
      replace u5 := (hb.cell (p := ⟨b, off + k * 7 + 5, none⟩) hbw).trans u5
      replace u6 := (hb.cell (p := ⟨b, off + k * 7 + 6, none⟩) hbw).trans u6
      have hlt' : (k : Int) < (n : Int) := by omega
      obtain ⟨l1, l2⟩ := hl k hlt
      have hyes := hide (fun e => os_next (T := T) hall.out e)
      have hno := hide (fun e => os_no (n := n) (T := T) hlt e)
      have bX : Below wr.heap.size wr (wr.alloc (.cells #[.int .i64 (T k).pe, .int .i64 (T k).o, .slice a0 (T k).n0 c0, .int .i64 (T k).nx, .int .i64 (T k).md, .int .i64 (T k).pf, .slice a1 (T k).n1 c1] 49)) := below_box (Below.refl _ _)
      have dX := hide (hb.trans (bX.mono hb.size))
      have hT := hide (ht.below dX.out)
      have hof : ofB (T k) = (inB (T k).pe 0 5 && attrB (T k).o (T k).nx (T k).md (T k).pf (T k).n0 (T k).f (T k).n1 (T k).g) := rfl
      have GT := hide (fun w hT => i_goodOffer a0 c0 a1 c1 (T k) w l1 l2 hT)
      clear l1 l2 hall bX ht
      cases hg : ofB (T k) with
      | false =>
        have hN := hide (hno.out (by unfold stO; rw [hg]; rfl))
        rw [hg] at GT
        clear hg hyes hno hof hR
        generalize T k = t at *
        go_wp2_with fail
        have MX := Mut.new wr #[.int .i64 t.pe, .int .i64 t.o, .slice a0 t.n0 c0, .int .i64 t.nx, .int .i64 t.md, .int .i64 t.pf, .slice a1 t.n1 c1] 49
        generalize wr.alloc (.cells #[.int .i64 t.pe, .int .i64 t.o, .slice a0 t.n0 c0, .int .i64 t.nx, .int .i64 t.md, .int .i64 t.pf, .slice a1 t.n1 c1] 49) = wx at *
        have k0 := cell_regrown (MX.2.1 0 _ rfl)
        have k1 := cell_regrown (MX.2.1 1 _ rfl)
        have k2 := cell_regrown (MX.2.1 2 _ rfl)
        have k3 := cell_regrown (MX.2.1 3 _ rfl)
        have k4 := cell_regrown (MX.2.1 4 _ rfl)
        have k5 := cell_regrown (MX.2.1 5 _ rfl)
        have k6 := cell_regrown (MX.2.1 6 _ rfl)
        refine wp_region_quiet_below (by kernel_rfl) (by kernel_rfl) ?_
        repeat (first | go_big_quiet_step ((go_at_call 64; exact Calls.regrown_of (GT.out _ (hT.out.below (below_regrown _ _ _))))) | quiet_step ((go_at_call 64; exact Calls.regrown_of (GT.out _ (hT.out.below (below_regrown _ _ _))))))
        refine wpQuiet_nil ?_
        intro _ hw'
        obtain ⟨⟨dq, osq⟩, hw''⟩ := hw'
        subst hw''
        have hq := below_regrown wx dq osq
        generalize Go.Sort.grow (redrawn wx dq) osq = wq at hq ⊢
        have hbq := dX.out.trans (hq.mono dX.out.size)
        clear hq k0 k1 k2 k3 k4 k5 k6 MX hT
        go_wp2_with fail
        go_ret
        exact ⟨by rw [hN.out]; rfl, hbq⟩
      | true =>
        rw [hg] at GT
        by_cases hz : k = 0
        · subst hz
          have hN := hide (hyes.out (by rw [st_zero]; first | exact hg | exact hof))
          simp only [Nat.zero_mul, Nat.add_zero] at u0 u1 u2 u3 u4 u5 u6
          clear hyes hno hof hR hg
          generalize T 0 = t at *
          go_wp2_with fail
          have MX := Mut.new wr #[.int .i64 t.pe, .int .i64 t.o, .slice a0 t.n0 c0, .int .i64 t.nx, .int .i64 t.md, .int .i64 t.pf, .slice a1 t.n1 c1] 49
          generalize wr.alloc (.cells #[.int .i64 t.pe, .int .i64 t.o, .slice a0 t.n0 c0, .int .i64 t.nx, .int .i64 t.md, .int .i64 t.pf, .slice a1 t.n1 c1] 49) = wx at *
          have k0 := cell_regrown (MX.2.1 0 _ rfl)
          have k1 := cell_regrown (MX.2.1 1 _ rfl)
          have k2 := cell_regrown (MX.2.1 2 _ rfl)
          have k3 := cell_regrown (MX.2.1 3 _ rfl)
          have k4 := cell_regrown (MX.2.1 4 _ rfl)
          have k5 := cell_regrown (MX.2.1 5 _ rfl)
          have k6 := cell_regrown (MX.2.1 6 _ rfl)
          refine wp_region_quiet_below (by kernel_rfl) (by kernel_rfl) ?_
          repeat (first | go_big_quiet_step ((go_at_call 64; exact Calls.regrown_of (GT.out _ (hT.out.below (below_regrown _ _ _))))) | quiet_step ((go_at_call 64; exact Calls.regrown_of (GT.out _ (hT.out.below (below_regrown _ _ _))))))
          refine wpQuiet_nil ?_
          intro _ hw'
          obtain ⟨⟨dq, osq⟩, hw''⟩ := hw'
          subst hw''
          have hq := below_regrown wx dq osq
          generalize Go.Sort.grow (redrawn wx dq) osq = wq at hq ⊢
          have hbq := dX.out.trans (hq.mono dX.out.size)
          clear hq k0 k1 k2 k3 k4 k5 k6 MX hT
          go_wp2_with fail
          exact ⟨⟨1, by go_num, by omega, hN.out, hbq⟩, by simp [intOf]; omega⟩
        · obtain ⟨m, rfl⟩ : ∃ m, k = m + 1 := ⟨k - 1, by omega⟩
          obtain ⟨b', off', _, _, _, _, hbo, _, q0, _⟩ := hR m (by omega)
          simp only [Option.some.injEq, Addr.mk.injEq, and_true] at hbo
          obtain ⟨rfl, rfl⟩ := hbo
          have q0 := hide (((bcell dX.out).1 _ _ hbw).trans q0)
          have hm1 : ((m + 1 : Nat) : Int) - 1 = (m : Int) := by omega
          have hm2 : (m : Int) < (n : Int) := by omega
          have hm3 : ((m + 1 : Nat) : Int) > 0 := by omega
          have hst : stO T (m + 1) = decide ((T m).pe < (T (m + 1)).pe) := by
            rw [st_succ T (by omega)]
            first | rw [hg] | rw [hof]
            simp
          by_cases hr : (T m).pe < (T (m + 1)).pe
          · have hN := hide (hyes.out (hst.trans (by simp [hr])))
            have hr' : ¬ ((T m).pe ≥ (T (m + 1)).pe) := by omega
            clear hyes hno hof hR hz hst hr hg
            generalize (T m).pe = pm at *
            generalize T (m + 1) = t at *
            go_wp2_with fail
            have MX := Mut.new wr #[.int .i64 t.pe, .int .i64 t.o, .slice a0 t.n0 c0, .int .i64 t.nx, .int .i64 t.md, .int .i64 t.pf, .slice a1 t.n1 c1] 49
            generalize wr.alloc (.cells #[.int .i64 t.pe, .int .i64 t.o, .slice a0 t.n0 c0, .int .i64 t.nx, .int .i64 t.md, .int .i64 t.pf, .slice a1 t.n1 c1] 49) = wx at *
            have k0 := cell_regrown (MX.2.1 0 _ rfl)
            have k1 := cell_regrown (MX.2.1 1 _ rfl)
            have k2 := cell_regrown (MX.2.1 2 _ rfl)
            have k3 := cell_regrown (MX.2.1 3 _ rfl)
            have k4 := cell_regrown (MX.2.1 4 _ rfl)
            have k5 := cell_regrown (MX.2.1 5 _ rfl)
            have k6 := cell_regrown (MX.2.1 6 _ rfl)
            have q1 := cell_regrown q0.out
            refine wp_region_quiet_below (by kernel_rfl) (by kernel_rfl) ?_
            repeat (first | go_big_quiet_step ((go_at_call 64; exact Calls.regrown_of (GT.out _ (hT.out.below (below_regrown _ _ _))))) | quiet_step ((go_at_call 64; exact Calls.regrown_of (GT.out _ (hT.out.below (below_regrown _ _ _))))))
            refine wpQuiet_nil ?_
            intro _ hw'
            obtain ⟨⟨dq, osq⟩, hw''⟩ := hw'
            subst hw''
            have hq := below_regrown wx dq osq
            generalize Go.Sort.grow (redrawn wx dq) osq = wq at hq ⊢
            have hbq := dX.out.trans (hq.mono dX.out.size)
            clear hq k0 k1 k2 k3 k4 k5 k6 MX hT q1 q0
            go_wp2_with fail
            exact ⟨⟨m + 2, by go_num, by omega, hN.out, hbq⟩, by simp [intOf]; omega⟩
          · have hN := hide (hno.out (hst.trans (by simp [hr])))
            have hr' : (T m).pe ≥ (T (m + 1)).pe := by omega
            clear hyes hno hof hR hz hst hr hg
            generalize (T m).pe = pm at *
            generalize T (m + 1) = t at *
            go_wp2_with fail
            have MX := Mut.new wr #[.int .i64 t.pe, .int .i64 t.o, .slice a0 t.n0 c0, .int .i64 t.nx, .int .i64 t.md, .int .i64 t.pf, .slice a1 t.n1 c1] 49
            generalize wr.alloc (.cells #[.int .i64 t.pe, .int .i64 t.o, .slice a0 t.n0 c0, .int .i64 t.nx, .int .i64 t.md, .int .i64 t.pf, .slice a1 t.n1 c1] 49) = wx at *
            have k0 := cell_regrown (MX.2.1 0 _ rfl)
            have k1 := cell_regrown (MX.2.1 1 _ rfl)
            have k2 := cell_regrown (MX.2.1 2 _ rfl)
            have k3 := cell_regrown (MX.2.1 3 _ rfl)
            have k4 := cell_regrown (MX.2.1 4 _ rfl)
            have k5 := cell_regrown (MX.2.1 5 _ rfl)
            have k6 := cell_regrown (MX.2.1 6 _ rfl)
            have q1 := cell_regrown q0.out
            refine wp_region_quiet_below (by kernel_rfl) (by kernel_rfl) ?_
            repeat (first | go_big_quiet_step ((go_at_call 64; exact Calls.regrown_of (GT.out _ (hT.out.below (below_regrown _ _ _))))) | quiet_step ((go_at_call 64; exact Calls.regrown_of (GT.out _ (hT.out.below (below_regrown _ _ _))))))
            refine wpQuiet_nil ?_
            intro _ hw'
            obtain ⟨⟨dq, osq⟩, hw''⟩ := hw'
            subst hw''
            have hq := below_regrown wx dq osq
            generalize Go.Sort.grow (redrawn wx dq) osq = wq at hq ⊢
            have hbq := dX.out.trans (hq.mono dX.out.size)
            clear hq k0 k1 k2 k3 k4 k5 k6 MX hT q1 q0
            go_wp2_with fail
            go_ret
            exact ⟨by rw [hN.out]; rfl, hbq⟩
    · have hlt' : ¬ (k : Int) < (n : Int) := by omega
      have hN := hide (os_all (n := n) (T := T) (fun i hi => hall.out i (by omega)))
      clear hall
      go_wp2_with fail
      go_ret
      exact ⟨by rw [hN.out]; rfl, hb⟩
end Go.Proofs.Ytjjdfniemlcnnaa
