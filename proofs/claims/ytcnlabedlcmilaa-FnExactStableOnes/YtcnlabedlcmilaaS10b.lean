/- What can be chosen, the first path that can be had, and what is stable, by the specification. -/
import Derived.Test.YtcnlabedlcmilaaG10
namespace Go.Proofs.Ytcnlabedlcmilaa
open Go.RowKit
set_option maxRecDepth 100000 in
set_option maxHeartbeats 1600000 in
theorem s_chosen10 (a : Option Addr) (N c : Nat) (U : Nat → Pl) (gn : Nat) (gf : Nat → Int) (ga : Option Addr) (gc : Nat) (w : World) (hN : N ≤ 1048576) (hR : RowK3 a N U w) (hP : RowInt ga gn gf w) :
    Calls Try.prog 72 #[.agg #[.slice a N c], .slice ga gn gc] w fun e w' => e = .returned (.bool (pB (ChOk N U ⟨gn, gf⟩))) ∧ Below w.heap.size w w' := by
  have MX := Mut.new w #[.slice a N c] 27
  have dX : Below w.heap.size w (w.alloc (.cells #[.slice a N c] 27)) := below_box (Below.refl _ _)
  have c0 := MX.2.1 0 _ rfl
  have hT : Hid (ChOk N U ⟨gn, gf⟩ → pB (ChOk N U ⟨gn, gf⟩) = true) := pB_t
  have hF : Hid (¬ ChOk N U ⟨gn, gf⟩ → pB (ChOk N U ⟨gn, gf⟩) = false) := pB_f
  generalize pB (ChOk N U ⟨gn, gf⟩) = r at *
  by_cases hn : gn = N
  · have hnn : ((gn : Int) != (N : Int)) = false := by simp [hn]
    have hT' : Hid ((∀ i, i < N → -1 ≤ gf i ∧ gf i < ((U i).n : Int)) → r = true) := fun h => hT.out ⟨hn, h⟩
    have hF' : Hid (∀ i, i < N → ¬ (-1 ≤ gf i ∧ gf i < ((U i).n : Int)) → r = false) := fun i hi h => hF.out (fun k => h (k.2 i hi))
    clear hT hF
    rw [hn] at hP hnn ⊢
    clear hn
    go_enter Try.func72, Try.ntmps72
    go_wp2_with fail
    clear hnn
    go_loop [15] (fun y => ∃ k : Nat, y = .int .i64 k ∧ k ≤ N ∧ Hid (∀ j, j < k → -1 ≤ gf j ∧ gf j < ((U j).n : Int))) (fun y => N - (intOf y).toNat)
    case atStart => exact ⟨0, rfl, Nat.zero_le _, fun i hi => absurd hi (by omega)⟩
    case round =>
      obtain ⟨k, rfl, hk, hall⟩ := hrel
      by_cases hlt : k < N
      · obtain ⟨b, off, a0, q0, rfl, hbw, u0, hq0, _⟩ := hR k hlt
        replace u0 := (dX.cell (p := ⟨b, off + k, none⟩) hbw).trans u0
        obtain ⟨b1, off1, rfl, hb1, u1⟩ := hP k hlt
        replace u1 := (dX.cell (p := ⟨b1, off1 + k, none⟩) hb1).trans u1
        have hlt' : (k : Int) < (N : Int) := by omega
        by_cases g0 : gf k < -1
        · have hE := hide (hF'.out k hlt (fun h => by have := h.1; omega))
          clear hT' hF' hall hR hP
          generalize gf k = z at *
          go_wp2_with fail
          go_ret
          exact ⟨by rw [hE.out]; rfl, dX⟩
        · by_cases g1 : gf k ≥ ((U k).n : Int)
          · have hE := hide (hF'.out k hlt (fun h => by have := h.2; omega))
            clear hT' hF' hall hR hP
            generalize gf k = z at *
            generalize (U k).n = m at *
            go_wp2_with fail
            go_ret
            exact ⟨by rw [hE.out]; rfl, dX⟩
          · have hN : Hid (∀ j, j < k + 1 → -1 ≤ gf j ∧ gf j < ((U j).n : Int)) := fun j hj => by
              by_cases e : j = k
              · subst e; exact ⟨by omega, by omega⟩
              · exact hall.out j (by omega)
            clear hT' hF' hall hR hP
            generalize gf k = z at *
            generalize (U k).n = m at *
            go_wp2_with fail
            exact ⟨⟨k + 1, by go_num, by omega, hN⟩, by simp [intOf]; omega⟩
      · have hlt' : ¬ (k : Int) < (N : Int) := by omega
        obtain rfl : k = N := by omega
        have hE := hide (hT'.out hall.out)
        clear hall hT' hF'
        go_wp2_with fail
        go_ret
        exact ⟨by rw [hE.out]; rfl, dX⟩
  · have hnn : ((gn : Int) != (N : Int)) = true := by simp; omega
    have hE := hide (hF.out (fun h => hn h.1))
    clear hT hF hn
    generalize gn = n at *
    go_enter Try.func72, Try.ntmps72
    go_wp2_with fail
    go_ret
    exact ⟨by rw [hE.out]; rfl, dX⟩
set_option maxRecDepth 100000 in
set_option maxHeartbeats 3200000 in
theorem s_best10 (a : Option Addr) (N c : Nat) (U : Nat → Pl) (f : Nat → Int) (v : Nat) (ga : Option Addr) (gc : Nat) (w : World) (hG : GS N U) (hC : Chs N U f) (hv : v < N) (hR : RowK3 a N U w) (hP : RowInt ga N f w) :
    Calls Try.prog 73 #[.agg #[.slice a N c], .slice ga N gc, .int .i64 ((v : Int) + 1)] w fun e w' => e = .returned (.int .i64 (bst U f v)) ∧ Below w.heap.size w w' := by
  have hT : Hid (∀ k, k < (U v).n → Had U f ((U v).T k) → (∀ j, j < k → ¬ Had U f ((U v).T j)) → bst U f v = (k : Int)) := fun k h1 h2 h3 => fI_first h1 h2 h3
  have hF : Hid ((∀ i, i < (U v).n → ¬ Had U f ((U v).T i)) → bst U f v = -1) := fun h => fI_none h
  generalize bst U f v = r at *
  have dX : Below w.heap.size w (w.alloc (.cells #[.slice a N c] 27)) := below_box (Below.refl _ _)
  have MX := Mut.new w #[.slice a N c] 27
  have c0 := MX.2.1 0 _ rfl
  obtain ⟨b, off, a0, q0, ha, hbw, u0, hq0, ht⟩ := hR v hv
  subst ha
  replace u0 := (dX.cell (p := ⟨b, off + v, none⟩) hbw).trans u0
  have hv' : (v : Int) < (N : Int) := by omega
  have hN5 : (N : Int) ≤ 5 := by have := hG.2.1; omega
  have e1 : (v : Int) + 1 - 1 = (v : Int) := by omega
  have hm6 := (hG.low v hv).1
  have S := hide (fun a0 a1 c0 c1 p q w hp hq R Q => s_same a0 a1 c0 c1 p q w hp hq R Q)
  have hOk := hide (fun k hk => And.intro ((hG.2.2 v hv).2 k hk).1 ((hG.low v hv).2 k hk))
  have hLow := hide hG.low
  generalize hm : (U v).n = m at *
  have hm1 : (m : Int) ≤ 6 := by omega
  go_enter Try.func73, Try.ntmps73
  go_wp2_with fail
  generalize w.alloc (.cells #[.slice (some ⟨b, off, none⟩) N c] 27) = wx at *
  clear u0 c0
  go_loopw [17] (fun y wr => ∃ k : Nat, y = .int .i64 k ∧ k ≤ m ∧ Hid (∀ j, j < k → ¬ Had U f ((U v).T j)) ∧ Below wx.heap.size wx wr) (fun y _ => m - (intOf y).toNat)
  case atStart => exact ⟨0, rfl, Nat.zero_le _, fun j hj => absurd hj (by omega), Below.refl _ _⟩
  case round =>
    obtain ⟨k, rfl, hk, hall, hb⟩ := hrel
    have MY := MX.below hb
    have c0 := MY.2.1 0 _ rfl
    have dY := dX.trans (hb.mono dX.size)
    by_cases hlt : k < m
    · obtain ⟨b1, off1, a1, c1, rfl, hb1, u1, hc1, ht1⟩ := (ht.below dY) k hlt
      have hlt' : (k : Int) < (m : Int) := by omega
      obtain ⟨hw, hs6⟩ := hOk.out k hlt
      by_cases h2 : ((U v).T k).n = 2
      · have hE := hide (hT.out k hlt (had_two h2) hall.out)
        rw [h2] at u1
        clear hall hT hF ht ht1 S hw hOk hLow hG hC
        go_wp2_with fail
        go_ret
        exact ⟨by rw [hE.out]; rfl, dY⟩
      · have h2' : ((((U v).T k).n : Int) == 2) = false := by simp; omega
        have h23 : 2 < ((U v).T k).n := by have := hw.1; omega
        obtain ⟨n1, n2, n3, n4⟩ := hw.next h23
        obtain ⟨b2, off2, rfl, hb2, u2⟩ := ht1 1 (by omega)
        have hQ := hide (RowInt.tail rfl ht1)
        generalize hx : nx ((U v).T k) = x at *
        have n4' : ((U v).T k).f 1 - 1 = (x : Int) := by omega
        obtain ⟨b3, off3, rfl, hb3, u3⟩ := (hP.below dY) x n3
        have hx' : (x : Int) < (N : Int) := by omega
        have k1 : (1 : Int) < (((U v).T k).n : Int) := by omega
        have k2 : (1 : Int) ≤ (((U v).T k).n : Int) := by omega
        have k3 : (((U v).T k).n : Int) ≤ (c1 : Int) := by omega
        have k4 : c1 ≠ 1 := by omega
        have hf := hC x n3
        by_cases hfx : 0 ≤ f x
        · obtain ⟨j, hj⟩ := Int.eq_ofNat_of_zero_le hfx
          rw [hj] at u3
          obtain ⟨b4, off4, a4, c4, hab, hb4, u4, hc4, ht4⟩ := (hR.below dY) x n3
          simp only [Option.some.injEq, Addr.mk.injEq, and_true] at hab
          obtain ⟨rfl, rfl⟩ := hab
          obtain ⟨b5, off5, a5, c5, rfl, hb5, u5, hc5, ht5⟩ := ht4 j (by omega)
          have hl4 := hLow.out x n3
          have hl5 := hl4.2 j (by omega)
          have SS := hide (fun w R Q => S.out a5 (some ⟨b2, off2 + 1, none⟩) c5 (c1 - 1) ((U x).T j) (tl ((U v).T k)) w (by omega) (by show ((U v).T k).n - 1 ≤ _; omega) R Q)
          have hT5 := hide ht5
          have hj' : (j : Int) < ((U x).n : Int) := by omega
          have hiff := had_iff (U := U) (f := f) h23 hx hj
          have hN6 : ((U x).n : Int) ≤ 6 := by omega
          have tln : (tl ((U v).T k)).n = ((U v).T k).n - 1 := rfl
          rw [tln] at SS hQ
          clear tln
          by_cases he : Same ((U x).T j) (tl ((U v).T k))
          · rw [pB_t he] at SS
            have hE := hide (hT.out k hlt (hiff.2 he) hall.out)
            clear hall hT hF ht ht1 ht4 ht5 S hw hOk hLow hG hC he hiff hl4 hl5 hf hj hfx
            generalize ((U v).T k).f 1 = y1 at *
            generalize ((U v).T k).n = tn at *
            generalize ((U x).T j).n = tm at *
            generalize (U x).n = mx at *
            go_wp2_with fail
            have q0 := cell_regrown c0
            have q2 := cell_regrown u2
            have q4 := cell_regrown u4
            have q5 := cell_regrown u5
            clear c0 u1 u2 u3 u4 u5
            refine wp_region_quiet_below (by kernel_rfl) (by kernel_rfl) ?_
            repeat (first | go_big_quiet_step ((first | (go_at_call 89; exact Calls.regrown_of (SS.out _ (hT5.out.below (below_regrown _ _ _)) (hQ.out.below (below_regrown _ _ _)))))) | quiet_step ((first | (go_at_call 89; exact Calls.regrown_of (SS.out _ (hT5.out.below (below_regrown _ _ _)) (hQ.out.below (below_regrown _ _ _)))))))
            refine wpQuiet_nil ?_
            intro _ hw'
            obtain ⟨⟨dq_, osq_⟩, hw''⟩ := hw'
            subst hw''
            have hq_ := below_regrown wr dq_ osq_
            generalize Go.Sort.grow (redrawn wr dq_) osq_ = wdq at hq_ ⊢
            have dq := dY.trans (hq_.mono dY.size)
            clear hq_ q0 q2 q4 q5
            go_wp2_with fail
            go_ret
            exact ⟨by rw [hE.out]; rfl, dq⟩
          · rw [pB_f he] at SS
            have hN : Hid (∀ j, j < k + 1 → ¬ Had U f ((U v).T j)) := fun q hq => by
              by_cases e : q = k
              · subst e; exact fun h => he (hiff.1 h)
              · exact hall.out q (by omega)
            clear hall hT hF ht ht1 ht4 ht5 S hw hOk hLow hG hC he hiff hl4 hl5 hf hj hfx
            generalize ((U v).T k).f 1 = y1 at *
            generalize ((U v).T k).n = tn at *
            generalize ((U x).T j).n = tm at *
            generalize (U x).n = mx at *
            go_wp2_with fail
            have q0 := cell_regrown c0
            have q2 := cell_regrown u2
            have q4 := cell_regrown u4
            have q5 := cell_regrown u5
            clear c0 u1 u2 u3 u4 u5
            refine wp_region_quiet_below (by kernel_rfl) (by kernel_rfl) ?_
            repeat (first | go_big_quiet_step ((first | (go_at_call 89; exact Calls.regrown_of (SS.out _ (hT5.out.below (below_regrown _ _ _)) (hQ.out.below (below_regrown _ _ _)))))) | quiet_step ((first | (go_at_call 89; exact Calls.regrown_of (SS.out _ (hT5.out.below (below_regrown _ _ _)) (hQ.out.below (below_regrown _ _ _)))))))
            refine wpQuiet_nil ?_
            intro _ hw'
            obtain ⟨⟨dq_, osq_⟩, hw''⟩ := hw'
            subst hw''
            have hq_ := below_regrown wr dq_ osq_
            generalize Go.Sort.grow (redrawn wr dq_) osq_ = wdq at hq_ ⊢
            have dq := hb.trans (hq_.mono hb.size)
            clear hq_ q0 q2 q4 q5
            go_wp2_with fail
            exact ⟨⟨k + 1, by go_num, by omega, hN, dq⟩, by simp [intOf]; omega⟩
        · have hno := had_not (U := U) (f := f) h23 hx (by omega)
          have hN : Hid (∀ j, j < k + 1 → ¬ Had U f ((U v).T j)) := fun q hq => by
            by_cases e : q = k
            · subst e; exact hno
            · exact hall.out q (by omega)
          have hfx' : decide (0 ≤ f x) = false := decide_eq_false hfx
          clear hall hT hF ht ht1 S hw hOk hLow hG hC hno hf hfx
          generalize ((U v).T k).f 1 = y1 at *
          generalize ((U v).T k).n = tn at *
          generalize f x = z at *
          go_wp2_with fail
          clear c0 u1 u2 u3
          refine wp_region_quiet_below (by kernel_rfl) (by kernel_rfl) ?_
          repeat (first | go_big_quiet_step (fail) | quiet_step (fail))
          refine wpQuiet_nil ?_
          intro _ hw'
          obtain ⟨⟨dq_, osq_⟩, hw''⟩ := hw'
          subst hw''
          have hq_ := below_regrown wr dq_ osq_
          generalize Go.Sort.grow (redrawn wr dq_) osq_ = wdq at hq_ ⊢
          have dq := hb.trans (hq_.mono hb.size)
          clear hq_ 
          go_wp2_with fail
          exact ⟨⟨k + 1, by go_num, by omega, hN, dq⟩, by simp [intOf]; omega⟩
    · have hlt' : ¬ (k : Int) < (m : Int) := by omega
      obtain rfl : k = m := by omega
      have hE := hide (hF.out hall.out)
      clear hall hT hF
      go_wp2_with fail
      go_ret
      exact ⟨by rw [hE.out]; rfl, dY⟩
set_option maxRecDepth 100000 in
set_option maxHeartbeats 1600000 in
theorem s_stable10 (a : Option Addr) (N c : Nat) (U : Nat → Pl) (f : Nat → Int) (ga : Option Addr) (gc : Nat) (w : World) (hG : GS N U) (hC : Chs N U f) (hR : RowK3 a N U w) (hP : RowInt ga N f w) :
    Calls Try.prog 77 #[.agg #[.slice a N c], .slice ga N gc] w fun e w' => e = .returned (.bool (pB (Stb N U f))) ∧ Below w.heap.size w w' := by
  have hT : Hid (Stb N U f → pB (Stb N U f) = true) := pB_t
  have hF : Hid (¬ Stb N U f → pB (Stb N U f) = false) := pB_f
  generalize pB (Stb N U f) = r at *
  have MX := Mut.new w #[.slice a N c] 27
  have dX : Below w.heap.size w (w.alloc (.cells #[.slice a N c] 27)) := below_box (Below.refl _ _)
  have c0 := MX.2.1 0 _ rfl
  have hN5 : (N : Int) ≤ 5 := by have := hG.2.1; omega
  have B := hide (fun v w hv R P => s_best10 a N c U f v ga gc w hG hC hv R P)
  go_enter Try.func77, Try.ntmps77
  go_wp2_with fail
  generalize w.alloc (.cells #[.slice a N c] 27) = wx at *
  go_loopw [9] (fun y wr => ∃ k : Nat, y = .int .i64 k ∧ k ≤ N ∧ Hid (∀ j, j < k → bst U f j = f j) ∧ Below wx.heap.size wx wr) (fun y _ => N - (intOf y).toNat)
  case atStart => exact ⟨0, rfl, Nat.zero_le _, fun i hi => absurd hi (by omega), Below.refl _ _⟩
  case round =>
    obtain ⟨k, rfl, hk, hall, hb⟩ := hrel
    have MY := MX.below hb
    have c0 := MY.2.1 0 _ rfl
    have dY := dX.trans (hb.mono dX.size)
    by_cases hlt : k < N
    · obtain ⟨b1, off1, rfl, hb1, u1⟩ := (hP.below dY) k hlt
      have hlt' : (k : Int) < (N : Int) := by omega
      have BK := hide (fun w R P => B.out k w hlt R P)
      have RY := hide (hR.below dY)
      have PY := hide (hP.below dY)
      by_cases he : bst U f k = f k
      · have hN : Hid (∀ j, j < k + 1 → bst U f j = f j) := fun j hj => by
          by_cases e : j = k
          · subst e; exact he
          · exact hall.out j (by omega)
        have he' : (bst U f k != f k) = false := by simp [he]
        clear hall hT hF hR hP he B hC hG
        generalize bst U f k = x at *
        generalize f k = y at *
        go_wp2_with fail
        refine (BK.out _ RY.out PY.out).mono ?_
        rintro e w3 ⟨rfl, b3⟩
        have d3 := hb.trans (b3.mono hb.size)
        clear b3
        go_wp2_with fail
        exact ⟨⟨k + 1, by go_num, by omega, hN, d3⟩, by simp [intOf]; omega⟩
      · have hE := hide (hF.out (fun h => he (h k hlt)))
        have he' : (bst U f k != f k) = true := by simpa using he
        clear hall hT hF hR hP he B hC hG
        generalize bst U f k = x at *
        generalize f k = y at *
        go_wp2_with fail
        refine (BK.out _ RY.out PY.out).mono ?_
        rintro e w3 ⟨rfl, b3⟩
        have d3 := dY.trans (b3.mono dY.size)
        clear b3
        go_wp2_with fail
        go_ret
        exact ⟨by rw [hE.out]; rfl, d3⟩
    · have hlt' : ¬ (k : Int) < (N : Int) := by omega
      obtain rfl : k = N := by omega
      have hE := hide (hT.out hall.out)
      clear hall hT hF hR hP B hC hG
      go_wp2_with fail
      go_ret
      exact ⟨by rw [hE.out]; rfl, dY⟩
set_option maxRecDepth 100000 in
set_option maxHeartbeats 1600000 in
theorem s_bestForE (a : Option Addr) (N c : Nat) (U : Nat → Pl) (gn : Nat) (gf : Nat → Int) (ga : Option Addr) (gc : Nat) (nd : Int) (w : World) (hN : N ≤ 1048576) (hl : LowS N U) (hR : RowK3 a N U w) (hP : RowInt ga gn gf w) :
    Calls Try.prog 20 #[.agg #[.slice a N c], .slice ga gn gc, .int .i64 nd] w fun e w' => e = .returned (.tuple #[.int .i64 (bfV N U ⟨gn, gf⟩ nd), .bool (bfB N U ⟨gn, gf⟩ nd)]) ∧ Below w.heap.size w w' := by
  have MX := Mut.new w #[.slice a N c] 27
  have dX : Below w.heap.size w (w.alloc (.cells #[.slice a N c] 27)) := below_box (Below.refl _ _)
  have c0 := MX.2.1 0 _ rfl
  have SG := hide (fun w R => s_goodSpp a N c U w hN hl R)
  have SC := hide (fun w R P => s_chosen10 a N c U gn gf ga gc w hN R P)
  have hno : Hid (¬ BfOk N U ⟨gn, gf⟩ nd → bfV N U ⟨gn, gf⟩ nd = 0 ∧ bfB N U ⟨gn, gf⟩ nd = false) := fun h => by
    have e : bfB N U ⟨gn, gf⟩ nd = false := pB_f h
    refine ⟨?_, e⟩
    unfold bfV; rw [e]; rfl
  have hyes : Hid (BfOk N U ⟨gn, gf⟩ nd → bfV N U ⟨gn, gf⟩ nd = bst U gf (nd.toNat - 1) ∧ bfB N U ⟨gn, gf⟩ nd = true) := fun h => by
    have e : bfB N U ⟨gn, gf⟩ nd = true := pB_t h
    refine ⟨?_, e⟩
    unfold bfV; rw [e]; rfl
  generalize bfV N U ⟨gn, gf⟩ nd = r0 at *
  generalize bfB N U ⟨gn, gf⟩ nd = r1 at *
  by_cases hG : GS N U
  · rw [show gsB N U = true from pB_t hG] at SG
    by_cases hC : ChOk N U ⟨gn, gf⟩
    · rw [pB_t hC] at SC
      by_cases h1 : nd < 1
      · obtain ⟨rfl, rfl⟩ := hno.out (fun h => by have := h.2.1; omega)
        clear hyes hno hG hC
        go_enter Try.func20, Try.ntmps20
        go_wp2_with fail
        refine (SG.out _ (hR.below dX)).mono ?_
        rintro e w1 ⟨rfl, b1⟩
        replace MX := MX.below b1
        replace dX := dX.trans (b1.mono dX.size)
        have c0 := MX.2.1 0 _ rfl
        clear b1
        go_wp2_with fail
        refine (SC.out _ (hR.below dX) (hP.below dX)).mono ?_
        rintro e w2 ⟨rfl, b2⟩
        replace dX := dX.trans (b2.mono dX.size)
        clear b2 c0
        go_wp2_with fail
        go_ret2
        exact ⟨rfl, dX⟩
      · by_cases h2 : nd > (N : Int)
        · obtain ⟨rfl, rfl⟩ := hno.out (fun h => by have := h.2.2; omega)
          clear hyes hno hG hC
          go_enter Try.func20, Try.ntmps20
          go_wp2_with fail
          refine (SG.out _ (hR.below dX)).mono ?_
          rintro e w1 ⟨rfl, b1⟩
          replace MX := MX.below b1
          replace dX := dX.trans (b1.mono dX.size)
          have c0 := MX.2.1 0 _ rfl
          clear b1
          go_wp2_with fail
          refine (SC.out _ (hR.below dX) (hP.below dX)).mono ?_
          rintro e w2 ⟨rfl, b2⟩
          replace MX := MX.below b2
          replace dX := dX.trans (b2.mono dX.size)
          have c0 := MX.2.1 0 _ rfl
          clear b2
          go_wp2_with fail
          go_ret2
          exact ⟨rfl, dX⟩
        · obtain ⟨rfl, rfl⟩ := hyes.out ⟨⟨hG, hC⟩, by omega, by omega⟩
          have hgn : gn = N := hC.1
          subst hgn
          have SB := hide (fun w R P => s_best10 a gn c U gf (nd.toNat - 1) ga gc w hG hC.2 (by omega) R P)
          rw [show ((nd.toNat - 1 : Nat) : Int) + 1 = nd by omega] at SB
          generalize bst U gf (nd.toNat - 1) = r at *
          clear hyes hno hG hC
          go_enter Try.func20, Try.ntmps20
          go_wp2_with fail
          refine (SG.out _ (hR.below dX)).mono ?_
          rintro e w1 ⟨rfl, b1⟩
          replace MX := MX.below b1
          replace dX := dX.trans (b1.mono dX.size)
          have c0 := MX.2.1 0 _ rfl
          clear b1
          go_wp2_with fail
          refine (SC.out _ (hR.below dX) (hP.below dX)).mono ?_
          rintro e w2 ⟨rfl, b2⟩
          replace MX := MX.below b2
          replace dX := dX.trans (b2.mono dX.size)
          have c0 := MX.2.1 0 _ rfl
          clear b2
          go_wp2_with fail
          refine (SB.out _ (hR.below dX) (hP.below dX)).mono ?_
          rintro e w3 ⟨rfl, b3⟩
          replace dX := dX.trans (b3.mono dX.size)
          clear b3 c0
          go_wp2_with fail
          go_ret2
          exact ⟨rfl, dX⟩
    · rw [pB_f hC] at SC
      obtain ⟨rfl, rfl⟩ := hno.out (fun h => hC h.1.2)
      clear hyes hno hG hC
      go_enter Try.func20, Try.ntmps20
      go_wp2_with fail
      refine (SG.out _ (hR.below dX)).mono ?_
      rintro e w1 ⟨rfl, b1⟩
      replace MX := MX.below b1
      replace dX := dX.trans (b1.mono dX.size)
      have c0 := MX.2.1 0 _ rfl
      clear b1
      go_wp2_with fail
      refine (SC.out _ (hR.below dX) (hP.below dX)).mono ?_
      rintro e w2 ⟨rfl, b2⟩
      replace dX := dX.trans (b2.mono dX.size)
      clear b2 c0
      go_wp2_with fail
      go_ret2
      exact ⟨rfl, dX⟩
  · rw [show gsB N U = false from pB_f hG] at SG
    obtain ⟨rfl, rfl⟩ := hno.out (fun h => hG h.1.1)
    clear hyes hno hG SC
    go_enter Try.func20, Try.ntmps20
    go_wp2_with fail
    refine (SG.out _ (hR.below dX)).mono ?_
    rintro e w1 ⟨rfl, b1⟩
    replace dX := dX.trans (b1.mono dX.size)
    clear b1 c0
    go_wp2_with fail
    go_ret2
    exact ⟨rfl, dX⟩
set_option maxRecDepth 100000 in
set_option maxHeartbeats 1600000 in
theorem s_isStableE (a : Option Addr) (N c : Nat) (U : Nat → Pl) (gn : Nat) (gf : Nat → Int) (ga : Option Addr) (gc : Nat) (w : World) (hN : N ≤ 1048576) (hl : LowS N U) (hR : RowK3 a N U w) (hP : RowInt ga gn gf w) :
    Calls Try.prog 24 #[.agg #[.slice a N c], .slice ga gn gc] w fun e w' => e = .returned (.tuple #[.bool (isV N U ⟨gn, gf⟩), .bool (chB N U ⟨gn, gf⟩)]) ∧ Below w.heap.size w w' := by
  have MX := Mut.new w #[.slice a N c] 27
  have dX : Below w.heap.size w (w.alloc (.cells #[.slice a N c] 27)) := below_box (Below.refl _ _)
  have c0 := MX.2.1 0 _ rfl
  have SG := hide (fun w R => s_goodSpp a N c U w hN hl R)
  have SC := hide (fun w R P => s_chosen10 a N c U gn gf ga gc w hN R P)
  by_cases hG : GS N U
  · rw [show gsB N U = true from pB_t hG] at SG
    by_cases hC : ChOk N U ⟨gn, gf⟩
    · rw [pB_t hC] at SC
      have hgn : gn = N := hC.1
      subst hgn
      have SB := hide (fun w R P => s_stable10 a gn c U gf ga gc w hG hC.2 R P)
      have e1 : chB gn U ⟨gn, gf⟩ = true := pB_t ⟨hG, hC⟩
      have e0 : isV gn U ⟨gn, gf⟩ = pB (Stb gn U gf) := pB_congr ⟨fun h => h.2, fun h => ⟨⟨hG, hC⟩, h⟩⟩
      rw [e1, e0]
      generalize pB (Stb gn U gf) = r at *
      clear hG hC e1 e0
      go_enter Try.func24, Try.ntmps24
      go_wp2_with fail
      refine (SG.out _ (hR.below dX)).mono ?_
      rintro e w1 ⟨rfl, b1⟩
      replace MX := MX.below b1
      replace dX := dX.trans (b1.mono dX.size)
      have c0 := MX.2.1 0 _ rfl
      clear b1
      go_wp2_with fail
      refine (SC.out _ (hR.below dX) (hP.below dX)).mono ?_
      rintro e w2 ⟨rfl, b2⟩
      replace MX := MX.below b2
      replace dX := dX.trans (b2.mono dX.size)
      have c0 := MX.2.1 0 _ rfl
      clear b2
      go_wp2_with fail
      refine (SB.out _ (hR.below dX) (hP.below dX)).mono ?_
      rintro e w3 ⟨rfl, b3⟩
      replace dX := dX.trans (b3.mono dX.size)
      clear b3 c0
      go_wp2_with fail
      go_ret2
      exact ⟨rfl, dX⟩
    · rw [pB_f hC] at SC
      have e1 : chB N U ⟨gn, gf⟩ = false := pB_f (fun h => hC h.2)
      have e0 : isV N U ⟨gn, gf⟩ = false := pB_f (fun h => hC h.1.2)
      rw [e1, e0]
      clear hG hC e1 e0
      go_enter Try.func24, Try.ntmps24
      go_wp2_with fail
      refine (SG.out _ (hR.below dX)).mono ?_
      rintro e w1 ⟨rfl, b1⟩
      replace MX := MX.below b1
      replace dX := dX.trans (b1.mono dX.size)
      have c0 := MX.2.1 0 _ rfl
      clear b1
      go_wp2_with fail
      refine (SC.out _ (hR.below dX) (hP.below dX)).mono ?_
      rintro e w2 ⟨rfl, b2⟩
      replace dX := dX.trans (b2.mono dX.size)
      clear b2 c0
      go_wp2_with fail
      go_ret2
      exact ⟨rfl, dX⟩
  · rw [show gsB N U = false from pB_f hG] at SG
    have e1 : chB N U ⟨gn, gf⟩ = false := pB_f (fun h => hG h.1)
    have e0 : isV N U ⟨gn, gf⟩ = false := pB_f (fun h => hG h.1.1)
    rw [e1, e0]
    clear hG SC e1 e0
    go_enter Try.func24, Try.ntmps24
    go_wp2_with fail
    refine (SG.out _ (hR.below dX)).mono ?_
    rintro e w1 ⟨rfl, b1⟩
    replace dX := dX.trans (b1.mono dX.size)
    clear b1 c0
    go_wp2_with fail
    go_ret2
    exact ⟨rfl, dX⟩
end Go.Proofs.Ytcnlabedlcmilaa
