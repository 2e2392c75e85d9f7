/- What can be chosen, the first path that can be had, and what is stable, by the program. -/
import Derived.Test.YtcnlabedlcmilaaG10i
namespace Go.Proofs.Ytcnlabedlcmilaa
open Go.RowKit
set_option maxRecDepth 100000 in
set_option maxHeartbeats 1600000 in
theorem i_chosen10 (a : Option Addr) (N c : Nat) (U : Nat → Pl) (gn : Nat) (gf : Nat → Int) (ga : Option Addr) (gc : Nat) (w : World) (hN : N ≤ 1048576) (hl : LowS N U) (hR : RowK3 a N U w) (hP : RowInt ga gn gf w) :
    Calls Try.prog 74 #[.agg #[.slice a N c], .slice ga gn gc] w fun e w' => e = .returned (.bool (chB N U ⟨gn, gf⟩)) ∧ Below w.heap.size w w' := by
  have MX := Mut.new w #[.slice a N c] 27
  have dX : Below w.heap.size w (w.alloc (.cells #[.slice a N c] 27)) := below_box (Below.refl _ _)
  have c0 := MX.2.1 0 _ rfl
  have SG := hide (fun w R => i_goodSpp a N c U w hN hl R)
  by_cases hG : GS N U
  · rw [show gsB N U = true from pB_t hG] at SG
    have hT : Hid (ChOk N U ⟨gn, gf⟩ → chB N U ⟨gn, gf⟩ = true) := fun h => pB_t ⟨hG, h⟩
    have hF : Hid (¬ ChOk N U ⟨gn, gf⟩ → chB N U ⟨gn, gf⟩ = false) := fun h => pB_f (fun k => h k.2)
    generalize chB N U ⟨gn, gf⟩ = r at *
    clear hG hl
    by_cases hn : gn = N
    · have hnn : ((gn : Int) != (N : Int)) = false := by simp [hn]
      have hT' : Hid ((∀ i, i < N → -1 ≤ gf i ∧ gf i < ((U i).n : Int)) → r = true) := fun h => hT.out ⟨hn, h⟩
      have hF' : Hid (∀ i, i < N → ¬ (-1 ≤ gf i ∧ gf i < ((U i).n : Int)) → r = false) := fun i hi h => hF.out (fun k => h (k.2 i hi))
      clear hT hF
      rw [hn] at hP hnn ⊢
      clear hn
      go_enter Try.func74, Try.ntmps74
      go_wp2_with fail
      refine (SG.out _ (hR.below dX)).mono ?_
      rintro e w1 ⟨rfl, b1⟩
      replace MX := MX.below b1
      replace dX := dX.trans (b1.mono dX.size)
      have c0 := MX.2.1 0 _ rfl
      clear b1 SG
      go_wp2_with fail
      clear hnn
      go_loop [20] (fun y => ∃ k : Nat, y = .int .i64 k ∧ k ≤ N ∧ Hid (∀ j, j < k → -1 ≤ gf j ∧ gf j < ((U j).n : Int))) (fun y => N - (intOf y).toNat)
      case atStart => exact ⟨0, rfl, Nat.zero_le _, fun i hi => absurd hi (by omega)⟩
      case round =>
        obtain ⟨k, rfl, hk, hall⟩ := hrel
        by_cases hlt : k < N
        · obtain ⟨b, off, a0, q0, rfl, hbw, u0, hq0, _⟩ := hR k hlt
          replace u0 := (dX.cell (p := ⟨b, off + k, none⟩) hbw).trans u0
          obtain ⟨b1, off1, rfl, hb1, u1⟩ := hP k hlt
          replace u1 := (dX.cell (p := ⟨b1, off1 + k, none⟩) hb1).trans u1
          have hlt' : (k : Int) < (N : Int) := by omega
          by_cases g0 : gf k < -1
          · have hE := hide (hF'.out k hlt (fun h => by have := h.1; omega))
            clear hT' hF' hall hR hP
            generalize gf k = z at *
            go_wp2_with fail
            go_ret
            exact ⟨by rw [hE.out]; rfl, dX⟩
          · by_cases g1 : gf k ≥ ((U k).n : Int)
            · have hE := hide (hF'.out k hlt (fun h => by have := h.2; omega))
              clear hT' hF' hall hR hP
              generalize gf k = z at *
              generalize (U k).n = m at *
              go_wp2_with fail
              go_ret
              exact ⟨by rw [hE.out]; rfl, dX⟩
            · have hN : Hid (∀ j, j < k + 1 → -1 ≤ gf j ∧ gf j < ((U j).n : Int)) := fun j hj => by
                by_cases e : j = k
                · subst e; exact ⟨by omega, by omega⟩
                · exact hall.out j (by omega)
              clear hT' hF' hall hR hP
              generalize gf k = z at *
              generalize (U k).n = m at *
              go_wp2_with fail
              exact ⟨⟨k + 1, by go_num, by omega, hN⟩, by simp [intOf]; omega⟩
        · have hlt' : ¬ (k : Int) < (N : Int) := by omega
          obtain rfl : k = N := by omega
          have hE := hide (hT'.out hall.out)
          clear hall hT' hF'
          go_wp2_with fail
          go_ret
          exact ⟨by rw [hE.out]; rfl, dX⟩
    · have hnn : ((gn : Int) != (N : Int)) = true := by simp; omega
      have hE := hide (hF.out (fun h => hn h.1))
      clear hT hF hn
      generalize gn = n at *
      go_enter Try.func74, Try.ntmps74
      go_wp2_with fail
      refine (SG.out _ (hR.below dX)).mono ?_
      rintro e w1 ⟨rfl, b1⟩
      replace MX := MX.below b1
      replace dX := dX.trans (b1.mono dX.size)
      have c0 := MX.2.1 0 _ rfl
      clear b1 SG
      go_wp2_with fail
      go_ret
      exact ⟨by rw [hE.out]; rfl, dX⟩
  · rw [show gsB N U = false from pB_f hG] at SG
    have e1 : chB N U ⟨gn, gf⟩ = false := pB_f (fun h => hG h.1)
    rw [e1]
    clear hG e1 hl
    go_enter Try.func74, Try.ntmps74
    go_wp2_with fail
    refine (SG.out _ (hR.below dX)).mono ?_
    rintro e w1 ⟨rfl, b1⟩
    replace dX := dX.trans (b1.mono dX.size)
    clear b1 c0
    go_wp2_with fail
    go_ret
    exact ⟨rfl, dX⟩
set_option maxRecDepth 100000 in
set_option maxHeartbeats 800000 in
theorem i_isNode10 (a : Option Addr) (N c : Nat) (nd : Int) (w : World) :
    Calls Try.prog 75 #[.agg #[.slice a N c], .int .i64 nd] w fun e w' => e = .returned (.bool (pB (1 ≤ nd ∧ nd ≤ (N : Int)))) ∧ Below w.heap.size w w' := by
  have dX : Below w.heap.size w (w.alloc (.cells #[.slice a N c] 27)) := below_box (Below.refl _ _)
  by_cases h1 : 1 ≤ nd
  · by_cases h2 : nd ≤ (N : Int)
    · rw [pB_t ⟨h1, h2⟩]
      go_enter Try.func75, Try.ntmps75
      go_wp2_with fail
      go_ret
      exact ⟨rfl, dX⟩
    · rw [pB_f (fun h => h2 h.2)]
      go_enter Try.func75, Try.ntmps75
      go_wp2_with fail
      go_ret
      exact ⟨rfl, dX⟩
  · rw [pB_f (fun h => h1 h.1)]
    go_enter Try.func75, Try.ntmps75
    go_wp2_with fail
    go_ret
    exact ⟨rfl, dX⟩
set_option maxRecDepth 100000 in
set_option maxHeartbeats 1600000 in
theorem i_had10 (a : Option Addr) (N c : Nat) (U : Nat → Pl) (f : Nat → Int) (ga : Option Addr) (gc : Nat) (pa : Option Addr) (pc : Nat) (p : Lc) (v : Int) (w : World) (hG : GS N U) (hC : Chs N U f) (hw : Way N v p) (hs6 : p.n ≤ 6) (hc : p.n ≤ pc) (hR : RowK3 a N U w) (hP : RowInt ga N f w) (hQ : RowInt pa p.n p.f w) :
    Calls Try.prog 128 #[.agg #[.slice a N c], .slice ga N gc, .slice pa p.n pc] w fun e w' => e = .returned (.bool (pB (Had U f p))) ∧ Below w.heap.size w w' := by
  have dX : Below w.heap.size w (w.alloc (.cells #[.slice a N c] 27)) := below_box (Below.refl _ _)
  have MX := Mut.new w #[.slice a N c] 27
  have c0 := MX.2.1 0 _ rfl
  have hN5 : (N : Int) ≤ 5 := by have := hG.2.1; omega
  have h2n := hw.1
  obtain ⟨b2, off2, rfl, hb2, u2⟩ := (hQ.below dX) 1 (by omega)
  have RS := hide (fun w => i_rest10 b2 off2 pc p.n w h2n hc (by omega))
  by_cases h2 : p.n = 2
  · rw [pB_t (had_two h2)]
    rw [h2] at RS ⊢
    clear hw h2n hG hC hR hP hQ u2 h2 hs6 hc
    simp only [show decide ((2 : Int) < ((2 : Nat) : Int)) = false from rfl] at RS
    go_enter Try.func128, Try.ntmps128
    go_wp2_with fail
    refine (RS.out _).mono ?_
    rintro e w1 ⟨rfl, rfl⟩
    go_wp2_with fail
    go_ret
    exact ⟨rfl, dX⟩
  · have h23 : 2 < p.n := by omega
    rw [show decide ((2 : Int) < (p.n : Int)) = true from decide_eq_true (by omega)] at RS
    obtain ⟨n1, n2, n3, n4⟩ := hw.next h23
    have hQ' := hide (RowInt.tail rfl (hQ.below dX))
    generalize hx : nx p = x at *
    have n4' : p.f 1 - 1 = (x : Int) := by omega
    obtain ⟨b3, off3, rfl, hb3, u3⟩ := (hP.below dX) x n3
    have hx' : (x : Int) < (N : Int) := by omega
    have k1 : (0 : Int) < ((p.n - 1 : Nat) : Int) := by omega
    have hf := hC x n3
    rw [show off2 + 1 = off2 + 1 + 0 by omega] at u2
    by_cases hfx : 0 ≤ f x
    · obtain ⟨j, hj⟩ := Int.eq_ofNat_of_zero_le hfx
      rw [hj] at u3
      obtain ⟨b4, off4, a4, c4, rfl, hb4, u4, hc4, ht4⟩ := (hR.below dX) x n3
      obtain ⟨b5, off5, a5, c5, rfl, hb5, u5, hc5, ht5⟩ := ht4 j (by omega)
      have hl4 := hG.low x n3
      have hl5 := hl4.2 j (by omega)
      have SS := hide (fun w R Q => i_same a5 (some ⟨b2, off2 + 1, none⟩) c5 (pc - 1) ((U x).T j) (tl p) w (by omega) (by show p.n - 1 ≤ _; omega) R Q)
      have hT5 := hide ht5
      have hj' : (j : Int) < ((U x).n : Int) := by omega
      have hN6 : ((U x).n : Int) ≤ 6 := by omega
      have hjn : ((j : Int) != -1) = true := by simp
      have tln : (tl p).n = p.n - 1 := rfl
      rw [tln] at SS hQ'
      clear tln
      rw [pB_congr (had_iff (U := U) (f := f) h23 hx hj)]
      generalize pB (Same ((U x).T j) (tl p)) = r at *
      clear hw hG hC hl4 hl5 hf hj hfx ht4 ht5 hR hP hQ
      generalize p.f 1 = y1 at *
      generalize hpn : p.n - 1 = tn at *
      generalize p.n = pn at *
      generalize ((U x).T j).n = tm at *
      generalize (U x).n = mx at *
      go_enter Try.func128, Try.ntmps128
      go_wp2_with fail
      generalize w.alloc (.cells #[.slice (some ⟨b4, off4, none⟩) N c] 27) = wx at *
      refine (RS.out _).mono ?_
      rintro e w1 ⟨rfl, hw1⟩
      rw [hw1]; clear hw1 w1
      rw [Nat.add_zero] at u2
      go_wp2_with fail
      have q0 := cell_regrown c0
      have q2 := cell_regrown u3
      have q4 := cell_regrown u4
      have q5 := cell_regrown u5
      clear c0 u2 u3 u4 u5
      refine wp_region_quiet_below (by kernel_rfl) (by kernel_rfl) ?_
      repeat (first | go_big_quiet_step ((first | (go_at_call 132; exact Calls.regrown_of (SS.out _ (hT5.out.below (below_regrown _ _ _)) (hQ'.out.below (below_regrown _ _ _)))))) | quiet_step ((first | (go_at_call 132; exact Calls.regrown_of (SS.out _ (hT5.out.below (below_regrown _ _ _)) (hQ'.out.below (below_regrown _ _ _)))))))
      refine wpQuiet_nil ?_
      intro _ hw'
      obtain ⟨⟨dq_, osq_⟩, hw''⟩ := hw'
      subst hw''
      have hq_ := below_regrown wx dq_ osq_
      generalize Go.Sort.grow (redrawn wx dq_) osq_ = wdq at hq_ ⊢
      have dq := dX.trans (hq_.mono dX.size)
      clear hq_ q0 q2 q4 q5
      go_wp2_with fail
      go_ret
      exact ⟨rfl, dq⟩
    · rw [pB_f (had_not (U := U) (f := f) h23 hx (by omega))]
      have hf1 : f x = -1 := by omega
      rw [hf1] at u3
      have hjn : ((-1 : Int) != -1) = false := by simp
      clear hw hG hC hf hfx hf1 hR hP hQ
      generalize p.f 1 = y1 at *
      generalize hpn : p.n - 1 = tn at *
      generalize p.n = pn at *
      go_enter Try.func128, Try.ntmps128
      go_wp2_with fail
      generalize w.alloc (.cells #[.slice a N c] 27) = wx at *
      refine (RS.out _).mono ?_
      rintro e w1 ⟨rfl, hw1⟩
      rw [hw1]; clear hw1 w1
      rw [Nat.add_zero] at u2
      go_wp2_with fail
      have q2 := cell_regrown u3
      clear c0 u2 u3
      refine wp_region_quiet_below (by kernel_rfl) (by kernel_rfl) ?_
      repeat (first | go_big_quiet_step (fail) | quiet_step (fail))
      refine wpQuiet_nil ?_
      intro _ hw'
      obtain ⟨⟨dq_, osq_⟩, hw''⟩ := hw'
      subst hw''
      have hq_ := below_regrown wx dq_ osq_
      generalize Go.Sort.grow (redrawn wx dq_) osq_ = wdq at hq_ ⊢
      have dq := dX.trans (hq_.mono dX.size)
      clear hq_ q2
      go_wp2_with fail
      go_ret
      exact ⟨rfl, dq⟩
set_option maxRecDepth 100000 in
set_option maxHeartbeats 800000 in
theorem i_hadC (a : Option Addr) (N c : Nat) (U : Nat → Pl) (f : Nat → Int) (ga : Option Addr) (gc : Nat) (pa : Option Addr) (pc : Nat) (p : Lc) (v : Int) (s g : Nat) (w : World) (hG : GS N U) (hC : Chs N U f) (hw : Way N v p) (hs6 : p.n ≤ 6) (hc : p.n ≤ pc) (hR : RowK3 a N U w) (hP : RowInt ga N f w) (hQ : RowInt pa p.n p.f w) (hs : w.cell? ⟨s, 0, none⟩ = some (.slice a N c)) (hg : w.cell? ⟨g, 0, none⟩ = some (.slice ga N gc)) :
    Calls Try.prog 127 #[.slice pa p.n pc, .pointer (some ⟨s, 0, none⟩), .pointer (some ⟨g, 0, none⟩)] w fun e w' => e = .returned (.bool (pB (Had U f p))) ∧ Below w.heap.size w w' := by
  have H := hide (fun w R P Q => i_had10 a N c U f ga gc pa pc p v w hG hC hw hs6 hc R P Q)
  generalize pB (Had U f p) = r at *
  clear hG hC hw hs6 hc
  generalize p.n = pn at *
  go_enter Try.func127, Try.ntmps127
  go_wp2_with fail
  refine (H.out _ hR hP hQ).mono ?_
  rintro e w1 ⟨rfl, b1⟩
  go_wp2_with fail
  go_ret
  exact ⟨rfl, b1⟩
set_option maxRecDepth 100000 in
set_option maxHeartbeats 1600000 in
theorem i_idxHad (a : Option Addr) (n c : Nat) (T : Nat → Lc) (sa : Option Addr) (N sc : Nat) (U : Nat → Pl) (f : Nat → Int) (ga : Option Addr) (gc : Nat) (v : Int) (s g : Nat) (w : World) (hn : n ≤ 1048576) (hR : RowLK a n T w) (hG : GS N U) (hC : Chs N U f) (hw : ∀ k, k < n → Way N v (T k) ∧ (T k).n ≤ 6) (hS : RowK3 sa N U w) (hP : RowInt ga N f w) (hsl : s < w.heap.size) (hs : w.cell? ⟨s, 0, none⟩ = some (.slice sa N sc)) (hgl : g < w.heap.size) (hg : w.cell? ⟨g, 0, none⟩ = some (.slice ga N gc)) :
    Calls Try.prog 126 #[.slice a n c, .func (.func 127) #[] #[.pointer (some ⟨s, 0, none⟩), .pointer (some ⟨g, 0, none⟩)]] w fun e w' => e = .returned (.int .i64 (fI (fun k => Had U f (T k)) n)) ∧ Below w.heap.size w w' := by
  have hT : Hid (∀ k, k < n → Had U f (T k) → (∀ j, j < k → ¬ (fun k => Had U f (T k)) j) → fI (fun k => Had U f (T k)) n = (k : Int)) := fun k h1 h2 h3 => fI_first h1 h2 h3
  have hF : Hid ((∀ k, k < n → ¬ Had U f (T k)) → fI (fun k => Had U f (T k)) n = -1) := fun h => fI_none h
  generalize fI (fun k => Had U f (T k)) n = r at *
  go_enter Try.func126, Try.ntmps126
  go_wp2_with fail
  go_loopw [8] (fun y wr => ∃ k : Nat, y = .int .i64 k ∧ k ≤ n ∧ Hid (∀ k', k' < k → ¬ (fun k => Had U f (T k)) k') ∧ Below w.heap.size w wr) (fun y _ => n - (intOf y).toNat)
  case atStart => exact ⟨0, rfl, Nat.zero_le _, fun j hj => absurd hj (by omega), Below.refl _ _⟩
  case round =>
    obtain ⟨k, rfl, hk, hall, hb⟩ := hrel
    by_cases hlt : k < n
    · obtain ⟨b1, off1, a1, c1, rfl, hb1, u1, hc1, ht1⟩ := hR k hlt
      replace u1 := (hb.cell (p := ⟨b1, off1 + k, none⟩) hb1).trans u1
      have hlt' : (k : Int) < (n : Int) := by omega
      have R1 := hide (ht1.below hb)
      have SS := hide (fun w R P Q S G => i_hadC sa N sc U f ga gc a1 c1 (T k) v s g w hG hC (hw k hlt).1 (hw k hlt).2 hc1 R P Q S G)
      have S1 := hide (hS.below hb)
      have Q1 := hide (hP.below hb)
      have G1 := hide ((hb.cell (p := ⟨s, 0, none⟩) hsl).trans hs)
      have G2 := hide ((hb.cell (p := ⟨g, 0, none⟩) hgl).trans hg)
      by_cases he : Had U f (T k)
      · rw [pB_t he] at SS
        have hE := hide (hT.out k hlt he hall.out)
        clear hall hT hF hR ht1 he
        generalize (T k).n = tn at *
        go_wp2_with (first | (go_at_call 127; refine (SS.out _ S1.out Q1.out R1.out G1.out G2.out).mono ?_; rintro e w3 ⟨rfl, b3⟩; have d3 := hb.trans (b3.mono hb.size)))
        go_ret
        exact ⟨by rw [hE.out]; rfl, d3⟩
      · rw [pB_f he] at SS
        have hN : Hid (∀ k', k' < k + 1 → ¬ (fun k => Had U f (T k)) k') := fun j hj => by
          by_cases e : j = k
          · subst e; exact he
          · exact hall.out j (by omega)
        clear hall hT hF hR ht1 he
        generalize (T k).n = tn at *
        go_wp2_with (first | (go_at_call 127; refine (SS.out _ S1.out Q1.out R1.out G1.out G2.out).mono ?_; rintro e w3 ⟨rfl, b3⟩; have d3 := hb.trans (b3.mono hb.size)))
        exact ⟨⟨k + 1, by go_num, by omega, hN, d3⟩, by simp [intOf]; omega⟩
    · have hlt' : ¬ (k : Int) < (n : Int) := by omega
      obtain rfl : k = n := by omega
      have hE := hide (hF.out hall.out)
      clear hall hT hF
      go_wp2_with fail
      go_ret
      exact ⟨by rw [hE.out]; rfl, hb⟩
set_option maxRecDepth 100000 in
set_option maxHeartbeats 1600000 in
theorem i_best10 (a : Option Addr) (N c : Nat) (U : Nat → Pl) (f : Nat → Int) (v : Nat) (ga : Option Addr) (gc : Nat) (w : World) (hG : GS N U) (hC : Chs N U f) (hv : v < N) (hR : RowK3 a N U w) (hP : RowInt ga N f w) :
    Calls Try.prog 76 #[.agg #[.slice a N c], .slice ga N gc, .int .i64 ((v : Int) + 1)] w fun e w' => e = .returned (.int .i64 (bst U f v)) ∧ Below w.heap.size w w' := by
  have hmf : ∀ (fn : Fn) (first cap : Array Value) (w : World), (Instr.makeFunc fn first cap).run Try.prog w = .ok (.func fn first cap) w := fun _ _ _ _ => rfl
  have dX : Below w.heap.size w ((w.alloc (.cells #[.slice a N c] 27)).alloc (.cells #[.slice ga N gc] 31)) := below_box2 (Below.refl _ _)
  have M1 := (Mut.new w #[.slice a N c] 27).alloc (.cells #[.slice ga N gc] 31)
  have M2 := Mut.new (w.alloc (.cells #[.slice a N c] 27)) #[.slice ga N gc] 31
  obtain ⟨b, off, a0, q0, ha, hbw, u0, hq0, ht⟩ := hR v hv
  subst ha
  replace u0 := (dX.cell (p := ⟨b, off + v, none⟩) hbw).trans u0
  have hv' : (v : Int) < (N : Int) := by omega
  have hN5 : (N : Int) ≤ 5 := by have := hG.2.1; omega
  have e1 : (v : Int) + 1 - 1 = (v : Int) := by omega
  have I : Hid (∀ s g w', RowLK a0 (U v).n (U v).T w' → RowK3 (some ⟨b, off, none⟩) N U w' → RowInt ga N f w' → s < w'.heap.size → w'.cell? ⟨s, 0, none⟩ = some (.slice (some ⟨b, off, none⟩) N c) → g < w'.heap.size → w'.cell? ⟨g, 0, none⟩ = some (.slice ga N gc) → Calls Try.prog 126 #[.slice a0 (U v).n q0, .func (.func 127) #[] #[.pointer (some ⟨s, 0, none⟩), .pointer (some ⟨g, 0, none⟩)]] w' fun e w'' => e = .returned (.int .i64 (bst U f v)) ∧ Below w'.heap.size w' w'') :=
    fun s g w' R S P sl hs gl hg => i_idxHad a0 (U v).n q0 (U v).T (some ⟨b, off, none⟩) N c U f ga gc ((v : Int) + 1) s g w' (by have := (hG.low v hv).1; omega) R hG hC (fun k hk => ⟨((hG.2.2 v hv).2 k hk).1, (hG.low v hv).2 k hk⟩) S P sl hs gl hg
  generalize bst U f v = r at *
  have T1 := hide (ht.below dX)
  have R1 := hide (hR.below dX)
  have P1 := hide (hP.below dX)
  clear hR hP ht hG hC
  generalize (U v).n = m at *
  have l1 := hide M1.1
  have c0 := M1.2.1 0 _ rfl
  have c1 := M2.2.1 0 _ rfl
  simp only [World.size_alloc] at c1
  have g0 := hide c0
  have g1 := hide c1
  go_enter Try.func76, Try.ntmps76
  go_wp2_with fail
  refine (I.out _ _ _ T1.out R1.out P1.out l1.out g0.out (by simp) g1.out).mono ?_
  rintro e w3 ⟨rfl, b3⟩
  replace dX := dX.trans (b3.mono dX.size)
  clear b3
  go_wp2_with fail
  go_ret
  exact ⟨rfl, dX⟩
set_option maxRecDepth 100000 in
set_option maxHeartbeats 1600000 in
theorem i_stable10 (a : Option Addr) (N c : Nat) (U : Nat → Pl) (f : Nat → Int) (ga : Option Addr) (gc : Nat) (w : World) (hG : GS N U) (hC : Chs N U f) (hR : RowK3 a N U w) (hP : RowInt ga N f w) :
    Calls Try.prog 78 #[.agg #[.slice a N c], .slice ga N gc] w fun e w' => e = .returned (.bool (pB (Stb N U f))) ∧ Below w.heap.size w w' := by
  have hT : Hid (Stb N U f → pB (Stb N U f) = true) := pB_t
  have hF : Hid (¬ Stb N U f → pB (Stb N U f) = false) := pB_f
  generalize pB (Stb N U f) = r at *
  have MX := Mut.new w #[.slice a N c] 27
  have dX : Below w.heap.size w (w.alloc (.cells #[.slice a N c] 27)) := below_box (Below.refl _ _)
  have c0 := MX.2.1 0 _ rfl
  have hN5 : (N : Int) ≤ 5 := by have := hG.2.1; omega
  have B := hide (fun v w hv R P => i_best10 a N c U f v ga gc w hG hC hv R P)
  go_enter Try.func78, Try.ntmps78
  go_wp2_with fail
  generalize w.alloc (.cells #[.slice a N c] 27) = wx at *
  go_loopw [9] (fun y wr => ∃ k : Nat, y = .int .i64 k ∧ k ≤ N ∧ Hid (∀ j, j < k → bst U f j = f j) ∧ Below wx.heap.size wx wr) (fun y _ => N - (intOf y).toNat)
  case atStart => exact ⟨0, rfl, Nat.zero_le _, fun i hi => absurd hi (by omega), Below.refl _ _⟩
  case round =>
    obtain ⟨k, rfl, hk, hall, hb⟩ := hrel
    have MY := MX.below hb
    have c0 := MY.2.1 0 _ rfl
    have dY := dX.trans (hb.mono dX.size)
    by_cases hlt : k < N
    · obtain ⟨b1, off1, rfl, hb1, u1⟩ := (hP.below dY) k hlt
      have hlt' : (k : Int) < (N : Int) := by omega
      have BK := hide (fun w R P => B.out k w hlt R P)
      have RY := hide (hR.below dY)
      have PY := hide (hP.below dY)
      by_cases he : bst U f k = f k
      · have hN : Hid (∀ j, j < k + 1 → bst U f j = f j) := fun j hj => by
          by_cases e : j = k
          · subst e; exact he
          · exact hall.out j (by omega)
        have he' : (bst U f k != f k) = false := by simp [he]
        clear hall hT hF hR hP he B hC hG
        generalize bst U f k = x at *
        generalize f k = y at *
        go_wp2_with fail
        refine (BK.out _ RY.out PY.out).mono ?_
        rintro e w3 ⟨rfl, b3⟩
        have d3 := hb.trans (b3.mono hb.size)
        clear b3
        go_wp2_with fail
        exact ⟨⟨k + 1, by go_num, by omega, hN, d3⟩, by simp [intOf]; omega⟩
      · have hE := hide (hF.out (fun h => he (h k hlt)))
        have he' : (bst U f k != f k) = true := by simpa using he
        clear hall hT hF hR hP he B hC hG
        generalize bst U f k = x at *
        generalize f k = y at *
        go_wp2_with fail
        refine (BK.out _ RY.out PY.out).mono ?_
        rintro e w3 ⟨rfl, b3⟩
        have d3 := dY.trans (b3.mono dY.size)
        clear b3
        go_wp2_with fail
        go_ret
        exact ⟨by rw [hE.out]; rfl, d3⟩
    · have hlt' : ¬ (k : Int) < (N : Int) := by omega
      obtain rfl : k = N := by omega
      have hE := hide (hT.out hall.out)
      clear hall hT hF hR hP B hC hG
      go_wp2_with fail
      go_ret
      exact ⟨by rw [hE.out]; rfl, dY⟩
set_option maxRecDepth 100000 in
set_option maxHeartbeats 1600000 in
theorem i_bestForE (a : Option Addr) (N c : Nat) (U : Nat → Pl) (gn : Nat) (gf : Nat → Int) (ga : Option Addr) (gc : Nat) (nd : Int) (w : World) (hN : N ≤ 1048576) (hl : LowS N U) (hR : RowK3 a N U w) (hP : RowInt ga gn gf w) :
    Calls Try.prog 22 #[.agg #[.slice a N c], .slice ga gn gc, .int .i64 nd] w fun e w' => e = .returned (.tuple #[.int .i64 (bfV N U ⟨gn, gf⟩ nd), .bool (bfB N U ⟨gn, gf⟩ nd)]) ∧ Below w.heap.size w w' := by
  have MX := Mut.new w #[.slice a N c] 27
  have dX : Below w.heap.size w (w.alloc (.cells #[.slice a N c] 27)) := below_box (Below.refl _ _)
  have c0 := MX.2.1 0 _ rfl
  have SC := hide (fun w R P => i_chosen10 a N c U gn gf ga gc w hN hl R P)
  have SN := hide (fun w => i_isNode10 a N c nd w)
  have hno : Hid (¬ BfOk N U ⟨gn, gf⟩ nd → bfV N U ⟨gn, gf⟩ nd = 0 ∧ bfB N U ⟨gn, gf⟩ nd = false) := fun h => by
    have e : bfB N U ⟨gn, gf⟩ nd = false := pB_f h
    refine ⟨?_, e⟩
    unfold bfV; rw [e]; rfl
  have hyes : Hid (BfOk N U ⟨gn, gf⟩ nd → bfV N U ⟨gn, gf⟩ nd = bst U gf (nd.toNat - 1) ∧ bfB N U ⟨gn, gf⟩ nd = true) := fun h => by
    have e : bfB N U ⟨gn, gf⟩ nd = true := pB_t h
    refine ⟨?_, e⟩
    unfold bfV; rw [e]; rfl
  generalize bfV N U ⟨gn, gf⟩ nd = r0 at *
  generalize bfB N U ⟨gn, gf⟩ nd = r1 at *
  by_cases hC : GS N U ∧ ChOk N U ⟨gn, gf⟩
  · rw [show chB N U ⟨gn, gf⟩ = true from pB_t hC] at SC
    by_cases h1 : 1 ≤ nd ∧ nd ≤ (N : Int)
    · rw [pB_t h1] at SN
      obtain ⟨rfl, rfl⟩ := hyes.out ⟨hC, h1⟩
      have hgn : gn = N := hC.2.1
      subst hgn
      have SB := hide (fun w R P => i_best10 a gn c U gf (nd.toNat - 1) ga gc w hC.1 hC.2.2 (by omega) R P)
      rw [show ((nd.toNat - 1 : Nat) : Int) + 1 = nd by omega] at SB
      generalize bst U gf (nd.toNat - 1) = r at *
      clear hyes hno hC h1
      go_enter Try.func22, Try.ntmps22
      go_wp2_with fail
      refine (SC.out _ (hR.below dX) (hP.below dX)).mono ?_
      rintro e w2 ⟨rfl, b2⟩
      replace MX := MX.below b2
      replace dX := dX.trans (b2.mono dX.size)
      have c0 := MX.2.1 0 _ rfl
      clear b2
      go_wp2_with fail
      refine (SN.out _).mono ?_
      rintro e w3 ⟨rfl, b3⟩
      replace MX := MX.below b3
      replace dX := dX.trans (b3.mono dX.size)
      have c0 := MX.2.1 0 _ rfl
      clear b3
      go_wp2_with fail
      refine (SB.out _ (hR.below dX) (hP.below dX)).mono ?_
      rintro e w4 ⟨rfl, b4⟩
      replace dX := dX.trans (b4.mono dX.size)
      clear b4 c0
      go_wp2_with fail
      go_ret2
      exact ⟨rfl, dX⟩
    · rw [pB_f h1] at SN
      obtain ⟨rfl, rfl⟩ := hno.out (fun h => h1 h.2)
      clear hyes hno hC h1
      go_enter Try.func22, Try.ntmps22
      go_wp2_with fail
      refine (SC.out _ (hR.below dX) (hP.below dX)).mono ?_
      rintro e w2 ⟨rfl, b2⟩
      replace MX := MX.below b2
      replace dX := dX.trans (b2.mono dX.size)
      have c0 := MX.2.1 0 _ rfl
      clear b2
      go_wp2_with fail
      refine (SN.out _).mono ?_
      rintro e w3 ⟨rfl, b3⟩
      replace dX := dX.trans (b3.mono dX.size)
      clear b3 c0
      go_wp2_with fail
      go_ret2
      exact ⟨rfl, dX⟩
  · rw [show chB N U ⟨gn, gf⟩ = false from pB_f hC] at SC
    obtain ⟨rfl, rfl⟩ := hno.out (fun h => hC h.1)
    clear hyes hno hC SN
    go_enter Try.func22, Try.ntmps22
    go_wp2_with fail
    refine (SC.out _ (hR.below dX) (hP.below dX)).mono ?_
    rintro e w2 ⟨rfl, b2⟩
    replace dX := dX.trans (b2.mono dX.size)
    clear b2 c0
    go_wp2_with fail
    go_ret2
    exact ⟨rfl, dX⟩
set_option maxRecDepth 100000 in
set_option maxHeartbeats 1600000 in
theorem i_isStableE (a : Option Addr) (N c : Nat) (U : Nat → Pl) (gn : Nat) (gf : Nat → Int) (ga : Option Addr) (gc : Nat) (w : World) (hN : N ≤ 1048576) (hl : LowS N U) (hR : RowK3 a N U w) (hP : RowInt ga gn gf w) :
    Calls Try.prog 25 #[.agg #[.slice a N c], .slice ga gn gc] w fun e w' => e = .returned (.tuple #[.bool (isV N U ⟨gn, gf⟩), .bool (chB N U ⟨gn, gf⟩)]) ∧ Below w.heap.size w w' := by
  have MX := Mut.new w #[.slice a N c] 27
  have dX : Below w.heap.size w (w.alloc (.cells #[.slice a N c] 27)) := below_box (Below.refl _ _)
  have c0 := MX.2.1 0 _ rfl
  have SC := hide (fun w R P => i_chosen10 a N c U gn gf ga gc w hN hl R P)
  by_cases hC : GS N U ∧ ChOk N U ⟨gn, gf⟩
  · have e1 : chB N U ⟨gn, gf⟩ = true := pB_t hC
    rw [e1] at SC ⊢
    have hgn : gn = N := hC.2.1
    subst hgn
    have SB := hide (fun w R P => i_stable10 a gn c U gf ga gc w hC.1 hC.2.2 R P)
    have e0 : isV gn U ⟨gn, gf⟩ = pB (Stb gn U gf) := pB_congr ⟨fun h => h.2, fun h => ⟨hC, h⟩⟩
    rw [e0]
    generalize pB (Stb gn U gf) = r at *
    clear hC e1 e0
    go_enter Try.func25, Try.ntmps25
    go_wp2_with fail
    refine (SC.out _ (hR.below dX) (hP.below dX)).mono ?_
    rintro e w2 ⟨rfl, b2⟩
    replace MX := MX.below b2
    replace dX := dX.trans (b2.mono dX.size)
    have c0 := MX.2.1 0 _ rfl
    clear b2
    go_wp2_with fail
    refine (SB.out _ (hR.below dX) (hP.below dX)).mono ?_
    rintro e w3 ⟨rfl, b3⟩
    replace dX := dX.trans (b3.mono dX.size)
    clear b3 c0
    go_wp2_with fail
    go_ret2
    exact ⟨rfl, dX⟩
  · have e1 : chB N U ⟨gn, gf⟩ = false := pB_f hC
    have e0 : isV N U ⟨gn, gf⟩ = false := pB_f (fun h => hC h.1)
    rw [e1] at SC ⊢
    rw [e0]
    clear hC e1 e0
    go_enter Try.func25, Try.ntmps25
    go_wp2_with fail
    refine (SC.out _ (hR.below dX) (hP.below dX)).mono ?_
    rintro e w2 ⟨rfl, b2⟩
    replace dX := dX.trans (b2.mono dX.size)
    clear b2 c0
    go_wp2_with fail
    go_ret2
    exact ⟨rfl, dX⟩
end Go.Proofs.Ytcnlabedlcmilaa
