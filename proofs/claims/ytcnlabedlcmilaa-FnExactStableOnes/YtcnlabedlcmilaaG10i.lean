/- GoodSpp of the program. -/
import Derived.Test.YtcnlabedlcmilaaAt10
namespace Go.Proofs.Ytcnlabedlcmilaa
open Go.RowKit
set_option maxRecDepth 100000 in
set_option maxHeartbeats 3200000 in
theorem i_node10 (a : Option Addr) (N c : Nat) (U : Nat → Pl) (v : Nat) (w : World) (hN : N ≤ 5) (hv : v < N) (hl : LowS N U) (hR : RowK3 a N U w) :
    Calls Try.prog 70 #[.agg #[.slice a N c], .int .i64 ((v : Int) + 1)] w fun e w' => e = .returned (.bool (pB (NodeOk N U v))) ∧ Below w.heap.size w w' := by
  have hT : Hid (NodeOk N U v → pB (NodeOk N U v) = true) := pB_t
  have hF : Hid (¬ NodeOk N U v → pB (NodeOk N U v) = false) := pB_f
  generalize pB (NodeOk N U v) = r at *
  have MX := Mut.new w #[.slice a N c] 27
  have dX : Below w.heap.size w (w.alloc (.cells #[.slice a N c] 27)) := below_box (Below.refl _ _)
  have c0 := MX.2.1 0 _ rfl
  obtain ⟨b, off, a0, q0, rfl, hbw, u0, hq0, ht⟩ := hR v hv
  replace u0 := (dX.cell (p := ⟨b, off + v, none⟩) hbw).trans u0
  have hv' : (v : Int) < (N : Int) := by omega
  have hN5 : (N : Int) ≤ 5 := by omega
  have e1 : (v : Int) + 1 - 1 = (v : Int) := by omega
  by_cases h6 : (U v).n ≤ 6
  · have hT' : Hid ((∀ k, k < (U v).n → PthOk N U v k) → r = true) := fun h => hT.out ⟨h6, h⟩
    have hF' : Hid (∀ k, k < (U v).n → ¬ PthOk N U v k → r = false) := fun k hk h => hF.out (fun q => h (q.2 k hk))
    clear hT hF
    have WY := hide (fun a0 c0 k w hk hc P => i_way10 N ((v : Int) + 1) a0 c0 ((U v).T k) w ((hl v hv).2 k hk) hc P)
    have RK := hide (fun a0 c0 k w hk h0 hp0 R P => i_rank10 (some ⟨b, off, none⟩) N c U v a0 c0 ((U v).T k) w (by omega) h0 hv (hl v hv).1 (hl v hv).2 hp0 ((hl v hv).2 k hk) R P)
    have RS := hide (fun b off pc n w h1 h2 h3 => i_rest10 b off pc n w h1 h2 h3)
    have RR : Hid (∀ b1 off1 c1 k w, k < (U v).n → 2 < ((U v).T k).n → Way N ((v : Int) + 1) ((U v).T k) → RowK3 (some ⟨b, off, none⟩) N U w → RowInt (some ⟨b1, off1, none⟩) ((U v).T k).n ((U v).T k).f w → Calls Try.prog 88 #[.agg #[.slice (some ⟨b, off, none⟩) N c], .slice (some ⟨b1, off1 + 1, none⟩) (((U v).T k).n - 1) c1] w fun e w' => e = .returned (.int .i64 (rk U (nx ((U v).T k)) (tl ((U v).T k)))) ∧ Below w.heap.size w w') := fun b1 off1 c1 k w hk h2 hw R P => by
      obtain ⟨n1, n2, n3, n4⟩ := hw.next h2
      have hlk := (hl v hv).2 k hk
      exact i_rank10 (some ⟨b, off, none⟩) N c U (nx ((U v).T k)) _ c1 (tl ((U v).T k)) w (by omega) (by show ((U v).T k).f 1 = _; omega) n3 (hl _ n3).1 (hl _ n3).2 (by show 0 < ((U v).T k).n - 1; omega) (by show ((U v).T k).n - 1 ≤ _; omega) R (RowInt.tail rfl P)
    have hlow := hide (fun k hk => (hl v hv).2 k hk)
    have htX := hide (ht.below dX)
    have hRX := hide (hR.below dX)
    clear hl ht
    generalize hm : (U v).n = m at *
    have h6' : ¬ ((m : Int) > 6) := by omega
    have h6i : (m : Int) ≤ 6 := by omega
    go_enter Try.func70, Try.ntmps70
    go_wp2_with fail
    clear u0
    generalize hwx : w.alloc (.cells #[.slice (some ⟨b, off, none⟩) N c] 27) = wx at *
    go_loopw [21] (fun y wr => ∃ k : Nat, y = .int .i64 k ∧ k ≤ m ∧ Hid (∀ j, j < k → PthOk N U v j) ∧ Below wx.heap.size wx wr) (fun y _ => m - (intOf y).toNat)
    case atStart => exact ⟨0, rfl, Nat.zero_le _, fun i hi => absurd hi (by omega), Below.refl _ _⟩
    case round =>
      obtain ⟨k, rfl, hk, hs, hd⟩ := hrel
      have MZ := MX.below hd
      have c0 := MZ.2.1 0 _ rfl
      have dZ := dX.trans (hd.mono dX.size)
      by_cases hkt : k < m
      · obtain ⟨b1, off1, a1, c1, rfl, hb1, u1, hc1, ht1⟩ := (htX.out.below hd) k hkt
        have hkt' : (k : Int) < (m : Int) := by omega
        have PP := hide (fun w P => WY.out a1 c1 k w (by omega) hc1 P)
        have RZ := hide (hRX.out.below hd)
        have TZ := hide ht1
        by_cases g1 : Way N ((v : Int) + 1) ((U v).T k)
        · rw [pB_t g1] at PP
          have g2n := g1.1
          have AA := hide (fun w R P => RK.out a1 c1 k w (by omega) g1.2.1 (by omega) R P)
          obtain ⟨bp, op, rfl, hbp, _⟩ := ht1 0 (by omega)
          have RE := hide (fun w => RS.out bp op c1 ((U v).T k).n w g2n hc1 (hlow.out k (by omega)))
          by_cases g2 : rk U v ((U v).T k) = (k : Int)
          · rw [g2] at AA
            have kk : ((k : Int) != (k : Int)) = false := by simp
            by_cases g3 : 2 < ((U v).T k).n
            · rw [show decide ((2 : Int) < (((U v).T k).n : Int)) = true from decide_eq_true (by omega)] at RE
              have BB := hide (fun c1 w R P => RR.out bp op c1 k w (by omega) g3 g1 R P)
              by_cases g4 : 0 ≤ rk U (nx ((U v).T k)) (tl ((U v).T k))
              · have hN : Hid (∀ j, j < k + 1 → PthOk N U v j) := fun j hj => by
                  by_cases e : j = k
                  · subst e; exact ⟨g1, g2, fun _ => g4⟩
                  · exact hs.out j (by omega)
                have g4' : ¬ (rk U (nx ((U v).T k)) (tl ((U v).T k)) < 0) := by omega
                clear hs g1 g2 WY RK RS RR ht1 hT' hF' hlow g4
                generalize rk U (nx ((U v).T k)) (tl ((U v).T k)) = q at *
                generalize ((U v).T k).n = tn at *
                go_wp2_with fail
                refine (PP.out _ TZ.out).mono ?_
                rintro e w3 ⟨rfl, hw3⟩
                rw [hw3]; clear hw3 w3
                go_wp2_with fail
                refine (AA.out _ RZ.out TZ.out).mono ?_
                rintro e w4 ⟨rfl, b4⟩
                have M4 := MZ.below b4
                have c0 := M4.2.1 0 _ rfl
                have d4 := hd.trans (b4.mono hd.size)
                go_wp2_with fail
                refine (RE.out _).mono ?_
                rintro e w5 ⟨rfl, hw5⟩
                rw [hw5]; clear hw5 w5
                go_wp2_with fail
                refine (BB.out _ _ (RZ.out.below b4) (TZ.out.below b4)).mono ?_
                rintro e w6 ⟨rfl, b6⟩
                have d6 := d4.trans (b6.mono d4.size)
                clear b4 d4 b6
                go_wp2_with fail
                exact ⟨⟨k + 1, by go_num, by omega, hN, d6⟩, by simp [intOf]; omega⟩
              · have hE := hide (hF'.out k hkt (fun h => g4 (h.2.2 g3)))
                have g4' : rk U (nx ((U v).T k)) (tl ((U v).T k)) < 0 := by omega
                clear hs g1 g2 WY RK RS RR ht1 hT' hF' hlow g4
                generalize rk U (nx ((U v).T k)) (tl ((U v).T k)) = q at *
                generalize ((U v).T k).n = tn at *
                go_wp2_with fail
                refine (PP.out _ TZ.out).mono ?_
                rintro e w3 ⟨rfl, hw3⟩
                rw [hw3]; clear hw3 w3
                go_wp2_with fail
                refine (AA.out _ RZ.out TZ.out).mono ?_
                rintro e w4 ⟨rfl, b4⟩
                have M4 := MZ.below b4
                have c0 := M4.2.1 0 _ rfl
                have d4 := dZ.trans (b4.mono dZ.size)
                go_wp2_with fail
                refine (RE.out _).mono ?_
                rintro e w5 ⟨rfl, hw5⟩
                rw [hw5]; clear hw5 w5
                go_wp2_with fail
                refine (BB.out _ _ (RZ.out.below b4) (TZ.out.below b4)).mono ?_
                rintro e w6 ⟨rfl, b6⟩
                have d6 := d4.trans (b6.mono d4.size)
                clear b4 d4 b6
                go_wp2_with fail
                go_ret
                exact ⟨by rw [hE.out]; rfl, d6⟩
            · rw [show decide ((2 : Int) < (((U v).T k).n : Int)) = false from decide_eq_false (by omega)] at RE
              have hN : Hid (∀ j, j < k + 1 → PthOk N U v j) := fun j hj => by
                by_cases e : j = k
                · subst e; exact ⟨g1, g2, fun h => absurd h g3⟩
                · exact hs.out j (by omega)
              clear hs g1 g2 WY RK RS RR ht1 hT' hF' hlow
              generalize ((U v).T k).n = tn at *
              go_wp2_with fail
              refine (PP.out _ TZ.out).mono ?_
              rintro e w3 ⟨rfl, hw3⟩
              rw [hw3]; clear hw3 w3
              go_wp2_with fail
              refine (AA.out _ RZ.out TZ.out).mono ?_
              rintro e w4 ⟨rfl, b4⟩
              have M4 := MZ.below b4
              have c0 := M4.2.1 0 _ rfl
              have d4 := hd.trans (b4.mono hd.size)
              go_wp2_with fail
              refine (RE.out _).mono ?_
              rintro e w5 ⟨rfl, hw5⟩
              rw [hw5]; clear hw5 w5
              clear b4
              go_wp2_with fail
              exact ⟨⟨k + 1, by go_num, by omega, hN, d4⟩, by simp [intOf]; omega⟩
          · have hE := hide (hF'.out k hkt (fun h => g2 h.2.1))
            have kk : (rk U v ((U v).T k) != (k : Int)) = true := by simpa using g2
            clear hs g1 g2 WY RK RS RR ht1 hT' hF' hlow RE
            generalize rk U v ((U v).T k) = q at *
            generalize ((U v).T k).n = tn at *
            go_wp2_with fail
            refine (PP.out _ TZ.out).mono ?_
            rintro e w3 ⟨rfl, hw3⟩
            rw [hw3]; clear hw3 w3
            go_wp2_with fail
            refine (AA.out _ RZ.out TZ.out).mono ?_
            rintro e w4 ⟨rfl, b4⟩
            have d4 := dZ.trans (b4.mono dZ.size)
            clear b4
            go_wp2_with fail
            go_ret
            exact ⟨by rw [hE.out]; rfl, d4⟩
        · rw [pB_f g1] at PP
          have hE := hide (hF'.out k hkt (fun h => g1 h.1))
          clear hs g1 WY RK RS RR ht1 hT' hF' hlow
          generalize ((U v).T k).n = tn at *
          go_wp2_with fail
          refine (PP.out _ TZ.out).mono ?_
          rintro e w3 ⟨rfl, hw3⟩
          rw [hw3]; clear hw3 w3
          go_wp2_with fail
          go_ret
          exact ⟨by rw [hE.out]; rfl, dZ⟩
      · have hkt' : ¬ (k : Int) < (m : Int) := by omega
        obtain rfl : k = m := by omega
        have hE := hide (hT'.out hs.out)
        clear hs WY RK RS RR hT' hF' hlow
        go_wp2_with fail
        go_ret
        exact ⟨by rw [hE.out]; rfl, dZ⟩
  · have hE := hide (hF.out (fun h => h6 h.1))
    clear hT hF hl ht
    generalize (U v).n = m at *
    have h6' : (m : Int) > 6 := by omega
    go_enter Try.func70, Try.ntmps70
    go_wp2_with fail
    go_ret
    exact ⟨by rw [hE.out]; rfl, dX⟩
set_option maxRecDepth 100000 in
set_option maxHeartbeats 1600000 in
theorem i_goodSpp (a : Option Addr) (N c : Nat) (U : Nat → Pl) (w : World) (hN : N ≤ 1048576) (hl : LowS N U) (hR : RowK3 a N U w) :
    Calls Try.prog 18 #[.agg #[.slice a N c]] w fun e w' => e = .returned (.bool (gsB N U)) ∧ Below w.heap.size w w' := by
  have hT : Hid (GS N U → gsB N U = true) := pB_t
  have hF : Hid (¬ GS N U → gsB N U = false) := pB_f
  generalize gsB N U = r at *
  have MX := Mut.new w #[.slice a N c] 27
  have dX : Below w.heap.size w (w.alloc (.cells #[.slice a N c] 27)) := below_box (Below.refl _ _)
  have c0 := MX.2.1 0 _ rfl
  by_cases h0 : N = 0
  · have hE := hide (hF.out (fun h => by have := h.1; omega))
    subst h0
    clear hT hF hl hR
    go_enter Try.func18, Try.ntmps18
    go_wp2_with fail
    go_ret
    exact ⟨by rw [hE.out]; rfl, dX⟩
  · have h0' : ((N : Int) == 0) = false := by simp; omega
    by_cases h5 : (N : Int) > 5
    · have hE := hide (hF.out (fun h => by have := h.2.1; omega))
      clear hT hF hl hR
      go_enter Try.func18, Try.ntmps18
      go_wp2_with fail
      go_ret
      exact ⟨by rw [hE.out]; rfl, dX⟩
    · have hT' : Hid ((∀ v, v < N → NodeOk N U v) → r = true) := fun h => hT.out ⟨by omega, by omega, h⟩
      have hF' : Hid (∀ v, v < N → ¬ NodeOk N U v → r = false) := fun v hv h => hF.out (fun k => h (k.2.2 v hv))
      have NO := hide (fun v w hv R => i_node10 a N c U v w (by omega) hv hl R)
      have hRX := hide (hR.below dX)
      clear hT hF hl hR
      have hn5 : (N : Int) ≤ 5 := by omega
      go_enter Try.func18, Try.ntmps18
      go_wp2_with fail
      generalize hwx : w.alloc (.cells #[.slice a N c] 27) = wx at *
      go_loopw [17] (fun y wr => ∃ v : Nat, y = .int .i64 v ∧ v ≤ N ∧ Hid (∀ i, i < v → NodeOk N U i) ∧ Below wx.heap.size wx wr) (fun y _ => N - (intOf y).toNat)
      case atStart => exact ⟨0, rfl, Nat.zero_le _, fun i hi => absurd hi (by omega), Below.refl _ _⟩
      case round =>
        obtain ⟨v, rfl, hv, hall, hb⟩ := hrel
        have MY := MX.below hb
        have c0 := MY.2.1 0 _ rfl
        have dY := dX.trans (hb.mono dX.size)
        by_cases hlt : v < N
        · have hlt' : (v : Int) < (N : Int) := by omega
          have NV := hide (fun w R => NO.out v w hlt R)
          have RY := hide (hRX.out.below hb)
          by_cases hok : NodeOk N U v
          · rw [pB_t hok] at NV
            have hNext : Hid (∀ i, i < v + 1 → NodeOk N U i) := fun i hi => by
              by_cases e : i = v
              · subst e; exact hok
              · exact hall.out i (by omega)
            clear hall hT' hF' hok NO
            go_wp2_with fail
            refine (NV.out _ RY.out).mono ?_
            rintro e w3 ⟨rfl, b3⟩
            have d3 := hb.trans (b3.mono hb.size)
            clear b3
            go_wp2_with fail
            exact ⟨⟨v + 1, by go_num, by omega, hNext, d3⟩, by simp [intOf]; omega⟩
          · rw [pB_f hok] at NV
            have hE := hide (hF'.out v hlt hok)
            clear hall hT' hF' hok NO
            go_wp2_with fail
            refine (NV.out _ RY.out).mono ?_
            rintro e w3 ⟨rfl, b3⟩
            have d3 := dY.trans (b3.mono dY.size)
            clear b3
            go_wp2_with fail
            go_ret
            exact ⟨by rw [hE.out]; rfl, d3⟩
        · have hlt' : ¬ (v : Int) < (N : Int) := by omega
          obtain rfl : v = N := by omega
          have hE := hide (hT'.out hall.out)
          clear hall hT' hF' NO
          go_wp2_with fail
          go_ret
          exact ⟨by rw [hE.out]; rfl, dY⟩
end Go.Proofs.Ytcnlabedlcmilaa
