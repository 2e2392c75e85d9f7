/- GoodSpp of the specification. -/
import Derived.Test.YtcnlabedlcmilaaAt10
namespace Go.Proofs.Ytcnlabedlcmilaa
open Go.RowKit
/-- A path of node x's, as the specification asks. -/
def PathS (N : Nat) (U : Nat → Pl) (x : Int) (p : Lc) : Prop := Way N x p ∧ (2 < p.n → 0 ≤ rk U (nx p) (tl p))
set_option maxRecDepth 100000 in
set_option maxHeartbeats 1600000 in
theorem s_path10 (a : Option Addr) (N c : Nat) (U : Nat → Pl) (x : Int) (pa : Option Addr) (pc : Nat) (p : Lc) (w : World) (hN : N ≤ 1048576) (hl : LowS N U) (hp : p.n ≤ 1048576) (hc : p.n ≤ pc) (hR : RowK3 a N U w) (hP : RowInt pa p.n p.f w) :
    Calls Try.prog 67 #[.agg #[.slice a N c], .int .i64 x, .slice pa p.n pc] w fun e w' => e = .returned (.bool (pB (PathS N U x p))) ∧ Below w.heap.size w w' := by
  have hT : Hid (PathS N U x p → pB (PathS N U x p) = true) := pB_t
  have hF : Hid (¬ PathS N U x p → pB (PathS N U x p) = false) := pB_f
  generalize pB (PathS N U x p) = r at *
  have HA := hide (fun k w R => s_has10 pa k pc p.f (p.f k) w R)
  have dX : Below w.heap.size w (w.alloc (.cells #[.slice a N c] 27)) := below_box (Below.refl _ _)
  have MX := Mut.new w #[.slice a N c] 27
  by_cases h0 : p.n < 2
  · have hE := hide (hF.out (fun h => by have := h.1.1; omega))
    clear hT hF hP HA
    generalize p.n = n at *
    have h0' : (n : Int) < 2 := by omega
    go_enter Try.func67, Try.ntmps67
    go_wp2_with fail
    go_ret
    exact ⟨by rw [hE.out]; rfl, dX⟩
  · have h0' : ¬ (p.n : Int) < 2 := by omega
    obtain ⟨b, off, rfl, hb, c0⟩ := hP 0 (by omega)
    rw [Nat.add_zero] at c0
    obtain ⟨b1, off1, hab, hb1, c1⟩ := hP (p.n - 1) (by omega)
    simp only [Option.some.injEq, Addr.mk.injEq, and_true] at hab
    obtain ⟨rfl, rfl⟩ := hab
    replace c0 := (dX.cell (p := ⟨b, off, none⟩) hb).trans c0
    replace c1 := (dX.cell (p := ⟨b, off + (p.n - 1), none⟩) hb).trans c1
    have hpos : (0 : Int) < (p.n : Int) := by omega
    have e2 : (p.n : Int) - 1 = ((p.n - 1 : Nat) : Int) := by omega
    by_cases hv : p.f 0 = x
    · have hv' : (p.f 0 != x) = false := by simp [hv]
      by_cases hz : p.f (p.n - 1) = 0
      · have hz' : (p.f (p.n - 1) != 0) = false := by simp [hz]
        have hW : Hid ((∀ i, i < p.n → (0 ≤ p.f i ∧ p.f i ≤ (N : Int)) ∧ ∀ j, j < i → p.f j ≠ p.f i) → Way N x p) := fun h => ⟨by omega, hv, hz, fun i hi => (h i hi).1, fun i hi => (h i hi).2⟩
        have hF' : Hid (∀ i, i < p.n → ¬ ((0 ≤ p.f i ∧ p.f i ≤ (N : Int)) ∧ ∀ j, j < i → p.f j ≠ p.f i) → r = false) := fun i hi h => hF.out (fun k => h ⟨k.1.2.2.2.1 i hi, k.1.2.2.2.2 i hi⟩)
        have hLast : Hid (∀ i, i + 1 < p.n → p.f i = 0 → r = false) := fun i hi h => hF'.out (p.n - 1) (by omega) (fun k => k.2 i (by omega) (by rw [h, hz]))
        have A : Hid (2 < p.n → Way N x p → ∀ w, RowK3 a N U w → RowInt (some ⟨b, off + 1, none⟩) (tl p).n (tl p).f w → Calls Try.prog 68 #[.agg #[.slice a N c], .int .i64 (p.f 1), .slice (some ⟨b, off + 1, none⟩) (p.n - 1) (pc - 1)] w fun e w' => e = .returned (.int .i64 (rk U (nx p) (tl p))) ∧ Below w.heap.size w w') := fun h2 hw w R Q => by
          obtain ⟨n1, n2, n3, n4⟩ := hw.next h2
          exact s_at10 a N c U (nx p) (p.f 1) _ _ (tl p) w hN (by omega) n3 (hl _ n3).1 (hl _ n3).2 (by show p.n - 1 ≤ _; omega) R Q
        have hTl := hide (fun (w' : World) (h : RowInt (some ⟨b, off, none⟩) p.n p.f w') => RowInt.tail (p := p) rfl h)
        have hy1 := hP.below dX
        have hP1 := hide hy1
        obtain ⟨b3, off3, hab, hb3, c2⟩ := hy1 1 (by omega)
        simp only [Option.some.injEq, Addr.mk.injEq, and_true] at hab
        obtain ⟨rfl, rfl⟩ := hab
        have hR1 := hide (hR.below dX)
        clear hv hz hy1 hP hR hl
        generalize hx : p.f (p.n - 1) = z at *
        generalize hy : p.f 0 = y at *
        clear hx hy
        generalize hl : p.n - 1 = l at *
        have hln : (l : Int) < (p.n : Int) := by omega
        have hnn : ((l : Int) + 1 = (p.n : Int)) := by omega
        generalize hpn : p.n = n at *
        go_enter Try.func67, Try.ntmps67
        go_wp2_with fail
        clear c0 c1 hv' hz'
        generalize w.alloc (.cells #[.slice a N c] 27) = wx at *
        go_loop [34] (fun i => ∃ k : Nat, i = .int .i64 k ∧ k ≤ n ∧ Hid (∀ i, i < k → (0 ≤ p.f i ∧ p.f i ≤ (N : Int)) ∧ ∀ j, j < i → p.f j ≠ p.f i)) (fun i => n - (intOf i).toNat)
        case atStart => exact ⟨0, rfl, Nat.zero_le _, fun i hi => absurd hi (by omega)⟩
        case round =>
          obtain ⟨k, rfl, hk, hall⟩ := hrel
          by_cases hlt : k < n
          · obtain ⟨b1, off1, hab, hb1, c1⟩ := hP1.out k hlt
            simp only [Option.some.injEq, Addr.mk.injEq, and_true] at hab
            obtain ⟨rfl, rfl⟩ := hab
            have hlt' : (k : Int) < (n : Int) := by omega
            have hkc : (k : Int) ≤ (pc : Int) := by omega
            by_cases g0 : p.f k < 0
            · have hE := hide (hF'.out k hlt (fun h => by have := h.1.1; omega))
              clear hT hF hW hLast A hTl hF' hall HA hP1 c2
              generalize p.f k = z at *
              go_wp2_with fail
              go_ret
              exact ⟨by rw [hE.out]; rfl, dX⟩
            · by_cases g1 : p.f k > (N : Int)
              · have hE := hide (hF'.out k hlt (fun h => by have := h.1.2; omega))
                clear hT hF hW hLast A hTl hF' hall HA hP1 c2
                generalize p.f k = z at *
                go_wp2_with fail
                go_ret
                exact ⟨by rw [hE.out]; rfl, dX⟩
              · have HK := hide (fun w R => HA.out k w (by omega) R)
                have RK := hide (hP1.out.take hk)
                by_cases g2 : ∃ i, i < k ∧ p.f i = p.f k
                · rw [pB_t g2] at HK
                  have hE := hide (hF'.out k hlt (fun h => by obtain ⟨i, hi, he⟩ := g2; exact h.2 i hi he))
                  clear hT hF hW hLast A hTl hF' hall HA hP1 c2 g2
                  generalize p.f k = z at *
                  go_wp2_with fail
                  refine (HK.out _ RK.out).mono ?_
                  rintro e w3 ⟨rfl, rfl⟩
                  go_wp2_with fail
                  go_ret
                  exact ⟨by rw [hE.out]; rfl, dX⟩
                · rw [pB_f g2] at HK
                  by_cases g3 : p.f k = 0 ∧ k + 1 < n
                  · have hE := hide (hLast.out k g3.2 g3.1)
                    have g4 : (p.f k == 0) = true := by simp [g3.1]
                    have g5 : (k : Int) < (l : Int) := by omega
                    clear hT hF hW hLast A hTl hF' hall HA hP1 c2 g2 g3
                    generalize p.f k = z at *
                    go_wp2_with fail
                    refine (HK.out _ RK.out).mono ?_
                    rintro e w3 ⟨rfl, rfl⟩
                    go_wp2_with fail
                    go_ret
                    exact ⟨by rw [hE.out]; rfl, dX⟩
                  · have hN : Hid (∀ i, i < k + 1 → (0 ≤ p.f i ∧ p.f i ≤ (N : Int)) ∧ ∀ j, j < i → p.f j ≠ p.f i) := fun i hi => by
                      by_cases e : i = k
                      · subst e; exact ⟨⟨by omega, by omega⟩, fun j hj he => g2 ⟨j, hj, he⟩⟩
                      · exact hall.out i (by omega)
                    by_cases g4 : p.f k = 0
                    · have g4' : (p.f k == 0) = true := by simp [g4]
                      have g5 : ¬ (k : Int) < (l : Int) := by omega
                      clear hT hF hW hLast A hTl hF' hall HA hP1 c2 g2 g3 g4
                      generalize p.f k = z at *
                      go_wp2_with fail
                      refine (HK.out _ RK.out).mono ?_
                      rintro e w3 ⟨rfl, rfl⟩
                      go_wp2_with fail
                      exact ⟨⟨k + 1, by go_num, by omega, hN⟩, by simp [intOf]; omega⟩
                    · have g4' : (p.f k == 0) = false := by simpa using g4
                      clear hT hF hW hLast A hTl hF' hall HA hP1 c2 g2 g3 g4
                      generalize p.f k = z at *
                      go_wp2_with fail
                      refine (HK.out _ RK.out).mono ?_
                      rintro e w3 ⟨rfl, rfl⟩
                      go_wp2_with fail
                      exact ⟨⟨k + 1, by go_num, by omega, hN⟩, by simp [intOf]; omega⟩
          · have hlt' : ¬ (k : Int) < (n : Int) := by omega
            obtain rfl : k = n := by omega
            have hw := hW.out hall.out
            by_cases h2 : 2 < k
            · have AA := hide (A.out h2 hw)
              have hr : Hid (r = decide (rk U (nx p) (tl p) ≥ 0)) := by
                show r = _
                by_cases hh : 0 ≤ rk U (nx p) (tl p)
                · rw [hT.out ⟨hw, fun _ => hh⟩]; exact (decide_eq_true hh).symm
                · rw [hF.out (fun k => hh (k.2 (by omega)))]; exact (decide_eq_false hh).symm
              have Q1 := hide (hTl.out _ hP1.out)
              have k2 : ((k : Int) == 2) = false := by simp; omega
              have k3 : (1 : Int) < (k : Int) := by omega
              have k4 : (1 : Int) ≤ (k : Int) := by omega
              have k5 : (k : Int) ≤ (pc : Int) := by omega
              have k6 : pc ≠ 1 := by omega
              have k7 : k - 1 = l := by omega
              have c3 := cell_regrown (MX.2.1 0 _ rfl)
              replace c2 := cell_regrown c2
              clear hT hF hW hLast A hTl hF' hall HA hP1 hw hlt
              generalize rk U (nx p) (tl p) = q at *
              generalize p.f 1 = z at *
              go_wp2_with fail
              refine wp_region_quiet_below (by kernel_rfl) (by kernel_rfl) ?_
              repeat (first | go_big_quiet_step ((first | (go_at_call 68; exact Calls.regrown_of (AA.out _ (hR1.out.below (below_regrown _ _ _)) (Q1.out.below (below_regrown _ _ _)))))) | quiet_step ((first | (go_at_call 68; exact Calls.regrown_of (AA.out _ (hR1.out.below (below_regrown _ _ _)) (Q1.out.below (below_regrown _ _ _)))))))
              refine wpQuiet_nil ?_
              intro _ hw'
              obtain ⟨⟨dq_, osq_⟩, hw''⟩ := hw'
              subst hw''
              have hq_ := below_regrown wx dq_ osq_
              generalize Go.Sort.grow (redrawn wx dq_) osq_ = wdq at hq_ ⊢
              have dq := dX.trans (hq_.mono dX.size)
              clear hq_ c2 c3
              go_wp2_with fail
              go_ret
              exact ⟨by rw [hr.out]; rfl, dq⟩
            · have hE := hide (hT.out ⟨hw, fun h => absurd h (by omega)⟩)
              obtain rfl : k = 2 := by omega
              clear hT hF hW hLast A hTl hF' hall HA hP1 hw hlt c2
              go_wp2_with fail
              refine wp_region_quiet_below (by kernel_rfl) (by kernel_rfl) ?_
              repeat (first | go_big_quiet_step (fail) | quiet_step (fail))
              refine wpQuiet_nil ?_
              intro _ hw'
              obtain ⟨⟨dq_, osq_⟩, hw''⟩ := hw'
              subst hw''
              have hq_ := below_regrown wx dq_ osq_
              generalize Go.Sort.grow (redrawn wx dq_) osq_ = wdq at hq_ ⊢
              have dq := dX.trans (hq_.mono dX.size)
              clear hq_ 
              go_wp2_with fail
              go_ret
              exact ⟨by rw [hE.out]; rfl, dq⟩
      · have hz' : (p.f (p.n - 1) != 0) = true := by simpa using hz
        have hE := hide (hF.out (fun h => hz h.1.2.2.1))
        clear hT hF hv hz hP HA
        generalize hx : p.f (p.n - 1) = z at *
        generalize hy : p.f 0 = y at *
        clear hx hy
        generalize hl : p.n - 1 = l at *
        have hln : (l : Int) < (p.n : Int) := by omega
        generalize p.n = n at *
        go_enter Try.func67, Try.ntmps67
        go_wp2_with fail
        go_ret
        exact ⟨by rw [hE.out]; rfl, dX⟩
    · have hv' : (p.f 0 != x) = true := by simpa using hv
      have hE := hide (hF.out (fun h => hv h.1.2.1))
      clear hT hF hv hP HA c1
      generalize p.f 0 = y at *
      generalize p.n = n at *
      go_enter Try.func67, Try.ntmps67
      go_wp2_with fail
      go_ret
      exact ⟨by rw [hE.out]; rfl, dX⟩
theorem pthOk_iff (N : Nat) (U : Nat → Pl) (v k : Nat) : PthOk N U v k ↔ PathS N U ((v : Int) + 1) ((U v).T k) ∧ rk U v ((U v).T k) = (k : Int) :=
  ⟨fun h => ⟨⟨h.1, h.2.2⟩, h.2.1⟩, fun h => ⟨h.1.1, h.2, h.1.2⟩⟩
set_option maxRecDepth 100000 in
set_option maxHeartbeats 1600000 in
theorem s_goodSpp (a : Option Addr) (N c : Nat) (U : Nat → Pl) (w : World) (hN : N ≤ 1048576) (hl : LowS N U) (hR : RowK3 a N U w) :
    Calls Try.prog 16 #[.agg #[.slice a N c]] w fun e w' => e = .returned (.bool (gsB N U)) ∧ Below w.heap.size w w' := by
  have hT : Hid (GS N U → gsB N U = true) := pB_t
  have hF : Hid (¬ GS N U → gsB N U = false) := pB_f
  generalize gsB N U = r at *
  have S1 := hide (fun w => s_in (N : Int) 1 5 w)
  have MX := Mut.new w #[.slice a N c] 27
  have dX : Below w.heap.size w (w.alloc (.cells #[.slice a N c] 27)) := below_box (Below.refl _ _)
  by_cases h1 : 1 ≤ N ∧ N ≤ 5
  · rw [inB_t (by omega) (by omega)] at S1
    have hT' : Hid ((∀ v, v < N → NodeOk N U v) → r = true) := fun h => hT.out ⟨h1.1, h1.2, h⟩
    have hF' : Hid (∀ v, v < N → ¬ NodeOk N U v → r = false) := fun v hv h => hF.out (fun k => h (k.2.2 v hv))
    clear hT hF
    have hn5 : (N : Int) ≤ 5 := by omega
    go_enter Try.func16, Try.ntmps16
    have c0 := MX.2.1 0 _ rfl
    go_wp2_with fail
    generalize hwx : w.alloc (.cells #[.slice a N c] 27) = wx at *
    refine (S1.out _).mono ?_
    rintro e w1 ⟨rfl, hw1⟩
    rw [hw1]; clear hw1 w1
    go_wp2_with fail
    clear S1
    go_loopw [15] (fun y wr => ∃ v : Nat, y = .int .i64 v ∧ v ≤ N ∧ Hid (∀ i, i < v → NodeOk N U i) ∧ Below wx.heap.size wx wr) (fun y _ => N - (intOf y).toNat)
    case atStart => exact ⟨0, rfl, Nat.zero_le _, fun i hi => absurd hi (by omega), Below.refl _ _⟩
    case round =>
      obtain ⟨v, rfl, hv, hall, hb⟩ := hrel
      have MY := MX.below hb
      have c0 := MY.2.1 0 _ rfl
      have dY := dX.trans (hb.mono dX.size)
      by_cases hlt : v < N
      · obtain ⟨b, off, a0, q0, rfl, hbw, u0, hq0, ht⟩ := hR v hlt
        replace u0 := (dY.cell (p := ⟨b, off + v, none⟩) hbw).trans u0
        have hlt' : (v : Int) < (N : Int) := by omega
        have hNo : Hid (¬ NodeOk N U v → r = false) := hF'.out v hlt
        have hNext : Hid (NodeOk N U v → ∀ i, i < v + 1 → NodeOk N U i) := fun h i hi => by
          by_cases e : i = v
          · subst e; exact h
          · exact hall.out i (by omega)
        have PA := hide (fun a0 c0 k w hk hc R P => s_path10 (some ⟨b, off, none⟩) N c U ((v : Int) + 1) a0 c0 ((U v).T k) w hN hl ((hl v hlt).2 k hk) hc R P)
        have AT := hide (fun a0 c0 k w hk R P => s_at10 (some ⟨b, off, none⟩) N c U v ((v : Int) + 1) a0 c0 ((U v).T k) w hN rfl hlt (hl v hlt).1 (hl v hlt).2 ((hl v hlt).2 k hk) R P)
        have htY := hide (ht.below dY)
        have hRY := hide (hR.below dY)
        by_cases h6 : (U v).n ≤ 6
        · have hYes : Hid ((∀ k, k < (U v).n → PthOk N U v k) → NodeOk N U v) := fun h => ⟨h6, h⟩
          have hBad : Hid (∀ k, k < (U v).n → ¬ PthOk N U v k → r = false) := fun k hk h => hNo.out (fun q => h (q.2 k hk))
          clear hNo hall hT' hF' hl ht
          generalize hm : (U v).n = m at *
          have h6' : ¬ ((m : Int) > 6) := by omega
          have h6i : (m : Int) ≤ 6 := by omega
          go_wp2_with fail
          clear u0
          go_loopw [25] (fun y wq => ∃ k : Nat, y = .int .i64 k ∧ k ≤ m ∧ Hid (∀ j, j < k → PthOk N U v j) ∧ Below wr.heap.size wr wq) (fun y _ => m - (intOf y).toNat)
          case atStart => exact ⟨0, rfl, Nat.zero_le _, fun i hi => absurd hi (by omega), Below.refl _ _⟩
          case round =>
            obtain ⟨k, rfl, hk, hs, hd⟩ := hrel
            have MZ := MY.below hd
            have c0 := MZ.2.1 0 _ rfl
            have dZ := dY.trans (hd.mono dY.size)
            by_cases hkt : k < m
            · obtain ⟨b1, off1, a1, c1, rfl, hb1, u1, hc1, ht1⟩ := (htY.out.below hd) k hkt
              have hkt' : (k : Int) < (m : Int) := by omega
              have PP := hide (fun w R P => PA.out a1 c1 k w (by omega) hc1 R P)
              have RZ := hide (hRY.out.below hd)
              have TZ := hide ht1
              by_cases g1 : PathS N U ((v : Int) + 1) ((U v).T k)
              · rw [pB_t g1] at PP
                have AA := hide (fun w R P => AT.out a1 c1 k w (by omega) R P)
                by_cases g2 : rk U v ((U v).T k) = (k : Int)
                · rw [g2] at AA
                  have hN : Hid (∀ j, j < k + 1 → PthOk N U v j) := fun j hj => by
                    by_cases e : j = k
                    · subst e; exact (pthOk_iff N U v j).2 ⟨g1, g2⟩
                    · exact hs.out j (by omega)
                  have kk : ((k : Int) != (k : Int)) = false := by simp
                  clear hs g1 g2 PA AT ht1 hBad hYes hNext
                  generalize ((U v).T k).n = tn at *
                  go_wp2_with fail
                  refine (PP.out _ RZ.out TZ.out).mono ?_
                  rintro e w3 ⟨rfl, b3⟩
                  have M3 := MZ.below b3
                  have c0 := M3.2.1 0 _ rfl
                  have d3 := hd.trans (b3.mono hd.size)
                  go_wp2_with fail
                  refine (AA.out _ (RZ.out.below b3) (TZ.out.below b3)).mono ?_
                  rintro e w4 ⟨rfl, b4⟩
                  have d4 := d3.trans (b4.mono d3.size)
                  clear b3 d3 b4
                  go_wp2_with fail
                  exact ⟨⟨k + 1, by go_num, by omega, hN, d4⟩, by simp [intOf]; omega⟩
                · have hE := hide (hBad.out k hkt (fun h => g2 ((pthOk_iff N U v k).1 h).2))
                  have kk : (rk U v ((U v).T k) != (k : Int)) = true := by simpa using g2
                  clear hs g1 g2 PA AT ht1 hBad hYes hNext
                  generalize rk U v ((U v).T k) = q at *
                  generalize ((U v).T k).n = tn at *
                  go_wp2_with fail
                  refine (PP.out _ RZ.out TZ.out).mono ?_
                  rintro e w3 ⟨rfl, b3⟩
                  have M3 := MZ.below b3
                  have c0 := M3.2.1 0 _ rfl
                  have d3 := dZ.trans (b3.mono dZ.size)
                  go_wp2_with fail
                  refine (AA.out _ (RZ.out.below b3) (TZ.out.below b3)).mono ?_
                  rintro e w4 ⟨rfl, b4⟩
                  have d4 := d3.trans (b4.mono d3.size)
                  clear b3 d3 b4
                  go_wp2_with fail
                  go_ret
                  exact ⟨by rw [hE.out]; rfl, d4⟩
              · rw [pB_f g1] at PP
                have hE := hide (hBad.out k hkt (fun h => g1 ((pthOk_iff N U v k).1 h).1))
                clear hs g1 PA AT ht1 hBad hYes hNext
                generalize ((U v).T k).n = tn at *
                go_wp2_with fail
                refine (PP.out _ RZ.out TZ.out).mono ?_
                rintro e w3 ⟨rfl, b3⟩
                have d3 := dZ.trans (b3.mono dZ.size)
                clear b3
                go_wp2_with fail
                go_ret
                exact ⟨by rw [hE.out]; rfl, d3⟩
            · have hkt' : ¬ (k : Int) < (m : Int) := by omega
              obtain rfl : k = m := by omega
              have hN := hide (hNext.out (hYes.out hs.out))
              clear hs PA AT hBad hYes hNext
              go_wp2_with fail
              exact ⟨⟨v + 1, by go_num, by omega, hN, hb.trans (hd.mono hb.size)⟩, by simp [intOf]; omega⟩
        · have hE := hide (hNo.out (fun h => h6 h.1))
          clear hNo hNext hall hT' hF' hl ht PA AT
          generalize (U v).n = m at *
          have h6' : (m : Int) > 6 := by omega
          go_wp2_with fail
          go_ret
          exact ⟨by rw [hE.out]; rfl, dY⟩
      · have hlt' : ¬ (v : Int) < (N : Int) := by omega
        obtain rfl : v = N := by omega
        have hE := hide (hT'.out hall.out)
        clear hall hT' hF' hR hl
        go_wp2_with fail
        go_ret
        exact ⟨by rw [hE.out]; rfl, dY⟩
  · have hE := hide (hF.out (fun h => h1 ⟨h.1, h.2.1⟩))
    rw [inB_n (by omega)] at S1
    clear hT hF hR hl
    go_enter Try.func16, Try.ntmps16
    go_wp2_with fail
    refine (S1.out _).mono ?_
    rintro e w1 ⟨rfl, rfl⟩
    go_wp2_with fail
    go_ret
    exact ⟨by rw [hE.out]; rfl, dX⟩
end Go.Proofs.Ytcnlabedlcmilaa
