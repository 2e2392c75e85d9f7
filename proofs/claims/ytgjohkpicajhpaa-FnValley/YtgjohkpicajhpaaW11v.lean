/- The law on rows without valleys, walked out of what the functions answer. -/
import Derived.Test.YtgjohkpicajhpaaDrawRel2
import Derived.Test.YtgjohkpicajhpaaI11d
import Derived.Test.YtgjohkpicajhpaaS11d
import Derived.Lib.QuietBelow
namespace Go.Proofs.Ytgjohkpicajhpaa
open Go.RowKit

/-- What may be told on at a row's node. -/
theorem tell_at {u : Int} {n : Nat} {f0 f1 f2 : Nat → Int} {pn : Nat} {pf : Nat → Int} (h : Tied (kk u n f0 f1 f2) pn pf) (k : Nat) (hk : k + 2 < pn) :
    mt1 u n f0 f1 f2 (pf (k + 1)) (pf k) (pf (k + 2)) = true ∧ mt0 u n f0 f1 f2 (pf (k + 1)) (pf k) (pf (k + 2)) = ((kk u n f0 f1 f2 (pf (k + 1)) (pf k) == 1) || (kk u n f0 f1 f2 (pf (k + 1)) (pf (k + 2)) == 1)) := by
  refine mt1_t ⟨(h.2.2 (k + 1) hk).2 k (by omega), ?_, (h.2.2 (k + 1) hk).1⟩
  rcases kk_both (u := u) (n := n) (f0 := f0) (f1 := f1) (f2 := f2) (pf k) (pf (k + 1)) with q | q
  · exact absurd q.1 (h.2.2 k (by omega)).1
  · have := q.2.2.1
    omega
set_option maxRecDepth 100000 in
set_option maxHeartbeats 12800000 in
theorem w_valley (v1 v2 : Value) (len1 len2 : Nat) (w : World) (hby1 : BytesAt w.heap.size w v1 len1) (hby2 : BytesAt w.heap.size w v2 len2) :
    Calls Try.prog 3 #[v1, v2] w fun e w' => e = .returned (.bool true) ∧ Below w.heap.size w w' := by
  have hA := hide (fun w' (k : Below w.heap.size w w') => bytes_to11 hby1 k k.size)
  have hM := hide (fun w' (k : Below w.heap.size w w') => bytes_to11 hby2 k k.size)
  obtain ⟨p1, cap1, rfl, hl1, _⟩ := hby1
  obtain ⟨p2, cap2, rfl, hl2, _⟩ := hby2
  unfold maxLen at hl1 hl2
  have sV := hide (fun w h => d_valley (.slice p1 len1 cap1) len1 w h)
  have sK := hide (fun w h => d_kindTo (.slice p2 len2 cap2) len2 w h)
  have sM := hide (fun w h => d_mayTell (.slice p2 len2 cap2) len2 w h)
  have d0 : Below w.heap.size w w := Below.refl _ _
  go_enter Try.func3, Try.ntmps3
  go_wp2_with fail
  · go_ret
    exact ⟨rfl, d0⟩
  clear hl1 hl2
  refine (sV.out _ (hA.out _ d0)).mono ?_
  rintro e w1 ⟨N, a, ln, cap, f0, f1, f2, pa, pn, pc, pf, rfl, hln, hcap, hR, hpn, hpc, hP, hx, d1⟩
  have IG := hide (fun w A P => i_isValleyFree N a ln cap f0 f1 f2 pa pn pc pf w (by omega) hx A (by omega) hpc P)
  have SG := hide (fun w A P => s_isValleyFree N a ln cap f0 f1 f2 pa pn pc pf w (by omega) hcap A (by omega) hpc P)
  clear sV hA d0
  by_cases hT : Tied (kk N ln f0 f1 f2) pn pf
  · have hT0 := True.intro
    have hV := vf_t hT
    rw [hV.1, hV.2] at IG SG
    have hMay : Hid (∀ k, k + 2 < pn → ∀ w, RowRel a ln f0 f1 f2 w → Calls Try.prog 7 #[.int .i64 N, .slice a ln cap, .int .i64 (pf (k + 1)), .int .i64 (pf k), .int .i64 (pf (k + 2))] w fun e w' => e = .returned (.tuple #[.bool ((kk N ln f0 f1 f2 (pf (k + 1)) (pf k) == 1) || (kk N ln f0 f1 f2 (pf (k + 1)) (pf (k + 2)) == 1)), .bool true]) ∧ Below w.heap.size w w') := fun k hk w A => by
      have h := i_mayTell N a ln cap f0 f1 f2 (pf (k + 1)) (pf k) (pf (k + 2)) w (by omega) (hx _ (by omega)) (hx _ (by omega)) (hx _ (by omega)) A
      rw [(tell_at hT k hk).1, (tell_at hT k hk).2] at h
      exact h
    have h2 := hT.1
    have h6 := hT.2.1
    clear hV hT
    generalize kk N ln f0 f1 f2 = g at *
    have hFt : Hid (Free g pn pf → pB (Free g pn pf) = true) := pB_t
    have hFf : Hid (¬ Free g pn pf → pB (Free g pn pf) = false) := pB_f
    generalize pB (Free g pn pf) = rf at *
    have krf : (rf != rf) = false := by simp
    go_wp2_with fail
    refine (IG.out _ hR hP).mono ?_
    rintro e w2 ⟨rfl, b2⟩
    have d2 := d1.trans (b2.mono d1.size)
    have hR2 := hR.below b2
    have hP2 := hP.below b2
    clear b2 d1 hR hP IG
    go_wp2_with fail
    refine (SG.out _ hR2 hP2).mono ?_
    rintro e w3 ⟨rfl, b3⟩
    have d3 := d2.trans (b3.mono d2.size)
    have hR3 := hR2.below b3
    have hP3 := hP2.below b3
    clear b3 d2 hR2 hP2 SG
    obtain ⟨b, off, rfl, hb, _⟩ := hP3 0 (by omega)
    have h66 : (pn : Int) ≤ 6 := by omega
    go_wp2_with fail
    go_loopw [12, 13] (fun d y wr => ∃ (l : Nat) (t : Bool), d = .bool t ∧ y = .int .i64 l ∧ 1 ≤ l ∧ l + 1 ≤ pn ∧ Hid ((t = true → ∀ i, i + 1 < l → g (pf (i + 1)) (pf i) = 1 ∨ g (pf (i + 1)) (pf (i + 2)) = 1) ∧ (t = false → ¬ Free g pn pf)) ∧ Below w3.heap.size w3 wr) (fun _ y _ => pn - (intOf y).toNat)
    case atStart => exact ⟨1, true, rfl, rfl, by omega, by omega, ⟨fun _ i hi => absurd hi (by omega), fun h => by cases h⟩, Below.refl _ _⟩
    case round =>
      obtain ⟨l, t, rfl, rfl, hl1, hl, hD, hbr⟩ := hrel
      by_cases hlt : l + 1 < pn
      · obtain ⟨k, rfl⟩ : ∃ k, l = k + 1 := ⟨l - 1, by omega⟩
        obtain ⟨b1, off1, hab, hb1, c0⟩ := hP3 k (by omega)
        simp only [Option.some.injEq, Addr.mk.injEq, and_true] at hab
        obtain ⟨rfl, rfl⟩ := hab
        obtain ⟨b1, off1, hab, hb1, c1⟩ := hP3 (k + 1) (by omega)
        simp only [Option.some.injEq, Addr.mk.injEq, and_true] at hab
        obtain ⟨rfl, rfl⟩ := hab
        obtain ⟨b1, off1, hab, hb1, c2⟩ := hP3 (k + 2) (by omega)
        simp only [Option.some.injEq, Addr.mk.injEq, and_true] at hab
        obtain ⟨rfl, rfl⟩ := hab
        replace c0 := (hbr.cell (p := ⟨b, off + k, none⟩) hb).trans c0
        replace c1 := (hbr.cell (p := ⟨b, off + (k + 1), none⟩) hb).trans c1
        replace c2 := (hbr.cell (p := ⟨b, off + (k + 2), none⟩) hb).trans c2
        have MY := hide (hMay.out k (by omega))
        have hRr := hide (hR3.below hbr)
        obtain ⟨q, hq⟩ : ∃ q : Bool, ((g (pf (k + 1)) (pf k) == 1) || (g (pf (k + 1)) (pf (k + 2)) == 1)) = q := ⟨_, rfl⟩
        rw [hq] at MY
        have hq1 : (q = true → g (pf (k + 1)) (pf k) = 1 ∨ g (pf (k + 1)) (pf (k + 2)) = 1) ∧ (q = false → ¬ (g (pf (k + 1)) (pf k) = 1 ∨ g (pf (k + 1)) (pf (k + 2)) = 1)) := by
          rw [← hq]
          simp
        have hD2 : Hid (((t && q) = true → ∀ i, i + 1 < k + 1 + 1 → g (pf (i + 1)) (pf i) = 1 ∨ g (pf (i + 1)) (pf (i + 2)) = 1) ∧ ((t && q) = false → ¬ Free g pn pf)) := ⟨fun h i hi => by
            rw [Bool.and_eq_true] at h
            by_cases e : i = k
            · subst e; exact hq1.1 h.2
            · exact hD.out.1 h.1 i (by omega), fun h hF => by
            cases t with
            | false => exact hD.out.2 rfl hF
            | true =>
              rw [Bool.true_and] at h
              exact hq1.2 h (hF k (by omega))⟩
        clear hq hq1 hD
        generalize hy0 : pf k = x0 at *
        generalize hy1 : pf (k + 1) = x1 at *
        generalize hy2 : pf (k + 2) = x2 at *
        clear hy0 hy1 hy2
        generalize hl2 : k + 2 = m at *
        generalize hl3 : k + 1 = l at *
        have e1 : (l : Int) - 1 = (k : Int) := by omega
        have e2 : (l : Int) + 1 = (m : Int) := by omega
        have hi0 : (k : Int) < (pn : Int) := by omega
        have hi1 : (l : Int) < (pn : Int) := by omega
        have hi2 : (m : Int) < (pn : Int) := by omega
        clear hl2 hl3
        have k0 := cell_regrown c0
        have k1 := cell_regrown c1
        have k2 := cell_regrown c2
        go_wp2_with fail
        refine wp_region_quiet_below (by kernel_rfl) (by kernel_rfl) ?_
        repeat (first | go_big_quiet_step ((go_at_call 7; exact Calls.regrown_of (MY.out _ (hRr.out.below (below_regrown _ _ _))))) | quiet_step ((go_at_call 7; exact Calls.regrown_of (MY.out _ (hRr.out.below (below_regrown _ _ _))))))
        refine wpQuiet_nil ?_
        intro _ hw'
        obtain ⟨⟨dq_, osq_⟩, hw''⟩ := hw'
        subst hw''
        have hq_ := below_regrown wr dq_ osq_
        generalize Go.Sort.grow (redrawn wr dq_) osq_ = wdq at hq_ ⊢
        have dq := hbr.trans (hq_.mono hbr.size)
        clear hq_ k0 k1 k2 c0 c1 c2 MY hRr
        cases t with
        | true =>
          rw [Bool.true_and] at hD2
          go_wp2_with fail
          exact ⟨⟨m, q, by first | rfl | trivial, by go_num, by omega, by omega, hD2, dq⟩, by simp [intOf]; omega⟩
        | false =>
          rw [Bool.false_and] at hD2
          go_wp2_with fail
          exact ⟨⟨m, false, by first | rfl | trivial, by go_num, by omega, by omega, hD2, dq⟩, by simp [intOf]; omega⟩
      · have hlt' : ¬ (l : Int) + 1 < (pn : Int) := by omega
        have hE : t = rf := by
          cases t with
          | true => exact (hFt.out (fun i hi => hD.out.1 rfl i (by omega))).symm
          | false => exact (hFf.out (hD.out.2 rfl)).symm
        subst hE
        have d4 := d3.trans (hbr.mono d3.size)
        clear hD hbr hFt hFf hMay hR3 hP3 hb
        go_wp2_with fail
        clear hT0
        refine (sK.out _ (hM.out _ d4)).mono ?_
        rintro e v1 ⟨M, ka, kn, kc, g0, g1, g2, x, y, rfl, hkn, hkc, hKR, hwx, hwy, c1⟩
        have e1 := d4.trans (c1.mono d4.size)
        have IK := hide (fun w A => i_kindTo M ka kn kc g0 g1 g2 x y w (by omega) hwx hwy A)
        have SK := hide (fun w A => s_kindTo M ka kn kc g0 g1 g2 x y w (by omega) hkc A)
        have IB := hide (fun w A => i_kindTo M ka kn kc g0 g1 g2 y x w (by omega) hwy hwx A)
        have hBo := kk_both (u := M) (n := kn) (f0 := g0) (f1 := g1) (f2 := g2) x y
        generalize hk1 : kk M kn g0 g1 g2 x y = r at *
        generalize hk2 : kk M kn g0 g1 g2 y x = s at *
        clear hk1 hk2 c1 sK
        have kr : (r != r) = false := by simp
        have kq : ((r != 0) != (r != 0)) = false := by simp
        have REST : ∀ w6, Below w.heap.size w w6 → True := fun _ _ => trivial
        clear REST
        go_wp2_with fail
        refine (IK.out _ hKR).mono ?_
        rintro e v2 ⟨rfl, c2⟩
        have e2 := e1.trans (c2.mono e1.size)
        have hK2 := hKR.below c2
        clear c2 hKR IK
        go_wp2_with fail
        refine (SK.out _ hK2).mono ?_
        rintro e v3 ⟨rfl, c3⟩
        have e3 := e2.trans (c3.mono e2.size)
        have hK3 := hK2.below c3
        clear c3 hK2 SK e1 e2
        by_cases hr : r = 0
        · have hr' : (r != 0) = false := by simp [hr]
          rw [hr'] at kq
          clear hr hBo IB
          rw [hr']
          go_wp2_with fail
          refine (sM.out _ (hM.out _ e3)).mono ?_
          rintro e v4 ⟨M2, ma, mn, mc, h0, h1, h2, x2, y2, z2, rfl, hmn, hmc, hMR, hw0, hw1, hw2, c4⟩
          have e4 := e3.trans (c4.mono e3.size)
          have IM := hide (fun w A => i_mayTell M2 ma mn mc h0 h1 h2 x2 y2 z2 w (by omega) hw0 hw1 hw2 A)
          have SM := hide (fun w A => s_mayTell M2 ma mn mc h0 h1 h2 x2 y2 z2 w (by omega) hmc A)
          generalize mt0 M2 mn h0 h1 h2 x2 y2 z2 = m0 at *
          generalize mt1 M2 mn h0 h1 h2 x2 y2 z2 = m1 at *
          have km0 : (m0 == m0) = true := by simp
          have km1 : (m1 == m1) = true := by simp
          clear c4 sM hM
          go_wp2_with fail
          refine (IM.out _ hMR).mono ?_
          rintro e v5 ⟨rfl, c5⟩
          have e5 := e4.trans (c5.mono e4.size)
          have hM5 := hMR.below c5
          clear c5 hMR e4
          go_wp2_with fail
          refine (SM.out _ hM5).mono ?_
          rintro e v6 ⟨rfl, c6⟩
          have e6 := e5.trans (c6.mono e5.size)
          clear c6 hM5 e5
          go_wp2_with fail
          go_ret
          exact ⟨rfl, e6⟩
        · have hr' : (r != 0) = true := by simp [hr]
          rw [hr'] at kq
          obtain ⟨hr1, hr3, hs⟩ : 1 ≤ r ∧ r ≤ 3 ∧ s = 4 - r := by
            rcases hBo with q | q
            · exact absurd q.1 hr
            · exact ⟨q.1, q.2.1, q.2.2.1⟩
          have hs' : (s != 0) = true := by simp; omega
          have hsum : ((s + r) != 4) = false := by simp; omega
          have hs1 : 1 ≤ s := by omega
          have hs3 : s ≤ 3 := by omega
          rw [hs'] at IB
          rw [hr']
          clear hr hBo hs
          go_wp2_with fail
          refine (IB.out _ hK3).mono ?_
          rintro e v7 ⟨rfl, c7⟩
          have e7 := e3.trans (c7.mono e3.size)
          clear c7 hK3 e3 IB
          go_wp2_with fail
          refine (sM.out _ (hM.out _ e7)).mono ?_
          rintro e v4 ⟨M2, ma, mn, mc, h0, h1, h2, x2, y2, z2, rfl, hmn, hmc, hMR, hw0, hw1, hw2, c4⟩
          have e4 := e7.trans (c4.mono e7.size)
          have IM := hide (fun w A => i_mayTell M2 ma mn mc h0 h1 h2 x2 y2 z2 w (by omega) hw0 hw1 hw2 A)
          have SM := hide (fun w A => s_mayTell M2 ma mn mc h0 h1 h2 x2 y2 z2 w (by omega) hmc A)
          generalize mt0 M2 mn h0 h1 h2 x2 y2 z2 = m0 at *
          generalize mt1 M2 mn h0 h1 h2 x2 y2 z2 = m1 at *
          have km0 : (m0 == m0) = true := by simp
          have km1 : (m1 == m1) = true := by simp
          clear c4 sM hM
          go_wp2_with fail
          refine (IM.out _ hMR).mono ?_
          rintro e v5 ⟨rfl, c5⟩
          have e5 := e4.trans (c5.mono e4.size)
          have hM5 := hMR.below c5
          clear c5 hMR e4
          go_wp2_with fail
          refine (SM.out _ hM5).mono ?_
          rintro e v6 ⟨rfl, c6⟩
          have e6 := e5.trans (c6.mono e5.size)
          clear c6 hM5 e5
          go_wp2_with fail
          go_ret
          exact ⟨rfl, e6⟩
  · have hT0 := True.intro
    have hV := vf_f hT
    rw [hV.1, hV.2] at IG SG
    clear hV hT
    go_wp2_with fail
    refine (IG.out _ hR hP).mono ?_
    rintro e w2 ⟨rfl, b2⟩
    have d2 := d1.trans (b2.mono d1.size)
    have hR2 := hR.below b2
    have hP2 := hP.below b2
    clear b2 d1 hR hP IG
    go_wp2_with fail
    refine (SG.out _ hR2 hP2).mono ?_
    rintro e w3 ⟨rfl, b3⟩
    have d3 := d2.trans (b3.mono d2.size)
    have hR3 := hR2.below b3
    have hP3 := hP2.below b3
    clear b3 d2 hR2 hP2 SG
    clear hR3 hP3
    go_wp2_with fail
    clear hT0
    refine (sK.out _ (hM.out _ d3)).mono ?_
    rintro e v1 ⟨M, ka, kn, kc, g0, g1, g2, x, y, rfl, hkn, hkc, hKR, hwx, hwy, c1⟩
    have e1 := d3.trans (c1.mono d3.size)
    have IK := hide (fun w A => i_kindTo M ka kn kc g0 g1 g2 x y w (by omega) hwx hwy A)
    have SK := hide (fun w A => s_kindTo M ka kn kc g0 g1 g2 x y w (by omega) hkc A)
    have IB := hide (fun w A => i_kindTo M ka kn kc g0 g1 g2 y x w (by omega) hwy hwx A)
    have hBo := kk_both (u := M) (n := kn) (f0 := g0) (f1 := g1) (f2 := g2) x y
    generalize hk1 : kk M kn g0 g1 g2 x y = r at *
    generalize hk2 : kk M kn g0 g1 g2 y x = s at *
    clear hk1 hk2 c1 sK
    have kr : (r != r) = false := by simp
    have kq : ((r != 0) != (r != 0)) = false := by simp
    have REST : ∀ w6, Below w.heap.size w w6 → True := fun _ _ => trivial
    clear REST
    go_wp2_with fail
    refine (IK.out _ hKR).mono ?_
    rintro e v2 ⟨rfl, c2⟩
    have e2 := e1.trans (c2.mono e1.size)
    have hK2 := hKR.below c2
    clear c2 hKR IK
    go_wp2_with fail
    refine (SK.out _ hK2).mono ?_
    rintro e v3 ⟨rfl, c3⟩
    have e3 := e2.trans (c3.mono e2.size)
    have hK3 := hK2.below c3
    clear c3 hK2 SK e1 e2
    by_cases hr : r = 0
    · have hr' : (r != 0) = false := by simp [hr]
      rw [hr'] at kq
      clear hr hBo IB
      rw [hr']
      go_wp2_with fail
      refine (sM.out _ (hM.out _ e3)).mono ?_
      rintro e v4 ⟨M2, ma, mn, mc, h0, h1, h2, x2, y2, z2, rfl, hmn, hmc, hMR, hw0, hw1, hw2, c4⟩
      have e4 := e3.trans (c4.mono e3.size)
      have IM := hide (fun w A => i_mayTell M2 ma mn mc h0 h1 h2 x2 y2 z2 w (by omega) hw0 hw1 hw2 A)
      have SM := hide (fun w A => s_mayTell M2 ma mn mc h0 h1 h2 x2 y2 z2 w (by omega) hmc A)
      generalize mt0 M2 mn h0 h1 h2 x2 y2 z2 = m0 at *
      generalize mt1 M2 mn h0 h1 h2 x2 y2 z2 = m1 at *
      have km0 : (m0 == m0) = true := by simp
      have km1 : (m1 == m1) = true := by simp
      clear c4 sM hM
      go_wp2_with fail
      refine (IM.out _ hMR).mono ?_
      rintro e v5 ⟨rfl, c5⟩
      have e5 := e4.trans (c5.mono e4.size)
      have hM5 := hMR.below c5
      clear c5 hMR e4
      go_wp2_with fail
      refine (SM.out _ hM5).mono ?_
      rintro e v6 ⟨rfl, c6⟩
      have e6 := e5.trans (c6.mono e5.size)
      clear c6 hM5 e5
      go_wp2_with fail
      go_ret
      exact ⟨rfl, e6⟩
    · have hr' : (r != 0) = true := by simp [hr]
      rw [hr'] at kq
      obtain ⟨hr1, hr3, hs⟩ : 1 ≤ r ∧ r ≤ 3 ∧ s = 4 - r := by
        rcases hBo with q | q
        · exact absurd q.1 hr
        · exact ⟨q.1, q.2.1, q.2.2.1⟩
      have hs' : (s != 0) = true := by simp; omega
      have hsum : ((s + r) != 4) = false := by simp; omega
      have hs1 : 1 ≤ s := by omega
      have hs3 : s ≤ 3 := by omega
      rw [hs'] at IB
      rw [hr']
      clear hr hBo hs
      go_wp2_with fail
      refine (IB.out _ hK3).mono ?_
      rintro e v7 ⟨rfl, c7⟩
      have e7 := e3.trans (c7.mono e3.size)
      clear c7 hK3 e3 IB
      go_wp2_with fail
      refine (sM.out _ (hM.out _ e7)).mono ?_
      rintro e v4 ⟨M2, ma, mn, mc, h0, h1, h2, x2, y2, z2, rfl, hmn, hmc, hMR, hw0, hw1, hw2, c4⟩
      have e4 := e7.trans (c4.mono e7.size)
      have IM := hide (fun w A => i_mayTell M2 ma mn mc h0 h1 h2 x2 y2 z2 w (by omega) hw0 hw1 hw2 A)
      have SM := hide (fun w A => s_mayTell M2 ma mn mc h0 h1 h2 x2 y2 z2 w (by omega) hmc A)
      generalize mt0 M2 mn h0 h1 h2 x2 y2 z2 = m0 at *
      generalize mt1 M2 mn h0 h1 h2 x2 y2 z2 = m1 at *
      have km0 : (m0 == m0) = true := by simp
      have km1 : (m1 == m1) = true := by simp
      clear c4 sM hM
      go_wp2_with fail
      refine (IM.out _ hMR).mono ?_
      rintro e v5 ⟨rfl, c5⟩
      have e5 := e4.trans (c5.mono e4.size)
      have hM5 := hMR.below c5
      clear c5 hMR e4
      go_wp2_with fail
      refine (SM.out _ hM5).mono ?_
      rintro e v6 ⟨rfl, c6⟩
      have e6 := e5.trans (c6.mono e5.size)
      clear c6 hM5 e5
      go_wp2_with fail
      go_ret
      exact ⟨rfl, e6⟩
end Go.Proofs.Ytgjohkpicajhpaa
