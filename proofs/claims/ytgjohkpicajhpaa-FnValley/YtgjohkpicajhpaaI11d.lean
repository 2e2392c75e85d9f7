/- IsValleyFree of the program. -/
import Derived.Test.YtgjohkpicajhpaaI11c
import Derived.Test.YtgjohkpicajhpaaPlain11v
import Derived.Test.YtgjohkpicajhpaaSame10
import Derived.Lib.QuietBelow
namespace Go.Proofs.Ytgjohkpicajhpaa
open Go.RowKit Go.Maps

set_option maxRecDepth 100000 in
set_option maxHeartbeats 1600000 in
theorem i_isTied (v : Option Nat) (g : Int → Int → Int) (pa : Option Addr) (pn pc : Nat) (pf : Nat → Int) (w : World) (hK : KV w v g) (hp : pn ≤ 1048576) (hc : pn ≤ pc) (hP : RowInt pa pn pf w) (hx : ∀ i, i < pn → W64 (pf i)) :
    Calls Try.prog 19 #[.map v, .slice pa pn pc] w fun e w' => e = .returned (.bool (pB (Tied g pn pf))) ∧ w' = w := by
  have hT : Hid (Tied g pn pf → pB (Tied g pn pf) = true) := pB_t
  have hF : Hid (¬ Tied g pn pf → pB (Tied g pn pf) = false) := pB_f
  generalize pB (Tied g pn pf) = r at *
  by_cases h2 : (pn : Int) < 2
  · have hE := hide (hF.out (fun h => by have := h.1; omega))
    clear hT hF hP
    go_enter Try.func19, Try.ntmps19
    go_wp2_with fail
    go_ret
    exact ⟨by rw [hE.out]; rfl, rfl⟩
  · by_cases h6 : (pn : Int) > 6
    · have hE := hide (hF.out (fun h => by have := h.2.1; omega))
      clear hT hF hP
      go_enter Try.func19, Try.ntmps19
      go_wp2_with fail
      go_ret
      exact ⟨by rw [hE.out]; rfl, rfl⟩
    · have hYes : Hid ((∀ i, i + 1 < pn → g (pf i) (pf (i + 1)) ≠ 0 ∧ ∀ j, j ≤ i → pf j ≠ pf (i + 1)) → r = true) := fun h => hT.out ⟨by omega, by omega, h⟩
      have hNo : Hid (∀ i, i + 1 < pn → ¬ (g (pf i) (pf (i + 1)) ≠ 0 ∧ ∀ j, j ≤ i → pf j ≠ pf (i + 1)) → r = false) := fun i hi h => hF.out (fun q => h (q.2.2 i hi))
      obtain ⟨b, off, rfl, hb, _⟩ := hP 0 (by omega)
      have h1 : (1 : Int) ≤ (pn : Int) := by omega
      have h2' : (pn : Int) ≤ (pc : Int) := by omega
      have h3 : pc ≠ 1 := by omega
      have h4 : pn ≠ 0 := by omega
      have h66 : (pn : Int) ≤ 6 := by omega
      clear hT hF
      go_enter Try.func19, Try.ntmps19
      go_wp2_with fail
      go_loopw [5, 6, 18] (fun _ _ y wr => ∃ k : Nat, y = .int .i64 k ∧ k + 1 ≤ pn ∧ Hid (∀ i, i < k → g (pf i) (pf (i + 1)) ≠ 0 ∧ ∀ j, j ≤ i → pf j ≠ pf (i + 1)) ∧ wr = w) (fun _ _ y _ => pn - (intOf y).toNat)
      case atStart => exact ⟨0, rfl, by omega, fun i hi => absurd hi (by omega), rfl⟩
      case round =>
        obtain ⟨k, rfl, hk, hall, hwr⟩ := hrel
        rw [hwr]; clear hwr wr
        by_cases hlt : k + 1 < pn
        · have hlt' : (k : Int) < ((pn - 1 : Nat) : Int) := by omega
          have hlt2 : (k : Int) < (pn : Int) := by omega
          have hkc : (k : Int) + 1 ≤ (pc : Int) := by omega
          obtain ⟨b1, off1, hab, hb1, c0⟩ := hP k (by omega)
          simp only [Option.some.injEq, Addr.mk.injEq, and_true] at hab
          obtain ⟨rfl, rfl⟩ := hab
          obtain ⟨b1, off1, hab, hb1, c1⟩ := hP (k + 1) (by omega)
          simp only [Option.some.injEq, Addr.mk.injEq, and_true] at hab
          obtain ⟨rfl, rfl⟩ := hab
          rw [show off + (k + 1) = off + 1 + k by omega] at c1
          have l1 := hK.look (hx k (by omega)) (hx (k + 1) (by omega))
          have HA := hide (fun w R => i_has10 (some ⟨b, off, none⟩) (k + 1) pc pf (pf (k + 1)) w (by omega) R)
          have RK := hide (hP.take (k := k + 1) (by omega))
          have hN := hide (hNo.out k hlt)
          have hN2 : Hid ((g (pf k) (pf (k + 1)) ≠ 0 ∧ ∀ j, j ≤ k → pf j ≠ pf (k + 1)) → ∀ i, i < k + 1 → g (pf i) (pf (i + 1)) ≠ 0 ∧ ∀ j, j ≤ i → pf j ≠ pf (i + 1)) := fun h i hi => by
            by_cases e : i = k
            · subst e; exact h
            · exact hall.out i (by omega)
          by_cases z1 : g (pf k) (pf (k + 1)) = 0
          · have z1' : (g (pf k) (pf (k + 1)) == 0) = true := by simp [z1]
            have hE := hide (hN.out (fun h => h.1 z1))
            clear hN hN2 hall hNo hYes z1 HA RK hx hK
            generalize g (pf k) (pf (k + 1)) = kz at *
            generalize pf k = x at *
            generalize pf (k + 1) = y at *
            go_wp2_with fail
            go_ret
            exact ⟨by rw [hE.out]; rfl, rfl⟩
          · have z1' : (g (pf k) (pf (k + 1)) == 0) = false := by simp [z1]
            by_cases g2 : ∃ i, i < k + 1 ∧ pf i = pf (k + 1)
            · rw [pB_t g2] at HA
              have hE := hide (hN.out (fun h => by obtain ⟨i, hi, he⟩ := g2; exact h.2 i (by omega) he))
              clear hN hN2 hall hNo hYes z1 hx hK g2
              generalize g (pf k) (pf (k + 1)) = kz at *
              generalize pf (k + 1) = y at *
              generalize pf k = x at *
              go_wp2_with fail
              refine (HA.out _ RK.out).mono ?_
              rintro e w3 ⟨rfl, hw3⟩
              rw [hw3]; clear hw3 w3
              go_wp2_with fail
              go_ret
              exact ⟨by rw [hE.out]; rfl, rfl⟩
            · rw [pB_f g2] at HA
              have hE := hide (hN2.out ⟨z1, fun j hj he => g2 ⟨j, by omega, he⟩⟩)
              clear hN hN2 hall hNo hYes z1 hx hK g2
              generalize g (pf k) (pf (k + 1)) = kz at *
              generalize hy : pf (k + 1) = y at *
              generalize hxx : pf k = x at *
              clear hy hxx
              go_wp2_with fail
              refine (HA.out _ RK.out).mono ?_
              rintro e w3 ⟨rfl, hw3⟩
              rw [hw3]; clear hw3 w3
              go_wp2_with fail
              exact ⟨⟨k + 1, by go_num, by omega, hE, by trivial⟩, by simp [intOf]; omega⟩
        · have hlt' : ¬ (k : Int) < ((pn - 1 : Nat) : Int) := by omega
          have hE := hide (hYes.out (fun i hi => hall.out i (by omega)))
          clear hall hNo hYes hx hK hP
          go_wp2_with fail
          go_ret
          exact ⟨by rw [hE.out]; rfl, rfl⟩
set_option maxRecDepth 100000 in
set_option maxHeartbeats 1600000 in
theorem i_mayB (v : Option Nat) (g : Int → Int → Int) (a b x : Int) (w : World) (ha : W64 a) (hb : W64 b) (hx : W64 x) (hK : KV w v g) :
    Calls Try.prog 24 #[.map v, .int .i64 a, .int .i64 b, .int .i64 x] w fun e w' => e = .returned (.bool ((g a b == 1) || (g a x == 1))) ∧ Below w.heap.size w w' :=
  (i_may v g a b x w ha hb hx hK).mono fun e w' ⟨h1, h2⟩ => ⟨h1, by rw [h2]; exact Below.refl _ _⟩
set_option maxRecDepth 100000 in
set_option maxHeartbeats 1600000 in
theorem i_free11 (v : Option Nat) (g : Int → Int → Int) (pa : Option Addr) (pn pc : Nat) (pf : Nat → Int) (w : World) (hK : KV w v g) (h2 : 2 ≤ pn) (h6 : pn ≤ 6) (hP : RowInt pa pn pf w) (hx : ∀ i, i < pn → W64 (pf i)) :
    Calls Try.prog 20 #[.map v, .slice pa pn pc] w fun e w' => e = .returned (.bool (pB (Free g pn pf))) ∧ Below w.heap.size w w' := by
  have hT : Hid (Free g pn pf → pB (Free g pn pf) = true) := pB_t
  have hF : Hid (¬ Free g pn pf → pB (Free g pn pf) = false) := pB_f
  generalize pB (Free g pn pf) = r at *
  obtain ⟨b, off, rfl, hb, _⟩ := hP 0 (by omega)
  have hNo : Hid (∀ i, i + 2 < pn → ¬ (g (pf (i + 1)) (pf i) = 1 ∨ g (pf (i + 1)) (pf (i + 2)) = 1) → r = false) := fun i hi h => hF.out (fun q => h (q i hi))
  have h66 : (pn : Int) ≤ 6 := by omega
  clear hF
  go_enter Try.func20, Try.ntmps20
  go_wp2_with fail
  go_loopw [5] (fun y wr => ∃ l : Nat, y = .int .i64 l ∧ 1 ≤ l ∧ l + 1 ≤ pn ∧ Hid (∀ i, i + 1 < l → g (pf (i + 1)) (pf i) = 1 ∨ g (pf (i + 1)) (pf (i + 2)) = 1) ∧ Below w.heap.size w wr) (fun y _ => pn - (intOf y).toNat)
  case atStart => exact ⟨1, rfl, by omega, by omega, fun i hi => absurd hi (by omega), Below.refl _ _⟩
  case round =>
    obtain ⟨l, rfl, hl1, hl, hall, hbr⟩ := hrel
    by_cases hlt : l + 1 < pn
    · obtain ⟨k, rfl⟩ : ∃ k, l = k + 1 := ⟨l - 1, by omega⟩
      obtain ⟨b1, off1, hab, hb1, c0⟩ := hP k (by omega)
      simp only [Option.some.injEq, Addr.mk.injEq, and_true] at hab
      obtain ⟨rfl, rfl⟩ := hab
      obtain ⟨b1, off1, hab, hb1, c1⟩ := hP (k + 1) (by omega)
      simp only [Option.some.injEq, Addr.mk.injEq, and_true] at hab
      obtain ⟨rfl, rfl⟩ := hab
      obtain ⟨b1, off1, hab, hb1, c2⟩ := hP (k + 2) (by omega)
      simp only [Option.some.injEq, Addr.mk.injEq, and_true] at hab
      obtain ⟨rfl, rfl⟩ := hab
      replace c0 := (hbr.cell (p := ⟨b, off + k, none⟩) hb).trans c0
      replace c1 := (hbr.cell (p := ⟨b, off + (k + 1), none⟩) hb).trans c1
      replace c2 := (hbr.cell (p := ⟨b, off + (k + 2), none⟩) hb).trans c2
      have MY := hide (fun w K => i_mayB v g (pf (k + 1)) (pf k) (pf (k + 2)) w (hx _ (by omega)) (hx _ (by omega)) (hx _ (by omega)) K)
      have hN := hide (hNo.out k (by omega))
      have hN2 : Hid ((g (pf (k + 1)) (pf k) = 1 ∨ g (pf (k + 1)) (pf (k + 2)) = 1) → ∀ i, i + 1 < k + 1 + 1 → g (pf (i + 1)) (pf i) = 1 ∨ g (pf (i + 1)) (pf (i + 2)) = 1) := fun h i hi => by
        by_cases e : i = k
        · subst e; exact h
        · exact hall.out i (by omega)
      have K1 := hide (hK.below hbr)
      obtain ⟨t, ht⟩ : ∃ t : Bool, ((g (pf (k + 1)) (pf k) == 1) || (g (pf (k + 1)) (pf (k + 2)) == 1)) = t := ⟨_, rfl⟩
      rw [ht] at MY
      have hYN : Hid ((t = true → g (pf (k + 1)) (pf k) = 1 ∨ g (pf (k + 1)) (pf (k + 2)) = 1) ∧ (t = false → ¬ (g (pf (k + 1)) (pf k) = 1 ∨ g (pf (k + 1)) (pf (k + 2)) = 1))) := by
        show _ ∧ _
        rw [← ht]
        simp
      have hG1 : Hid (t = true → ∀ i, i + 1 < k + 1 + 1 → g (pf (i + 1)) (pf i) = 1 ∨ g (pf (i + 1)) (pf (i + 2)) = 1) := fun h => hN2.out (hYN.out.1 h)
      have hG0 : Hid (t = false → r = false) := fun h => hN.out (hYN.out.2 h)
      clear ht hYN hN hN2 hall hNo hT hx hK hP
      generalize hy0 : pf k = x0 at *
      generalize hy1 : pf (k + 1) = x1 at *
      generalize hy2 : pf (k + 2) = x2 at *
      clear hy0 hy1 hy2
      generalize hl2 : k + 2 = m at *
      generalize hl3 : k + 1 = l at *
      have e1 : (l : Int) - 1 = (k : Int) := by omega
      have e2 : (l : Int) + 1 = (m : Int) := by omega
      have hlt' : (l : Int) < (pn : Int) - 1 := by omega
      have hi0 : (k : Int) < (pn : Int) := by omega
      have hi1 : (l : Int) < (pn : Int) := by omega
      have hi2 : (m : Int) < (pn : Int) := by omega
      clear hl2 hl3
      have k0 := cell_regrown c0
      have k1 := cell_regrown c1
      have k2 := cell_regrown c2
      cases t with
      | true =>
        have hE := hide (hG1.out rfl)
        clear hG0 hG1
        go_wp2_with fail
        refine wp_region_quiet_below (by kernel_rfl) (by kernel_rfl) ?_
        repeat (first | go_big_quiet_step ((go_at_call 24; exact Calls.regrown_of (MY.out _ (K1.out.below (below_regrown _ _ _))))) | quiet_step ((go_at_call 24; exact Calls.regrown_of (MY.out _ (K1.out.below (below_regrown _ _ _))))))
        refine wpQuiet_nil ?_
        intro _ hw'
        obtain ⟨⟨dq_, osq_⟩, hw''⟩ := hw'
        subst hw''
        have hq_ := below_regrown wr dq_ osq_
        generalize Go.Sort.grow (redrawn wr dq_) osq_ = wdq at hq_ ⊢
        have dq := hbr.trans (hq_.mono hbr.size)
        clear hq_
        go_wp2_with fail
        exact ⟨⟨m, by go_num, by omega, by omega, hE, dq⟩, by simp [intOf]; omega⟩
      | false =>
        have hE := hide (hG0.out rfl)
        clear hG0 hG1
        go_wp2_with fail
        refine wp_region_quiet_below (by kernel_rfl) (by kernel_rfl) ?_
        repeat (first | go_big_quiet_step ((go_at_call 24; exact Calls.regrown_of (MY.out _ (K1.out.below (below_regrown _ _ _))))) | quiet_step ((go_at_call 24; exact Calls.regrown_of (MY.out _ (K1.out.below (below_regrown _ _ _))))))
        refine wpQuiet_nil ?_
        intro _ hw'
        obtain ⟨⟨dq_, osq_⟩, hw''⟩ := hw'
        subst hw''
        have hq_ := below_regrown wr dq_ osq_
        generalize Go.Sort.grow (redrawn wr dq_) osq_ = wdq at hq_ ⊢
        have dq := hbr.trans (hq_.mono hbr.size)
        clear hq_
        go_wp2_with fail
        go_ret
        exact ⟨by rw [hE.out]; rfl, dq⟩
    · have hlt' : ¬ (l : Int) < (pn : Int) - 1 := by omega
      have hE := hide (hT.out (fun i hi => hall.out i (by omega)))
      clear hall hNo hT hx hK hP
      go_wp2_with fail
      go_ret
      exact ⟨by rw [hE.out]; rfl, hbr⟩
set_option maxRecDepth 100000 in
set_option maxHeartbeats 1600000 in
theorem i_isValleyFree (u : Int) (ra : Option Addr) (n rc : Nat) (f0 f1 f2 : Nat → Int) (pa : Option Addr) (pn pc : Nat) (pf : Nat → Int) (w : World) (hn : n ≤ 1048576) (hx : ∀ i, i < pn → W64 (pf i)) (hA : RowRel ra n f0 f1 f2 w) (hp : pn ≤ 1048576) (hc : pn ≤ pc) (hP : RowInt pa pn pf w) :
    Calls Try.prog 5 #[.int .i64 u, .slice ra n rc, .slice pa pn pc] w fun e w' => e = .returned (.tuple #[.bool (vf0 u n f0 f1 f2 pn pf), .bool (vf1 u n f0 f1 f2 pn pf)]) ∧ Below w.heap.size w w' := by
  have KS := hide (fun w R => i_kindsOf u ra n rc f0 f1 f2 w hn R)
  have TI := hide (fun v w K P => i_isTied v (kk u n f0 f1 f2) pa pn pc pf w K hp hc P hx)
  by_cases hT : Tied (kk u n f0 f1 f2) pn pf
  · rw [pB_t hT] at TI
    have hE := hide (vf_t hT)
    have FR := hide (fun v w K P => i_free11 v (kk u n f0 f1 f2) pa pn pc pf w K hT.1 hT.2.1 P hx)
    generalize pB (Free (kk u n f0 f1 f2) pn pf) = rf at *
    generalize vf0 u n f0 f1 f2 pn pf = r0 at *
    generalize vf1 u n f0 f1 f2 pn pf = r1 at *
    generalize grB u n f0 f1 f2 = rg at *
    clear hT
    generalize kk u n f0 f1 f2 = g at *
    go_enter Try.func5, Try.ntmps5
    go_wp2_with fail
    refine (KS.out _ hA).mono ?_
    rintro e w1 ⟨v, rfl, K1, b1⟩
    go_wp2_with fail
    refine (TI.out v _ K1 (hP.below b1)).mono ?_
    rintro e w2 ⟨rfl, hw2⟩
    rw [hw2]; clear hw2 w2
    go_wp2_with fail
    refine (FR.out v _ K1 (hP.below b1)).mono ?_
    rintro e w3 ⟨rfl, b3⟩
    have d3 := b1.trans (b3.mono b1.size)
    go_wp2_with fail
    go_ret2
    exact ⟨by rw [hE.out.1, hE.out.2]; rfl, d3⟩
  · rw [pB_f hT] at TI
    have hE := hide (vf_f hT)
    generalize vf0 u n f0 f1 f2 pn pf = r0 at *
    generalize vf1 u n f0 f1 f2 pn pf = r1 at *
    generalize grB u n f0 f1 f2 = rg at *
    clear hT
    generalize kk u n f0 f1 f2 = g at *
    go_enter Try.func5, Try.ntmps5
    go_wp2_with fail
    refine (KS.out _ hA).mono ?_
    rintro e w1 ⟨v, rfl, K1, b1⟩
    go_wp2_with fail
    refine (TI.out v _ K1 (hP.below b1)).mono ?_
    rintro e w2 ⟨rfl, hw2⟩
    rw [hw2]; clear hw2 w2
    go_wp2_with fail
    go_ret2
    exact ⟨by rw [hE.out.1, hE.out.2]; rfl, b1⟩
end Go.Proofs.Ytgjohkpicajhpaa
