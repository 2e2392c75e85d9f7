/- IsValleyFree of the specification. -/
import Derived.Test.YtgjohkpicajhpaaS11b
import Derived.Test.YtgjohkpicajhpaaPlain11v
import Derived.Test.YtgjohkpicajhpaaSame10
import Derived.Lib.QuietBelow
namespace Go.Proofs.Ytgjohkpicajhpaa
open Go.RowKit

set_option maxRecDepth 100000 in
set_option maxHeartbeats 1600000 in
theorem s_row11 (u : Int) (ra : Option Addr) (n rc : Nat) (f0 f1 f2 : Nat → Int) (pa : Option Addr) (pn pc : Nat) (pf : Nat → Int) (w : World) (hG : GR u n f0 f1 f2) (hA : RowRel ra n f0 f1 f2 w) (hp : pn ≤ 1048576) (hc : pn ≤ pc) (hP : RowInt pa pn pf w) :
    Calls Try.prog 22 #[.int .i64 u, .slice ra n rc, .slice pa pn pc] w fun e w' => e = .returned (.bool (pB (Tied (kk u n f0 f1 f2) pn pf))) ∧ Below w.heap.size w w' := by
  have SK := hide (fun a b w R => s_kind11 u ra n rc f0 f1 f2 a b w hG R)
  have hBo := kk_Both u n f0 f1 f2
  clear hG
  generalize kk u n f0 f1 f2 = g at *
  have hNo : Hid (∀ i, i < pn → ¬ RowAt u g pf i → pB (Tied g pn pf) = false) := fun i hi h => pB_f (fun q => h (q.at hBo i hi))
  have hYes : Hid ((∀ i, i < pn → RowAt u g pf i) → pB (Tied g pn pf) = inB (pn : Int) 2 6) := fun h => by
    by_cases q : 2 ≤ (pn : Int) ∧ (pn : Int) ≤ 6
    · rw [inB_t q.1 q.2]
      exact pB_t (tied_of (by omega) (by omega) h)
    · rw [inB_n q]
      exact pB_f (fun t => q ⟨by have := t.1; omega, by have := t.2.1; omega⟩)
  generalize pB (Tied g pn pf) = r at *
  have SI := hide (fun w => s_in (pn : Int) 2 6 w)
  generalize inB (pn : Int) 2 6 = ri at *
  clear hBo
  go_enter Try.func22, Try.ntmps22
  go_wp2_with fail
  go_loopw [7, 8, 11] (fun _ _ y wr => ∃ k : Nat, y = .int .i64 k ∧ k ≤ pn ∧ Hid (∀ i, i < k → RowAt u g pf i) ∧ Below w.heap.size w wr) (fun _ _ y _ => pn - (intOf y).toNat)
  case atStart => exact ⟨0, rfl, Nat.zero_le _, fun i hi => absurd hi (by omega), Below.refl _ _⟩
  case round =>
    obtain ⟨k, rfl, hk, hall, hb⟩ := hrel
    by_cases hlt : k < pn
    · have hlt' : (k : Int) < (pn : Int) := by omega
      have hkc : (k : Int) ≤ (pc : Int) := by omega
      obtain ⟨b, off, rfl, hbw, c0⟩ := hP k hlt
      replace c0 := (hb.cell (p := ⟨b, off + k, none⟩) hbw).trans c0
      have HK := hide (fun w R => s_has10 (some ⟨b, off, none⟩) k pc pf (pf k) w (by omega) R)
      have RK := hide ((hP.below hb).take (k := k) hk)
      have hN := hide (hNo.out k hlt)
      have hS : Hid (RowAt u g pf k → ∀ i, i < k + 1 → RowAt u g pf i) := fun h i hi => by
        by_cases e : i = k
        · subst e; exact h
        · exact hall.out i (by omega)
      by_cases g0 : pf k < 0
      · have hE := hide (hN.out (fun h => by have := h.1.1; omega))
        clear hall hNo hYes hN hS HK RK SI SK
        generalize pf k = z at *
        go_wp2_with fail
        go_ret
        exact ⟨by rw [hE.out]; rfl, hb⟩
      · by_cases g1 : pf k > u
        · have hE := hide (hN.out (fun h => by have := h.1.2; omega))
          clear hall hNo hYes hN hS HK RK SI SK
          generalize pf k = z at *
          go_wp2_with fail
          go_ret
          exact ⟨by rw [hE.out]; rfl, hb⟩
        · by_cases g2 : ∃ i, i < k ∧ pf i = pf k
          · rw [pB_t g2] at HK
            have hE := hide (hN.out (fun h => by obtain ⟨i, hi, he⟩ := g2; exact h.2.1 i hi he))
            clear hall hNo hYes hN hS SI SK g2
            generalize pf k = z at *
            go_wp2_with fail
            refine (HK.out _ RK.out).mono ?_
            rintro e w3 ⟨rfl, hw3⟩
            rw [hw3]; clear hw3 w3
            go_wp2_with fail
            go_ret
            exact ⟨by rw [hE.out]; rfl, hb⟩
          · rw [pB_f g2] at HK
            by_cases g3 : k = 0
            · have hE := hide (hS.out ⟨⟨by omega, by omega⟩, fun j hj he => g2 ⟨j, hj, he⟩, fun h => absurd h (by omega)⟩)
              have g3' : ¬ (k : Int) > 0 := by omega
              clear hall hNo hYes hN hS SI SK g2 g3
              generalize pf k = z at *
              go_wp2_with fail
              refine (HK.out _ RK.out).mono ?_
              rintro e w3 ⟨rfl, hw3⟩
              rw [hw3]; clear hw3 w3
              go_wp2_with fail
              exact ⟨⟨k + 1, by go_num, by omega, hE, hb⟩, by simp [intOf]; omega⟩
            · have g3' : (k : Int) > 0 := by omega
              obtain ⟨b1, off1, hab, hb1, c1⟩ := hP (k - 1) (by omega)
              simp only [Option.some.injEq, Addr.mk.injEq, and_true] at hab
              obtain ⟨rfl, rfl⟩ := hab
              replace c1 := (hb.cell (p := ⟨b, off + (k - 1), none⟩) hbw).trans c1
              have SL := hide (fun w R => SK.out (pf (k - 1)) (pf k) w R)
              have hAr := hide (hA.below hb)
              have hN4 : Hid (g (pf (k - 1)) (pf k) = 0 → r = false) := fun e => hN.out (fun h => h.2.2 (by omega) e)
              have hY4 : Hid (g (pf (k - 1)) (pf k) ≠ 0 → ∀ i, i < k + 1 → RowAt u g pf i) := fun e => hS.out ⟨⟨by omega, by omega⟩, fun j hj he => g2 ⟨j, hj, he⟩, fun _ => e⟩
              clear hall hNo hYes hN hS SI SK g2
              generalize hgk : g (pf (k - 1)) (pf k) = kz at *
              generalize hz1 : pf (k - 1) = z1 at *
              generalize hz : pf k = z at *
              clear hgk hz1 hz
              have e2 : (k : Int) - 1 = ((k - 1 : Nat) : Int) := by omega
              generalize hl : k - 1 = l at *
              have hl' : (l : Int) < (pn : Int) := by omega
              clear hl
              by_cases q : kz = 0
              · have q' : (kz == 0) = true := by simp [q]
                have hE := hide (hN4.out q)
                clear hN4 hY4 q
                go_wp2_with fail
                refine (HK.out _ RK.out).mono ?_
                rintro e w3 ⟨rfl, hw3⟩
                rw [hw3]; clear hw3 w3
                go_wp2_with fail
                refine (SL.out _ hAr.out).mono ?_
                rintro e w4 ⟨rfl, b4⟩
                have d4 := hb.trans (b4.mono hb.size)
                go_wp2_with fail
                go_ret
                exact ⟨by rw [hE.out]; rfl, d4⟩
              · have q' : (kz == 0) = false := by simp [q]
                have hE := hide (hY4.out q)
                clear hN4 hY4 q
                go_wp2_with fail
                refine (HK.out _ RK.out).mono ?_
                rintro e w3 ⟨rfl, hw3⟩
                rw [hw3]; clear hw3 w3
                go_wp2_with fail
                refine (SL.out _ hAr.out).mono ?_
                rintro e w4 ⟨rfl, b4⟩
                have d4 := hb.trans (b4.mono hb.size)
                go_wp2_with fail
                exact ⟨⟨k + 1, by go_num, by omega, hE, d4⟩, by simp [intOf]; omega⟩
    · have hlt' : ¬ (k : Int) < (pn : Int) := by omega
      obtain rfl : k = pn := by omega
      have hE := hide (hYes.out hall.out)
      clear hall hNo hYes hP hA SK
      go_wp2_with fail
      refine (SI.out _).mono ?_
      rintro e w3 ⟨rfl, hw3⟩
      rw [hw3]; clear hw3 w3
      go_wp2_with fail
      go_ret
      exact ⟨by rw [hE.out]; rfl, hb⟩
set_option maxRecDepth 100000 in
set_option maxHeartbeats 1600000 in
theorem s_free11 (u : Int) (ra : Option Addr) (n rc : Nat) (f0 f1 f2 : Nat → Int) (pa : Option Addr) (pn pc : Nat) (pf : Nat → Int) (w : World) (hG : GR u n f0 f1 f2) (hA : RowRel ra n f0 f1 f2 w) (hTi : Tied (kk u n f0 f1 f2) pn pf) (hP : RowInt pa pn pf w) :
    Calls Try.prog 23 #[.slice ra n rc, .slice pa pn pc] w fun e w' => e = .returned (.bool (pB (Free (kk u n f0 f1 f2) pn pf))) ∧ Below w.heap.size w w' := by
  have SK := hide (fun a b w R => s_kind11 u ra n rc f0 f1 f2 a b w hG R)
  have hIff := free_iff (kk_Both u n f0 f1 f2) hTi
  have h2 := hTi.1
  have h6 := hTi.2.1
  clear hG hTi
  generalize kk u n f0 f1 f2 = g at *
  have hT : Hid (FreeS g pn pf → pB (Free g pn pf) = true) := fun h => pB_t (hIff.2 h)
  have hNo : Hid (∀ i, i + 1 < pn → (∃ j, j < i ∧ g (pf j) (pf (j + 1)) ≠ 3) → g (pf i) (pf (i + 1)) ≠ 1 → pB (Free g pn pf) = false) := fun i hi h1 h => pB_f (fun q => h ((hIff.1 q) i hi h1))
  generalize pB (Free g pn pf) = r at *
  obtain ⟨b, off, rfl, hb, _⟩ := hP 0 (by omega)
  have h66 : (pn : Int) ≤ 6 := by omega
  clear hIff
  go_enter Try.func23, Try.ntmps23
  go_wp2_with fail
  go_loopw [5, 6, 7] (fun d y _ wr => ∃ (l : Nat) (t : Bool), d = .bool t ∧ y = .int .i64 l ∧ 1 ≤ l ∧ l ≤ pn ∧ Hid ((t = true → ∃ j, j + 1 < l ∧ g (pf j) (pf (j + 1)) ≠ 3) ∧ (t = false → ∀ j, j + 1 < l → g (pf j) (pf (j + 1)) = 3)) ∧ Hid (∀ i, i + 1 < l → (∃ j, j < i ∧ g (pf j) (pf (j + 1)) ≠ 3) → g (pf i) (pf (i + 1)) = 1) ∧ Below w.heap.size w wr) (fun _ y _ _ => pn - (intOf y).toNat)
  case atStart => exact ⟨1, false, rfl, rfl, by omega, by omega, ⟨fun h => (by cases h), fun _ j hj => absurd hj (by omega)⟩, fun i hi => absurd hi (by omega), Below.refl _ _⟩
  case round =>
    obtain ⟨l, t, rfl, rfl, hl1, hl, hD, hall, hbr⟩ := hrel
    by_cases hlt : l < pn
    · obtain ⟨k, rfl⟩ : ∃ k, l = k + 1 := ⟨l - 1, by omega⟩
      obtain ⟨b1, off1, hab, hb1, c0⟩ := hP k (by omega)
      simp only [Option.some.injEq, Addr.mk.injEq, and_true] at hab
      obtain ⟨rfl, rfl⟩ := hab
      obtain ⟨b1, off1, hab, hb1, c1⟩ := hP (k + 1) (by omega)
      simp only [Option.some.injEq, Addr.mk.injEq, and_true] at hab
      obtain ⟨rfl, rfl⟩ := hab
      replace c0 := (hbr.cell (p := ⟨b, off + k, none⟩) hb).trans c0
      replace c1 := (hbr.cell (p := ⟨b, off + (k + 1), none⟩) hb).trans c1
      have SL := hide (fun w R => SK.out (pf k) (pf (k + 1)) w R)
      have hAr := hide (hA.below hbr)
      have hN : Hid (t = true → g (pf k) (pf (k + 1)) ≠ 1 → r = false) := fun ht h => hNo.out k hlt (by obtain ⟨j, hj, h3⟩ := hD.out.1 ht; exact ⟨j, by omega, h3⟩) h
      have hY : Hid ((t = true → g (pf k) (pf (k + 1)) = 1) → ∀ i, i + 1 < k + 1 + 1 → (∃ j, j < i ∧ g (pf j) (pf (j + 1)) ≠ 3) → g (pf i) (pf (i + 1)) = 1) := fun h i hi ⟨j, hj, h3⟩ => by
        by_cases e : i = k
        · subst e
          refine h ?_
          cases t with
          | true => rfl
          | false => exact absurd (hD.out.2 rfl j (by omega)) h3
        · exact hall.out i (by omega) ⟨j, hj, h3⟩
      have hD' : Hid (∀ t' : Bool, (t' = true ↔ (t = true ∨ g (pf k) (pf (k + 1)) ≠ 3)) → (t' = true → ∃ j, j + 1 < k + 1 + 1 ∧ g (pf j) (pf (j + 1)) ≠ 3) ∧ (t' = false → ∀ j, j + 1 < k + 1 + 1 → g (pf j) (pf (j + 1)) = 3)) := fun t' h => ⟨fun q => by
          rcases h.1 q with q | q
          · obtain ⟨j, hj, h3⟩ := hD.out.1 q
            exact ⟨j, by omega, h3⟩
          · exact ⟨k, by omega, q⟩, fun q j hj => by
          have nt : ¬ (t = true ∨ g (pf k) (pf (k + 1)) ≠ 3) := fun z => by rw [h.2 z] at q; cases q
          by_cases e : j = k
          · subst e
            exact Classical.byContradiction fun z => nt (Or.inr z)
          · refine hD.out.2 ?_ j (by omega)
            cases t with
            | true => exact absurd (Or.inl rfl) nt
            | false => rfl⟩
      clear hall hD hNo hT hP hA SK
      generalize hgk : g (pf k) (pf (k + 1)) = kz at *
      generalize hy0 : pf k = x0 at *
      generalize hy1 : pf (k + 1) = x1 at *
      clear hgk hy0 hy1
      generalize hl3 : k + 1 = l at *
      have e1 : (l : Int) - 1 = (k : Int) := by omega
      have hlt' : (l : Int) < (pn : Int) := by omega
      have hi0 : (k : Int) < (pn : Int) := by omega
      clear hl3
      have k0 := cell_regrown c0
      have k1 := cell_regrown c1
      go_wp2_with fail
      refine wp_region_quiet_below (by kernel_rfl) (by kernel_rfl) ?_
      repeat (first | go_big_quiet_step ((go_at_call 15; exact Calls.regrown_of (SL.out _ (hAr.out.below (below_regrown _ _ _))))) | quiet_step ((go_at_call 15; exact Calls.regrown_of (SL.out _ (hAr.out.below (below_regrown _ _ _))))))
      refine wpQuiet_nil ?_
      intro _ hw'
      obtain ⟨⟨dq_, osq_⟩, hw''⟩ := hw'
      subst hw''
      have hq_ := below_regrown wr dq_ osq_
      generalize Go.Sort.grow (redrawn wr dq_) osq_ = wdq at hq_ ⊢
      have dq := hbr.trans (hq_.mono hbr.size)
      clear hq_ k0 k1 c0 c1 SL hAr
      cases t with
      | true =>
        by_cases q1 : kz = 1
        · have q1' : (kz != 1) = false := by simp [q1]
          have hE := hide (hY.out (fun _ => q1))
          have hE2 := hide (hD'.out true (by simp))
          clear hN hY hD' q1
          go_wp2_with fail
          exact ⟨⟨l + 1, true, rfl, by go_num, by omega, by omega, hE2, hE, dq⟩, by simp [intOf]; omega⟩
        · have q1' : (kz != 1) = true := by simp [q1]
          have hE := hide (hN.out rfl q1)
          clear hN hY hD' q1
          go_wp2_with fail
          go_ret
          exact ⟨by rw [hE.out]; rfl, dq⟩
      | false =>
        have hE := hide (hY.out (fun h => by cases h))
        by_cases q3 : kz = 3
        · have q3' : (kz != 3) = false := by simp [q3]
          have hE2 := hide (hD'.out false (by simp [q3]))
          clear hN hY hD' q3
          go_wp2_with fail
          exact ⟨⟨l + 1, false, rfl, by go_num, by omega, by omega, hE2, hE, dq⟩, by simp [intOf]; omega⟩
        · have q3' : (kz != 3) = true := by simp [q3]
          have hE2 := hide (hD'.out true (by simp [q3]))
          clear hN hY hD' q3
          go_wp2_with fail
          exact ⟨⟨l + 1, true, rfl, by go_num, by omega, by omega, hE2, hE, dq⟩, by simp [intOf]; omega⟩
    · have hlt' : ¬ (l : Int) < (pn : Int) := by omega
      have hE := hide (hT.out (fun i hi => hall.out i (by omega)))
      clear hall hD hNo hT hP hA SK
      go_wp2_with fail
      go_ret
      exact ⟨by rw [hE.out]; rfl, hbr⟩
set_option maxRecDepth 100000 in
set_option maxHeartbeats 1600000 in
theorem s_isValleyFree (u : Int) (ra : Option Addr) (n rc : Nat) (f0 f1 f2 : Nat → Int) (pa : Option Addr) (pn pc : Nat) (pf : Nat → Int) (w : World) (hn : n ≤ 1048576) (hcr : n ≤ rc) (hA : RowRel ra n f0 f1 f2 w) (hp : pn ≤ 1048576) (hc : pn ≤ pc) (hP : RowInt pa pn pf w) :
    Calls Try.prog 6 #[.int .i64 u, .slice ra n rc, .slice pa pn pc] w fun e w' => e = .returned (.tuple #[.bool (vf0 u n f0 f1 f2 pn pf), .bool (vf1 u n f0 f1 f2 pn pf)]) ∧ Below w.heap.size w w' := by
  have SG := hide (fun w R => s_goodRels u ra n rc f0 f1 f2 w hn hcr R)
  by_cases hG : GR u n f0 f1 f2
  · rw [show grB u n f0 f1 f2 = true from pB_t hG] at SG
    have SR := hide (fun w R P => s_row11 u ra n rc f0 f1 f2 pa pn pc pf w hG R hp hc P)
    by_cases hT : Tied (kk u n f0 f1 f2) pn pf
    · rw [pB_t hT] at SR
      have SF := hide (fun w R P => s_free11 u ra n rc f0 f1 f2 pa pn pc pf w hG R hT P)
      have hE := hide (vf_t hT)
      generalize pB (Free (kk u n f0 f1 f2) pn pf) = rf at *
      generalize vf0 u n f0 f1 f2 pn pf = r0 at *
      generalize vf1 u n f0 f1 f2 pn pf = r1 at *
      clear hT hG
      go_enter Try.func6, Try.ntmps6
      go_wp2_with fail
      refine (SG.out _ hA).mono ?_
      rintro e w1 ⟨rfl, b1⟩
      go_wp2_with fail
      refine (SR.out _ (hA.below b1) (hP.below b1)).mono ?_
      rintro e w2 ⟨rfl, b2⟩
      have d2 := b1.trans (b2.mono b1.size)
      go_wp2_with fail
      refine (SF.out _ (hA.below d2) (hP.below d2)).mono ?_
      rintro e w3 ⟨rfl, b3⟩
      have d3 := d2.trans (b3.mono d2.size)
      go_wp2_with fail
      go_ret2
      exact ⟨by rw [hE.out.1, hE.out.2]; rfl, d3⟩
    · rw [pB_f hT] at SR
      have hE := hide (vf_f hT)
      generalize vf0 u n f0 f1 f2 pn pf = r0 at *
      generalize vf1 u n f0 f1 f2 pn pf = r1 at *
      clear hT hG
      go_enter Try.func6, Try.ntmps6
      go_wp2_with fail
      refine (SG.out _ hA).mono ?_
      rintro e w1 ⟨rfl, b1⟩
      go_wp2_with fail
      refine (SR.out _ (hA.below b1) (hP.below b1)).mono ?_
      rintro e w2 ⟨rfl, b2⟩
      have d2 := b1.trans (b2.mono b1.size)
      go_wp2_with fail
      go_ret2
      exact ⟨by rw [hE.out.1, hE.out.2]; rfl, d2⟩
  · rw [show grB u n f0 f1 f2 = false from pB_f hG] at SG
    have hE := hide (vf_f (not_tied hG (pn := pn) (pf := pf)))
    generalize vf0 u n f0 f1 f2 pn pf = r0 at *
    generalize vf1 u n f0 f1 f2 pn pf = r1 at *
    clear hG
    go_enter Try.func6, Try.ntmps6
    go_wp2_with fail
    refine (SG.out _ hA).mono ?_
    rintro e w1 ⟨rfl, b1⟩
    go_wp2_with fail
    go_ret2
    exact ⟨by rw [hE.out.1, hE.out.2]; rfl, b1⟩
end Go.Proofs.Ytgjohkpicajhpaa
