/- A path of unlike speakers, of the program. -/
import Derived.Test.YteifconelofojaaS9c
import Derived.Test.YteifconelofojaaI9c
import Derived.Test.YteifconelofojaaI7f
namespace Go.Proofs.Yteifconelofojaa
open Go.RowKit

set_option maxRecDepth 100000 in
set_option maxHeartbeats 1600000 in
theorem i_unlike (pa : Option Addr) (pn pc : Nat) (pf : Nat → Int) (w : World) (hp : pn ≤ 1048576) (hpc : pn ≤ pc) (hP : RowInt pa pn pf w) :
    Calls Try.prog 87 #[.slice pa pn pc] w fun e w' => e = .returned (.bool (pB (PathOk pn pf))) ∧ Below w.heap.size w w' := by
  have hT : Hid (PathOk pn pf → pB (PathOk pn pf) = true) := pB_t
  have hF : Hid (¬ PathOk pn pf → pB (PathOk pn pf) = false) := pB_f
  generalize pB (PathOk pn pf) = r at *
  by_cases h0 : pn = 0
  · subst h0
    have hE := hide (hF.out (fun h => by have := h.1; omega))
    clear hT hF hP
    go_enter Try.func87, Try.ntmps87
    go_wp2_with fail
    go_ret
    exact ⟨by rw [hE.out]; rfl, Below.refl _ _⟩
  · have h0' : ((pn : Int) == 0) = false := by simp; omega
    by_cases h6 : (pn : Int) > 6
    · have hE := hide (hF.out (fun h => by have := h.2.1; omega))
      clear hT hF hP
      go_enter Try.func87, Try.ntmps87
      go_wp2_with fail
      go_ret
      exact ⟨by rw [hE.out]; rfl, Below.refl _ _⟩
    · obtain ⟨pb, po, hpa, _, _⟩ := hP 0 (by omega)
      subst hpa
      go_enter Try.func87, Try.ntmps87
      go_wp2_with fail
      go_loopw [2, 15] (fun _ y wr => ∃ k : Nat, y = .int .i64 k ∧ k ≤ pn ∧ Hid (∀ i, i < k → (0 ≤ pf i ∧ pf i ≤ 5) ∧ ∀ j, j < i → pf j ≠ pf i) ∧ Below w.heap.size w wr) (fun _ y _ => pn - (intOf y).toNat)
      case atStart => exact ⟨0, rfl, Nat.zero_le _, fun i hi => absurd hi (by omega), Below.refl _ _⟩
      case round =>
        obtain ⟨k, rfl, hk, hall, hb⟩ := hrel
        by_cases hlt : k < pn
        · obtain ⟨b', off', hab, hbw, u0⟩ := hP k hlt
          simp only [Option.some.injEq, Addr.mk.injEq, and_true] at hab
          obtain ⟨rfl, rfl⟩ := hab
          replace u0 := (hb.cell (p := ⟨pb, po + k, none⟩) hbw).trans u0
          have hlt' : (k : Int) < (pn : Int) := by omega
          have hkc : (k : Int) ≤ (pc : Int) := by omega
          have S1 := hide (fun w => i_isSpeaker (pf k) w)
          have S2 := hide (fun w R => i_containsI (some ⟨pb, po, none⟩) k pc pf (pf k) w (by omega) R)
          have hPk := hide ((hP.take9 (k := k) (by omega)).below hb)
          have hBad : Hid (¬ ((0 ≤ pf k ∧ pf k ≤ 5) ∧ ∀ j, j < k → pf j ≠ pf k) → r = false) := fun h => hF.out (fun q => h ⟨q.2.2.1 k hlt, q.2.2.2 k hlt⟩)
          have hNext : Hid (((0 ≤ pf k ∧ pf k ≤ 5) ∧ ∀ j, j < k → pf j ≠ pf k) → ∀ i, i < k + 1 → (0 ≤ pf i ∧ pf i ≤ 5) ∧ ∀ j, j < i → pf j ≠ pf i) := fun h i hi => by
            by_cases e : i = k
            · subst e; exact h
            · exact hall.out i (by omega)
          have hco : Hid (coB k pf (pf k) = false → ∀ j, j < k → pf j ≠ pf k) := fun h => coB_no h
          have hcy : Hid (coB k pf (pf k) = true → ¬ ∀ j, j < k → pf j ≠ pf k) := fun h q => by
            obtain ⟨j, hj, e⟩ := coB_iff.1 h
            exact q j hj e
          clear hall hT hF
          by_cases q1 : 0 ≤ pf k ∧ pf k ≤ 5
          · rw [inB_t q1.1 q1.2] at S1
            cases q2 : coB k pf (pf k) with
            | false =>
              rw [q2] at S2
              have hN := hide (hNext.out ⟨q1, hco.out q2⟩)
              clear hBad hNext hco hcy q2
              generalize pf k = x at *
              go_wp2_with fail
              refine (S1.out _).mono ?_
              rintro e w3 ⟨rfl, hw3⟩
              rw [hw3]; clear hw3 w3
              go_wp2_with fail
              refine (S2.out _ hPk.out).mono ?_
              rintro e w3 ⟨rfl, b3⟩
              go_wp2_with fail
              exact ⟨⟨k + 1, by go_num, by omega, hN, hb.trans (b3.mono hb.size)⟩, by simp [intOf]; omega⟩
            | true =>
              rw [q2] at S2
              have hE := hide (hBad.out (fun h => hcy.out q2 h.2))
              clear hBad hNext hco hcy q2
              generalize pf k = x at *
              go_wp2_with fail
              refine (S1.out _).mono ?_
              rintro e w3 ⟨rfl, hw3⟩
              rw [hw3]; clear hw3 w3
              go_wp2_with fail
              refine (S2.out _ hPk.out).mono ?_
              rintro e w3 ⟨rfl, b3⟩
              go_wp2_with fail
              go_ret
              exact ⟨by rw [hE.out]; rfl, hb.trans (b3.mono hb.size)⟩
          · rw [inB_n q1] at S1
            have hE := hide (hBad.out (fun h => q1 h.1))
            clear hBad hNext hco hcy
            generalize pf k = x at *
            go_wp2_with fail
            refine (S1.out _).mono ?_
            rintro e w3 ⟨rfl, hw3⟩
            rw [hw3]; clear hw3 w3
            go_wp2_with fail
            go_ret
            exact ⟨by rw [hE.out]; rfl, hb⟩
        · have hlt' : ¬ (k : Int) < (pn : Int) := by omega
          obtain rfl : k = pn := by omega
          have hE := hide (hT.out ⟨by omega, by omega, fun i hi => (hall.out i hi).1, fun i hi => (hall.out i hi).2⟩)
          clear hall hT hF
          go_wp2_with fail
          go_ret
          exact ⟨by rw [hE.out]; rfl, hb⟩
end Go.Proofs.Yteifconelofojaa
