/- Rows that are free of valleys, in plain words. -/
import Derived.Test.YtgjohkpicajhpaaPlain11
namespace Go.Proofs.Ytgjohkpicajhpaa
open Go.RowKit

/-- What two are to each other, by g, among nodes 0 to u. -/
def Both (u : Int) (g : Int → Int → Int) : Prop := ∀ a b, (g a b = 0 ∧ g b a = 0) ∨ (1 ≤ g a b ∧ g a b ≤ 3 ∧ g b a = 4 - g a b ∧ 0 ≤ a ∧ a ≤ u ∧ 0 ≤ b ∧ b ≤ u ∧ a ≠ b)
/-- Unlike nodes, each having a relation with the next one. -/
def Tied (g : Int → Int → Int) (n : Nat) (f : Nat → Int) : Prop := 2 ≤ n ∧ n ≤ 6 ∧ ∀ i, i + 1 < n → g (f i) (f (i + 1)) ≠ 0 ∧ ∀ j, j ≤ i → f j ≠ f (i + 1)
/-- Each on the way may tell it on. -/
def Free (g : Int → Int → Int) (n : Nat) (f : Nat → Int) : Prop := ∀ i, i + 2 < n → g (f (i + 1)) (f i) = 1 ∨ g (f (i + 1)) (f (i + 2)) = 1
/-- Node i of a row, as the specification asks. -/
def RowAt (u : Int) (g : Int → Int → Int) (f : Nat → Int) (i : Nat) : Prop := (0 ≤ f i ∧ f i ≤ u) ∧ (∀ j, j < i → f j ≠ f i) ∧ (0 < i → g (f (i - 1)) (f i) ≠ 0)
theorem Tied.at {u : Int} {g : Int → Int → Int} {n : Nat} {f : Nat → Int} (hg : Both u g) (h : Tied g n f) (i : Nat) (hi : i < n) : RowAt u g f i := by
  by_cases e : i = 0
  · subst e
    have h1 := (h.2.2 0 (by have := h.1; omega)).1
    refine ⟨?_, fun j hj => absurd hj (by omega), fun q => absurd q (by omega)⟩
    rcases hg (f 0) (f (0 + 1)) with q | q
    · exact absurd q.1 h1
    · exact ⟨q.2.2.2.1, q.2.2.2.2.1⟩
  · obtain ⟨k, rfl⟩ : ∃ k, i = k + 1 := ⟨i - 1, by omega⟩
    have h1 := h.2.2 k hi
    refine ⟨?_, fun j hj => h1.2 j (by omega), fun _ => h1.1⟩
    rcases hg (f k) (f (k + 1)) with q | q
    · exact absurd q.1 h1.1
    · exact ⟨q.2.2.2.2.2.1, q.2.2.2.2.2.2.1⟩
theorem tied_of {u : Int} {g : Int → Int → Int} {n : Nat} {f : Nat → Int} (h2 : 2 ≤ n) (h6 : n ≤ 6) (h : ∀ i, i < n → RowAt u g f i) : Tied g n f :=
  ⟨h2, h6, fun i hi => ⟨(h (i + 1) hi).2.2 (by omega), fun j hj => (h (i + 1) hi).2.1 j (by omega)⟩⟩
/-- The specification's word: behind the first that is no provider there are customers alone. -/
def FreeS (g : Int → Int → Int) (n : Nat) (f : Nat → Int) : Prop := ∀ i, i + 1 < n → (∃ j, j < i ∧ g (f j) (f (j + 1)) ≠ 3) → g (f i) (f (i + 1)) = 1
theorem free_iff {u : Int} {g : Int → Int → Int} {n : Nat} {f : Nat → Int} (hg : Both u g) (h : Tied g n f) : Free g n f ↔ FreeS g n f := by
  have hb : ∀ i, i + 1 < n → (g (f (i + 1)) (f i) = 1 ↔ g (f i) (f (i + 1)) = 3) := fun i hi => by
    rcases hg (f i) (f (i + 1)) with q | q
    · exact absurd q.1 (h.2.2 i hi).1
    · have := q.2.2.1
      omega
  constructor
  · intro hF i hi ⟨j, hj, hne⟩
    obtain ⟨d, rfl⟩ : ∃ d, i = j + 1 + d := ⟨i - (j + 1), by omega⟩
    clear hj
    induction d with
    | zero =>
      rcases hF j (by omega) with q | q
      · exact absurd ((hb j (by omega)).1 q) hne
      · exact q
    | succ d ih =>
      have h1 := ih (by omega)
      rcases hF (j + 1 + d) (by omega) with q | q
      · have := (hb (j + 1 + d) (by omega)).1 q
        omega
      · exact q
  · intro hS i hi
    by_cases q : g (f i) (f (i + 1)) = 3
    · exact Or.inl ((hb i (by omega)).2 q)
    · exact Or.inr (hS (i + 1) (by omega) ⟨i, by omega, q⟩)
theorem kk_Both (u : Int) (n : Nat) (f0 f1 f2 : Nat → Int) : Both u (kk u n f0 f1 f2) := fun a b => kk_both a b
noncomputable def vf1 (u : Int) (n : Nat) (f0 f1 f2 : Nat → Int) (pn : Nat) (pf : Nat → Int) : Bool := pB (Tied (kk u n f0 f1 f2) pn pf)
noncomputable def vf0 (u : Int) (n : Nat) (f0 f1 f2 : Nat → Int) (pn : Nat) (pf : Nat → Int) : Bool := vf1 u n f0 f1 f2 pn pf && pB (Free (kk u n f0 f1 f2) pn pf)
theorem vf_f {u : Int} {n : Nat} {f0 f1 f2 : Nat → Int} {pn : Nat} {pf : Nat → Int} (h : ¬ Tied (kk u n f0 f1 f2) pn pf) : vf1 u n f0 f1 f2 pn pf = false ∧ vf0 u n f0 f1 f2 pn pf = false := by
  have e : vf1 u n f0 f1 f2 pn pf = false := pB_f h
  exact ⟨e, by rw [vf0, e, Bool.false_and]⟩
theorem vf_t {u : Int} {n : Nat} {f0 f1 f2 : Nat → Int} {pn : Nat} {pf : Nat → Int} (h : Tied (kk u n f0 f1 f2) pn pf) : vf1 u n f0 f1 f2 pn pf = true ∧ vf0 u n f0 f1 f2 pn pf = pB (Free (kk u n f0 f1 f2) pn pf) := by
  have e : vf1 u n f0 f1 f2 pn pf = true := pB_t h
  exact ⟨e, by rw [vf0, e, Bool.true_and]⟩
theorem not_tied {u : Int} {n : Nat} {f0 f1 f2 : Nat → Int} (h : ¬ GR u n f0 f1 f2) {pn : Nat} {pf : Nat → Int} : ¬ Tied (kk u n f0 f1 f2) pn pf := fun q => (q.2.2 0 (by have := q.1; omega)).1 (kk_not h _ _)
end Go.Proofs.Ytgjohkpicajhpaa
