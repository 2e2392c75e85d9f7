/- The plain meaning of ribs: which are good. -/
import Derived.Test.YtjjdfniemlcnnaaRib13
import Derived.Test.YtjjdfniemlcnnaaPlain8
namespace Go.Proofs.Ytjjdfniemlcnnaa
open Go.RowKit

/-- Whether row i is good, and stands behind the one ahead of it. -/
def ltR (U : Nat → Rc) (i : Nat) : Bool := decide (i = 0) || decide (cmpP (U (i - 1)).ad (U (i - 1)).ln (U i).ad (U i).ln < 0)
def rwB (U : Nat → Rc) (i : Nat) : Bool := goodB (U i).ad (U i).ln && (decide (0 < (U i).n) && (osB (U i).n (U i).T && ltR U i))
def rsB (m : Nat) (U : Nat → Rc) : Bool := (List.range m).all (rwB U)
/-- Whether a rib is good. -/
def rbB (ow : Int) (m : Nat) (U : Nat → Rc) : Bool := inB ow 1 65535 && (decide (m ≤ 20) && rsB m U)
theorem rsB_iff {m : Nat} {U : Nat → Rc} : rsB m U = true ↔ ∀ i, i < m → rwB U i = true := by simp [rsB]
theorem rs_no {m k : Nat} {U : Nat → Rc} (hk : k < m) (h : rwB U k = false) : rsB m U = false := by
  cases e : rsB m U with
  | false => rfl
  | true => rw [rsB_iff.1 e k hk] at h; exact h
theorem rs_all {m : Nat} {U : Nat → Rc} (h : ∀ i, i < m → rwB U i = true) : rsB m U = true := rsB_iff.2 h
theorem rs_next {k : Nat} {U : Nat → Rc} (h : ∀ i, i < k → rwB U i = true) (e : rwB U k = true) : ∀ i, i < k + 1 → rwB U i = true := by
  intro i hi
  by_cases c : i = k
  · rw [c]; exact e
  · exact h i (by omega)
theorem rb_no {ow : Int} {m : Nat} {U : Nat → Rc} (h : rsB m U = false) : rbB ow m U = false := by simp [rbB, h]
theorem rb_all {ow : Int} {m : Nat} {U : Nat → Rc} (h : ∀ i, i < m → rwB U i = true) : rbB ow m U = (inB ow 1 65535 && decide (m ≤ 20)) := by simp [rbB, rs_all h]
theorem ltR_zero (U : Nat → Rc) : ltR U 0 = true := by simp [ltR]
theorem ltR_succ (U : Nat → Rc) (k : Nat) : ltR U (k + 1) = decide (cmpP (U k).ad (U k).ln (U (k + 1)).ad (U (k + 1)).ln < 0) := by simp [ltR]
theorem rw_good {U : Nat → Rc} {i : Nat} (h : rwB U i = true) : goodB (U i).ad (U i).ln = true := by
  simp only [rwB, Bool.and_eq_true] at h; exact h.1
/-- What a good rib is. -/
structure GRib (ow : Int) (m : Nat) (U : Nat → Rc) : Prop where
  own : 1 ≤ ow ∧ ow ≤ 65535
  few : m ≤ 20
  pre : ∀ i, i < m → goodB (U i).ad (U i).ln = true
  some_ : ∀ i, i < m → 0 < (U i).n
  off : ∀ i, i < m → osB (U i).n (U i).T = true
  rise : ∀ i, i + 1 < m → cmpP (U i).ad (U i).ln (U (i + 1)).ad (U (i + 1)).ln < 0
theorem rb_good {ow : Int} {m : Nat} {U : Nat → Rc} (h : rbB ow m U = true) : GRib ow m U := by
  simp only [rbB, Bool.and_eq_true, decide_eq_true_eq] at h
  obtain ⟨h0, h1, h2⟩ := h
  rw [rsB_iff] at h2
  refine ⟨inB_iff.1 h0, h1, fun i hi => rw_good (h2 i hi), fun i hi => ?_, fun i hi => ?_, fun i hi => ?_⟩
  · have := h2 i hi
    simp only [rwB, Bool.and_eq_true, decide_eq_true_eq] at this
    exact this.2.1
  · have := h2 i hi
    simp only [rwB, Bool.and_eq_true, decide_eq_true_eq] at this
    exact this.2.2.1
  · have := h2 (i + 1) hi
    simp only [rwB, Bool.and_eq_true, decide_eq_true_eq, ltR_succ] at this
    exact this.2.2.2
end Go.Proofs.Ytjjdfniemlcnnaa
