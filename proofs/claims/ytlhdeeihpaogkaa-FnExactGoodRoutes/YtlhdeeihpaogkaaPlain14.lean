/- The plain meaning of tables of routes: which are good. -/
import Derived.Test.YtlhdeeihpaogkaaRou14
import Derived.Test.YtlhdeeihpaogkaaSI7
import Derived.Test.YtlhdeeihpaogkaaPlain1
namespace Go.Proofs.Ytlhdeeihpaogkaa
open Go.RowKit

/-- Whether a route is good. -/
def rtB (t : Ro) : Bool := routeB t.pa t.pl t.o t.nx t.md t.pf t.n0 t.f t.n1 t.g
/-- Whether route i stands behind the one ahead of it. -/
def ltG (T : Nat → Ro) (i : Nat) : Bool := decide (i = 0) || decide (cmpP (T (i - 1)).pa (T (i - 1)).pl (T i).pa (T i).pl < 0)
def rgB (T : Nat → Ro) (i : Nat) : Bool := rtB (T i) && ltG T i
def rgsB (n : Nat) (T : Nat → Ro) : Bool := (List.range n).all (rgB T)
/-- Whether a table is good. -/
def gtB (n : Nat) (T : Nat → Ro) : Bool := decide (n ≤ 20) && rgsB n T
theorem rgsB_iff {n : Nat} {T : Nat → Ro} : rgsB n T = true ↔ ∀ i, i < n → rgB T i = true := by simp [rgsB]
theorem rgs_no {n k : Nat} {T : Nat → Ro} (hk : k < n) (h : rgB T k = false) : rgsB n T = false := by
  cases e : rgsB n T with
  | false => rfl
  | true => rw [rgsB_iff.1 e k hk] at h; exact h
theorem rgs_all {n : Nat} {T : Nat → Ro} (h : ∀ i, i < n → rgB T i = true) : rgsB n T = true := rgsB_iff.2 h
theorem rgs_next {k : Nat} {T : Nat → Ro} (h : ∀ i, i < k → rgB T i = true) (e : rgB T k = true) : ∀ i, i < k + 1 → rgB T i = true := by
  intro i hi
  by_cases c : i = k
  · rw [c]; exact e
  · exact h i (by omega)
theorem gt_no {n : Nat} {T : Nat → Ro} (h : rgsB n T = false) : gtB n T = false := by simp [gtB, h]
theorem gt_all {n : Nat} {T : Nat → Ro} (h : ∀ i, i < n → rgB T i = true) : gtB n T = decide (n ≤ 20) := by simp [gtB, rgs_all h]
theorem gt_over {n : Nat} {T : Nat → Ro} (h : ¬ n ≤ 20) : gtB n T = false := by simp [gtB, h]
theorem ltG_zero (T : Nat → Ro) : ltG T 0 = true := by simp [ltG]
theorem ltG_succ (T : Nat → Ro) (k : Nat) : ltG T (k + 1) = decide (cmpP (T k).pa (T k).pl (T (k + 1)).pa (T (k + 1)).pl < 0) := by simp [ltG]
theorem rg_good {T : Nat → Ro} {i : Nat} (h : rgB T i = true) : rtB (T i) = true := by
  simp only [rgB, Bool.and_eq_true] at h; exact h.1
theorem rt_pre {t : Ro} (h : rtB t = true) : goodB t.pa t.pl = true := by
  simp only [rtB, routeB, Bool.and_eq_true] at h; exact h.1
theorem rt_att {t : Ro} (h : rtB t = true) : attrB t.o t.nx t.md t.pf t.n0 t.f t.n1 t.g = true := by
  simp only [rtB, routeB, Bool.and_eq_true] at h; exact h.2
/-- What a good table is. -/
structure GTab (n : Nat) (T : Nat → Ro) : Prop where
  few : n ≤ 20
  one : ∀ i, i < n → rtB (T i) = true
  rise : ∀ i, i + 1 < n → cmpP (T i).pa (T i).pl (T (i + 1)).pa (T (i + 1)).pl < 0
theorem gt_good {n : Nat} {T : Nat → Ro} (h : gtB n T = true) : GTab n T := by
  simp only [gtB, Bool.and_eq_true, decide_eq_true_eq] at h
  obtain ⟨h1, h2⟩ := h
  rw [rgsB_iff] at h2
  refine ⟨h1, fun i hi => rg_good (h2 i hi), fun i hi => ?_⟩
  have := h2 (i + 1) hi
  simp only [rgB, Bool.and_eq_true, decide_eq_true_eq, ltG_succ] at this
  exact this.2
end Go.Proofs.Ytlhdeeihpaogkaa
