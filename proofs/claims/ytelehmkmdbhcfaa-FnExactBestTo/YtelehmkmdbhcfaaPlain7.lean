/- Policies, plain: which ranges, acts and terms are good. -/
import Derived.Test.YtelehmkmdbhcfaaPlain1
import Derived.Test.YtelehmkmdbhcfaaPlain6
namespace Go.Proofs.Ytelehmkmdbhcfaa

def rgOk (p l lo hi : Int) : Bool := goodB p l && inB lo l 32 && inB hi lo 32
def acOk (k n : Int) : Bool := if k = 5 then inB n 1 65535 else inB k 1 4 && inB n 0 1000000
theorem acOk_no {k n : Int} (h : ¬ (1 ≤ k ∧ k ≤ 5)) : acOk k n = false := by
  unfold acOk
  rw [if_neg (by omega)]
  by_cases h1 : 1 ≤ k
  · rw [inB_f2 (by omega)]; rfl
  · rw [inB_f1 h1]; rfl
def rgsB (n : Nat) (f0 f1 f2 f3 : Nat → Int) : Bool := (List.range n).all fun i => rgOk (f0 i) (f1 i) (f2 i) (f3 i)
def acsB (n : Nat) (g0 g1 : Nat → Int) : Bool := (List.range n).all fun i => acOk (g0 i) (g1 i)
/-- A term's pattern: none, or a good one. -/
def tpB (L : List Cl) : Bool := L.isEmpty || rgB L
/-- Whether a term is good. -/
def tmB (nr : Nat) (f0 f1 f2 f3 : Nat → Int) (L : List Cl) (cm : Int) (na : Nat) (g0 g1 : Nat → Int) (vd : Int) : Bool :=
  rgsB nr f0 f1 f2 f3 && decide (nr ≤ 6) && tpB L && inB cm (-1) 1000000 && acsB na g0 g1 && decide (na ≤ 5) && inB vd 0 2
theorem all_nextN {n k : Nat} {p : Nat → Bool} (h : ∀ i, i < k → p i = true) (e : p k = true) (_ : k < n) : ∀ i, i < k + 1 → p i = true := by
  intro i hi
  by_cases c : i = k
  · subst c; exact e
  · exact h i (by omega)
theorem all_true {n : Nat} {p : Nat → Bool} (h : ∀ i, i < n → p i = true) : (List.range n).all p = true := by
  rw [List.all_eq_true]
  intro i hi
  exact h i (List.mem_range.1 hi)
theorem all_false {n k : Nat} {p : Nat → Bool} (hk : k < n) (e : p k = false) : (List.range n).all p = false := by
  rw [List.all_eq_false]
  exact ⟨k, List.mem_range.2 hk, by rw [e]; decide⟩
theorem tmB_eq (nr : Nat) (f0 f1 f2 f3 : Nat → Int) (L : List Cl) (cm : Int) (na : Nat) (g0 g1 : Nat → Int) (vd : Int) :
    tmB nr f0 f1 f2 f3 L cm na g0 g1 vd = ((rgsB nr f0 f1 f2 f3 && decide (nr ≤ 6)) && tpB L && inB cm (-1) 1000000 && (acsB na g0 g1 && decide (na ≤ 5)) && inB vd 0 2) := by
  unfold tmB
  simp only [Bool.and_assoc]
theorem tpB_ne {L : List Cl} (h : L ≠ []) : tpB L = rgB L := by
  unfold tpB
  cases L with
  | nil => exact absurd rfl h
  | cons a l => rfl
theorem cm_in {c : Int} (h : ¬ c = -1) : inB c (-1) 1000000 = inB c 0 1000000 := by
  rw [Bool.eq_iff_iff]
  simp only [inB, decide_eq_true_eq]
  omega
end Go.Proofs.Ytelehmkmdbhcfaa
