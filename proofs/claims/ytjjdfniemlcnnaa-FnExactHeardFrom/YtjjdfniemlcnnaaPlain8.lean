/- The plain meaning of offers: which are good, their order, the best one. -/
import Derived.Test.YtjjdfniemlcnnaaOff8
import Derived.Test.YtjjdfniemlcnnaaAll1
import Derived.Test.YtjjdfniemlcnnaaAll3
namespace Go.Proofs.Ytjjdfniemlcnnaa
open Go.RowKit

/-- Whether an offer is good. -/
def oaB (t : Oc) : Bool := attrB t.o t.nx t.md t.pf t.n0 t.f t.n1 t.g
def ofB (t : Oc) : Bool := inB t.pe 0 5 && oaB t
def stO (T : Nat → Oc) (i : Nat) : Bool := ofB (T i) && (decide (i = 0) || decide ((T (i - 1)).pe < (T i).pe))
def osB (n : Nat) (T : Nat → Oc) : Bool := (List.range n).all (stO T)
theorem osB_iff {n : Nat} {T : Nat → Oc} : osB n T = true ↔ ∀ i, i < n → stO T i = true := by simp [osB]
theorem os_no {n k : Nat} {T : Nat → Oc} (hk : k < n) (h : stO T k = false) : osB n T = false := by
  cases e : osB n T with
  | false => rfl
  | true => rw [osB_iff.1 e k hk] at h; exact h
theorem os_all {n : Nat} {T : Nat → Oc} (h : ∀ i, i < n → stO T i = true) : osB n T = true := osB_iff.2 h
theorem os_next {k : Nat} {T : Nat → Oc} (h : ∀ i, i < k → stO T i = true) (e : stO T k = true) : ∀ i, i < k + 1 → stO T i = true := by
  intro i hi
  by_cases c : i = k
  · rw [c]; exact e
  · exact h i (by omega)
theorem st_zero (T : Nat → Oc) : stO T 0 = ofB (T 0) := by simp [stO]
theorem st_succ (T : Nat → Oc) {k : Nat} (h : 0 < k) : stO T k = (ofB (T k) && decide ((T (k - 1)).pe < (T k).pe)) := by
  have : ¬ k = 0 := by omega
  simp [stO, this]
theorem os_of {n i : Nat} {T : Nat → Oc} (h : osB n T = true) (hi : i < n) : ofB (T i) = true := by
  have := osB_iff.1 h i hi
  simp only [stO, Bool.and_eq_true] at this
  exact this.1
theorem of_pe {t : Oc} (h : ofB t = true) : 0 ≤ t.pe ∧ t.pe ≤ 5 := by
  simp only [ofB, Bool.and_eq_true] at h
  exact inB_iff.1 h.1
theorem os_lt {n : Nat} {T : Nat → Oc} (h : osB n T = true) : ∀ j, j < n → ∀ i, i < j → (T i).pe < (T j).pe := by
  intro j
  induction j with
  | zero => intro _ i hi; omega
  | succ j ih =>
    intro hj i hi
    have h1 := osB_iff.1 h (j + 1) hj
    rw [st_succ T (by omega)] at h1
    simp only [Bool.and_eq_true, decide_eq_true_eq, Nat.add_sub_cancel] at h1
    by_cases e : i = j
    · rw [e]; exact h1.2
    · have := ih (by omega) i (by omega)
      omega
theorem os_ge {n : Nat} {T : Nat → Oc} (h : osB n T = true) : ∀ i, i < n → (i : Int) ≤ (T i).pe := by
  intro i
  induction i with
  | zero => intro hi; have := of_pe (os_of h hi); omega
  | succ i ih =>
    intro hi
    have h1 := ih (by omega)
    have h2 := os_lt h (i + 1) hi i (by omega)
    omega
theorem os_six {n : Nat} {T : Nat → Oc} (h : osB n T = true) : n ≤ 6 := by
  by_cases e : n ≤ 6
  · exact e
  · have h1 := os_ge h 6 (by omega)
    have h2 := of_pe (os_of h (show 6 < n by omega))
    omega
/-- The first number that is not 0, or what follows. -/
def firstO : List Int → Int → Int
  | [], d => d
  | x :: l, d => if x = 0 then firstO l d else x
def stepsO (a b : Oc) : List Int := [cmpI b.pf a.pf, cmpI a.n0 b.n0, cmpI a.o b.o, cmpI a.md b.md, cmpI a.nx b.nx]
/-- The order of two offers. -/
def cmpO (a b : Oc) : Int := if a.pe = b.pe then 0 else firstO (stepsO a b) (cmpI a.pe b.pe)
theorem firstO_end (l : List Int) (x : Int) : firstO (l ++ [x]) 0 = firstO l x := by
  induction l with
  | nil => by_cases h : x = 0 <;> simp [firstO, h]
  | cons y l ih => by_cases h : y = 0 <;> simp [firstO, h, ih]
theorem firstO_skip {l : List Int} {k : Nat} (h : ∀ i, i < k → l.getD i 0 = 0) (d : Int) : firstO l d = firstO (l.drop k) d := by
  induction k generalizing l with
  | zero => simp
  | succ k ih =>
    cases l with
    | nil => simp
    | cons x l =>
      have h0 : x = 0 := by simpa using h 0 (by omega)
      simp only [firstO, h0, if_true, List.drop_succ_cons]
      exact ih (fun i hi => by simpa using h (i + 1) (by omega))
theorem firstO_hit {l : List Int} {k : Nat} (h : ∀ i, i < k → l.getD i 0 = 0) (hk : l.getD k 0 ≠ 0) (d : Int) : firstO l d = l.getD k 0 := by
  induction k generalizing l with
  | zero =>
    cases l with
    | nil => simp at hk
    | cons x l =>
      have hx : x ≠ 0 := by simpa using hk
      simp [firstO, hx]
  | succ k ih =>
    cases l with
    | nil => simp at hk
    | cons x l =>
      have h0 : x = 0 := by simpa using h 0 (by omega)
      simp only [firstO, h0, if_true, List.getD_cons_succ]
      exact ih (fun i hi => by simpa using h (i + 1) (by omega)) (by simpa using hk)
theorem firstO_none {l : List Int} (h : ∀ i, i < l.length → l.getD i 0 = 0) (d : Int) : firstO l d = d := by
  induction l with
  | nil => rfl
  | cons x l ih =>
    have h0 : x = 0 := by simpa using h 0 (by simp)
    simp only [firstO, h0, if_true]
    exact ih (fun i hi => by simpa using h (i + 1) (by simpa using hi))
theorem getD_next {l : List Int} {k : Nat} (h : ∀ i, i < k → l.getD i 0 = 0) (e : l.getD k 0 = 0) : ∀ i, i < k + 1 → l.getD i 0 = 0 := by
  intro i hi
  by_cases c : i = k
  · rw [c]; exact e
  · exact h i (by omega)
theorem cmpI_swap (x y : Int) : cmpI y x = - cmpI x y := by
  unfold cmpI
  split <;> split <;> first | omega | (split <;> omega) | rfl
theorem cmpI_zero {x y : Int} : cmpI x y = 0 ↔ x = y := by
  unfold cmpI
  constructor
  · intro h; split at h
    · omega
    · split at h <;> omega
  · intro h; rw [if_neg (by omega), if_neg (by omega)]
theorem cmpI_neg {x y : Int} : cmpI x y < 0 ↔ x < y := by
  unfold cmpI
  constructor
  · intro h; split at h
    · assumption
    · split at h <;> omega
  · intro h; rw [if_pos h]; omega
/-- The place of the best one of the first k + 1. -/
def pkO (T : Nat → Oc) : Nat → Nat
  | 0 => 0
  | k + 1 => if cmpO (T (k + 1)) (T (pkO T k)) < 0 then k + 1 else pkO T k
theorem pkO_le (T : Nat → Oc) (k : Nat) : pkO T k ≤ k := by
  induction k with
  | zero => exact Nat.le_refl _
  | succ k ih =>
    simp only [pkO]
    split <;> omega
/-- What BestOffer answers. -/
def bestK (n : Nat) (T : Nat → Oc) : Bool := osB n T && decide (0 < n)
def bestV (n : Nat) (T : Nat → Oc) : Int := if bestK n T = true then (T (pkO T (n - 1))).pe else 0
theorem bestK_no {n : Nat} {T : Nat → Oc} (h : osB n T = false) : bestK n T = false := by simp [bestK, h]
theorem bestK_zero {T : Nat → Oc} : bestK 0 T = false := by simp [bestK]
theorem bestK_yes {n : Nat} {T : Nat → Oc} (h : osB n T = true) (h0 : 0 < n) : bestK n T = true := by simp [bestK, h, h0]
theorem bestV_no {n : Nat} {T : Nat → Oc} (h : bestK n T = false) : bestV n T = 0 := by simp [bestV, h]
theorem bestV_yes {n : Nat} {T : Nat → Oc} (h : bestK n T = true) : bestV n T = (T (pkO T (n - 1))).pe := by simp [bestV, h]
end Go.Proofs.Ytjjdfniemlcnnaa
