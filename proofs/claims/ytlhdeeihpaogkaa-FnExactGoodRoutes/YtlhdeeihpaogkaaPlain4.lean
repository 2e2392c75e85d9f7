/- Chapter 4 in plain words: good attrs, and numbers as bytes, the highest first. -/
import Derived.Test.YtlhdeeihpaogkaaPlain1
import Derived.Laws.BytesArg
namespace Go.Proofs.Ytlhdeeihpaogkaa
open Go.RowKit

theorem rall_next {p : Nat → Bool} {k : Nat} (h : (List.range k).all p = true) (h1 : p k = true) : (List.range (k + 1)).all p = true := by
  rw [List.range_succ, List.all_append, h, Bool.true_and]
  simp [h1]
theorem rall_no {p : Nat → Bool} {n k : Nat} (hk : k < n) (h : p k = false) : (List.range n).all p = false := by
  rw [List.all_eq_false]
  exact ⟨k, List.mem_range.2 hk, by simp [h]⟩

def pathOk (f : Nat → Int) (i : Nat) : Bool := inB (f i) 1 65535
def pathB (n : Nat) (f : Nat → Int) : Bool := (List.range n).all (pathOk f)
def commOk (f : Nat → Int) (i : Nat) : Bool := inB (f i) 0 1000000 && (i == 0 || decide (f (i - 1) < f i))
def commB (n : Nat) (f : Nat → Int) : Bool := (List.range n).all (commOk f)
/-- Attrs are good. -/
def attrB (o nx md pf : Int) (n0 : Nat) (f : Nat → Int) (n1 : Nat) (g : Nat → Int) : Bool :=
  inB o 0 2 && inB nx 0 4294967295 && inB md 0 1000000 && inB pf 0 1000000 && decide (n0 ≤ 10) && pathB n0 f && decide (n1 ≤ 6) && commB n1 g
theorem attrB_path {o nx md pf : Int} {n0 : Nat} {f : Nat → Int} {n1 : Nat} {g : Nat → Int} (h : pathB n0 f = false) : attrB o nx md pf n0 f n1 g = false := by simp [attrB, h]
theorem attrB_comm {o nx md pf : Int} {n0 : Nat} {f : Nat → Int} {n1 : Nat} {g : Nat → Int} (h : commB n1 g = false) : attrB o nx md pf n0 f n1 g = false := by simp [attrB, h]

/-- A number's lowest k bytes, the highest first. -/
def be (n : Int) : Nat → List Int
  | 0 => []
  | k + 1 => be (n / 256) k ++ [n % 256]
theorem be_len (n : Int) (k : Nat) : (be n k).length = k := by
  induction k generalizing n with
  | zero => rfl
  | succ k ih => simp [be, ih]
theorem be_at (n : Int) {k j : Nat} (h : j < k) : (be n k).getD j 0 = n / 256 ^ (k - 1 - j) % 256 := by
  induction k generalizing n with
  | zero => omega
  | succ k ih =>
    unfold be
    by_cases hj : j < k
    · have e : (be (n / 256) k ++ [n % 256]).getD j 0 = (be (n / 256) k).getD j 0 := by
        rw [List.getD_eq_getElem?_getD, List.getD_eq_getElem?_getD, List.getElem?_append_left (by rw [be_len]; exact hj)]
      rw [e, ih (n / 256) hj, Int.ediv_ediv_of_nonneg (by decide)]
      rw [show k + 1 - 1 - j = (k - 1 - j) + 1 by omega, Int.pow_succ, Int.mul_comm]
    · have hj' : j = k := by omega
      subst hj'
      have e : (be (n / 256) j ++ [n % 256]).getD j 0 = n % 256 := by
        rw [List.getD_eq_getElem?_getD, List.getElem?_append_right (by rw [be_len]; exact Nat.le_refl _), be_len]
        simp
      rw [e]
      simp
theorem be_byte (n : Int) (k : Nat) : ∀ x ∈ be n k, 0 ≤ x ∧ x < 256 := by
  induction k generalizing n with
  | zero => simp [be]
  | succ k ih =>
    intro x hx
    simp only [be, List.mem_append, List.mem_singleton] at hx
    rcases hx with hx | rfl
    · exact ih _ x hx
    · omega

theorem str_app (xs ys : List Int) : strOfNums (xs ++ ys) = strOfNums xs ++ strOfNums ys := by
  apply ByteArray.ext
  rw [ByteArray.data_append]
  simp [strOfNums]
theorem str_nil : strOfNums [] = ByteArray.empty := rfl
end Go.Proofs.Ytlhdeeihpaogkaa
