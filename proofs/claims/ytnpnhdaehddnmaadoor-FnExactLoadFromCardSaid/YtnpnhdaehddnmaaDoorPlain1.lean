/- The plain mathematics of prefixes: sizes, goodness, what has what; no program is named here. -/
import Derived.WalkKit
namespace Go.Proofs.YtnpnhdaehddnmaaDoor
open Go.RowKit

def inB (n lo hi : Int) : Bool := decide (lo ≤ n ∧ n ≤ hi)
theorem inB_t {n lo hi : Int} (h1 : lo ≤ n) (h2 : n ≤ hi) : inB n lo hi = true := by simp [inB, h1, h2]
theorem inB_f1 {n lo hi : Int} (h1 : ¬ lo ≤ n) : inB n lo hi = false := by simp [inB]; omega
theorem inB_f2 {n lo hi : Int} (h1 : ¬ n ≤ hi) : inB n lo hi = false := by simp [inB]; omega
theorem inB_n {n lo hi : Int} (h1 : ¬ (lo ≤ n ∧ n ≤ hi)) : inB n lo hi = false := by simp [inB]; omega
theorem inB_iff {n lo hi : Int} : inB n lo hi = true ↔ lo ≤ n ∧ n ≤ hi := by simp [inB]

theorem wrapk_in (n : Int) (h : -9223372036854775808 ≤ n ∧ n ≤ 9223372036854775807) : IntKind.i64.wrap n = n := by
  rw [IntWalk.i64_left]; exact IntWalk.wrap64_in n h

/-- The size of a prefix of length l. -/
def pw (l : Int) : Int := 2 ^ (32 - l).toNat

theorem pw_pos (l : Int) : 1 ≤ pw l := by
  unfold pw
  have := Int.pow_pos (n := 2) (m := (32 - l).toNat) (by omega)
  omega

theorem two_pow_le (m : Nat) (h : m ≤ 32) : (2 : Int) ^ m ≤ 4294967296 := by
  have h1 : (2 : Nat) ^ m ≤ 2 ^ 32 := Nat.pow_le_pow_right (by omega) h
  have h2 : ((2 ^ m : Nat) : Int) ≤ ((2 ^ 32 : Nat) : Int) := by exact_mod_cast h1
  have h3 : ((2 ^ m : Nat) : Int) = (2 : Int) ^ m := by norm_cast
  omega

theorem pw_le (l : Int) (h0 : 0 ≤ l) : pw l ≤ 4294967296 := by
  unfold pw
  exact two_pow_le _ (by omega)

theorem pw_wrap (l : Int) (h0 : 0 ≤ l) : wrap64 (2 ^ (32 - l).toNat) = pw l := by
  have h1 := pw_pos l
  have h2 := pw_le l h0
  show wrap64 (pw l) = pw l
  exact IntWalk.wrap64_in _ (by omega)

/-- One shorter is twice as great. -/
theorem pw_pred (l : Int) (h0 : 1 ≤ l) (h1 : l ≤ 32) : pw (l - 1) = 2 * pw l := by
  unfold pw
  have e : (32 - (l - 1)).toNat = (32 - l).toNat + 1 := by omega
  rw [e, Int.pow_succ]
  omega

theorem pw_succ (l : Int) (h1 : l < 32) : pw l = 2 * pw (l + 1) := by
  unfold pw
  have e : (32 - l).toNat = (32 - (l + 1)).toNat + 1 := by omega
  rw [e, Int.pow_succ]
  omega

theorem pw_32 : pw 32 = 1 := by simp [pw]

def goodB (a l : Int) : Bool := inB l 0 32 && inB a 0 4294967295 && (a % pw l == 0)

theorem goodB_in {a l : Int} (hl0 : 0 ≤ l) (hl1 : l ≤ 32) (ha0 : 0 ≤ a) (ha1 : a ≤ 4294967295) : goodB a l = (a % pw l == 0) := by
  simp [goodB, inB_t hl0 hl1, inB_t ha0 ha1]
theorem goodB_a {a l : Int} (ha : ¬ (0 ≤ a ∧ a ≤ 4294967295)) : goodB a l = false := by
  simp [goodB, inB_n ha]
theorem goodB_l {a l : Int} (hl : ¬ (0 ≤ l ∧ l ≤ 32)) : goodB a l = false := by
  simp [goodB, inB_n hl]
theorem goodB_iff {a l : Int} : goodB a l = true ↔ (0 ≤ l ∧ l ≤ 32) ∧ (0 ≤ a ∧ a ≤ 4294967295) ∧ a % pw l = 0 := by
  simp only [goodB, Bool.and_eq_true, inB_iff, beq_iff_eq, and_assoc]

/-- Whether the prefix of length l around x begins at a. -/
def hasB (a l x : Int) : Bool := x - x % pw l == a

theorem sub_is (a m : Int) : (a == a - m) = (m == 0) := by
  by_cases h : m = 0
  · simp [h]
  · have h1 : (m == 0) = false := by simp [h]
    have h2 : (a == a - m) = false := by simp; omega
    rw [h1, h2]

theorem beq_swap (a b : Int) : (a == b) = (b == a) := by
  by_cases h : a = b
  · simp [h]
  · have h1 : (a == b) = false := by simp [h]
    have h2 : (b == a) = false := by simp; omega
    rw [h1, h2]

/-- How two numbers stand. -/
def cmpI (x y : Int) : Int := if x < y then -1 else if y < x then 1 else 0

/-- How two prefixes stand: by their addresses, then by their lengths. -/
def cmpP (a l b m : Int) : Int := if a ≠ b then cmpI a b else cmpI l m

/-- The address of the other half of the parent. -/
def sibA (a l : Int) : Int := if a - a % pw (l - 1) = a then a - a % pw (l - 1) + pw l else a - a % pw (l - 1)

end Go.Proofs.YtnpnhdaehddnmaaDoor
