/- Sums, seals: in plain words. -/
import Derived.Test.YtnpnhdaehddnmaaDoorFlatString
import Derived.Laws.BytesArg
import Derived.Laws.IdiomStrings
namespace Go.Proofs.YtnpnhdaehddnmaaDoor
open Go.RowKit

/-- The byte at i, 0 where there is none. -/
def by17 (s : ByteArray) (i : Nat) : Int := if h : i < s.size then ((s[i]'h).toNat : Int) else 0
theorem by17_at {s : ByteArray} {i : Nat} (h : i < s.size) : by17 s i = ((s[i]'h).toNat : Int) := dif_pos h
theorem by17_bd (s : ByteArray) (i : Nat) : 0 ≤ by17 s i ∧ by17 s i < 256 := by
  unfold by17
  split
  · rename_i h
    have := (s[i]'h).toNat_lt
    omega
  · omega
/-- The sum over the first bytes. -/
def sumN (s : ByteArray) : Nat → Int
  | 0 => 7
  | k + 1 => (31 * sumN s k + by17 s k) % 251
theorem sumN_zero (s : ByteArray) : sumN s 0 = 7 := rfl
theorem sumN_succ (s : ByteArray) (k : Nat) : sumN s (k + 1) = (31 * sumN s k + by17 s k) % 251 := rfl
theorem sumN_bd (s : ByteArray) (k : Nat) : 0 ≤ sumN s k ∧ sumN s k < 251 := by
  cases k with
  | zero => rw [sumN_zero]; omega
  | succ k => rw [sumN_succ]; omega
theorem sumN_congr {s t : ByteArray} (n : Nat) (h : ∀ i, i < n → by17 s i = by17 t i) : sumN s n = sumN t n := by
  induction n with
  | zero => rfl
  | succ k ih => rw [sumN_succ, sumN_succ, ih (fun i hi => h i (by omega)), h k (by omega)]
/-- A text, sealed. -/
def sealB (s : ByteArray) : ByteArray := s ++ strOfNums [sumN s s.size]
theorem sealB_size (s : ByteArray) : (sealB s).size = s.size + 1 := by
  unfold sealB
  rw [ByteArray.size_append, strOfNums_size]
  rfl
theorem tmod251 {x : Int} (h : 0 ≤ x) : x.tmod 251 = x % 251 := Int.tmod_eq_emod_of_nonneg h
end Go.Proofs.YtnpnhdaehddnmaaDoor
