/- What a seal says: in plain words. -/
import Derived.Test.YtnpnhdaehddnmaaDoorPlain17
namespace Go.Proofs.YtnpnhdaehddnmaaDoor
open Go.RowKit

theorem empty17 (s : ByteArray) : s.toList.isEmpty = decide (s.size = 0) := by
  rw [ByteArray.toList_eq]
  cases h : s.data.toList with
  | nil =>
    have e : s.size = 0 := by
      show s.data.size = 0
      rw [← Array.length_toList, h]; rfl
    simp [e]
  | cons x l =>
    have e : ¬ s.size = 0 := by
      show ¬ s.data.size = 0
      rw [← Array.length_toList, h]; simp
    simp [e]
/-- All but the last byte. -/
def preB (s : ByteArray) : ByteArray := s.extract 0 (s.size - 1)
theorem preB_size (s : ByteArray) : (preB s).size = s.size - 1 := by
  unfold preB
  rw [ByteArray.size_extract]
  omega
/-- The text is sealed. -/
def UsOk (s : ByteArray) : Prop := 0 < s.size ∧ by17 s (s.size - 1) = sumN (preB s) (s.size - 1)
instance (s : ByteArray) : Decidable (UsOk s) := by unfold UsOk; infer_instance
/-- What Unseal answers. -/
def usA (s : ByteArray) : ByteArray × Bool := if UsOk s then (preB s, true) else (⟨#[]⟩, false)
theorem by17_pre {s : ByteArray} {i : Nat} (h : i < s.size - 1) : by17 (preB s) i = by17 s i := by
  have h1 : i < (preB s).size := by rw [preB_size]; exact h
  have h2 : i < s.size := by omega
  rw [by17_at h1, by17_at h2]
  have e : ∀ (t : ByteArray) (ht : t = s.extract 0 (s.size - 1)) (h3 : i < t.size), t[i] = s[i] := by
    intro t ht h3
    subst ht
    rw [ByteArray.getElem_extract]
    congr 1
    omega
  rw [e (preB s) rfl h1]
theorem by17_ext {s t : ByteArray} (hs : s.size = t.size) (h : ∀ i, i < s.size → by17 s i = by17 t i) : s = t := by
  apply ByteArray.ext
  apply Array.ext
  · exact hs
  · intro i h1 h2
    have h3 := h i h1
    rw [by17_at (show i < s.size from h1), by17_at (show i < t.size from h2)] at h3
    have h4 : (s[i]'h1).toNat = (t[i]'h2).toNat := by omega
    exact UInt8.toNat_inj.1 h4
theorem by17_one (x : Int) (h0 : 0 ≤ x) (h1 : x < 256) : by17 (strOfNums [x]) 0 = x := by
  have h : 0 < (strOfNums [x]).size := by rw [strOfNums_size]; simp
  rw [by17_at h]
  have e : (strOfNums [x])[0] = UInt8.ofNat x.toNat := rfl
  rw [e, UInt8.toNat_ofNat']
  omega
theorem by17_left {a b : ByteArray} {i : Nat} (h : i < a.size) : by17 (a ++ b) i = by17 a i := by
  have h2 : i < (a ++ b).size := by rw [ByteArray.size_append]; omega
  rw [by17_at h2, by17_at h, ByteArray.getElem_append_left h]
theorem by17_right {a b : ByteArray} {i : Nat} (h : i < b.size) : by17 (a ++ b) (a.size + i) = by17 b i := by
  have h2 : a.size + i < (a ++ b).size := by rw [ByteArray.size_append]; omega
  rw [by17_at h2, by17_at h, ByteArray.getElem_append_right (by omega)]
  congr 2
  congr 1
  omega
theorem sealB_pre {s : ByteArray} (h : 0 < s.size) : sealB (preB s) = s ↔ UsOk s := by
  have hsz : (sealB (preB s)).size = s.size := by rw [sealB_size, preB_size]; omega
  have hb := sumN_bd (preB s) (preB s).size
  have hlast : by17 (sealB (preB s)) (s.size - 1) = sumN (preB s) (s.size - 1) := by
    have e : s.size - 1 = (preB s).size + 0 := by rw [preB_size]; rfl
    rw [e]
    unfold sealB
    rw [by17_right (by rw [strOfNums_size]; simp), by17_one _ hb.1 (by omega)]
    rfl
  constructor
  · intro e
    refine ⟨h, ?_⟩
    rw [← hlast, e]
  · intro u
    apply by17_ext hsz
    intro i hi
    rw [hsz] at hi
    by_cases hl : i < s.size - 1
    · rw [← by17_pre hl]
      unfold sealB
      exact by17_left (by rw [preB_size]; exact hl)
    · obtain rfl : i = s.size - 1 := by omega
      rw [hlast, u.2]
end Go.Proofs.YtnpnhdaehddnmaaDoor
