/- What is loaded from a disk: in plain words. -/
import Derived.Test.YtnpnhdaehddnmaaDoorPlain17l
import Derived.Test.YtnpnhdaehddnmaaDoorGD17
namespace Go.Proofs.YtnpnhdaehddnmaaDoor
open Go.RowKit

/-- The half of the newest text: of what both telling sectors tell. -/
def nwB (p q : Bool) (x8 x9 : Int) : Int := if (p && (!q || decide (x9 ≤ x8))) = true then 0 else if q = true then 1 else -1
def nwI (d : Dk) : Int := nwB (decide (RdOk (d.f 8))) (decide (RdOk (d.f 9))) (rdA (d.f 8)).1 (rdA (d.f 9)).1
theorem nwI_bd (d : Dk) : nwI d = 0 ∨ nwI d = 1 ∨ nwI d = -1 := by
  unfold nwI nwB
  split
  · exact .inl rfl
  · split
    · exact .inr (.inl rfl)
    · exact .inr (.inr rfl)
theorem nwI_zero {d : Dk} (h : nwI d = 0) : RdOk (d.f 8) := by
  unfold nwI nwB at h
  split at h
  · rename_i q
    rw [Bool.and_eq_true] at q
    exact of_decide_eq_true q.1
  · split at h <;> omega
theorem nwI_one {d : Dk} (h : nwI d = 1) : RdOk (d.f 9) := by
  unfold nwI nwB at h
  split at h
  · omega
  · split at h
    · rename_i q
      exact of_decide_eq_true q
    · omega
/-- A sector's piece of the text. -/
def piB (s : ByteArray) : ByteArray := if s.size ≤ 18 then s else s.extract 0 18
theorem piB_size (s : ByteArray) : (piB s).size ≤ 18 := by
  unfold piB
  split
  · assumption
  · rw [ByteArray.size_extract]; omega
/-- The first k pieces from sector b on. -/
def txB (f : Nat → ByteArray) (b : Nat) : Nat → ByteArray
  | 0 => ⟨#[]⟩
  | k + 1 => txB f b k ++ piB (f (b + k))
theorem txB_size (f : Nat → ByteArray) (b k : Nat) : (txB f b k).size ≤ 18 * k := by
  induction k with
  | zero => exact Nat.le_refl _
  | succ k ih =>
    show (txB f b k ++ piB (f (b + k))).size ≤ _
    rw [ByteArray.size_append]
    have := piB_size (f (b + k))
    omega
/-- What is loaded of a half. -/
def ldH (d : Dk) (h : Nat) : ByteArray × Int × Bool :=
  if ((txB d.f (4 * h) 4).size : Int) < rdL (d.f (8 + h)) then (⟨#[]⟩, 0, false) else ((txB d.f (4 * h) 4).extract 0 (rdL (d.f (8 + h))).toNat, rdN (d.f (8 + h)), true)
def ldA (d : Dk) : ByteArray × Int × Bool := if nwI d < 0 then (⟨#[]⟩, 0, false) else ldH d (nwI d).toNat
end Go.Proofs.YtnpnhdaehddnmaaDoor
