/- What a telling sector tells: in plain words. -/
import Derived.Test.YtnpnhdaehddnmaaDoorPlain17u
namespace Go.Proofs.YtnpnhdaehddnmaaDoor
open Go.RowKit

/-- The number that is told, and the length. -/
def rdN (s : ByteArray) : Int := by17 (preB s) 0 * 256 + by17 (preB s) 1
def rdL (s : ByteArray) : Int := by17 (preB s) 2
/-- A sector tells of a text. -/
def RdOk (s : ByteArray) : Prop := UsOk s ∧ s.size = 4 ∧ rdN s ≤ 999 ∧ rdL s ≤ 72
instance (s : ByteArray) : Decidable (RdOk s) := by unfold RdOk; infer_instance
/-- What l17Read tells, whether it counts or not. -/
def rdA (s : ByteArray) : Int × Int := if UsOk s ∧ s.size = 4 then (rdN s, rdL s) else (0, 0)
theorem rdA_ok {s : ByteArray} (h : RdOk s) : rdA s = (rdN s, rdL s) := if_pos ⟨h.1, h.2.1⟩
theorem rd_bd (s : ByteArray) : 0 ≤ rdN s ∧ 0 ≤ rdL s ∧ rdL s < 256 := by
  have h0 := by17_bd (preB s) 0
  have h1 := by17_bd (preB s) 1
  have h2 := by17_bd (preB s) 2
  unfold rdN rdL
  omega
end Go.Proofs.YtnpnhdaehddnmaaDoor
