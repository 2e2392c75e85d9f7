/- What the specification draws for RangeOf and CutPrefix. -/
import Derived.Test.YtofalilkephkpaaDraw3c
namespace Go.Proofs.Ytofalilkephkpaa
open Go.RowKit

theorem bytes_to3 {B : Nat} {w w' : World} {v : Value} {len : Nat} (h : BytesAt w.heap.size w v len) (k : Below w.heap.size w w') (hB : w.heap.size ≤ B) : BytesAt B w' v len := by
  obtain ⟨a, cap, hv, hl, hj⟩ := h
  refine ⟨a, cap, hv, hl, fun j h => ?_⟩
  obtain ⟨b, off, z, ha, hb, hw, hz, h0, h1⟩ := hj j h
  exact ⟨b, off, z, ha, by omega, Nat.lt_of_lt_of_le hw k.size, (k.cell (p := ⟨b, off + j, none⟩) hw).trans hz, h0, h1⟩
end Go.Proofs.Ytofalilkephkpaa
