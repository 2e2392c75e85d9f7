/- A list of strings that came in, opened: its cells. -/
import Derived.Test.YtnpnhdaehddnmaaDoorFlatString
import Derived.Test.YtnpnhdaehddnmaaDoorOpenKit
import Derived.Deep.Strs
namespace Go.Proofs.YtnpnhdaehddnmaaDoor
open Go.ChangeShapes Go.WideShapes Go.ChangeAt Go.RowKit Go.Deep

set_option maxRecDepth 100000 in
theorem open_rowString {H : Type} {enc : TypeId × Value → H} {W : World} {base : Nat} {spare : Nat → Bool} {held : Bool} {fuel : Nat} {a : Option Addr} {len cap : Nat} {y : DataW H × List MemPlace}
    (h : DataW.trod enc Tryd.prog W base spare held fuel 22 [.slice a len cap] = some y) : len ≤ maxLen ∧ ∃ f, RowStr a len f W ∧ ∀ i, i < len → (f i).size ≤ maxLen := by
  rcases open_strs Tryd.underlying22 Tryd.underlying9 (by kernel_rfl) h with ⟨hcs, _⟩ | ⟨x, l, c, m, Sx, hcs, _, hl, hm, hmm, _, hel⟩
  · simp at hcs
    obtain ⟨rfl, rfl, rfl⟩ := hcs
    exact ⟨Nat.zero_le _, fun _ => ByteArray.empty, fun i hi => absurd hi (Nat.not_lt_zero _), fun i hi => absurd hi (Nat.not_lt_zero _)⟩
  · simp at hcs
    obtain ⟨rfl, rfl, rfl⟩ := hcs
    have hlm : len ≤ m := by rw [hmm]; split <;> omega
    refine ⟨Nat.le_trans hl hm, Sx, fun i hi => ?_, fun i hi => (hel i (by omega)).2⟩
    have c0 := (hel i (by omega)).1
    obtain ⟨b, off, rfl⟩ : ∃ b off, x = ⟨b, off, none⟩ := by
      have := (hel 0 (by omega)).1
      exact addr_plain (by simpa [Addr.add] using this)
    rw [Addr.add_mid] at c0
    exact ⟨b, off, rfl, World.block_lt_of_cell? W _ c0, c0⟩
end Go.Proofs.YtnpnhdaehddnmaaDoor
