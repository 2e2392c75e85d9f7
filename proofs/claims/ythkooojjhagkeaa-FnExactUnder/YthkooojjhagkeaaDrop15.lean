/- Strings behind the first ones. -/
import Derived.Test.YthkooojjhagkeaaFlt15
namespace Go.Proofs.Ythkooojjhagkeaa
open Go.RowKit

theorem _root_.Go.Proofs.Ythkooojjhagkeaa.RowStr.drop15 {b off n : Nat} {f : Nat → ByteArray} {w : World} (h : RowStr (some ⟨b, off, none⟩) n f w) (m : Nat) : RowStr (some ⟨b, off + m, none⟩) (n - m) (fun i => f (m + i)) w := by
  intro i hi
  obtain ⟨b', off', ha, hb, h0⟩ := h (m + i) (by omega)
  simp only [Option.some.injEq, Addr.mk.injEq, and_true] at ha
  obtain ⟨rfl, rfl⟩ := ha
  exact ⟨b, off + m, rfl, hb, by rw [Nat.add_assoc]; exact h0⟩
end Go.Proofs.Ythkooojjhagkeaa
