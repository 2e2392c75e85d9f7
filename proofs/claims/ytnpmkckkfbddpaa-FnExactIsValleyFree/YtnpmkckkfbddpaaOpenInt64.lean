/- A list of whole numbers that came in, opened: its cells, and that each is a number of 64 bits. -/
import Derived.Test.YtnpmkckkfbddpaaOpenInt
import Derived.Test.YtnpmkckkfbddpaaMap11
namespace Go.Proofs.Ytnpmkckkfbddpaa
open Go.ChangeShapes Go.WideShapes Go.ChangeAt Go.RowKit Go.Deep Go.Joins

set_option maxRecDepth 100000 in
theorem open_rowInt64 {H : Type} {enc : TypeId × Value → H} {W : World} {base : Nat} {spare : Nat → Bool} {held : Bool} {fuel : Nat} {a : Option Addr} {len cap : Nat} {y : DataW H × List MemPlace}
    (h : DataW.trod enc Try.prog W base spare held fuel 32 [.slice a len cap] = some y) : len ≤ maxLen ∧ ∃ f, RowInt a len f W ∧ ∀ i, i < len → W64 (f i) := by
  rcases open_slice Try.underlying32 h with ⟨hcs, _⟩ | ⟨x, l, c, m, n, D, Pl, hcs, _, hl, hm, hmm, _, hel⟩
  · simp at hcs
    obtain ⟨rfl, rfl, rfl⟩ := hcs
    exact ⟨Nat.zero_le _, fun _ => 0, fun i hi => absurd hi (Nat.not_lt_zero _), fun i hi => absurd hi (Nat.not_lt_zero _)⟩
  · simp at hcs
    obtain ⟨rfl, rfl, rfl⟩ := hcs
    have hlm : len ≤ m := by rw [hmm]; split <;> omega
    have ci : Try.prog.cellsOf 3 = 1 := by kernel_rfl
    have each : ∀ i, i < len → ∃ q : Int, ∃ b off, x = ⟨b, off, none⟩ ∧ b < W.heap.size ∧ W.cell? ⟨b, off + i, none⟩ = some (.int .i64 q) ∧ W64 q := by
      intro i hi
      have hx : ∃ b off, x = ⟨b, off, none⟩ := by
        obtain ⟨cs0, h1, _⟩ := hel 0 (by omega)
        rw [ci] at h1
        obtain ⟨_, hlen, hcell⟩ := World.cells?_some h1
        have := hcell 0 (by omega)
        rw [List.getElem?_eq_getElem (by omega)] at this
        exact addr_plain (by simpa [Addr.add] using this)
      obtain ⟨b, off, rfl⟩ := hx
      obtain ⟨cs', h1, h2⟩ := hel i (by omega)
      rw [ci] at h1
      obtain ⟨_, hlen, hcell⟩ := World.cells?_some h1
      obtain ⟨v0, rfl⟩ := List.length_eq_one_iff.1 hlen
      obtain ⟨w0, hw0, _, hwf⟩ := DataW.trod_int Try.underlying3 h2
      simp at hw0
      subst hw0
      have c0 := hcell 0 (by omega)
      rw [add_add, Addr.add_mid] at c0
      have hb := World.block_lt_of_cell? W _ c0
      exact ⟨w0, b, off, rfl, hb, by simpa using c0, hwf⟩
    obtain ⟨q, hq⟩ := choose_ltI each
    refine ⟨Nat.le_trans hl hm, q, fun i hi => ?_, fun i hi => ?_⟩
    · obtain ⟨b, off, hx, h, h', _⟩ := hq i hi
      exact ⟨b, off, by rw [hx], h, h'⟩
    · obtain ⟨b, off, hx, h, _, h'⟩ := hq i hi
      exact h'
end Go.Proofs.Ytnpmkckkfbddpaa
