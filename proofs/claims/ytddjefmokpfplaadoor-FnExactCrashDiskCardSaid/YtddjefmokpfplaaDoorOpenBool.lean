/- A list of flags that came in, opened: its cells. -/
import Derived.Test.YtddjefmokpfplaaDoorFlatBool
import Derived.Test.YtddjefmokpfplaaDoorOpenKit
import Derived.Lib.SmallJoins
namespace Go.Proofs.YtddjefmokpfplaaDoor
open Go.ChangeShapes Go.WideShapes Go.ChangeAt Go.RowKit Go.Deep Go.Joins

theorem choose_ltB {len : Nat} {p : Nat → Bool → Prop} (h : ∀ i, i < len → ∃ q, p i q) : ∃ f : Nat → Bool, ∀ i, i < len → p i (f i) := by
  refine ⟨fun i => if hi : i < len then Classical.choose (h i hi) else false, fun i hi => ?_⟩
  simp only [dif_pos hi]
  exact Classical.choose_spec (h i hi)

set_option maxRecDepth 100000 in
theorem open_rowBool {H : Type} {enc : TypeId × Value → H} {W : World} {base : Nat} {spare : Nat → Bool} {held : Bool} {fuel : Nat} {a : Option Addr} {len cap : Nat} {y : DataW H × List MemPlace}
    (h : DataW.trod enc Tryd.prog W base spare held fuel 38 [.slice a len cap] = some y) : len ≤ maxLen ∧ ∃ f, RowBl a len f W := by
  rcases open_slice Tryd.underlying38 h with ⟨hcs, _⟩ | ⟨x, l, c, m, n, D, Pl, hcs, _, hl, hm, hmm, _, hel⟩
  · simp at hcs
    obtain ⟨rfl, rfl, rfl⟩ := hcs
    exact ⟨Nat.zero_le _, fun _ => false, fun i hi => absurd hi (Nat.not_lt_zero _)⟩
  · simp at hcs
    obtain ⟨rfl, rfl, rfl⟩ := hcs
    have hlm : len ≤ m := by rw [hmm]; split <;> omega
    have ci : Tryd.prog.cellsOf 4 = 1 := by kernel_rfl
    have each : ∀ i, i < len → ∃ q : Bool, ∃ b off, x = ⟨b, off, none⟩ ∧ b < W.heap.size ∧ W.cell? ⟨b, off + i, none⟩ = some (.bool q) := by
      intro i hi
      have hx : ∃ b off, x = ⟨b, off, none⟩ := by
        obtain ⟨cs0, h1, _⟩ := hel 0 (by omega)
        rw [ci] at h1
        obtain ⟨_, hlen, hcell⟩ := World.cells?_some h1
        have := hcell 0 (by omega)
        rw [List.getElem?_eq_getElem (by omega)] at this
        exact addr_plain (by simpa [Addr.add] using this)
      obtain ⟨b, off, rfl⟩ := hx
      obtain ⟨cs', h1, h2⟩ := hel i (by omega)
      rw [ci] at h1
      obtain ⟨_, hlen, hcell⟩ := World.cells?_some h1
      obtain ⟨v0, rfl⟩ := List.length_eq_one_iff.1 hlen
      obtain ⟨w0, hw0, _⟩ := DataW.trod_bool Tryd.underlying4 h2
      simp at hw0
      subst hw0
      have c0 := hcell 0 (by omega)
      rw [add_add, Addr.add_mid] at c0
      have hb := World.block_lt_of_cell? W _ c0
      exact ⟨w0, b, off, rfl, hb, by simpa using c0⟩
    obtain ⟨q, hq⟩ := choose_ltB each
    refine ⟨Nat.le_trans hl hm, q, fun i hi => ?_⟩
    obtain ⟨b, off, hx, h⟩ := hq i hi
    exact ⟨b, off, by rw [hx], h⟩
end Go.Proofs.YtddjefmokpfplaaDoor
