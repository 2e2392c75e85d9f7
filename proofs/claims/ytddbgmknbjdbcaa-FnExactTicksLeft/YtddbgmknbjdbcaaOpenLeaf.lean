/- Lists of leaves that came in, opened. -/
import Derived.Test.YtddbgmknbjdbcaaLeaf15
import Derived.Test.YtddbgmknbjdbcaaOpenString
import Derived.Test.YtddbgmknbjdbcaaOpenKit
import Derived.Lib.SmallJoins
namespace Go.Proofs.Ytddbgmknbjdbcaa
open Go.ChangeShapes Go.WideShapes Go.ChangeAt Go.RowKit Go.Deep Go.Joins

theorem choose_lf {len : Nat} {p : Nat → Lf → Prop} (h : ∀ i, i < len → ∃ q, p i q) : ∃ f : Nat → Lf, ∀ i, i < len → p i (f i) := by
  refine ⟨fun i => if hi : i < len then Classical.choose (h i hi) else lf0, fun i hi => ?_⟩
  simp only [dif_pos hi]
  exact Classical.choose_spec (h i hi)
set_option maxRecDepth 100000 in
theorem open_leaf {H : Type} {enc : TypeId × Value → H} {W : World} {base : Nat} {spare : Nat → Bool} {held : Bool} {fuel : Nat} {vs : List Value} {y : DataW H × List MemPlace} (hvs : vs.length = 2)
    (h : DataW.trod enc Try.prog W base spare held fuel 73 vs = some y) : ∃ (a : Option Addr) (n c : Nat) (f : Nat → ByteArray) (s : ByteArray), vs = [.slice a n c, .string s] ∧ n ≤ maxLen ∧ (∀ i, i < n → (f i).size ≤ maxLen) ∧ s.size ≤ maxLen ∧ RowStr a n f W := by
  have cs : Try.prog.cellsOf 9 = 1 := by kernel_rfl
  have cl : Try.prog.cellsOf 62 = 1 := by kernel_rfl
  obtain ⟨v0, v1, rfl⟩ := list2 hvs
  obtain ⟨xs, k, hk, hxy, _, hxl, hf⟩ := DataW.trod_struct Try.underlying73 h
  obtain ⟨y0, y1, rfl⟩ := list2 (show xs.length = 2 by rw [hxl]; rfl)
  have g0 := hf 0 _ rfl
  have g1 := hf 1 _ rfl
  simp [cs, cl] at g0 g1
  obtain ⟨a0, n0, c0, hw0⟩ := slice_form Try.underlying62 g0
  obtain ⟨s, hw1, _, hs⟩ := DataW.trod_string Try.underlying9 g1
  simp at hw0 hw1
  subst hw0 hw1
  obtain ⟨hl0, f, hR0, hX⟩ := open_rowString g0
  exact ⟨a0, n0, c0, f, s, rfl, hl0, hX, hs, hR0⟩
set_option maxRecDepth 100000 in
theorem open_leaves {H : Type} {enc : TypeId × Value → H} {W : World} {base : Nat} {spare : Nat → Bool} {held : Bool} {fuel : Nat} {a : Option Addr} {len cap : Nat} {y : DataW H × List MemPlace}
    (h : DataW.trod enc Try.prog W base spare held fuel 30 [.slice a len cap] = some y) : len ≤ maxLen ∧ ∃ T, RowF false a len T W ∧ MaxF len T := by
  rcases open_slice Try.underlying30 h with ⟨hcs, _⟩ | ⟨x, l, c, m, n, D, Pl, hcs, _, hl, hm, hmm, _, hel⟩
  · simp at hcs
    obtain ⟨rfl, rfl, rfl⟩ := hcs
    exact ⟨Nat.zero_le _, fun _ => lf0, fun i hi => absurd hi (Nat.not_lt_zero _), fun i hi => absurd hi (Nat.not_lt_zero _)⟩
  · simp at hcs
    obtain ⟨rfl, rfl, rfl⟩ := hcs
    have hlm : len ≤ m := by rw [hmm]; split <;> omega
    have hce : Try.prog.cellsOf 73 = 2 := by kernel_rfl
    have each : ∀ i, i < len → ∃ t : Lf, (∃ (b off : Nat) (a0 : Option Addr) (c0 : Nat), x = ⟨b, off, none⟩ ∧ b < W.heap.size ∧
        W.cell? ⟨b, off + i * 2, none⟩ = some (.slice a0 t.n c0) ∧ W.cell? ⟨b, off + i * 2 + 1, none⟩ = some (.string t.v) ∧ RowStr a0 t.n t.p W) ∧ OkF t maxLen := by
      intro i hi
      have hx : ∃ b off, x = ⟨b, off, none⟩ := by
        obtain ⟨cs0, h1, _⟩ := hel 0 (by omega)
        rw [hce] at h1
        obtain ⟨_, hlen, hcell⟩ := World.cells?_some h1
        have := hcell 0 (by omega)
        rw [List.getElem?_eq_getElem (by omega)] at this
        exact addr_plain (by simpa [Addr.add] using this)
      obtain ⟨b, off, rfl⟩ := hx
      obtain ⟨cs', h1, h2⟩ := hel i (by omega)
      rw [hce] at h1
      obtain ⟨_, hlen, hcell⟩ := World.cells?_some h1
      obtain ⟨a0, n0, c0, f, s, rfl, l0, hX, hs, R0⟩ := open_leaf hlen h2
      have c1 := hcell 0 (by omega)
      have c2 := hcell 1 (by omega)
      rw [add_add, Addr.add_mid] at c1 c2
      have hb := World.block_lt_of_cell? W _ c1
      exact ⟨⟨n0, f, s⟩, ⟨b, off, a0, c0, rfl, hb, by simpa using c1, by simpa [Nat.add_assoc] using c2, R0⟩, l0, hX, hs⟩
    obtain ⟨T, hT⟩ := choose_lf each
    refine ⟨Nat.le_trans hl hm, T, fun i hi => ?_, fun i hi => (hT i hi).2⟩
    obtain ⟨b, off, a0, c0, hx, hbw, h0, h1, hr⟩ := (hT i hi).1
    exact ⟨b, off, a0, c0, by rw [hx], hbw, h0, h1, fun e => (by cases e), hr⟩
end Go.Proofs.Ytddbgmknbjdbcaa
