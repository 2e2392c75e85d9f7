/- Lists of lists of numbers and algebras that came in, opened. -/
import Derived.Test.YtelehmkmdbhcfaaAl9
import Derived.Test.YtelehmkmdbhcfaaOpenInt
import Derived.Test.YtelehmkmdbhcfaaOpenKit
import Derived.Lib.SmallJoins
namespace Go.Proofs.Ytelehmkmdbhcfaa
open Go.ChangeShapes Go.WideShapes Go.ChangeAt Go.RowKit Go.Deep Go.Joins

theorem choose_lc {len : Nat} {p : Nat → Lc → Prop} (h : ∀ i, i < len → ∃ q, p i q) : ∃ f : Nat → Lc, ∀ i, i < len → p i (f i) := by
  refine ⟨fun i => if hi : i < len then Classical.choose (h i hi) else lc0, fun i hi => ?_⟩
  simp only [dif_pos hi]
  exact Classical.choose_spec (h i hi)
theorem arr2a {α : Type} {cs : Array α} (h : cs.size = 2) : ∃ a b, cs = #[a, b] := by
  obtain ⟨l⟩ := cs
  obtain ⟨a, b, rfl⟩ := list2 (show l.length = 2 from h)
  exact ⟨a, b, rfl⟩
set_option maxRecDepth 100000 in
theorem open_rowLL {H : Type} {enc : TypeId × Value → H} {W : World} {base : Nat} {spare : Nat → Bool} {held : Bool} {fuel : Nat} {a : Option Addr} {len cap : Nat} {y : DataW H × List MemPlace}
    (h : DataW.trod enc Try.prog W base spare held fuel 22 [.slice a len cap] = some y) : len ≤ maxLen ∧ ∃ T, RowLL a len T W ∧ MaxL len T := by
  rcases open_slice Try.underlying22 h with ⟨hcs, _⟩ | ⟨x, l, c, m, n, D, Pl, hcs, _, hl, hm, hmm, _, hel⟩
  · simp at hcs
    obtain ⟨rfl, rfl, rfl⟩ := hcs
    exact ⟨Nat.zero_le _, fun _ => lc0, fun i hi => absurd hi (Nat.not_lt_zero _), fun i hi => absurd hi (Nat.not_lt_zero _)⟩
  · simp at hcs
    obtain ⟨rfl, rfl, rfl⟩ := hcs
    have hlm : len ≤ m := by rw [hmm]; split <;> omega
    have hce : Try.prog.cellsOf 28 = 1 := by kernel_rfl
    have each : ∀ i, i < len → ∃ t : Lc, (∃ (b off : Nat) (a0 : Option Addr) (c0 : Nat), x = ⟨b, off, none⟩ ∧ b < W.heap.size ∧
        W.cell? ⟨b, off + i, none⟩ = some (.slice a0 t.n c0) ∧ RowInt a0 t.n t.f W) ∧ t.n ≤ maxLen := by
      intro i hi
      have hx : ∃ b off, x = ⟨b, off, none⟩ := by
        obtain ⟨cs0, h1, _⟩ := hel 0 (by omega)
        rw [hce] at h1
        obtain ⟨_, hlen, hcell⟩ := World.cells?_some h1
        have := hcell 0 (by omega)
        rw [List.getElem?_eq_getElem (by omega)] at this
        exact addr_plain (by simpa [Addr.add] using this)
      obtain ⟨b, off, rfl⟩ := hx
      obtain ⟨cs', h1, h2⟩ := hel i (by omega)
      rw [hce] at h1
      obtain ⟨_, hlen, hcell⟩ := World.cells?_some h1
      obtain ⟨v0, rfl⟩ := List.length_eq_one_iff.1 hlen
      obtain ⟨a0, n0, c0, hw0⟩ := slice_form Try.underlying28 h2
      simp at hw0
      subst hw0
      obtain ⟨hl0, f, hR0⟩ := open_rowInt h2
      have c1 := hcell 0 (by omega)
      rw [add_add, Addr.add_mid] at c1
      have hb := World.block_lt_of_cell? W _ c1
      exact ⟨⟨n0, f⟩, ⟨b, off, a0, c0, rfl, hb, by simpa using c1, hR0⟩, hl0⟩
    obtain ⟨T, hT⟩ := choose_lc each
    refine ⟨Nat.le_trans hl hm, T, fun i hi => ?_, fun i hi => (hT i hi).2⟩
    obtain ⟨b, off, a0, c0, hx, hr⟩ := (hT i hi).1
    exact ⟨b, off, a0, c0, by rw [hx], hr⟩
set_option maxRecDepth 100000 in
theorem open_algebra {H : Type} {enc : TypeId × Value → H} {W : World} {base : Nat} {spare : Nat → Bool} {held : Bool} {fuel : Nat} {vs : List Value} {y : DataW H × List MemPlace} (hvs : vs.length = 2)
    (h : DataW.trod enc Try.prog W base spare held fuel 24 vs = some y) : ∃ (g : Int) (a : Option Addr) (n c : Nat) (T : Nat → Lc), vs = [.int .i64 g, .slice a n c] ∧ n ≤ maxLen ∧ MaxL n T ∧ RowLL a n T W := by
  have ci : Try.prog.cellsOf 3 = 1 := by kernel_rfl
  have cl : Try.prog.cellsOf 22 = 1 := by kernel_rfl
  obtain ⟨v0, v1, rfl⟩ := list2 hvs
  obtain ⟨xs, k, hk, hxy, _, hxl, hf⟩ := DataW.trod_struct Try.underlying24 h
  obtain ⟨y0, y1, rfl⟩ := list2 (show xs.length = 2 by rw [hxl]; rfl)
  have g0 := hf 0 _ rfl
  have g1 := hf 1 _ rfl
  simp [ci, cl] at g0 g1
  obtain ⟨w0, hw0, _⟩ := DataW.trod_int Try.underlying3 g0
  obtain ⟨a0, n0, c0, hw1⟩ := slice_form Try.underlying22 g1
  simp at hw0 hw1
  subst hw0 hw1
  obtain ⟨hl0, T, hR0, hX⟩ := open_rowLL g1
  exact ⟨w0, a0, n0, c0, T, rfl, hl0, hX, hR0⟩
end Go.Proofs.Ytelehmkmdbhcfaa
