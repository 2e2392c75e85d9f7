/- A reader that came in, opened: its parts, and how its list lies. -/
import Derived.Test.YtoeephmdklmpfaaOpenMsg
import Derived.Lib.SmallJoins
namespace Go.Proofs.Ytoeephmdklmpfaa
open Go.ChangeShapes Go.WideShapes Go.ChangeAt Go.RowKit Go.Deep Go.Joins

theorem array3 {α : Type} {cs : Array α} (h : cs.size = 3) : ∃ c0 c1 c2, cs = #[c0, c1, c2] := by
  obtain ⟨l⟩ := cs
  match l, h with
  | [c0, c1, c2], _ => exact ⟨c0, c1, c2, rfl⟩
set_option maxRecDepth 100000 in
theorem open_reader {H : Type} {enc : TypeId × Value → H} {W : World} {base : Nat} {spare : Nat → Bool} {held : Bool} {fuel : Nat} {vs : List Value} {y : DataW H × List MemPlace} (hvs : vs.length = 3)
    (h : DataW.trod enc Try.prog W base spare held fuel 55 vs = some y) : ∃ X ra rn rc rf rg B, vs = [.string X, .slice ra rn rc, .int .i64 B] ∧ X.size ≤ maxLen ∧ rn ≤ maxLen ∧ RowMsg ra rn rf rg W ∧ ∀ i, i < rn → (rg i).size ≤ maxLen := by
  have ci : Try.prog.cellsOf 3 = 1 := by kernel_rfl
  have cs : Try.prog.cellsOf 9 = 1 := by kernel_rfl
  have cl : Try.prog.cellsOf 53 = 1 := by kernel_rfl
  obtain ⟨v0, v1, v2, rfl⟩ := list3 hvs
  obtain ⟨xs, k, hk, hxy, _, hxl, hf⟩ := DataW.trod_struct Try.underlying55 h
  obtain ⟨y0, y1, y2, rfl⟩ := list3 (show xs.length = 3 by rw [hxl]; rfl)
  have g0 := hf 0 _ rfl
  have g1 := hf 1 _ rfl
  have g2 := hf 2 _ rfl
  simp [ci, cl, cs] at g0 g1 g2
  obtain ⟨w0, hw0, _, hX⟩ := DataW.trod_string Try.underlying9 g0
  obtain ⟨a0, n0, c0, hw1⟩ := slice_form Try.underlying53 g1
  obtain ⟨w2, hw2, _⟩ := DataW.trod_int Try.underlying3 g2
  simp at hw0 hw1 hw2
  subst hw0 hw1 hw2
  obtain ⟨hn, rf, rg, hR, hb⟩ := open_rowMsg g1
  exact ⟨w0, a0, n0, c0, rf, rg, w2, rfl, hX, hn, hR, hb⟩
end Go.Proofs.Ytoeephmdklmpfaa
