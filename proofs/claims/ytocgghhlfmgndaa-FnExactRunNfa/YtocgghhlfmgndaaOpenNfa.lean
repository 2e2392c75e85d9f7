/- A machine that came in, opened: its parts, and how its edges lie. -/
import Derived.Test.YtocgghhlfmgndaaOpenNfaEdge
import Derived.Lib.SmallJoins
namespace Go.Proofs.Ytocgghhlfmgndaa
open Go.ChangeShapes Go.WideShapes Go.ChangeAt Go.RowKit Go.Deep Go.Joins

theorem array4n {α : Type} {cs : Array α} (h : cs.size = 4) : ∃ c0 c1 c2 c3, cs = #[c0, c1, c2, c3] := by
  obtain ⟨l⟩ := cs
  match l, h with
  | [c0, c1, c2, c3], _ => exact ⟨c0, c1, c2, c3, rfl⟩
set_option maxRecDepth 100000 in
theorem open_nfa {H : Type} {enc : TypeId × Value → H} {W : World} {base : Nat} {spare : Nat → Bool} {held : Bool} {fuel : Nat} {vs : List Value} {y : DataW H × List MemPlace} (hvs : vs.length = 4)
    (h : DataW.trod enc Try.prog W base spare held fuel 73 vs = some y) : ∃ s st en ra rn rc f0 f1 f2 f3 f4, vs = [.int .i64 s, .int .i64 st, .int .i64 en, .slice ra rn rc] ∧ rn ≤ maxLen ∧ RowNfaEdge ra rn f0 f1 f2 f3 f4 W := by
  have ci : Try.prog.cellsOf 3 = 1 := by kernel_rfl
  have cl : Try.prog.cellsOf 71 = 1 := by kernel_rfl
  obtain ⟨v0, v1, v2, v3, rfl⟩ : ∃ v0 v1 v2 v3, vs = [v0, v1, v2, v3] := by
    match vs, hvs with
    | [v0, v1, v2, v3], _ => exact ⟨v0, v1, v2, v3, rfl⟩
  obtain ⟨xs, k, hk, hxy, _, hxl, hf⟩ := DataW.trod_struct Try.underlying73 h
  obtain ⟨y0, y1, y2, y3, rfl⟩ : ∃ y0 y1 y2 y3, xs = [y0, y1, y2, y3] := by
    match xs, (show xs.length = 4 by rw [hxl]; rfl) with
    | [y0, y1, y2, y3], _ => exact ⟨y0, y1, y2, y3, rfl⟩
  have g0 := hf 0 _ rfl
  have g1 := hf 1 _ rfl
  have g2 := hf 2 _ rfl
  have g3 := hf 3 _ rfl
  simp [ci, cl] at g0 g1 g2 g3
  obtain ⟨w0, hw0, _⟩ := DataW.trod_int Try.underlying3 g0
  obtain ⟨w1, hw1, _⟩ := DataW.trod_int Try.underlying3 g1
  obtain ⟨w2, hw2, _⟩ := DataW.trod_int Try.underlying3 g2
  obtain ⟨a0, n0, c0, hw3⟩ := slice_form Try.underlying71 g3
  simp at hw0 hw1 hw2 hw3
  subst hw0 hw1 hw2 hw3
  obtain ⟨hn, f0, f1, f2, f3, f4, hR⟩ := open_rowNfaEdge g3
  exact ⟨w0, w1, w2, a0, n0, c0, f0, f1, f2, f3, f4, rfl, hn, hR⟩
end Go.Proofs.Ytocgghhlfmgndaa
