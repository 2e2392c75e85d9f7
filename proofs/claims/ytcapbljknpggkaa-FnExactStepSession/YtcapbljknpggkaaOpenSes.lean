/- A session and an event that came in, opened. -/
import Derived.Test.YtcapbljknpggkaaOpenKit
import Derived.Lib.SmallJoins
namespace Go.Proofs.Ytcapbljknpggkaa
open Go.ChangeShapes Go.WideShapes Go.ChangeAt Go.RowKit Go.Deep Go.Joins

theorem array5s {α : Type} {cs : Array α} (h : cs.size = 5) : ∃ c0 c1 c2 c3 c4, cs = #[c0, c1, c2, c3, c4] := by
  obtain ⟨l⟩ := cs
  match l, h with
  | [c0, c1, c2, c3, c4], _ => exact ⟨c0, c1, c2, c3, c4, rfl⟩
set_option maxRecDepth 100000 in
theorem open_session {H : Type} {enc : TypeId × Value → H} {W : World} {base : Nat} {spare : Nat → Bool} {held : Bool} {fuel : Nat} {vs : List Value} {y : DataW H × List MemPlace} (hvs : vs.length = 5)
    (h : DataW.trod enc Try.prog W base spare held fuel 28 vs = some y) : ∃ s0 s1 s2 s3 s4, vs = [.int .i64 s0, .int .i64 s1, .int .i64 s2, .int .i64 s3, .int .i64 s4] := by
  have ci : Try.prog.cellsOf 3 = 1 := by kernel_rfl
  obtain ⟨v0, v1, v2, v3, v4, rfl⟩ : ∃ v0 v1 v2 v3 v4, vs = [v0, v1, v2, v3, v4] := by
    match vs, hvs with
    | [v0, v1, v2, v3, v4], _ => exact ⟨v0, v1, v2, v3, v4, rfl⟩
  obtain ⟨xs, k, hk, hxy, _, hxl, hf⟩ := DataW.trod_struct Try.underlying28 h
  obtain ⟨y0, y1, y2, y3, y4, rfl⟩ : ∃ y0 y1 y2 y3 y4, xs = [y0, y1, y2, y3, y4] := by
    match xs, (show xs.length = 5 by rw [hxl]; rfl) with
    | [y0, y1, y2, y3, y4], _ => exact ⟨y0, y1, y2, y3, y4, rfl⟩
  have g0 := hf 0 _ rfl
  have g1 := hf 1 _ rfl
  have g2 := hf 2 _ rfl
  have g3 := hf 3 _ rfl
  have g4 := hf 4 _ rfl
  simp [ci] at g0 g1 g2 g3 g4
  obtain ⟨w0, hw0, _⟩ := DataW.trod_int Try.underlying3 g0
  obtain ⟨w1, hw1, _⟩ := DataW.trod_int Try.underlying3 g1
  obtain ⟨w2, hw2, _⟩ := DataW.trod_int Try.underlying3 g2
  obtain ⟨w3, hw3, _⟩ := DataW.trod_int Try.underlying3 g3
  obtain ⟨w4, hw4, _⟩ := DataW.trod_int Try.underlying3 g4
  simp at hw0 hw1 hw2 hw3 hw4
  subst hw0 hw1 hw2 hw3 hw4
  exact ⟨w0, w1, w2, w3, w4, rfl⟩
end Go.Proofs.Ytcapbljknpggkaa
