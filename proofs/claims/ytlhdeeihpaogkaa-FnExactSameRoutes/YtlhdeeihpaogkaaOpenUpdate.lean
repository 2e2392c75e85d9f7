/- An update that came in, opened. -/
import Derived.Test.YtlhdeeihpaogkaaOpenInt
import Derived.Test.YtlhdeeihpaogkaaOpenPrefix
namespace Go.Proofs.Ytlhdeeihpaogkaa
open Go.ChangeShapes Go.WideShapes Go.ChangeAt Go.RowKit Go.Deep Go.Joins

theorem list8 {α : Type} {l : List α} (h : l.length = 8) : ∃ a b c d e f g i, l = [a, b, c, d, e, f, g, i] := by
  match l, h with
  | [a, b, c, d, e, f, g, i], _ => exact ⟨a, b, c, d, e, f, g, i, rfl⟩
theorem array8 {α : Type} {cs : Array α} (h : cs.size = 8) : ∃ a b c d e f g i, cs = #[a, b, c, d, e, f, g, i] := by
  obtain ⟨l⟩ := cs
  obtain ⟨a, b, c, d, e, f, g, i, rfl⟩ := list8 h
  exact ⟨a, b, c, d, e, f, g, i, rfl⟩
set_option maxRecDepth 100000 in
theorem open_update {H : Type} {enc : TypeId × Value → H} {W : World} {base : Nat} {spare : Nat → Bool} {held : Bool} {fuel : Nat} {vs : List Value} {y : DataW H × List MemPlace} (hvs : vs.length = 8)
    (h : DataW.trod enc Try.prog W base spare held fuel 76 vs = some y) : ∃ ga gn gc f0 f1 o nx md pf a0 n0 c0 f a1 n1 c1 g ca cn cc h0 h1,
      vs = [.slice ga gn gc, .int .i64 o, .slice a0 n0 c0, .int .i64 nx, .int .i64 md, .int .i64 pf, .slice a1 n1 c1, .slice ca cn cc] ∧ gn ≤ maxLen ∧ RowPrefix ga gn f0 f1 W ∧ n0 ≤ maxLen ∧ RowInt a0 n0 f W ∧ n1 ≤ maxLen ∧ RowInt a1 n1 g W ∧ cn ≤ maxLen ∧ RowPrefix ca cn h0 h1 W := by
  have cp : Try.prog.cellsOf 74 = 1 := by kernel_rfl
  have ca : Try.prog.cellsOf 54 = 6 := by kernel_rfl
  obtain ⟨v0, v1, v2, v3, v4, v5, v6, v7, rfl⟩ := list8 hvs
  obtain ⟨xs, k, hk, hxy, _, hxl, hf⟩ := DataW.trod_struct Try.underlying76 h
  obtain ⟨y0, y1, y2, rfl⟩ := list3 (show xs.length = 3 by rw [hxl]; rfl)
  have g0 := hf 0 _ rfl
  have g1 := hf 1 _ rfl
  have g2 := hf 2 _ rfl
  simp [cp, ca] at g0 g1 g2
  obtain ⟨ga, gn, gc, hw0⟩ := slice_form Try.underlying74 g0
  obtain ⟨cca, ccn, ccc, hw2⟩ := slice_form Try.underlying74 g2
  simp at hw0 hw2
  subst hw0 hw2
  obtain ⟨lg, f0, f1, RG⟩ := open_rowPrefix g0
  obtain ⟨lc, h0, h1, RC⟩ := open_rowPrefix g2
  obtain ⟨o, nx, md, pf, a0, n0, c0, f, a1, n1, c1, g, hvs', l0, R0, l1, R1⟩ := open_attrs (vs := [v1, v2, v3, v4, v5, v6]) rfl g1
  simp at hvs'
  obtain ⟨rfl, rfl, rfl, rfl, rfl, rfl⟩ := hvs'
  exact ⟨ga, gn, gc, f0, f1, o, nx, md, pf, a0, n0, c0, f, a1, n1, c1, g, cca, ccn, ccc, h0, h1, rfl, lg, RG, l0, R0, l1, R1, lc, RC⟩
end Go.Proofs.Ytlhdeeihpaogkaa
