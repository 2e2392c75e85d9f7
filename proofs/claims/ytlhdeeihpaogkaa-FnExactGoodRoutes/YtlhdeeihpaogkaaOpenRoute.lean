/- A route that came in, opened. -/
import Derived.Test.YtlhdeeihpaogkaaOpenInt
import Derived.Test.YtlhdeeihpaogkaaOpenUpdate
namespace Go.Proofs.Ytlhdeeihpaogkaa
open Go.RowKit

set_option maxRecDepth 100000 in
theorem open_route {H : Type} {enc : TypeId × Value → H} {W : World} {base : Nat} {spare : Nat → Bool} {held : Bool} {fuel : Nat} {vs : List Value} {y : DataW H × List MemPlace} (hvs : vs.length = 8)
    (h : DataW.trod enc Try.prog W base spare held fuel 56 vs = some y) : ∃ pa pl o nx md pf a0 n0 c0 f a1 n1 c1 g,
      vs = [.int .i64 pa, .int .i64 pl, .int .i64 o, .slice a0 n0 c0, .int .i64 nx, .int .i64 md, .int .i64 pf, .slice a1 n1 c1] ∧ n0 ≤ maxLen ∧ RowInt a0 n0 f W ∧ n1 ≤ maxLen ∧ RowInt a1 n1 g W := by
  have cp : Try.prog.cellsOf 51 = 2 := by kernel_rfl
  have ca : Try.prog.cellsOf 54 = 6 := by kernel_rfl
  have ci : Try.prog.cellsOf 3 = 1 := by kernel_rfl
  obtain ⟨v0, v1, v2, v3, v4, v5, v6, v7, rfl⟩ := list8 hvs
  obtain ⟨xs, k, hk, hxy, _, hxl, hf⟩ := DataW.trod_struct Try.underlying56 h
  obtain ⟨y0, y1, rfl⟩ : ∃ y0 y1, xs = [y0, y1] := by
    have : xs.length = 2 := by rw [hxl]; rfl
    match xs, this with
    | [a, b], _ => exact ⟨a, b, rfl⟩
  have g0 := hf 0 _ rfl
  have g1 := hf 1 _ rfl
  simp [cp, ca] at g0 g1
  obtain ⟨zs, k', hk', hzy, _, hzl, hf'⟩ := DataW.trod_struct Try.underlying51 g0
  obtain ⟨z0, z1, rfl⟩ : ∃ y0 y1, zs = [y0, y1] := by
    have : zs.length = 2 := by rw [hzl]; rfl
    match zs, this with
    | [a, b], _ => exact ⟨a, b, rfl⟩
  have e0 := hf' 0 _ rfl
  have e1 := hf' 1 _ rfl
  simp [ci] at e0 e1
  obtain ⟨w0, hw0, _⟩ := DataW.trod_int Try.underlying3 e0
  obtain ⟨w1, hw1, _⟩ := DataW.trod_int Try.underlying3 e1
  simp at hw0 hw1
  subst hw0 hw1
  obtain ⟨o, nx, md, pf, a0, n0, c0, f, a1, n1, c1, g, hvs', l0, R0, l1, R1⟩ := open_attrs (vs := [v2, v3, v4, v5, v6, v7]) rfl g1
  simp at hvs'
  obtain ⟨rfl, rfl, rfl, rfl, rfl, rfl⟩ := hvs'
  exact ⟨w0, w1, o, nx, md, pf, a0, n0, c0, f, a1, n1, c1, g, rfl, l0, R0, l1, R1⟩
end Go.Proofs.Ytlhdeeihpaogkaa
