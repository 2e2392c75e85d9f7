/- A disk that came in, opened. -/
import Derived.Test.YtnpnhdaehddnmaaDoorLaw17b
import Derived.Test.YtnpnhdaehddnmaaDoorOpenWrite
import Derived.Test.YtnpnhdaehddnmaaDoorOpenString
import Derived.Test.YtnpnhdaehddnmaaDoorOpenKit
import Derived.Lib.SmallJoins
namespace Go.Proofs.YtnpnhdaehddnmaaDoor
open Go.ChangeShapes Go.WideShapes Go.ChangeAt Go.RowKit Go.Deep Go.Joins

theorem list2d {α : Type} {l : List α} (h : l.length = 2) : ∃ a b, l = [a, b] := by
  match l, h with
  | [a, b], _ => exact ⟨a, b, rfl⟩
theorem arr2d {α : Type} {cs : Array α} (h : cs.size = 2) : ∃ a b, cs = #[a, b] := by
  obtain ⟨l⟩ := cs
  obtain ⟨a, b, rfl⟩ := list2d (show l.length = 2 from h)
  exact ⟨a, b, rfl⟩
set_option maxRecDepth 100000 in
theorem open_disk {H : Type} {enc : TypeId × Value → H} {W : World} {base : Nat} {spare : Nat → Bool} {held : Bool} {fuel : Nat} {vs : List Value} {y : DataW H × List MemPlace} (hvs : vs.length = 2)
    (h : DataW.trod enc Tryd.prog W base spare held fuel 25 vs = some y) : ∃ (a b : Option Addr) (c e : Nat) (d : Dk), vs = [.slice a d.n c, .slice b d.m e] ∧ d.n ≤ maxLen ∧ d.m ≤ maxLen ∧ (∀ i, i < d.n → (d.f i).size ≤ maxLen) ∧ (∀ i, i < d.m → (d.D i).size ≤ maxLen) ∧ RowD a b d W := by
  have cl : Tryd.prog.cellsOf 22 = 1 := by kernel_rfl
  have cw : Tryd.prog.cellsOf 23 = 1 := by kernel_rfl
  obtain ⟨v0, v1, rfl⟩ := list2d hvs
  obtain ⟨xs, k, hk, hxy, _, hxl, hf⟩ := DataW.trod_struct Tryd.underlying25 h
  obtain ⟨y0, y1, rfl⟩ := list2d (show xs.length = 2 by rw [hxl]; rfl)
  have g0 := hf 0 _ rfl
  have g1 := hf 1 _ rfl
  simp [cl, cw] at g0 g1
  obtain ⟨a0, n0, c0, hw0⟩ := slice_form Tryd.underlying22 g0
  obtain ⟨a1, n1, c1, hw1⟩ := slice_form Tryd.underlying23 g1
  simp at hw0 hw1
  subst hw0 hw1
  obtain ⟨hl0, f, hR0, hX⟩ := open_rowString g0
  obtain ⟨hl1, A, D, hR1, hY⟩ := open_rowWrite g1
  exact ⟨a0, a1, c0, c1, ⟨n0, f, n1, A, D⟩, rfl, hl0, hl1, hX, hY, hR0, hR1⟩
end Go.Proofs.YtnpnhdaehddnmaaDoor
