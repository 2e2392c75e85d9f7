/- Lists of commands that came in, opened. -/
import Derived.Test.YtddebnokdcajbaaCmdA15
import Derived.Test.YtddebnokdcajbaaOpenString
import Derived.Test.YtddebnokdcajbaaOpenKit
import Derived.Lib.SmallJoins
namespace Go.Proofs.Ytddebnokdcajbaa
open Go.ChangeShapes Go.WideShapes Go.ChangeAt Go.RowKit Go.Deep Go.Joins

theorem list3c {α : Type} {l : List α} (h : l.length = 3) : ∃ a b c, l = [a, b, c] := by
  match l, h with
  | [a, b, c], _ => exact ⟨a, b, c, rfl⟩
theorem choose_cm {len : Nat} {p : Nat → Cm15 → Prop} (h : ∀ i, i < len → ∃ q, p i q) : ∃ f : Nat → Cm15, ∀ i, i < len → p i (f i) := by
  refine ⟨fun i => if hi : i < len then Classical.choose (h i hi) else cm0, fun i hi => ?_⟩
  simp only [dif_pos hi]
  exact Classical.choose_spec (h i hi)
set_option maxRecDepth 100000 in
theorem open_cmd {H : Type} {enc : TypeId × Value → H} {W : World} {base : Nat} {spare : Nat → Bool} {held : Bool} {fuel : Nat} {vs : List Value} {y : DataW H × List MemPlace} (hvs : vs.length = 3)
    (h : DataW.trod enc Try.prog W base spare held fuel 24 vs = some y) : ∃ (bs : Bool) (a : Option Addr) (n c : Nat) (f : Nat → ByteArray) (s : ByteArray), vs = [.bool bs, .slice a n c, .string s] ∧ n ≤ maxLen ∧ (∀ i, i < n → (f i).size ≤ maxLen) ∧ s.size ≤ maxLen ∧ RowStr a n f W := by
  have cb : Try.prog.cellsOf 4 = 1 := by kernel_rfl
  have cs : Try.prog.cellsOf 9 = 1 := by kernel_rfl
  have cl : Try.prog.cellsOf 22 = 1 := by kernel_rfl
  obtain ⟨vb, v0, v1, rfl⟩ := list3c hvs
  obtain ⟨xs, k, hk, hxy, _, hxl, hf⟩ := DataW.trod_struct Try.underlying24 h
  obtain ⟨yb, y0, y1, rfl⟩ := list3c (show xs.length = 3 by rw [hxl]; rfl)
  have gb := hf 0 _ rfl
  have g0 := hf 1 _ rfl
  have g1 := hf 2 _ rfl
  simp [cb, cs, cl] at gb g0 g1
  obtain ⟨bs, hwb, _⟩ := DataW.trod_bool Try.underlying4 gb
  obtain ⟨a0, n0, c0, hw0⟩ := slice_form Try.underlying22 g0
  obtain ⟨s, hw1, _, hs⟩ := DataW.trod_string Try.underlying9 g1
  simp at hwb hw0 hw1
  subst hwb hw0 hw1
  obtain ⟨hl0, f, hR0, hX⟩ := open_rowString g0
  exact ⟨bs, a0, n0, c0, f, s, rfl, hl0, hX, hs, hR0⟩
end Go.Proofs.Ytddebnokdcajbaa
