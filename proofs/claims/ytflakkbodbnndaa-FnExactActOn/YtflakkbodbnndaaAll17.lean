/- A list of whole numbers that came in, opened: its cells; and attrs that came in. -/
import Derived.Test.YtflakkbodbnndaaW7x
import Derived.Test.YtflakkbodbnndaaAll1
import Derived.ProofKit
import Derived.Deep.Slices
import Derived.Test.YtflakkbodbnndaaAll2
import Derived.Lib.SmallJoins
/- The law on ActOn, its route told in parts. -/
namespace Go.Proofs.Ytflakkbodbnndaa
open Go.RowKit

theorem w_actOnW (k n : Int) (pa pl o nx md pf : Int) (a0 : Option Addr) (n0 c0 : Nat) (f : Nat → Int) (a1 : Option Addr) (n1 c1 : Nat) (g : Nat → Int) (w : World) (h0 : n0 ≤ maxLen) (R0 : RowInt a0 n0 f w) (h1 : n1 ≤ maxLen) (R1 : RowInt a1 n1 g w) :
    Calls Try.prog 3 #[.agg #[.int .i64 k, .int .i64 n], .agg #[.int .i64 pa, .int .i64 pl, .int .i64 o, .slice a0 n0 c0, .int .i64 nx, .int .i64 md, .int .i64 pf, .slice a1 n1 c1]] w fun e w' => e = .returned (.bool true) ∧ Below w.heap.size w w' :=
  w_actOn k n ⟨pa, pl, o, nx, md, pf, n0, f, n1, g⟩ a0 c0 a1 c1 w h0 R0 h1 R1
end Go.Proofs.Ytflakkbodbnndaa

/- Small means for what came in: lists of a known length, addresses. -/
namespace Go.Proofs.Ytflakkbodbnndaa

theorem list2 {α : Type} {l : List α} (h : l.length = 2) : ∃ a b, l = [a, b] := by
  match l, h with
  | [a, b], _ => exact ⟨a, b, rfl⟩
theorem list3 {α : Type} {l : List α} (h : l.length = 3) : ∃ a b c, l = [a, b, c] := by
  match l, h with
  | [a, b, c], _ => exact ⟨a, b, c, rfl⟩
theorem list4 {α : Type} {l : List α} (h : l.length = 4) : ∃ a b c d, l = [a, b, c, d] := by
  match l, h with
  | [a, b, c, d], _ => exact ⟨a, b, c, d, rfl⟩
theorem addr_plain {W : World} {x : Addr} {v : Value} (h : W.cell? x = some v) : ∃ b off, x = ⟨b, off, none⟩ := by
  obtain ⟨b, off, spot⟩ := x
  have hspot : spot = none := by simpa using World.cell?_spot h
  subst hspot
  exact ⟨b, off, rfl⟩
end Go.Proofs.Ytflakkbodbnndaa

namespace Go.Proofs.Ytflakkbodbnndaa
open Go.ChangeShapes Go.WideShapes Go.ChangeAt Go.RowKit Go.Deep Go.Joins

theorem choose_ltI {len : Nat} {p : Nat → Int → Prop} (h : ∀ i, i < len → ∃ q, p i q) : ∃ f : Nat → Int, ∀ i, i < len → p i (f i) := by
  refine ⟨fun i => if hi : i < len then Classical.choose (h i hi) else 0, fun i hi => ?_⟩
  simp only [dif_pos hi]
  exact Classical.choose_spec (h i hi)
theorem array6 {α : Type} {cs : Array α} (h : cs.size = 6) : ∃ c0 c1 c2 c3 c4 c5, cs = #[c0, c1, c2, c3, c4, c5] := by
  obtain ⟨l⟩ := cs
  match l, h with
  | [c0, c1, c2, c3, c4, c5], _ => exact ⟨c0, c1, c2, c3, c4, c5, rfl⟩
theorem list6 {α : Type} {l : List α} (h : l.length = 6) : ∃ a b c d e f, l = [a, b, c, d, e, f] := by
  match l, h with
  | [a, b, c, d, e, f], _ => exact ⟨a, b, c, d, e, f, rfl⟩

set_option maxRecDepth 100000 in
theorem open_rowInt {H : Type} {enc : TypeId × Value → H} {W : World} {base : Nat} {spare : Nat → Bool} {held : Bool} {fuel : Nat} {a : Option Addr} {len cap : Nat} {y : DataW H × List MemPlace}
    (h : DataW.trod enc Try.prog W base spare held fuel 26 [.slice a len cap] = some y) : len ≤ maxLen ∧ ∃ f, RowInt a len f W := by
  rcases open_slice Try.underlying26 h with ⟨hcs, _⟩ | ⟨x, l, c, m, n, D, Pl, hcs, _, hl, hm, hmm, _, hel⟩
  · simp at hcs
    obtain ⟨rfl, rfl, rfl⟩ := hcs
    exact ⟨Nat.zero_le _, fun _ => 0, fun i hi => absurd hi (Nat.not_lt_zero _)⟩
  · simp at hcs
    obtain ⟨rfl, rfl, rfl⟩ := hcs
    have hlm : len ≤ m := by rw [hmm]; split <;> omega
    have ci : Try.prog.cellsOf 3 = 1 := by kernel_rfl
    have each : ∀ i, i < len → ∃ q : Int, ∃ b off, x = ⟨b, off, none⟩ ∧ b < W.heap.size ∧ W.cell? ⟨b, off + i, none⟩ = some (.int .i64 q) := by
      intro i hi
      have hx : ∃ b off, x = ⟨b, off, none⟩ := by
        obtain ⟨cs0, h1, _⟩ := hel 0 (by omega)
        rw [ci] at h1
        obtain ⟨_, hlen, hcell⟩ := World.cells?_some h1
        have := hcell 0 (by omega)
        rw [List.getElem?_eq_getElem (by omega)] at this
        exact addr_plain (by simpa [Addr.add] using this)
      obtain ⟨b, off, rfl⟩ := hx
      obtain ⟨cs', h1, h2⟩ := hel i (by omega)
      rw [ci] at h1
      obtain ⟨_, hlen, hcell⟩ := World.cells?_some h1
      obtain ⟨v0, rfl⟩ := List.length_eq_one_iff.1 hlen
      obtain ⟨w0, hw0, _⟩ := DataW.trod_int Try.underlying3 h2
      simp at hw0
      subst hw0
      have c0 := hcell 0 (by omega)
      rw [add_add, Addr.add_mid] at c0
      have hb := World.block_lt_of_cell? W _ c0
      exact ⟨w0, b, off, rfl, hb, by simpa using c0⟩
    obtain ⟨q, hq⟩ := choose_ltI each
    refine ⟨Nat.le_trans hl hm, q, fun i hi => ?_⟩
    obtain ⟨b, off, hx, h⟩ := hq i hi
    exact ⟨b, off, by rw [hx], h⟩

/-- Attrs that came in: their value, and how their lists lie. -/
def AttrsIn (v : Value) (o nx md pf : Int) (a0 : Option Addr) (n0 c0 : Nat) (f : Nat → Int) (a1 : Option Addr) (n1 c1 : Nat) (g : Nat → Int) (w : World) : Prop :=
  v = .agg #[.int .i64 o, .slice a0 n0 c0, .int .i64 nx, .int .i64 md, .int .i64 pf, .slice a1 n1 c1] ∧ n0 ≤ maxLen ∧ RowInt a0 n0 f w ∧ n1 ≤ maxLen ∧ RowInt a1 n1 g w
set_option maxRecDepth 100000 in
theorem open_attrs {H : Type} {enc : TypeId × Value → H} {W : World} {base : Nat} {spare : Nat → Bool} {held : Bool} {fuel : Nat} {vs : List Value} {y : DataW H × List MemPlace} (hvs : vs.length = 6)
    (h : DataW.trod enc Try.prog W base spare held fuel 28 vs = some y) : ∃ o nx md pf a0 n0 c0 f a1 n1 c1 g, vs = [.int .i64 o, .slice a0 n0 c0, .int .i64 nx, .int .i64 md, .int .i64 pf, .slice a1 n1 c1] ∧ n0 ≤ maxLen ∧ RowInt a0 n0 f W ∧ n1 ≤ maxLen ∧ RowInt a1 n1 g W := by
  have ci : Try.prog.cellsOf 3 = 1 := by kernel_rfl
  have cl : Try.prog.cellsOf 26 = 1 := by kernel_rfl
  obtain ⟨v0, v1, v2, v3, v4, v5, rfl⟩ := list6 hvs
  obtain ⟨xs, k, hk, hxy, _, hxl, hf⟩ := DataW.trod_struct Try.underlying28 h
  obtain ⟨y0, y1, y2, y3, y4, y5, rfl⟩ := list6 (show xs.length = 6 by rw [hxl]; rfl)
  have g0 := hf 0 _ rfl
  have g1 := hf 1 _ rfl
  have g2 := hf 2 _ rfl
  have g3 := hf 3 _ rfl
  have g4 := hf 4 _ rfl
  have g5 := hf 5 _ rfl
  simp [ci, cl] at g0 g1 g2 g3 g4 g5
  obtain ⟨w0, hw0, _⟩ := DataW.trod_int Try.underlying3 g0
  obtain ⟨a0, n0, c0, hw1⟩ := slice_form Try.underlying26 g1
  obtain ⟨w2, hw2, _⟩ := DataW.trod_int Try.underlying3 g2
  obtain ⟨w3, hw3, _⟩ := DataW.trod_int Try.underlying3 g3
  obtain ⟨w4, hw4, _⟩ := DataW.trod_int Try.underlying3 g4
  obtain ⟨a1, n1, c1, hw5⟩ := slice_form Try.underlying26 g5
  simp at hw0 hw1 hw2 hw3 hw4 hw5
  subst hw0 hw1 hw2 hw3 hw4 hw5
  obtain ⟨hl0, f, hR0⟩ := open_rowInt g1
  obtain ⟨hl1, g, hR1⟩ := open_rowInt g5
  exact ⟨w0, w2, w3, w4, a0, n0, c0, f, a1, n1, c1, g, rfl, hl0, hR0, hl1, hR1⟩
end Go.Proofs.Ytflakkbodbnndaa
