/- Offers and lists of offers that came in, opened. -/
import Derived.Test.YtjjdfniemlcnnaaAll1
import Derived.ProofKit
import Derived.Deep.Slices
import Derived.Test.YtjjdfniemlcnnaaAll2
import Derived.Lib.SmallJoins
import Derived.Test.YtjjdfniemlcnnaaOff8
/- Small means for what came in: lists of a known length, addresses. -/
namespace Go.Proofs.Ytjjdfniemlcnnaa

theorem list2 {α : Type} {l : List α} (h : l.length = 2) : ∃ a b, l = [a, b] := by
  match l, h with
  | [a, b], _ => exact ⟨a, b, rfl⟩
theorem list3 {α : Type} {l : List α} (h : l.length = 3) : ∃ a b c, l = [a, b, c] := by
  match l, h with
  | [a, b, c], _ => exact ⟨a, b, c, rfl⟩
theorem list4 {α : Type} {l : List α} (h : l.length = 4) : ∃ a b c d, l = [a, b, c, d] := by
  match l, h with
  | [a, b, c, d], _ => exact ⟨a, b, c, d, rfl⟩
theorem addr_plain {W : World} {x : Addr} {v : Value} (h : W.cell? x = some v) : ∃ b off, x = ⟨b, off, none⟩ := by
  obtain ⟨b, off, spot⟩ := x
  have hspot : spot = none := by simpa using World.cell?_spot h
  subst hspot
  exact ⟨b, off, rfl⟩
end Go.Proofs.Ytjjdfniemlcnnaa

/- A list of whole numbers that came in, opened: its cells; and attrs that came in. -/
namespace Go.Proofs.Ytjjdfniemlcnnaa
open Go.ChangeShapes Go.WideShapes Go.ChangeAt Go.RowKit Go.Deep Go.Joins

theorem choose_ltI {len : Nat} {p : Nat → Int → Prop} (h : ∀ i, i < len → ∃ q, p i q) : ∃ f : Nat → Int, ∀ i, i < len → p i (f i) := by
  refine ⟨fun i => if hi : i < len then Classical.choose (h i hi) else 0, fun i hi => ?_⟩
  simp only [dif_pos hi]
  exact Classical.choose_spec (h i hi)
theorem array6 {α : Type} {cs : Array α} (h : cs.size = 6) : ∃ c0 c1 c2 c3 c4 c5, cs = #[c0, c1, c2, c3, c4, c5] := by
  obtain ⟨l⟩ := cs
  match l, h with
  | [c0, c1, c2, c3, c4, c5], _ => exact ⟨c0, c1, c2, c3, c4, c5, rfl⟩
theorem list6 {α : Type} {l : List α} (h : l.length = 6) : ∃ a b c d e f, l = [a, b, c, d, e, f] := by
  match l, h with
  | [a, b, c, d, e, f], _ => exact ⟨a, b, c, d, e, f, rfl⟩

set_option maxRecDepth 100000 in
theorem open_rowInt {H : Type} {enc : TypeId × Value → H} {W : World} {base : Nat} {spare : Nat → Bool} {held : Bool} {fuel : Nat} {a : Option Addr} {len cap : Nat} {y : DataW H × List MemPlace}
    (h : DataW.trod enc Try.prog W base spare held fuel 45 [.slice a len cap] = some y) : len ≤ maxLen ∧ ∃ f, RowInt a len f W := by
  rcases open_slice Try.underlying45 h with ⟨hcs, _⟩ | ⟨x, l, c, m, n, D, Pl, hcs, _, hl, hm, hmm, _, hel⟩
  · simp at hcs
    obtain ⟨rfl, rfl, rfl⟩ := hcs
    exact ⟨Nat.zero_le _, fun _ => 0, fun i hi => absurd hi (Nat.not_lt_zero _)⟩
  · simp at hcs
    obtain ⟨rfl, rfl, rfl⟩ := hcs
    have hlm : len ≤ m := by rw [hmm]; split <;> omega
    have ci : Try.prog.cellsOf 3 = 1 := by kernel_rfl
    have each : ∀ i, i < len → ∃ q : Int, ∃ b off, x = ⟨b, off, none⟩ ∧ b < W.heap.size ∧ W.cell? ⟨b, off + i, none⟩ = some (.int .i64 q) := by
      intro i hi
      have hx : ∃ b off, x = ⟨b, off, none⟩ := by
        obtain ⟨cs0, h1, _⟩ := hel 0 (by omega)
        rw [ci] at h1
        obtain ⟨_, hlen, hcell⟩ := World.cells?_some h1
        have := hcell 0 (by omega)
        rw [List.getElem?_eq_getElem (by omega)] at this
        exact addr_plain (by simpa [Addr.add] using this)
      obtain ⟨b, off, rfl⟩ := hx
      obtain ⟨cs', h1, h2⟩ := hel i (by omega)
      rw [ci] at h1
      obtain ⟨_, hlen, hcell⟩ := World.cells?_some h1
      obtain ⟨v0, rfl⟩ := List.length_eq_one_iff.1 hlen
      obtain ⟨w0, hw0, _⟩ := DataW.trod_int Try.underlying3 h2
      simp at hw0
      subst hw0
      have c0 := hcell 0 (by omega)
      rw [add_add, Addr.add_mid] at c0
      have hb := World.block_lt_of_cell? W _ c0
      exact ⟨w0, b, off, rfl, hb, by simpa using c0⟩
    obtain ⟨q, hq⟩ := choose_ltI each
    refine ⟨Nat.le_trans hl hm, q, fun i hi => ?_⟩
    obtain ⟨b, off, hx, h⟩ := hq i hi
    exact ⟨b, off, by rw [hx], h⟩

/-- Attrs that came in: their value, and how their lists lie. -/
def AttrsIn (v : Value) (o nx md pf : Int) (a0 : Option Addr) (n0 c0 : Nat) (f : Nat → Int) (a1 : Option Addr) (n1 c1 : Nat) (g : Nat → Int) (w : World) : Prop :=
  v = .agg #[.int .i64 o, .slice a0 n0 c0, .int .i64 nx, .int .i64 md, .int .i64 pf, .slice a1 n1 c1] ∧ n0 ≤ maxLen ∧ RowInt a0 n0 f w ∧ n1 ≤ maxLen ∧ RowInt a1 n1 g w
set_option maxRecDepth 100000 in
theorem open_attrs {H : Type} {enc : TypeId × Value → H} {W : World} {base : Nat} {spare : Nat → Bool} {held : Bool} {fuel : Nat} {vs : List Value} {y : DataW H × List MemPlace} (hvs : vs.length = 6)
    (h : DataW.trod enc Try.prog W base spare held fuel 113 vs = some y) : ∃ o nx md pf a0 n0 c0 f a1 n1 c1 g, vs = [.int .i64 o, .slice a0 n0 c0, .int .i64 nx, .int .i64 md, .int .i64 pf, .slice a1 n1 c1] ∧ n0 ≤ maxLen ∧ RowInt a0 n0 f W ∧ n1 ≤ maxLen ∧ RowInt a1 n1 g W := by
  have ci : Try.prog.cellsOf 3 = 1 := by kernel_rfl
  have cl : Try.prog.cellsOf 45 = 1 := by kernel_rfl
  obtain ⟨v0, v1, v2, v3, v4, v5, rfl⟩ := list6 hvs
  obtain ⟨xs, k, hk, hxy, _, hxl, hf⟩ := DataW.trod_struct Try.underlying113 h
  obtain ⟨y0, y1, y2, y3, y4, y5, rfl⟩ := list6 (show xs.length = 6 by rw [hxl]; rfl)
  have g0 := hf 0 _ rfl
  have g1 := hf 1 _ rfl
  have g2 := hf 2 _ rfl
  have g3 := hf 3 _ rfl
  have g4 := hf 4 _ rfl
  have g5 := hf 5 _ rfl
  simp [ci, cl] at g0 g1 g2 g3 g4 g5
  obtain ⟨w0, hw0, _⟩ := DataW.trod_int Try.underlying3 g0
  obtain ⟨a0, n0, c0, hw1⟩ := slice_form Try.underlying45 g1
  obtain ⟨w2, hw2, _⟩ := DataW.trod_int Try.underlying3 g2
  obtain ⟨w3, hw3, _⟩ := DataW.trod_int Try.underlying3 g3
  obtain ⟨w4, hw4, _⟩ := DataW.trod_int Try.underlying3 g4
  obtain ⟨a1, n1, c1, hw5⟩ := slice_form Try.underlying45 g5
  simp at hw0 hw1 hw2 hw3 hw4 hw5
  subst hw0 hw1 hw2 hw3 hw4 hw5
  obtain ⟨hl0, f, hR0⟩ := open_rowInt g1
  obtain ⟨hl1, g, hR1⟩ := open_rowInt g5
  exact ⟨w0, w2, w3, w4, a0, n0, c0, f, a1, n1, c1, g, rfl, hl0, hR0, hl1, hR1⟩
end Go.Proofs.Ytjjdfniemlcnnaa

/- Rows of Prefix in memory, and what the laws do with them: handed over, compared. -/
namespace Go.Proofs.Ytjjdfniemlcnnaa
open Go.RowKit

/-- n of them at a, told by f0 f1. -/
def RowPrefix (a : Option Addr) (n : Nat) (f0 : Nat → Int) (f1 : Nat → Int) (w : World) : Prop := ∀ i, i < n → ∃ b off, a = some ⟨b, off, none⟩ ∧ b < w.heap.size ∧
  w.cell? ⟨b, off + i * 2, none⟩ = some (.int .i64 (f0 i)) ∧ w.cell? ⟨b, off + i * 2 + 1, none⟩ = some (.int .i64 (f1 i))
theorem RowPrefix.below {a : Option Addr} {n : Nat} {f0 : Nat → Int} {f1 : Nat → Int} {w w' : World} (h : RowPrefix a n f0 f1 w) (k : Below w.heap.size w w') : RowPrefix a n f0 f1 w' := by
  intro i hi
  obtain ⟨b, off, ha, hb, h0, h1⟩ := h i hi
  obtain ⟨hc, _⟩ := bcell k
  exact ⟨b, off, ha, Nat.lt_of_lt_of_le hb k.size, (hc _ _ hb).trans h0, (hc _ _ hb).trans h1⟩

/-- A row of n of them in block c, the first k told; it may be written. -/
def OutPrefix (c n k : Nat) (f0 : Nat → Int) (f1 : Nat → Int) (w : World) : Prop := c < w.heap.size ∧ ∀ i, i < n →
  (∃ (x0 : Int) (x1 : Int), w.cell? ⟨c, i * 2, none⟩ = some (.int .i64 x0) ∧ w.cell? ⟨c, i * 2 + 1, none⟩ = some (.int .i64 x1) ∧ (i < k → x0 = f0 i ∧ x1 = f1 i)) ∧
  w.frozen? ⟨c, i * 2, none⟩ = false ∧ w.frozen? ⟨c, i * 2 + 1, none⟩ = false
theorem OutPrefix.below {c n k : Nat} {f0 : Nat → Int} {f1 : Nat → Int} {w w' : World} (h : OutPrefix c n k f0 f1 w) (hb : Below w.heap.size w w') : OutPrefix c n k f0 f1 w' := by
  obtain ⟨hc, hf⟩ := bcell hb
  refine ⟨Nat.lt_of_lt_of_le h.1 hb.size, fun i hi => ?_⟩
  obtain ⟨⟨x0, x1, h0, h1, hk⟩, g0, g1⟩ := h.2 i hi
  exact ⟨⟨x0, x1, (hc _ _ h.1).trans h0, (hc _ _ h.1).trans h1, hk⟩, (hf _ _ h.1).trans g0, (hf _ _ h.1).trans g1⟩
theorem OutPrefix.row {c n : Nat} {f0 : Nat → Int} {f1 : Nat → Int} {w : World} (h : OutPrefix c n n f0 f1 w) : RowPrefix (some ⟨c, 0, none⟩) n f0 f1 w := by
  intro i hi
  obtain ⟨⟨x0, x1, h0, h1, hk⟩, g0, g1⟩ := h.2 i hi
  obtain ⟨rfl, rfl⟩ := hk hi
  exact ⟨c, 0, rfl, h.1, by rw [Nat.zero_add]; exact h0, by rw [Nat.zero_add]; exact h1⟩
theorem OutPrefix.set {c n k : Nat} {f0 : Nat → Int} {f1 : Nat → Int} {w : World} (h : OutPrefix c n k f0 f1 w) (hk : k < n) : OutPrefix c n (k + 1) f0 f1 ((w.setCell ⟨c, k * 2, none⟩ (.int .i64 (f0 k))).setCell ⟨c, k * 2 + 1, none⟩ (.int .i64 (f1 k))) := by
  refine ⟨by have := h.1; simpa using this, fun i hi => ?_⟩
  obtain ⟨⟨x0, x1, h0, h1, hx⟩, g0, g1⟩ := h.2 i hi
  by_cases e : i = k
  · subst e
    refine ⟨⟨f0 i, f1 i, ?_, ?_, fun _ => ⟨rfl, rfl⟩⟩, ?_, ?_⟩ <;> simp [go_sem, h0, h1, g0, g1]
  · refine ⟨⟨x0, x1, ?_, ?_, fun hlt => hx (by omega)⟩, ?_, ?_⟩
    · rw [World.cell?_setCell_other _ _ _ _ (by simp <;> omega), World.cell?_setCell_other _ _ _ _ (by simp <;> omega)]; exact h0
    · rw [World.cell?_setCell_other _ _ _ _ (by simp <;> omega), World.cell?_setCell_other _ _ _ _ (by simp <;> omega)]; exact h1
    · simpa [go_sem] using g0
    · simpa [go_sem] using g1

end Go.Proofs.Ytjjdfniemlcnnaa

/- A list of Prefix that came in, opened: its cells. -/
namespace Go.Proofs.Ytjjdfniemlcnnaa
open Go.ChangeShapes Go.WideShapes Go.ChangeAt Go.RowKit Go.Deep

end Go.Proofs.Ytjjdfniemlcnnaa

/- An update that came in, opened. -/
namespace Go.Proofs.Ytjjdfniemlcnnaa
open Go.ChangeShapes Go.WideShapes Go.ChangeAt Go.RowKit Go.Deep Go.Joins

theorem list8 {α : Type} {l : List α} (h : l.length = 8) : ∃ a b c d e f g i, l = [a, b, c, d, e, f, g, i] := by
  match l, h with
  | [a, b, c, d, e, f, g, i], _ => exact ⟨a, b, c, d, e, f, g, i, rfl⟩
theorem array8 {α : Type} {cs : Array α} (h : cs.size = 8) : ∃ a b c d e f g i, cs = #[a, b, c, d, e, f, g, i] := by
  obtain ⟨l⟩ := cs
  obtain ⟨a, b, c, d, e, f, g, i, rfl⟩ := list8 h
  exact ⟨a, b, c, d, e, f, g, i, rfl⟩
end Go.Proofs.Ytjjdfniemlcnnaa

namespace Go.Proofs.Ytjjdfniemlcnnaa
open Go.ChangeShapes Go.WideShapes Go.ChangeAt Go.RowKit Go.Deep Go.Joins

theorem choose_oc {len : Nat} {p : Nat → Oc → Prop} (h : ∀ i, i < len → ∃ q, p i q) : ∃ f : Nat → Oc, ∀ i, i < len → p i (f i) := by
  refine ⟨fun i => if hi : i < len then Classical.choose (h i hi) else oc0, fun i hi => ?_⟩
  simp only [dif_pos hi]
  exact Classical.choose_spec (h i hi)
theorem seven {α : Type} {l : List α} (h : l.length = 7) : ∃ a b c d e f g, l = [a, b, c, d, e, f, g] := by
  match l, h with
  | [a, b, c, d, e, f, g], _ => exact ⟨a, b, c, d, e, f, g, rfl⟩
theorem arr7 {α : Type} {cs : Array α} (h : cs.size = 7) : ∃ a b c d e f g, cs = #[a, b, c, d, e, f, g] := by
  obtain ⟨l⟩ := cs
  obtain ⟨a, b, c, d, e, f, g, rfl⟩ := seven h
  exact ⟨a, b, c, d, e, f, g, rfl⟩
theorem twoO {α : Type} {l : List α} (h : l.length = 2) : ∃ a b, l = [a, b] := by
  match l, h with
  | [a, b], _ => exact ⟨a, b, rfl⟩
set_option maxRecDepth 100000 in
theorem open_offer {H : Type} {enc : TypeId × Value → H} {W : World} {base : Nat} {spare : Nat → Bool} {held : Bool} {fuel : Nat} {vs : List Value} {y : DataW H × List MemPlace} (hvs : vs.length = 7)
    (h : DataW.trod enc Try.prog W base spare held fuel 115 vs = some y) : ∃ (a0 : Option Addr) (c0 : Nat) (a1 : Option Addr) (c1 : Nat) (t : Oc), vs = [.int .i64 t.pe, .int .i64 t.o, .slice a0 t.n0 c0, .int .i64 t.nx, .int .i64 t.md, .int .i64 t.pf, .slice a1 t.n1 c1] ∧ t.n0 ≤ maxLen ∧ t.n1 ≤ maxLen ∧ OfIn a0 a1 t W := by
  have ci : Try.prog.cellsOf 3 = 1 := by kernel_rfl
  have ca : Try.prog.cellsOf 113 = 6 := by kernel_rfl
  obtain ⟨v0, v1, v2, v3, v4, v5, v6, rfl⟩ := seven hvs
  obtain ⟨xs, k, hk, hxy, _, hxl, hf⟩ := DataW.trod_struct Try.underlying115 h
  obtain ⟨y0, y1, rfl⟩ := twoO (show xs.length = 2 by rw [hxl]; rfl)
  have g0 := hf 0 _ rfl
  have g1 := hf 1 _ rfl
  simp [ci, ca] at g0 g1
  obtain ⟨pe, hw0, _⟩ := DataW.trod_int Try.underlying3 g0
  simp at hw0
  subst hw0
  obtain ⟨o, nx, md, pf, a0, n0, c0, f, a1, n1, c1, g, hvs', l0, R0, l1, R1⟩ := open_attrs (vs := [v1, v2, v3, v4, v5, v6]) rfl g1
  simp at hvs'
  obtain ⟨rfl, rfl, rfl, rfl, rfl, rfl⟩ := hvs'
  exact ⟨a0, c0, a1, c1, ⟨pe, o, nx, md, pf, n0, f, n1, g⟩, rfl, l0, l1, R0, R1⟩
set_option maxRecDepth 100000 in
theorem open_offers {H : Type} {enc : TypeId × Value → H} {W : World} {base : Nat} {spare : Nat → Bool} {held : Bool} {fuel : Nat} {a : Option Addr} {len cap : Nat} {y : DataW H × List MemPlace}
    (h : DataW.trod enc Try.prog W base spare held fuel 87 [.slice a len cap] = some y) : len ≤ maxLen ∧ ∃ T, RowO a len T W ∧ MaxO len T := by
  rcases open_slice Try.underlying87 h with ⟨hcs, _⟩ | ⟨x, l, c, m, n, D, Pl, hcs, _, hl, hm, hmm, _, hel⟩
  · simp at hcs
    obtain ⟨rfl, rfl, rfl⟩ := hcs
    exact ⟨Nat.zero_le _, fun _ => oc0, fun i hi => absurd hi (Nat.not_lt_zero _), fun i hi => absurd hi (Nat.not_lt_zero _)⟩
  · simp at hcs
    obtain ⟨rfl, rfl, rfl⟩ := hcs
    have hlm : len ≤ m := by rw [hmm]; split <;> omega
    have hce : Try.prog.cellsOf 115 = 7 := by kernel_rfl
    have each : ∀ i, i < len → ∃ t : Oc, (∃ (b off : Nat) (a0 : Option Addr) (c0 : Nat) (a1 : Option Addr) (c1 : Nat), x = ⟨b, off, none⟩ ∧ b < W.heap.size ∧
        W.cell? ⟨b, off + i * 7, none⟩ = some (.int .i64 t.pe) ∧ W.cell? ⟨b, off + i * 7 + 1, none⟩ = some (.int .i64 t.o) ∧ W.cell? ⟨b, off + i * 7 + 2, none⟩ = some (.slice a0 t.n0 c0) ∧ W.cell? ⟨b, off + i * 7 + 3, none⟩ = some (.int .i64 t.nx) ∧ W.cell? ⟨b, off + i * 7 + 4, none⟩ = some (.int .i64 t.md) ∧ W.cell? ⟨b, off + i * 7 + 5, none⟩ = some (.int .i64 t.pf) ∧ W.cell? ⟨b, off + i * 7 + 6, none⟩ = some (.slice a1 t.n1 c1) ∧ OfIn a0 a1 t W) ∧ t.n0 ≤ maxLen ∧ t.n1 ≤ maxLen := by
      intro i hi
      have hx : ∃ b off, x = ⟨b, off, none⟩ := by
        obtain ⟨cs0, h1, _⟩ := hel 0 (by omega)
        rw [hce] at h1
        obtain ⟨_, hlen, hcell⟩ := World.cells?_some h1
        have := hcell 0 (by omega)
        rw [List.getElem?_eq_getElem (by omega)] at this
        exact addr_plain (by simpa [Addr.add] using this)
      obtain ⟨b, off, rfl⟩ := hx
      obtain ⟨cs', h1, h2⟩ := hel i (by omega)
      rw [hce] at h1
      obtain ⟨_, hlen, hcell⟩ := World.cells?_some h1
      obtain ⟨a0, c0, a1, c1, t, rfl, l0, l1, hin⟩ := open_offer hlen h2
      have c0 := hcell 0 (by omega)
      have c1 := hcell 1 (by omega)
      have c2 := hcell 2 (by omega)
      have c3 := hcell 3 (by omega)
      have c4 := hcell 4 (by omega)
      have c5 := hcell 5 (by omega)
      have c6 := hcell 6 (by omega)
      rw [add_add, Addr.add_mid] at c0 c1 c2 c3 c4 c5 c6
      have hb := World.block_lt_of_cell? W _ c0
      exact ⟨t, ⟨b, off, a0, _, a1, _, rfl, hb, by simpa using c0, by simpa [Nat.add_assoc] using c1, by simpa [Nat.add_assoc] using c2, by simpa [Nat.add_assoc] using c3, by simpa [Nat.add_assoc] using c4, by simpa [Nat.add_assoc] using c5, by simpa [Nat.add_assoc] using c6, hin⟩, l0, l1⟩
    obtain ⟨T, hT⟩ := choose_oc each
    refine ⟨Nat.le_trans hl hm, T, fun i hi => ?_, fun i hi => (hT i hi).2⟩
    obtain ⟨b, off, a0, c0, a1, c1, hx, hr⟩ := (hT i hi).1
    exact ⟨b, off, a0, c0, a1, c1, by rw [hx], hr⟩
end Go.Proofs.Ytjjdfniemlcnnaa
