/- FnExactActOn: at every act and every route ActOn of the program answers as the specification, writes into no argument, and its answer owns its memory. No condition. -/
import Derived.Test.YtflakkbodbnndaaW7x
import Derived.Test.YtflakkbodbnndaaAll1
import Derived.ProofKit
import Derived.Deep.Slices
import Derived.Test.YtflakkbodbnndaaAll2
import Derived.Lib.SmallJoins
import Derived.OpenShut
import Derived.ShutString
/- The law on ActOn, its route told in parts. -/
namespace Go.Proofs.Ytflakkbodbnndaa
open Go.RowKit

theorem w_actOnW (k n : Int) (pa pl o nx md pf : Int) (a0 : Option Addr) (n0 c0 : Nat) (f : Nat → Int) (a1 : Option Addr) (n1 c1 : Nat) (g : Nat → Int) (w : World) (h0 : n0 ≤ maxLen) (R0 : RowInt a0 n0 f w) (h1 : n1 ≤ maxLen) (R1 : RowInt a1 n1 g w) :
    Calls Try.prog 3 #[.agg #[.int .i64 k, .int .i64 n], .agg #[.int .i64 pa, .int .i64 pl, .int .i64 o, .slice a0 n0 c0, .int .i64 nx, .int .i64 md, .int .i64 pf, .slice a1 n1 c1]] w fun e w' => e = .returned (.bool true) ∧ Below w.heap.size w w' :=
  w_actOn k n ⟨pa, pl, o, nx, md, pf, n0, f, n1, g⟩ a0 c0 a1 c1 w h0 R0 h1 R1
end Go.Proofs.Ytflakkbodbnndaa

/- Small means for what came in: lists of a known length, addresses. -/
namespace Go.Proofs.Ytflakkbodbnndaa

theorem list2 {α : Type} {l : List α} (h : l.length = 2) : ∃ a b, l = [a, b] := by
  match l, h with
  | [a, b], _ => exact ⟨a, b, rfl⟩
theorem list3 {α : Type} {l : List α} (h : l.length = 3) : ∃ a b c, l = [a, b, c] := by
  match l, h with
  | [a, b, c], _ => exact ⟨a, b, c, rfl⟩
theorem list4 {α : Type} {l : List α} (h : l.length = 4) : ∃ a b c d, l = [a, b, c, d] := by
  match l, h with
  | [a, b, c, d], _ => exact ⟨a, b, c, d, rfl⟩
theorem addr_plain {W : World} {x : Addr} {v : Value} (h : W.cell? x = some v) : ∃ b off, x = ⟨b, off, none⟩ := by
  obtain ⟨b, off, spot⟩ := x
  have hspot : spot = none := by simpa using World.cell?_spot h
  subst hspot
  exact ⟨b, off, rfl⟩
end Go.Proofs.Ytflakkbodbnndaa

/- A list of whole numbers that came in, opened: its cells; and attrs that came in. -/
namespace Go.Proofs.Ytflakkbodbnndaa
open Go.ChangeShapes Go.WideShapes Go.ChangeAt Go.RowKit Go.Deep Go.Joins

theorem choose_ltI {len : Nat} {p : Nat → Int → Prop} (h : ∀ i, i < len → ∃ q, p i q) : ∃ f : Nat → Int, ∀ i, i < len → p i (f i) := by
  refine ⟨fun i => if hi : i < len then Classical.choose (h i hi) else 0, fun i hi => ?_⟩
  simp only [dif_pos hi]
  exact Classical.choose_spec (h i hi)
theorem array6 {α : Type} {cs : Array α} (h : cs.size = 6) : ∃ c0 c1 c2 c3 c4 c5, cs = #[c0, c1, c2, c3, c4, c5] := by
  obtain ⟨l⟩ := cs
  match l, h with
  | [c0, c1, c2, c3, c4, c5], _ => exact ⟨c0, c1, c2, c3, c4, c5, rfl⟩
theorem list6 {α : Type} {l : List α} (h : l.length = 6) : ∃ a b c d e f, l = [a, b, c, d, e, f] := by
  match l, h with
  | [a, b, c, d, e, f], _ => exact ⟨a, b, c, d, e, f, rfl⟩

set_option maxRecDepth 100000 in
theorem open_rowInt {H : Type} {enc : TypeId × Value → H} {W : World} {base : Nat} {spare : Nat → Bool} {held : Bool} {fuel : Nat} {a : Option Addr} {len cap : Nat} {y : DataW H × List MemPlace}
    (h : DataW.trod enc Try.prog W base spare held fuel 26 [.slice a len cap] = some y) : len ≤ maxLen ∧ ∃ f, RowInt a len f W := by
  rcases open_slice Try.underlying26 h with ⟨hcs, _⟩ | ⟨x, l, c, m, n, D, Pl, hcs, _, hl, hm, hmm, _, hel⟩
  · simp at hcs
    obtain ⟨rfl, rfl, rfl⟩ := hcs
    exact ⟨Nat.zero_le _, fun _ => 0, fun i hi => absurd hi (Nat.not_lt_zero _)⟩
  · simp at hcs
    obtain ⟨rfl, rfl, rfl⟩ := hcs
    have hlm : len ≤ m := by rw [hmm]; split <;> omega
    have ci : Try.prog.cellsOf 3 = 1 := by kernel_rfl
    have each : ∀ i, i < len → ∃ q : Int, ∃ b off, x = ⟨b, off, none⟩ ∧ b < W.heap.size ∧ W.cell? ⟨b, off + i, none⟩ = some (.int .i64 q) := by
      intro i hi
      have hx : ∃ b off, x = ⟨b, off, none⟩ := by
        obtain ⟨cs0, h1, _⟩ := hel 0 (by omega)
        rw [ci] at h1
        obtain ⟨_, hlen, hcell⟩ := World.cells?_some h1
        have := hcell 0 (by omega)
        rw [List.getElem?_eq_getElem (by omega)] at this
        exact addr_plain (by simpa [Addr.add] using this)
      obtain ⟨b, off, rfl⟩ := hx
      obtain ⟨cs', h1, h2⟩ := hel i (by omega)
      rw [ci] at h1
      obtain ⟨_, hlen, hcell⟩ := World.cells?_some h1
      obtain ⟨v0, rfl⟩ := List.length_eq_one_iff.1 hlen
      obtain ⟨w0, hw0, _⟩ := DataW.trod_int Try.underlying3 h2
      simp at hw0
      subst hw0
      have c0 := hcell 0 (by omega)
      rw [add_add, Addr.add_mid] at c0
      have hb := World.block_lt_of_cell? W _ c0
      exact ⟨w0, b, off, rfl, hb, by simpa using c0⟩
    obtain ⟨q, hq⟩ := choose_ltI each
    refine ⟨Nat.le_trans hl hm, q, fun i hi => ?_⟩
    obtain ⟨b, off, hx, h⟩ := hq i hi
    exact ⟨b, off, by rw [hx], h⟩

/-- Attrs that came in: their value, and how their lists lie. -/
def AttrsIn (v : Value) (o nx md pf : Int) (a0 : Option Addr) (n0 c0 : Nat) (f : Nat → Int) (a1 : Option Addr) (n1 c1 : Nat) (g : Nat → Int) (w : World) : Prop :=
  v = .agg #[.int .i64 o, .slice a0 n0 c0, .int .i64 nx, .int .i64 md, .int .i64 pf, .slice a1 n1 c1] ∧ n0 ≤ maxLen ∧ RowInt a0 n0 f w ∧ n1 ≤ maxLen ∧ RowInt a1 n1 g w
set_option maxRecDepth 100000 in
theorem open_attrs {H : Type} {enc : TypeId × Value → H} {W : World} {base : Nat} {spare : Nat → Bool} {held : Bool} {fuel : Nat} {vs : List Value} {y : DataW H × List MemPlace} (hvs : vs.length = 6)
    (h : DataW.trod enc Try.prog W base spare held fuel 28 vs = some y) : ∃ o nx md pf a0 n0 c0 f a1 n1 c1 g, vs = [.int .i64 o, .slice a0 n0 c0, .int .i64 nx, .int .i64 md, .int .i64 pf, .slice a1 n1 c1] ∧ n0 ≤ maxLen ∧ RowInt a0 n0 f W ∧ n1 ≤ maxLen ∧ RowInt a1 n1 g W := by
  have ci : Try.prog.cellsOf 3 = 1 := by kernel_rfl
  have cl : Try.prog.cellsOf 26 = 1 := by kernel_rfl
  obtain ⟨v0, v1, v2, v3, v4, v5, rfl⟩ := list6 hvs
  obtain ⟨xs, k, hk, hxy, _, hxl, hf⟩ := DataW.trod_struct Try.underlying28 h
  obtain ⟨y0, y1, y2, y3, y4, y5, rfl⟩ := list6 (show xs.length = 6 by rw [hxl]; rfl)
  have g0 := hf 0 _ rfl
  have g1 := hf 1 _ rfl
  have g2 := hf 2 _ rfl
  have g3 := hf 3 _ rfl
  have g4 := hf 4 _ rfl
  have g5 := hf 5 _ rfl
  simp [ci, cl] at g0 g1 g2 g3 g4 g5
  obtain ⟨w0, hw0, _⟩ := DataW.trod_int Try.underlying3 g0
  obtain ⟨a0, n0, c0, hw1⟩ := slice_form Try.underlying26 g1
  obtain ⟨w2, hw2, _⟩ := DataW.trod_int Try.underlying3 g2
  obtain ⟨w3, hw3, _⟩ := DataW.trod_int Try.underlying3 g3
  obtain ⟨w4, hw4, _⟩ := DataW.trod_int Try.underlying3 g4
  obtain ⟨a1, n1, c1, hw5⟩ := slice_form Try.underlying26 g5
  simp at hw0 hw1 hw2 hw3 hw4 hw5
  subst hw0 hw1 hw2 hw3 hw4 hw5
  obtain ⟨hl0, f, hR0⟩ := open_rowInt g1
  obtain ⟨hl1, g, hR1⟩ := open_rowInt g5
  exact ⟨w0, w2, w3, w4, a0, n0, c0, f, a1, n1, c1, g, rfl, hl0, hR0, hl1, hR1⟩
end Go.Proofs.Ytflakkbodbnndaa

/- Rows of Prefix in memory, and what the laws do with them: handed over, compared. -/
namespace Go.Proofs.Ytflakkbodbnndaa
open Go.RowKit

/-- n of them at a, told by f0 f1. -/
def RowPrefix (a : Option Addr) (n : Nat) (f0 : Nat → Int) (f1 : Nat → Int) (w : World) : Prop := ∀ i, i < n → ∃ b off, a = some ⟨b, off, none⟩ ∧ b < w.heap.size ∧
  w.cell? ⟨b, off + i * 2, none⟩ = some (.int .i64 (f0 i)) ∧ w.cell? ⟨b, off + i * 2 + 1, none⟩ = some (.int .i64 (f1 i))
theorem RowPrefix.below {a : Option Addr} {n : Nat} {f0 : Nat → Int} {f1 : Nat → Int} {w w' : World} (h : RowPrefix a n f0 f1 w) (k : Below w.heap.size w w') : RowPrefix a n f0 f1 w' := by
  intro i hi
  obtain ⟨b, off, ha, hb, h0, h1⟩ := h i hi
  obtain ⟨hc, _⟩ := bcell k
  exact ⟨b, off, ha, Nat.lt_of_lt_of_le hb k.size, (hc _ _ hb).trans h0, (hc _ _ hb).trans h1⟩

/-- A row of n of them in block c, the first k told; it may be written. -/
def OutPrefix (c n k : Nat) (f0 : Nat → Int) (f1 : Nat → Int) (w : World) : Prop := c < w.heap.size ∧ ∀ i, i < n →
  (∃ (x0 : Int) (x1 : Int), w.cell? ⟨c, i * 2, none⟩ = some (.int .i64 x0) ∧ w.cell? ⟨c, i * 2 + 1, none⟩ = some (.int .i64 x1) ∧ (i < k → x0 = f0 i ∧ x1 = f1 i)) ∧
  w.frozen? ⟨c, i * 2, none⟩ = false ∧ w.frozen? ⟨c, i * 2 + 1, none⟩ = false
theorem OutPrefix.below {c n k : Nat} {f0 : Nat → Int} {f1 : Nat → Int} {w w' : World} (h : OutPrefix c n k f0 f1 w) (hb : Below w.heap.size w w') : OutPrefix c n k f0 f1 w' := by
  obtain ⟨hc, hf⟩ := bcell hb
  refine ⟨Nat.lt_of_lt_of_le h.1 hb.size, fun i hi => ?_⟩
  obtain ⟨⟨x0, x1, h0, h1, hk⟩, g0, g1⟩ := h.2 i hi
  exact ⟨⟨x0, x1, (hc _ _ h.1).trans h0, (hc _ _ h.1).trans h1, hk⟩, (hf _ _ h.1).trans g0, (hf _ _ h.1).trans g1⟩
theorem OutPrefix.row {c n : Nat} {f0 : Nat → Int} {f1 : Nat → Int} {w : World} (h : OutPrefix c n n f0 f1 w) : RowPrefix (some ⟨c, 0, none⟩) n f0 f1 w := by
  intro i hi
  obtain ⟨⟨x0, x1, h0, h1, hk⟩, g0, g1⟩ := h.2 i hi
  obtain ⟨rfl, rfl⟩ := hk hi
  exact ⟨c, 0, rfl, h.1, by rw [Nat.zero_add]; exact h0, by rw [Nat.zero_add]; exact h1⟩
theorem OutPrefix.set {c n k : Nat} {f0 : Nat → Int} {f1 : Nat → Int} {w : World} (h : OutPrefix c n k f0 f1 w) (hk : k < n) : OutPrefix c n (k + 1) f0 f1 ((w.setCell ⟨c, k * 2, none⟩ (.int .i64 (f0 k))).setCell ⟨c, k * 2 + 1, none⟩ (.int .i64 (f1 k))) := by
  refine ⟨by have := h.1; simpa using this, fun i hi => ?_⟩
  obtain ⟨⟨x0, x1, h0, h1, hx⟩, g0, g1⟩ := h.2 i hi
  by_cases e : i = k
  · subst e
    refine ⟨⟨f0 i, f1 i, ?_, ?_, fun _ => ⟨rfl, rfl⟩⟩, ?_, ?_⟩ <;> simp [go_sem, h0, h1, g0, g1]
  · refine ⟨⟨x0, x1, ?_, ?_, fun hlt => hx (by omega)⟩, ?_, ?_⟩
    · rw [World.cell?_setCell_other _ _ _ _ (by simp <;> omega), World.cell?_setCell_other _ _ _ _ (by simp <;> omega)]; exact h0
    · rw [World.cell?_setCell_other _ _ _ _ (by simp <;> omega), World.cell?_setCell_other _ _ _ _ (by simp <;> omega)]; exact h1
    · simpa [go_sem] using g0
    · simpa [go_sem] using g1

end Go.Proofs.Ytflakkbodbnndaa

/- A list of Prefix that came in, opened: its cells. -/
namespace Go.Proofs.Ytflakkbodbnndaa
open Go.ChangeShapes Go.WideShapes Go.ChangeAt Go.RowKit Go.Deep

end Go.Proofs.Ytflakkbodbnndaa

/- An update that came in, opened. -/
namespace Go.Proofs.Ytflakkbodbnndaa
open Go.ChangeShapes Go.WideShapes Go.ChangeAt Go.RowKit Go.Deep Go.Joins

theorem list8 {α : Type} {l : List α} (h : l.length = 8) : ∃ a b c d e f g i, l = [a, b, c, d, e, f, g, i] := by
  match l, h with
  | [a, b, c, d, e, f, g, i], _ => exact ⟨a, b, c, d, e, f, g, i, rfl⟩
theorem array8 {α : Type} {cs : Array α} (h : cs.size = 8) : ∃ a b c d e f g i, cs = #[a, b, c, d, e, f, g, i] := by
  obtain ⟨l⟩ := cs
  obtain ⟨a, b, c, d, e, f, g, i, rfl⟩ := list8 h
  exact ⟨a, b, c, d, e, f, g, i, rfl⟩
end Go.Proofs.Ytflakkbodbnndaa

/- A route that came in, opened. -/
namespace Go.Proofs.Ytflakkbodbnndaa
open Go.RowKit

set_option maxRecDepth 100000 in
theorem open_route {H : Type} {enc : TypeId × Value → H} {W : World} {base : Nat} {spare : Nat → Bool} {held : Bool} {fuel : Nat} {vs : List Value} {y : DataW H × List MemPlace} (hvs : vs.length = 8)
    (h : DataW.trod enc Try.prog W base spare held fuel 30 vs = some y) : ∃ pa pl o nx md pf a0 n0 c0 f a1 n1 c1 g,
      vs = [.int .i64 pa, .int .i64 pl, .int .i64 o, .slice a0 n0 c0, .int .i64 nx, .int .i64 md, .int .i64 pf, .slice a1 n1 c1] ∧ n0 ≤ maxLen ∧ RowInt a0 n0 f W ∧ n1 ≤ maxLen ∧ RowInt a1 n1 g W := by
  have cp : Try.prog.cellsOf 25 = 2 := by kernel_rfl
  have ca : Try.prog.cellsOf 28 = 6 := by kernel_rfl
  have ci : Try.prog.cellsOf 3 = 1 := by kernel_rfl
  obtain ⟨v0, v1, v2, v3, v4, v5, v6, v7, rfl⟩ := list8 hvs
  obtain ⟨xs, k, hk, hxy, _, hxl, hf⟩ := DataW.trod_struct Try.underlying30 h
  obtain ⟨y0, y1, rfl⟩ : ∃ y0 y1, xs = [y0, y1] := by
    have : xs.length = 2 := by rw [hxl]; rfl
    match xs, this with
    | [a, b], _ => exact ⟨a, b, rfl⟩
  have g0 := hf 0 _ rfl
  have g1 := hf 1 _ rfl
  simp [cp, ca] at g0 g1
  obtain ⟨zs, k', hk', hzy, _, hzl, hf'⟩ := DataW.trod_struct Try.underlying25 g0
  obtain ⟨z0, z1, rfl⟩ : ∃ y0 y1, zs = [y0, y1] := by
    have : zs.length = 2 := by rw [hzl]; rfl
    match zs, this with
    | [a, b], _ => exact ⟨a, b, rfl⟩
  have e0 := hf' 0 _ rfl
  have e1 := hf' 1 _ rfl
  simp [ci] at e0 e1
  obtain ⟨w0, hw0, _⟩ := DataW.trod_int Try.underlying3 e0
  obtain ⟨w1, hw1, _⟩ := DataW.trod_int Try.underlying3 e1
  simp at hw0 hw1
  subst hw0 hw1
  obtain ⟨o, nx, md, pf, a0, n0, c0, f, a1, n1, c1, g, hvs', l0, R0, l1, R1⟩ := open_attrs (vs := [v2, v3, v4, v5, v6, v7]) rfl g1
  simp at hvs'
  obtain ⟨rfl, rfl, rfl, rfl, rfl, rfl⟩ := hvs'
  exact ⟨w0, w1, o, nx, md, pf, a0, n0, c0, f, a1, n1, c1, g, rfl, l0, R0, l1, R1⟩
end Go.Proofs.Ytflakkbodbnndaa

namespace Go.Proofs.Ytflakkbodbnndaa
open Go.ChangeShapes Go.WideShapes Go.ChangeAt Go.RowKit Go.Joins
open Go.ChangeMaps (open_string shut_string)

namespace RFnExactActOn
theorem own : ownKnob Try.prog.godebug = none := by kernel_rfl
theorem laidOut : laidOutB Try.prog = true := by kernel_rfl

set_option maxRecDepth 100000 in
theorem lifted (os : Os) (started : os.Started) (H : Type) (enc : TypeId × Value → H) :
    ReturnsInHanded {} Try.checked os 3 .any (Rows.fnExactActOnSpec.pre6 enc Try.prog Try.f3 Rows.fnExactActOnRow.domain false) (Rows.fnExactActOnSpec.post enc Try.prog Try.f3 false true false false) := by
  refine returnsInHanded_of_change (C := Try.checked) own started (by kernel_rfl) Try.func3
    (ChangeSpec.witness6 (enc := enc) (C := Try.checked) false ⟨#[], #[.agg #[.int .i64 0, .int .i64 0], .agg #[.int .i64 0, .int .i64 0, .int .i64 0, .slice none 0 0, .int .i64 0, .int .i64 0, .int .i64 0, .slice none 0 0]], []⟩ 8 (by kernel_rfl) (by kernel_rfl) (by kernel_rfl) (by kernel_rfl)) ?_
  intro W base args ds gs before hval0 hW hcnd _
  have hval : ∀ (j : Nat) t v, Try.f3.params[j]? = some t → args[j]? = some v → Value.okWide Try.prog W .any base t v := hval0
  have hW' := hW
  obtain ⟨p, q, hA0, hV, rfl, hfz, hnd⟩ := hW
  have hA : DataW.TrodAll enc Try.prog W 0 (fun _ => true) true Try.f3.params.toList args.toList ds p := hA0
  rw [Try.params3] at hA hval
  obtain ⟨v0, vs0, d0, ds0, p0, q0, hargs, rfl, rfl, h0, r0⟩ := trodAll_cons hA
  obtain ⟨v1, vs1, d1, ds1, p1, q1, rfl, rfl, rfl, h1, r1⟩ := trodAll_cons r0
  obtain ⟨rfl, rfl, rfl⟩ := trodAll_nil r1
  obtain rfl : args = #[v0, v1] := by cases args; simp_all
  obtain ⟨rfl, rfl⟩ := trodVars_none hV
  have k0 := h0
  have lt0 : ∀ x ∈ p0, x.block < W.heap.size := by obtain ⟨m, hm⟩ := k0; exact DataW.trod_lt m _ _ _ hm
  obtain ⟨k0_, n0_, rfl⟩ : ∃ a l : Int, v0 = .agg #[.int .i64 a, .int .i64 l] := by
    obtain ⟨c0, c1, y0, y1, m, rfl, rfl, rfl, hy0, hy1⟩ := open_agg2 Try.underlying23 (by kernel_rfl) (show Try.prog.cellsOf 23 = 2 by kernel_rfl) (hval 0 23 v0 rfl rfl) h0
    obtain ⟨a, e0, rfl, wa⟩ := DataW.trod_int Try.underlying3 hy0
    obtain ⟨b, e1, rfl, wb⟩ := DataW.trod_int Try.underlying3 hy1
    simp at e0 e1
    subst e0 e1
    exact ⟨a, b, rfl⟩
  have k1 := h1
  have lt1 : ∀ x ∈ p1, x.block < W.heap.size := by obtain ⟨m, hm⟩ := k1; exact DataW.trod_lt m _ _ _ hm
  obtain ⟨pa1, pl1, o1, nx1, md1, pf1, aa1, an1, ac1, af1, ba1, bn1, bc1, bf1, rfl, hla1, hRa1, hlb1, hRb1⟩ : ∃ pa1 pl1 o1 nx1 md1 pf1 aa1 an1 ac1 af1 ba1 bn1 bc1 bf1, v1 = .agg #[.int .i64 pa1, .int .i64 pl1, .int .i64 o1, .slice aa1 an1 ac1, .int .i64 nx1, .int .i64 md1, .int .i64 pf1, .slice ba1 bn1 bc1] ∧ an1 ≤ maxLen ∧ RowInt aa1 an1 af1 W ∧ bn1 ≤ maxLen ∧ RowInt ba1 bn1 bf1 W := by
    obtain ⟨cs, rfl, hsz⟩ := okWide_struct Try.underlying30 (hval 1 30 v1 rfl rfl)
    have h8 : Try.prog.cellsOf 30 = 8 := by kernel_rfl
    obtain ⟨q0, q1, q2, q3, q4, q5, q6, q7, rfl⟩ := array8 (hsz.trans h8)
    obtain ⟨fuel, hf⟩ := h1
    obtain ⟨pa1, pl1, o1, nx1, md1, pf1, aa1, an1, ac1, af1, ba1, bn1, bc1, bf1, hvs, g0, g1, g2, g3⟩ := open_route (vs := [q0, q1, q2, q3, q4, q5, q6, q7]) rfl (by simpa [Value.cells] using hf)
    simp at hvs
    obtain ⟨rfl, rfl, rfl, rfl, rfl, rfl, rfl, rfl⟩ := hvs
    exact ⟨pa1, pl1, o1, nx1, md1, pf1, aa1, an1, ac1, af1, ba1, bn1, bc1, bf1, rfl, g0, g1, g2, g3⟩
  clear hA0 hval0
  refine (w_actOnW k0_ n0_ pa1 pl1 o1 nx1 md1 pf1 aa1 an1 ac1 af1 ba1 bn1 bc1 bf1 W hla1 hRa1 hlb1 hRb1).mono fun e W' ⟨he, bel⟩ => ?_
  subst he
  exact ⟨_, rfl, _, _, _, [], _, [], hW', trodAll_mk1 (shut_bool Try.underlying4 _), (trodAll_cons_mk (Below.trod laidOut (by kernel_rfl) (of_decide_eq_true (by kernel_rfl)) k0 bel lt0) (trodAll_cons_mk (Below.trod laidOut (by kernel_rfl) (of_decide_eq_true (by kernel_rfl)) k1 bel lt1) trodAll_mk0)), rfl, bel.frame _, fun h => by cases h⟩

end RFnExactActOn

theorem fnExactActOn_holds : Rows.FnExactActOnSaid :=
  OpenClaim.holds_of_wide 3 Try.f3 rfl rfl rfl rfl rfl rfl rfl ⟨rfl, rfl, rfl, rfl, rfl⟩ rfl rfl rfl rfl rfl (by kernel_rfl) Try.func3 (by kernel_rfl)
    (of_decide_eq_true (by kernel_rfl)) (by unfold Func.isWrapper; first | (rw [if_pos (by decide +kernel)]; kernel_rfl) | (rw [if_neg (by decide +kernel)]; exact ⟨rfl, rfl⟩))
    (fun os started H enc _ => RFnExactActOn.lifted os started H enc)

#print axioms fnExactActOn_holds
end Go.Proofs.Ytflakkbodbnndaa
