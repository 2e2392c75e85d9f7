/- A term that came in, opened. -/
import Derived.Test.YtocgghhlfmgndaaGreatJB
import Derived.ProofKit
import Derived.Deep.Slices
import Derived.Test.YtocgghhlfmgndaaGreatFlatRange
import Derived.Test.YtocgghhlfmgndaaGreatFlatAct
import Derived.Test.YtocgghhlfmgndaaGreatFlatReCell
import Derived.Test.YtocgghhlfmgndaaGreatLawT
import Derived.Lib.SmallJoins
/- Small means for what came in: lists of a known length, addresses. -/
namespace Go.Proofs.YtocgghhlfmgndaaGreat

theorem list2 {α : Type} {l : List α} (h : l.length = 2) : ∃ a b, l = [a, b] := by
  match l, h with
  | [a, b], _ => exact ⟨a, b, rfl⟩
theorem list3 {α : Type} {l : List α} (h : l.length = 3) : ∃ a b c, l = [a, b, c] := by
  match l, h with
  | [a, b, c], _ => exact ⟨a, b, c, rfl⟩
theorem list4 {α : Type} {l : List α} (h : l.length = 4) : ∃ a b c d, l = [a, b, c, d] := by
  match l, h with
  | [a, b, c, d], _ => exact ⟨a, b, c, d, rfl⟩
theorem addr_plain {W : World} {x : Addr} {v : Value} (h : W.cell? x = some v) : ∃ b off, x = ⟨b, off, none⟩ := by
  obtain ⟨b, off, spot⟩ := x
  have hspot : spot = none := by simpa using World.cell?_spot h
  subst hspot
  exact ⟨b, off, rfl⟩
end Go.Proofs.YtocgghhlfmgndaaGreat

/- A list of Range that came in, opened: its cells. -/
namespace Go.Proofs.YtocgghhlfmgndaaGreat
open Go.ChangeShapes Go.WideShapes Go.ChangeAt Go.RowKit Go.Deep

set_option maxRecDepth 100000 in
theorem open_rowRange {H : Type} {enc : TypeId × Value → H} {W : World} {base : Nat} {spare : Nat → Bool} {held : Bool} {fuel : Nat} {a : Option Addr} {len cap : Nat} {y : DataW H × List MemPlace}
    (h : DataW.trod enc Tryz.prog W base spare held fuel 22 [.slice a len cap] = some y) : len ≤ maxLen ∧ ∃ f0 f1 f2 f3, RowRange a len f0 f1 f2 f3 W := by
  rcases open_slice Tryz.underlying22 h with ⟨hcs, _⟩ | ⟨x, l, c, m, n, D, Pl, hcs, _, hl, hm, hmm, _, hel⟩
  · simp at hcs
    obtain ⟨rfl, rfl, rfl⟩ := hcs
    exact ⟨Nat.zero_le _, fun _ => 0, fun _ => 0, fun _ => 0, fun _ => 0, fun i hi => absurd hi (Nat.not_lt_zero _)⟩
  · simp at hcs
    obtain ⟨rfl, rfl, rfl⟩ := hcs
    have hlm : len ≤ m := by rw [hmm]; split <;> omega
    have hce : Tryz.prog.cellsOf 154 = 4 := by kernel_rfl
    have ci : Tryz.prog.cellsOf 3 = 1 := by kernel_rfl
    have cp : Tryz.prog.cellsOf 28 = 2 := by kernel_rfl
    have each : ∀ i, i < len → ∃ q : Int × Int × Int × Int, ∃ b off, x = ⟨b, off, none⟩ ∧ b < W.heap.size ∧ W.cell? ⟨b, off + i * 4, none⟩ = some (.int .i64 q.1) ∧ W.cell? ⟨b, off + i * 4 + 1, none⟩ = some (.int .i64 q.2.1) ∧ W.cell? ⟨b, off + i * 4 + 2, none⟩ = some (.int .i64 q.2.2.1) ∧ W.cell? ⟨b, off + i * 4 + 3, none⟩ = some (.int .i64 q.2.2.2) := by
      intro i hi
      have hx : ∃ b off, x = ⟨b, off, none⟩ := by
        obtain ⟨cs0, h1, _⟩ := hel 0 (by omega)
        rw [hce] at h1
        obtain ⟨_, hlen, hcell⟩ := World.cells?_some h1
        have := hcell 0 (by omega)
        rw [List.getElem?_eq_getElem (by omega)] at this
        exact addr_plain (by simpa [Addr.add] using this)
      obtain ⟨b, off, rfl⟩ := hx
      obtain ⟨cs', h1, h2⟩ := hel i (by omega)
      rw [hce] at h1
      obtain ⟨_, hlen, hcell⟩ := World.cells?_some h1
      obtain ⟨v0, v1, v2, v3, rfl⟩ := list4 hlen
      obtain ⟨xs, k, hk, hxy, _, hxl, hf⟩ := DataW.trod_struct Tryz.underlying154 h2
      obtain ⟨y0, y1, y2, rfl⟩ := list3 (show xs.length = 3 by rw [hxl]; rfl)
      have g0 := hf 0 _ rfl
      have g1 := hf 1 _ rfl
      have g2 := hf 2 _ rfl
      simp [ci, cp] at g0 g1 g2
      obtain ⟨xs', k', _, _, _, hxl', hf'⟩ := DataW.trod_struct Tryz.underlying28 g0
      obtain ⟨z0, z1, rfl⟩ := list2 (show xs'.length = 2 by rw [hxl']; rfl)
      have e0 := hf' 0 _ rfl
      have e1 := hf' 1 _ rfl
      simp [ci] at e0 e1
      obtain ⟨w0, hw0, _⟩ := DataW.trod_int Tryz.underlying3 e0
      obtain ⟨w1, hw1, _⟩ := DataW.trod_int Tryz.underlying3 e1
      obtain ⟨w2, hw2, _⟩ := DataW.trod_int Tryz.underlying3 g1
      obtain ⟨w3, hw3, _⟩ := DataW.trod_int Tryz.underlying3 g2
      simp at hw0 hw1 hw2 hw3
      subst hw0 hw1 hw2 hw3
      have c0 := hcell 0 (by omega)
      have c1 := hcell 1 (by omega)
      have c2 := hcell 2 (by omega)
      have c3 := hcell 3 (by omega)
      rw [add_add, Addr.add_mid] at c0 c1 c2 c3
      have hb := World.block_lt_of_cell? W _ c0
      exact ⟨(w0, w1, w2, w3), b, off, rfl, hb, by simpa using c0, by simpa [Nat.add_assoc] using c1, by simpa [Nat.add_assoc] using c2, by simpa [Nat.add_assoc] using c3⟩
    obtain ⟨q, hq⟩ := choose_lt each
    refine ⟨Nat.le_trans hl hm, fun i => (q i).1, fun i => (q i).2.1, fun i => (q i).2.2.1, fun i => (q i).2.2.2, fun i hi => ?_⟩
    obtain ⟨b, off, hx, h⟩ := hq i hi
    exact ⟨b, off, by rw [hx], h⟩
end Go.Proofs.YtocgghhlfmgndaaGreat

/- A list of Act that came in, opened: its cells. -/
namespace Go.Proofs.YtocgghhlfmgndaaGreat
open Go.ChangeShapes Go.WideShapes Go.ChangeAt Go.RowKit Go.Deep

set_option maxRecDepth 100000 in
theorem open_rowAct {H : Type} {enc : TypeId × Value → H} {W : World} {base : Nat} {spare : Nat → Bool} {held : Bool} {fuel : Nat} {a : Option Addr} {len cap : Nat} {y : DataW H × List MemPlace}
    (h : DataW.trod enc Tryz.prog W base spare held fuel 24 [.slice a len cap] = some y) : len ≤ maxLen ∧ ∃ f0 f1, RowAct a len f0 f1 W := by
  rcases open_slice Tryz.underlying24 h with ⟨hcs, _⟩ | ⟨x, l, c, m, n, D, Pl, hcs, _, hl, hm, hmm, _, hel⟩
  · simp at hcs
    obtain ⟨rfl, rfl, rfl⟩ := hcs
    exact ⟨Nat.zero_le _, fun _ => 0, fun _ => 0, fun i hi => absurd hi (Nat.not_lt_zero _)⟩
  · simp at hcs
    obtain ⟨rfl, rfl, rfl⟩ := hcs
    have hlm : len ≤ m := by rw [hmm]; split <;> omega
    have hce : Tryz.prog.cellsOf 159 = 2 := by kernel_rfl
    have ci : Tryz.prog.cellsOf 3 = 1 := by kernel_rfl
    have each : ∀ i, i < len → ∃ q : Int × Int, ∃ b off, x = ⟨b, off, none⟩ ∧ b < W.heap.size ∧ W.cell? ⟨b, off + i * 2, none⟩ = some (.int .i64 q.1) ∧ W.cell? ⟨b, off + i * 2 + 1, none⟩ = some (.int .i64 q.2) := by
      intro i hi
      have hx : ∃ b off, x = ⟨b, off, none⟩ := by
        obtain ⟨cs0, h1, _⟩ := hel 0 (by omega)
        rw [hce] at h1
        obtain ⟨_, hlen, hcell⟩ := World.cells?_some h1
        have := hcell 0 (by omega)
        rw [List.getElem?_eq_getElem (by omega)] at this
        exact addr_plain (by simpa [Addr.add] using this)
      obtain ⟨b, off, rfl⟩ := hx
      obtain ⟨cs', h1, h2⟩ := hel i (by omega)
      rw [hce] at h1
      obtain ⟨_, hlen, hcell⟩ := World.cells?_some h1
      obtain ⟨v0, v1, rfl⟩ := list2 hlen
      obtain ⟨xs, k, hk, hxy, _, hxl, hf⟩ := DataW.trod_struct Tryz.underlying159 h2
      obtain ⟨y0, y1, rfl⟩ := list2 (show xs.length = 2 by rw [hxl]; rfl)
      have g0 := hf 0 _ rfl
      have g1 := hf 1 _ rfl
      simp [ci] at g0 g1
      obtain ⟨w0, hw0, _⟩ := DataW.trod_int Tryz.underlying3 g0
      obtain ⟨w1, hw1, _⟩ := DataW.trod_int Tryz.underlying3 g1
      simp at hw0 hw1
      subst hw0 hw1
      have c0 := hcell 0 (by omega)
      have c1 := hcell 1 (by omega)
      rw [add_add, Addr.add_mid] at c0 c1
      have hb := World.block_lt_of_cell? W _ c0
      exact ⟨(w0, w1), b, off, rfl, hb, by simpa using c0, by simpa [Nat.add_assoc] using c1⟩
    obtain ⟨q, hq⟩ := choose_lt each
    refine ⟨Nat.le_trans hl hm, fun i => (q i).1, fun i => (q i).2, fun i hi => ?_⟩
    obtain ⟨b, off, hx, h⟩ := hq i hi
    exact ⟨b, off, by rw [hx], h⟩
end Go.Proofs.YtocgghhlfmgndaaGreat

/- A list of ReCell that came in, opened: its cells. -/
namespace Go.Proofs.YtocgghhlfmgndaaGreat
open Go.ChangeShapes Go.WideShapes Go.ChangeAt Go.RowKit Go.Deep

set_option maxRecDepth 100000 in
theorem open_rowReCell {H : Type} {enc : TypeId × Value → H} {W : World} {base : Nat} {spare : Nat → Bool} {held : Bool} {fuel : Nat} {a : Option Addr} {len cap : Nat} {y : DataW H × List MemPlace}
    (h : DataW.trod enc Tryz.prog W base spare held fuel 23 [.slice a len cap] = some y) : len ≤ maxLen ∧ ∃ f0 f1, RowReCell a len f0 f1 W := by
  rcases open_slice Tryz.underlying23 h with ⟨hcs, _⟩ | ⟨x, l, c, m, n, D, Pl, hcs, _, hl, hm, hmm, _, hel⟩
  · simp at hcs
    obtain ⟨rfl, rfl, rfl⟩ := hcs
    exact ⟨Nat.zero_le _, fun _ => 0, fun _ => 0, fun i hi => absurd hi (Nat.not_lt_zero _)⟩
  · simp at hcs
    obtain ⟨rfl, rfl, rfl⟩ := hcs
    have hlm : len ≤ m := by rw [hmm]; split <;> omega
    have hce : Tryz.prog.cellsOf 157 = 2 := by kernel_rfl
    have ci : Tryz.prog.cellsOf 3 = 1 := by kernel_rfl
    have each : ∀ i, i < len → ∃ q : Int × Int, ∃ b off, x = ⟨b, off, none⟩ ∧ b < W.heap.size ∧ W.cell? ⟨b, off + i * 2, none⟩ = some (.int .i64 q.1) ∧ W.cell? ⟨b, off + i * 2 + 1, none⟩ = some (.int .i64 q.2) := by
      intro i hi
      have hx : ∃ b off, x = ⟨b, off, none⟩ := by
        obtain ⟨cs0, h1, _⟩ := hel 0 (by omega)
        rw [hce] at h1
        obtain ⟨_, hlen, hcell⟩ := World.cells?_some h1
        have := hcell 0 (by omega)
        rw [List.getElem?_eq_getElem (by omega)] at this
        exact addr_plain (by simpa [Addr.add] using this)
      obtain ⟨b, off, rfl⟩ := hx
      obtain ⟨cs', h1, h2⟩ := hel i (by omega)
      rw [hce] at h1
      obtain ⟨_, hlen, hcell⟩ := World.cells?_some h1
      obtain ⟨v0, v1, rfl⟩ := list2 hlen
      obtain ⟨xs, k, hk, hxy, _, hxl, hf⟩ := DataW.trod_struct Tryz.underlying157 h2
      obtain ⟨y0, y1, rfl⟩ := list2 (show xs.length = 2 by rw [hxl]; rfl)
      have g0 := hf 0 _ rfl
      have g1 := hf 1 _ rfl
      simp [ci] at g0 g1
      obtain ⟨w0, hw0, _⟩ := DataW.trod_int Tryz.underlying3 g0
      obtain ⟨w1, hw1, _⟩ := DataW.trod_int Tryz.underlying3 g1
      simp at hw0 hw1
      subst hw0 hw1
      have c0 := hcell 0 (by omega)
      have c1 := hcell 1 (by omega)
      rw [add_add, Addr.add_mid] at c0 c1
      have hb := World.block_lt_of_cell? W _ c0
      exact ⟨(w0, w1), b, off, rfl, hb, by simpa using c0, by simpa [Nat.add_assoc] using c1⟩
    obtain ⟨q, hq⟩ := choose_lt each
    refine ⟨Nat.le_trans hl hm, fun i => (q i).1, fun i => (q i).2, fun i hi => ?_⟩
    obtain ⟨b, off, hx, h⟩ := hq i hi
    exact ⟨b, off, by rw [hx], h⟩
end Go.Proofs.YtocgghhlfmgndaaGreat

/- Policies that came in, opened: their terms, and how their lists lie. -/
namespace Go.Proofs.YtocgghhlfmgndaaGreat
open Go.ChangeShapes Go.WideShapes Go.ChangeAt Go.RowKit Go.Deep Go.Joins

theorem choose_tm {len : Nat} {p : Nat → Tc → Prop} (h : ∀ i, i < len → ∃ q, p i q) : ∃ f : Nat → Tc, ∀ i, i < len → p i (f i) := by
  refine ⟨fun i => if hi : i < len then Classical.choose (h i hi) else ⟨0, 0, 0, fun _ => 0, fun _ => 0, fun _ => 0, fun _ => 0, fun _ => 0, fun _ => 0, fun _ => 0, fun _ => 0, 0, 0⟩, fun i hi => ?_⟩
  simp only [dif_pos hi]
  exact Classical.choose_spec (h i hi)
theorem five {α : Type} {l : List α} (h : l.length = 5) : ∃ a b c d e, l = [a, b, c, d, e] := by
  match l, h with
  | [a, b, c, d, e], _ => exact ⟨a, b, c, d, e, rfl⟩
theorem two {α : Type} {l : List α} (h : l.length = 2) : ∃ a b, l = [a, b] := by
  match l, h with
  | [a, b], _ => exact ⟨a, b, rfl⟩
theorem arr2 {α : Type} {cs : Array α} (h : cs.size = 2) : ∃ a b, cs = #[a, b] := by
  obtain ⟨l⟩ := cs
  obtain ⟨a, b, rfl⟩ := two h
  exact ⟨a, b, rfl⟩
set_option maxRecDepth 100000 in
theorem cap_rowReCell {H : Type} {enc : TypeId × Value → H} {W : World} {base : Nat} {spare : Nat → Bool} {held : Bool} {fuel : Nat} {a : Option Addr} {len cap : Nat} {y : DataW H × List MemPlace}
    (h : DataW.trod enc Tryz.prog W base spare held fuel 23 [.slice a len cap] = some y) : len ≤ cap := by
  rcases open_slice Tryz.underlying23 h with ⟨hcs, _⟩ | ⟨x, l, c, m, n, D, Pl, hcs, _, hl, _⟩
  · simp at hcs
    obtain ⟨rfl, rfl, rfl⟩ := hcs
    exact Nat.le_refl _
  · simp at hcs
    obtain ⟨rfl, rfl, rfl⟩ := hcs
    exact hl
set_option maxRecDepth 100000 in
theorem open_terms {H : Type} {enc : TypeId × Value → H} {W : World} {base : Nat} {spare : Nat → Bool} {held : Bool} {fuel : Nat} {a : Option Addr} {len cap : Nat} {y : DataW H × List MemPlace}
    (h : DataW.trod enc Tryz.prog W base spare held fuel 52 [.slice a len cap] = some y) : len ≤ maxLen ∧ ∃ T, RowT a len T W ∧ MaxT len T := by
  rcases open_slice Tryz.underlying52 h with ⟨hcs, _⟩ | ⟨x, l, c, m, n, D, Pl, hcs, _, hl, hm, hmm, _, hel⟩
  · simp at hcs
    obtain ⟨rfl, rfl, rfl⟩ := hcs
    exact ⟨Nat.zero_le _, fun _ => ⟨0, 0, 0, fun _ => 0, fun _ => 0, fun _ => 0, fun _ => 0, fun _ => 0, fun _ => 0, fun _ => 0, fun _ => 0, 0, 0⟩, fun i hi => absurd hi (Nat.not_lt_zero _), fun i hi => absurd hi (Nat.not_lt_zero _)⟩
  · simp at hcs
    obtain ⟨rfl, rfl, rfl⟩ := hcs
    have hlm : len ≤ m := by rw [hmm]; split <;> omega
    have hce : Tryz.prog.cellsOf 26 = 5 := by kernel_rfl
    have ci : Tryz.prog.cellsOf 3 = 1 := by kernel_rfl
    have cr : Tryz.prog.cellsOf 22 = 1 := by kernel_rfl
    have cq : Tryz.prog.cellsOf 23 = 1 := by kernel_rfl
    have ca : Tryz.prog.cellsOf 24 = 1 := by kernel_rfl
    have each : ∀ i, i < len → ∃ t : Tc, (∃ (b off : Nat) (ra : Option Addr) (rc : Nat) (pa : Option Addr) (pc : Nat) (aa : Option Addr) (ac : Nat), x = ⟨b, off, none⟩ ∧ b < W.heap.size ∧
        W.cell? ⟨b, off + i * 5, none⟩ = some (.slice ra t.nr rc) ∧ W.cell? ⟨b, off + i * 5 + 1, none⟩ = some (.slice pa t.np pc) ∧ W.cell? ⟨b, off + i * 5 + 2, none⟩ = some (.int .i64 t.cm) ∧
        W.cell? ⟨b, off + i * 5 + 3, none⟩ = some (.slice aa t.na ac) ∧ W.cell? ⟨b, off + i * 5 + 4, none⟩ = some (.int .i64 t.vd) ∧ TmIn ra pa pc aa t W) ∧ t.nr ≤ maxLen ∧ t.np ≤ maxLen ∧ t.na ≤ maxLen := by
      intro i hi
      have hx : ∃ b off, x = ⟨b, off, none⟩ := by
        obtain ⟨cs0, h1, _⟩ := hel 0 (by omega)
        rw [hce] at h1
        obtain ⟨_, hlen, hcell⟩ := World.cells?_some h1
        have := hcell 0 (by omega)
        rw [List.getElem?_eq_getElem (by omega)] at this
        exact addr_plain (by simpa [Addr.add] using this)
      obtain ⟨b, off, rfl⟩ := hx
      obtain ⟨cs', h1, h2⟩ := hel i (by omega)
      rw [hce] at h1
      obtain ⟨_, hlen, hcell⟩ := World.cells?_some h1
      obtain ⟨v0, v1, v2, v3, v4, rfl⟩ := five hlen
      obtain ⟨xs, k, hk, hxy, _, hxl, hf⟩ := DataW.trod_struct Tryz.underlying26 h2
      obtain ⟨y0, y1, y2, y3, y4, rfl⟩ := five (show xs.length = 5 by rw [hxl]; rfl)
      have g0 := hf 0 _ rfl
      have g1 := hf 1 _ rfl
      have g2 := hf 2 _ rfl
      have g3 := hf 3 _ rfl
      have g4 := hf 4 _ rfl
      simp [ci, cr, cq, ca] at g0 g1 g2 g3 g4
      obtain ⟨ra, nr, rc, hw0⟩ := slice_form Tryz.underlying22 g0
      obtain ⟨pa, np, pc, hw1⟩ := slice_form Tryz.underlying23 g1
      obtain ⟨aa, na, ac, hw3⟩ := slice_form Tryz.underlying24 g3
      obtain ⟨cm, hw2, _⟩ := DataW.trod_int Tryz.underlying3 g2
      obtain ⟨vd, hw4, _⟩ := DataW.trod_int Tryz.underlying3 g4
      simp at hw0 hw1 hw2 hw3 hw4
      subst hw0 hw1 hw2 hw3 hw4
      obtain ⟨lr, f0, f1, f2, f3, RR⟩ := open_rowRange g0
      obtain ⟨lp, q0, q1, RP⟩ := open_rowReCell g1
      have lpc := cap_rowReCell g1
      obtain ⟨la, a0, a1, RA⟩ := open_rowAct g3
      have c0 := hcell 0 (by omega)
      have c1 := hcell 1 (by omega)
      have c2 := hcell 2 (by omega)
      have c3 := hcell 3 (by omega)
      have c4 := hcell 4 (by omega)
      rw [add_add, Addr.add_mid] at c0 c1 c2 c3 c4
      have hb := World.block_lt_of_cell? W _ c0
      exact ⟨⟨nr, np, na, f0, f1, f2, f3, q0, q1, a0, a1, cm, vd⟩, ⟨b, off, ra, rc, pa, pc, aa, ac, rfl, hb, by simpa using c0, by simpa [Nat.add_assoc] using c1, by simpa [Nat.add_assoc] using c2, by simpa [Nat.add_assoc] using c3, by simpa [Nat.add_assoc] using c4, lpc, RR, RP, RA⟩, lr, lp, la⟩
    obtain ⟨T, hT⟩ := choose_tm each
    refine ⟨Nat.le_trans hl hm, T, fun i hi => ?_, fun i hi => (hT i hi).2⟩
    obtain ⟨b, off, ra, rc, pa, pc, aa, ac, hx, hr⟩ := (hT i hi).1
    exact ⟨b, off, ra, rc, pa, pc, aa, ac, by rw [hx], hr⟩
set_option maxRecDepth 100000 in
theorem open_policy {H : Type} {enc : TypeId × Value → H} {W : World} {base : Nat} {spare : Nat → Bool} {held : Bool} {fuel : Nat} {vs : List Value} {y : DataW H × List MemPlace} (hvs : vs.length = 2)
    (h : DataW.trod enc Tryz.prog W base spare held fuel 54 vs = some y) : ∃ a n c acc T, vs = [.slice a n c, .bool acc] ∧ n ≤ maxLen ∧ MaxT n T ∧ RowT a n T W := by
  have ct : Tryz.prog.cellsOf 52 = 1 := by kernel_rfl
  have cb : Tryz.prog.cellsOf 4 = 1 := by kernel_rfl
  obtain ⟨v0, v1, rfl⟩ := two hvs
  obtain ⟨xs, k, hk, hxy, _, hxl, hf⟩ := DataW.trod_struct Tryz.underlying54 h
  obtain ⟨y0, y1, rfl⟩ := two (show xs.length = 2 by rw [hxl]; rfl)
  have g0 := hf 0 _ rfl
  have g1 := hf 1 _ rfl
  simp [ct, cb] at g0 g1
  obtain ⟨a, n, c, hw0⟩ := slice_form Tryz.underlying52 g0
  obtain ⟨acc, hw1, _⟩ := DataW.trod_bool Tryz.underlying4 g1
  simp at hw0 hw1
  subst hw0 hw1
  obtain ⟨hn, T, hT, hX⟩ := open_terms g0
  exact ⟨a, n, c, acc, T, rfl, hn, hX, hT⟩
end Go.Proofs.YtocgghhlfmgndaaGreat

namespace Go.Proofs.YtocgghhlfmgndaaGreat
open Go.ChangeShapes Go.WideShapes Go.ChangeAt Go.RowKit Go.Deep Go.Joins

theorem arr5 {α : Type} {cs : Array α} (h : cs.size = 5) : ∃ a b c d e, cs = #[a, b, c, d, e] := by
  obtain ⟨l⟩ := cs
  obtain ⟨a, b, c, d, e, rfl⟩ := five h
  exact ⟨a, b, c, d, e, rfl⟩
set_option maxRecDepth 100000 in
theorem open_term {H : Type} {enc : TypeId × Value → H} {W : World} {base : Nat} {spare : Nat → Bool} {held : Bool} {fuel : Nat} {vs : List Value} {y : DataW H × List MemPlace} (hvs : vs.length = 5)
    (h : DataW.trod enc Tryz.prog W base spare held fuel 26 vs = some y) : ∃ (ra : Option Addr) (rc : Nat) (pa : Option Addr) (pc : Nat) (aa : Option Addr) (ac : Nat) (t : Tc), vs = [.slice ra t.nr rc, .slice pa t.np pc, .int .i64 t.cm, .slice aa t.na ac, .int .i64 t.vd] ∧ t.nr ≤ maxLen ∧ t.np ≤ maxLen ∧ t.na ≤ maxLen ∧ TmIn ra pa pc aa t W := by
  have ci : Tryz.prog.cellsOf 3 = 1 := by kernel_rfl
  have cr : Tryz.prog.cellsOf 22 = 1 := by kernel_rfl
  have cq : Tryz.prog.cellsOf 23 = 1 := by kernel_rfl
  have ca : Tryz.prog.cellsOf 24 = 1 := by kernel_rfl
  obtain ⟨v0, v1, v2, v3, v4, rfl⟩ := five hvs
  obtain ⟨xs, k, hk, hxy, _, hxl, hf⟩ := DataW.trod_struct Tryz.underlying26 h
  obtain ⟨y0, y1, y2, y3, y4, rfl⟩ := five (show xs.length = 5 by rw [hxl]; rfl)
  have g0 := hf 0 _ rfl
  have g1 := hf 1 _ rfl
  have g2 := hf 2 _ rfl
  have g3 := hf 3 _ rfl
  have g4 := hf 4 _ rfl
  simp [ci, cr, cq, ca] at g0 g1 g2 g3 g4
  obtain ⟨ra, nr, rc, hw0⟩ := slice_form Tryz.underlying22 g0
  obtain ⟨pa, np, pc, hw1⟩ := slice_form Tryz.underlying23 g1
  obtain ⟨aa, na, ac, hw3⟩ := slice_form Tryz.underlying24 g3
  obtain ⟨cm, hw2, _⟩ := DataW.trod_int Tryz.underlying3 g2
  obtain ⟨vd, hw4, _⟩ := DataW.trod_int Tryz.underlying3 g4
  simp at hw0 hw1 hw2 hw3 hw4
  subst hw0 hw1 hw2 hw3 hw4
  obtain ⟨lr, f0, f1, f2, f3, RR⟩ := open_rowRange g0
  obtain ⟨lp, q0, q1, RP⟩ := open_rowReCell g1
  have lpc := cap_rowReCell g1
  obtain ⟨la, a0, a1, RA⟩ := open_rowAct g3
  exact ⟨ra, rc, pa, pc, aa, ac, ⟨nr, np, na, f0, f1, f2, f3, q0, q1, a0, a1, cm, vd⟩, rfl, lr, lp, la, lpc, RR, RP, RA⟩
end Go.Proofs.YtocgghhlfmgndaaGreat
