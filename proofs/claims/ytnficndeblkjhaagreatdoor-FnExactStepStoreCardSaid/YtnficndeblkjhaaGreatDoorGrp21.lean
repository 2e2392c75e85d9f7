/- An op that came in, opened. -/
import Derived.Test.YtnficndeblkjhaaGreatDoorGrp1
import Derived.ProofKit
import Derived.Deep.Slices
import Derived.Deep.Strs
import Derived.Test.YtnficndeblkjhaaGreatDoorLeaf15
import Derived.Lib.SmallJoins
import Derived.Test.YtnficndeblkjhaaGreatDoorGrp3
import Derived.Test.YtnficndeblkjhaaGreatDoorGrp20
/- Small means for what came in: lists of a known length, addresses. -/
namespace Go.Proofs.YtnficndeblkjhaaGreatDoor

theorem list2 {α : Type} {l : List α} (h : l.length = 2) : ∃ a b, l = [a, b] := by
  match l, h with
  | [a, b], _ => exact ⟨a, b, rfl⟩
theorem list3 {α : Type} {l : List α} (h : l.length = 3) : ∃ a b c, l = [a, b, c] := by
  match l, h with
  | [a, b, c], _ => exact ⟨a, b, c, rfl⟩
theorem list4 {α : Type} {l : List α} (h : l.length = 4) : ∃ a b c d, l = [a, b, c, d] := by
  match l, h with
  | [a, b, c, d], _ => exact ⟨a, b, c, d, rfl⟩
theorem addr_plain {W : World} {x : Addr} {v : Value} (h : W.cell? x = some v) : ∃ b off, x = ⟨b, off, none⟩ := by
  obtain ⟨b, off, spot⟩ := x
  have hspot : spot = none := by simpa using World.cell?_spot h
  subst hspot
  exact ⟨b, off, rfl⟩
end Go.Proofs.YtnficndeblkjhaaGreatDoor

/- A list of strings that came in, opened: its cells. -/
namespace Go.Proofs.YtnficndeblkjhaaGreatDoor
open Go.ChangeShapes Go.WideShapes Go.ChangeAt Go.RowKit Go.Deep

set_option maxRecDepth 100000 in
theorem open_rowString {H : Type} {enc : TypeId × Value → H} {W : World} {base : Nat} {spare : Nat → Bool} {held : Bool} {fuel : Nat} {a : Option Addr} {len cap : Nat} {y : DataW H × List MemPlace}
    (h : DataW.trod enc Tryz.prog W base spare held fuel 26 [.slice a len cap] = some y) : len ≤ maxLen ∧ ∃ f, RowStr a len f W ∧ ∀ i, i < len → (f i).size ≤ maxLen := by
  rcases open_strs Tryz.underlying26 Tryz.underlying9 (by kernel_rfl) h with ⟨hcs, _⟩ | ⟨x, l, c, m, Sx, hcs, _, hl, hm, hmm, _, hel⟩
  · simp at hcs
    obtain ⟨rfl, rfl, rfl⟩ := hcs
    exact ⟨Nat.zero_le _, fun _ => ByteArray.empty, fun i hi => absurd hi (Nat.not_lt_zero _), fun i hi => absurd hi (Nat.not_lt_zero _)⟩
  · simp at hcs
    obtain ⟨rfl, rfl, rfl⟩ := hcs
    have hlm : len ≤ m := by rw [hmm]; split <;> omega
    refine ⟨Nat.le_trans hl hm, Sx, fun i hi => ?_, fun i hi => (hel i (by omega)).2⟩
    have c0 := (hel i (by omega)).1
    obtain ⟨b, off, rfl⟩ : ∃ b off, x = ⟨b, off, none⟩ := by
      have := (hel 0 (by omega)).1
      exact addr_plain (by simpa [Addr.add] using this)
    rw [Addr.add_mid] at c0
    exact ⟨b, off, rfl, World.block_lt_of_cell? W _ c0, c0⟩
end Go.Proofs.YtnficndeblkjhaaGreatDoor

/- Lists of leaves that came in, opened. -/
namespace Go.Proofs.YtnficndeblkjhaaGreatDoor
open Go.ChangeShapes Go.WideShapes Go.ChangeAt Go.RowKit Go.Deep Go.Joins

theorem choose_lf {len : Nat} {p : Nat → Lf → Prop} (h : ∀ i, i < len → ∃ q, p i q) : ∃ f : Nat → Lf, ∀ i, i < len → p i (f i) := by
  refine ⟨fun i => if hi : i < len then Classical.choose (h i hi) else lf0, fun i hi => ?_⟩
  simp only [dif_pos hi]
  exact Classical.choose_spec (h i hi)
set_option maxRecDepth 100000 in
theorem open_leaf {H : Type} {enc : TypeId × Value → H} {W : World} {base : Nat} {spare : Nat → Bool} {held : Bool} {fuel : Nat} {vs : List Value} {y : DataW H × List MemPlace} (hvs : vs.length = 2)
    (h : DataW.trod enc Tryz.prog W base spare held fuel 79 vs = some y) : ∃ (a : Option Addr) (n c : Nat) (f : Nat → ByteArray) (s : ByteArray), vs = [.slice a n c, .string s] ∧ n ≤ maxLen ∧ (∀ i, i < n → (f i).size ≤ maxLen) ∧ s.size ≤ maxLen ∧ RowStr a n f W := by
  have cs : Tryz.prog.cellsOf 9 = 1 := by kernel_rfl
  have cl : Tryz.prog.cellsOf 26 = 1 := by kernel_rfl
  obtain ⟨v0, v1, rfl⟩ := list2 hvs
  obtain ⟨xs, k, hk, hxy, _, hxl, hf⟩ := DataW.trod_struct Tryz.underlying79 h
  obtain ⟨y0, y1, rfl⟩ := list2 (show xs.length = 2 by rw [hxl]; rfl)
  have g0 := hf 0 _ rfl
  have g1 := hf 1 _ rfl
  simp [cs, cl] at g0 g1
  obtain ⟨a0, n0, c0, hw0⟩ := slice_form Tryz.underlying26 g0
  obtain ⟨s, hw1, _, hs⟩ := DataW.trod_string Tryz.underlying9 g1
  simp at hw0 hw1
  subst hw0 hw1
  obtain ⟨hl0, f, hR0, hX⟩ := open_rowString g0
  exact ⟨a0, n0, c0, f, s, rfl, hl0, hX, hs, hR0⟩
set_option maxRecDepth 100000 in
theorem open_leaves {H : Type} {enc : TypeId × Value → H} {W : World} {base : Nat} {spare : Nat → Bool} {held : Bool} {fuel : Nat} {a : Option Addr} {len cap : Nat} {y : DataW H × List MemPlace}
    (h : DataW.trod enc Tryz.prog W base spare held fuel 22 [.slice a len cap] = some y) : len ≤ maxLen ∧ ∃ T, RowF false a len T W ∧ MaxF len T := by
  rcases open_slice Tryz.underlying22 h with ⟨hcs, _⟩ | ⟨x, l, c, m, n, D, Pl, hcs, _, hl, hm, hmm, _, hel⟩
  · simp at hcs
    obtain ⟨rfl, rfl, rfl⟩ := hcs
    exact ⟨Nat.zero_le _, fun _ => lf0, fun i hi => absurd hi (Nat.not_lt_zero _), fun i hi => absurd hi (Nat.not_lt_zero _)⟩
  · simp at hcs
    obtain ⟨rfl, rfl, rfl⟩ := hcs
    have hlm : len ≤ m := by rw [hmm]; split <;> omega
    have hce : Tryz.prog.cellsOf 79 = 2 := by kernel_rfl
    have each : ∀ i, i < len → ∃ t : Lf, (∃ (b off : Nat) (a0 : Option Addr) (c0 : Nat), x = ⟨b, off, none⟩ ∧ b < W.heap.size ∧
        W.cell? ⟨b, off + i * 2, none⟩ = some (.slice a0 t.n c0) ∧ W.cell? ⟨b, off + i * 2 + 1, none⟩ = some (.string t.v) ∧ RowStr a0 t.n t.p W) ∧ OkF t maxLen := by
      intro i hi
      have hx : ∃ b off, x = ⟨b, off, none⟩ := by
        obtain ⟨cs0, h1, _⟩ := hel 0 (by omega)
        rw [hce] at h1
        obtain ⟨_, hlen, hcell⟩ := World.cells?_some h1
        have := hcell 0 (by omega)
        rw [List.getElem?_eq_getElem (by omega)] at this
        exact addr_plain (by simpa [Addr.add] using this)
      obtain ⟨b, off, rfl⟩ := hx
      obtain ⟨cs', h1, h2⟩ := hel i (by omega)
      rw [hce] at h1
      obtain ⟨_, hlen, hcell⟩ := World.cells?_some h1
      obtain ⟨a0, n0, c0, f, s, rfl, l0, hX, hs, R0⟩ := open_leaf hlen h2
      have c1 := hcell 0 (by omega)
      have c2 := hcell 1 (by omega)
      rw [add_add, Addr.add_mid] at c1 c2
      have hb := World.block_lt_of_cell? W _ c1
      exact ⟨⟨n0, f, s⟩, ⟨b, off, a0, c0, rfl, hb, by simpa using c1, by simpa [Nat.add_assoc] using c2, R0⟩, l0, hX, hs⟩
    obtain ⟨T, hT⟩ := choose_lf each
    refine ⟨Nat.le_trans hl hm, T, fun i hi => ?_, fun i hi => (hT i hi).2⟩
    obtain ⟨b, off, a0, c0, hx, hbw, h0, h1, hr⟩ := (hT i hi).1
    exact ⟨b, off, a0, c0, by rw [hx], hbw, h0, h1, fun e => (by cases e), hr⟩
end Go.Proofs.YtnficndeblkjhaaGreatDoor

/- Lists of lists of leaves and stores that came in, opened. -/
namespace Go.Proofs.YtnficndeblkjhaaGreatDoor
open Go.ChangeShapes Go.WideShapes Go.ChangeAt Go.RowKit Go.Deep Go.Joins

theorem choose_cf {len : Nat} {p : Nat → Cf → Prop} (h : ∀ i, i < len → ∃ q, p i q) : ∃ f : Nat → Cf, ∀ i, i < len → p i (f i) := by
  refine ⟨fun i => if hi : i < len then Classical.choose (h i hi) else cf0, fun i hi => ?_⟩
  simp only [dif_pos hi]
  exact Classical.choose_spec (h i hi)
theorem list4s {α : Type} {l : List α} (h : l.length = 4) : ∃ a b c d, l = [a, b, c, d] := by
  match l, h with
  | [a, b, c, d], _ => exact ⟨a, b, c, d, rfl⟩
theorem arr4s {α : Type} {cs : Array α} (h : cs.size = 4) : ∃ a b c d, cs = #[a, b, c, d] := by
  obtain ⟨l⟩ := cs
  obtain ⟨a, b, c, d, rfl⟩ := list4s (show l.length = 4 from h)
  exact ⟨a, b, c, d, rfl⟩
set_option maxRecDepth 100000 in
theorem open_leafSS {H : Type} {enc : TypeId × Value → H} {W : World} {base : Nat} {spare : Nat → Bool} {held : Bool} {fuel : Nat} {a : Option Addr} {len cap : Nat} {y : DataW H × List MemPlace}
    (h : DataW.trod enc Tryz.prog W base spare held fuel 23 [.slice a len cap] = some y) : len ≤ maxLen ∧ len ≤ cap ∧ ∃ T, RowX false a len T W ∧ ∀ i, i < len → MaxCf (T i) := by
  rcases open_slice Tryz.underlying23 h with ⟨hcs, _⟩ | ⟨x, l, c, m, n, D, Pl, hcs, _, hl, hm, hmm, _, hel⟩
  · simp at hcs
    obtain ⟨rfl, rfl, rfl⟩ := hcs
    exact ⟨Nat.zero_le _, Nat.zero_le _, fun _ => cf0, fun i hi => absurd hi (Nat.not_lt_zero _), fun i hi => absurd hi (Nat.not_lt_zero _)⟩
  · simp at hcs
    obtain ⟨rfl, rfl, rfl⟩ := hcs
    have hlm : len ≤ m := by rw [hmm]; split <;> omega
    have hce : Tryz.prog.cellsOf 22 = 1 := by kernel_rfl
    have each : ∀ i, i < len → ∃ t : Cf, (∃ (b off : Nat) (a0 : Option Addr) (c0 : Nat), x = ⟨b, off, none⟩ ∧ b < W.heap.size ∧
        W.cell? ⟨b, off + i, none⟩ = some (.slice a0 t.n c0) ∧ RowF false a0 t.n t.T W) ∧ MaxCf t := by
      intro i hi
      have hx : ∃ b off, x = ⟨b, off, none⟩ := by
        obtain ⟨cs0, h1, _⟩ := hel 0 (by omega)
        rw [hce] at h1
        obtain ⟨_, hlen, hcell⟩ := World.cells?_some h1
        have := hcell 0 (by omega)
        rw [List.getElem?_eq_getElem (by omega)] at this
        exact addr_plain (by simpa [Addr.add] using this)
      obtain ⟨b, off, rfl⟩ := hx
      obtain ⟨cs', h1, h2⟩ := hel i (by omega)
      rw [hce] at h1
      obtain ⟨_, hlen, hcell⟩ := World.cells?_some h1
      obtain ⟨v0, rfl⟩ := List.length_eq_one_iff.1 hlen
      obtain ⟨a0, n0, c0, hw0⟩ := slice_form Tryz.underlying22 h2
      simp at hw0
      subst hw0
      obtain ⟨hl0, f, hR0, hX⟩ := open_leaves h2
      have c1 := hcell 0 (by omega)
      rw [add_add, Addr.add_mid] at c1
      have hb := World.block_lt_of_cell? W _ c1
      exact ⟨⟨n0, f⟩, ⟨b, off, a0, c0, rfl, hb, by simpa using c1, hR0⟩, hl0, hX⟩
    obtain ⟨T, hT⟩ := choose_cf each
    refine ⟨Nat.le_trans hl hm, hl, T, fun i hi => ?_, fun i hi => (hT i hi).2⟩
    obtain ⟨b, off, a0, c0, hx, hr⟩ := (hT i hi).1
    exact ⟨b, off, a0, c0, by rw [hx], hr⟩
set_option maxRecDepth 100000 in
theorem open_store {H : Type} {enc : TypeId × Value → H} {W : World} {base : Nat} {spare : Nat → Bool} {held : Bool} {fuel : Nat} {vs : List Value} {y : DataW H × List MemPlace} (hvs : vs.length = 4)
    (h : DataW.trod enc Tryz.prog W base spare held fuel 25 vs = some y) : ∃ (s : Sto), MaxSt s ∧ RowSt false (.agg vs.toArray) s W := by
  have ci : Tryz.prog.cellsOf 3 = 1 := by kernel_rfl
  have cl : Tryz.prog.cellsOf 22 = 1 := by kernel_rfl
  have cs : Tryz.prog.cellsOf 23 = 1 := by kernel_rfl
  obtain ⟨v0, v1, v2, v3, rfl⟩ := list4s hvs
  obtain ⟨xs, k, hk, hxy, _, hxl, hf⟩ := DataW.trod_struct Tryz.underlying25 h
  obtain ⟨y0, y1, y2, y3, rfl⟩ := list4s (show xs.length = 4 by rw [hxl]; rfl)
  have g0 := hf 0 _ rfl
  have g1 := hf 1 _ rfl
  have g2 := hf 2 _ rfl
  have g3 := hf 3 _ rfl
  simp [ci, cl, cs] at g0 g1 g2 g3
  obtain ⟨ca, cn, cc, hw0⟩ := slice_form Tryz.underlying22 g0
  obtain ⟨ra, rn, rc, hw1⟩ := slice_form Tryz.underlying22 g1
  obtain ⟨ha, hn, hc, hw2⟩ := slice_form Tryz.underlying23 g2
  obtain ⟨l, hw3, _⟩ := DataW.trod_int Tryz.underlying3 g3
  simp at hw0 hw1 hw2 hw3
  subst hw0 hw1 hw2 hw3
  obtain ⟨l0, T0, R0, X0⟩ := open_leaves g0
  obtain ⟨l1, T1, R1, X1⟩ := open_leaves g1
  obtain ⟨l2, k2, T2, R2, X2⟩ := open_leafSS g2
  exact ⟨⟨⟨cn, T0⟩, ⟨rn, T1⟩, hn, T2, l⟩, ⟨⟨l0, X0⟩, ⟨l1, X1⟩, l2, X2⟩, ca, cc, ra, rc, ha, hc, rfl, R0, R1, R2, k2⟩
end Go.Proofs.YtnficndeblkjhaaGreatDoor

namespace Go.Proofs.YtnficndeblkjhaaGreatDoor
open Go.ChangeShapes Go.WideShapes Go.ChangeAt Go.RowKit Go.Deep Go.Joins

theorem list4o {α : Type} {l : List α} (h : l.length = 4) : ∃ a b c d, l = [a, b, c, d] := by
  match l, h with
  | [a, b, c, d], _ => exact ⟨a, b, c, d, rfl⟩
set_option maxRecDepth 100000 in
theorem open_op {H : Type} {enc : TypeId × Value → H} {W : World} {base : Nat} {spare : Nat → Bool} {held : Bool} {fuel : Nat} {vs : List Value} {y : DataW H × List MemPlace} (hvs : vs.length = 4)
    (h : DataW.trod enc Tryz.prog W base spare held fuel 28 vs = some y) : ∃ (k N : Int) (a : Option Addr) (n c : Nat) (f : Nat → ByteArray) (s : ByteArray), vs = [.int .i64 k, .slice a n c, .string s, .int .i64 N] ∧ n ≤ maxLen ∧ (∀ i, i < n → (f i).size ≤ maxLen) ∧ s.size ≤ maxLen ∧ RowStr a n f W := by
  have ci : Tryz.prog.cellsOf 3 = 1 := by kernel_rfl
  have cs : Tryz.prog.cellsOf 9 = 1 := by kernel_rfl
  have cl : Tryz.prog.cellsOf 26 = 1 := by kernel_rfl
  obtain ⟨vb, v0, v1, v2, rfl⟩ := list4o hvs
  obtain ⟨xs, k, hk, hxy, _, hxl, hf⟩ := DataW.trod_struct Tryz.underlying28 h
  obtain ⟨yb, y0, y1, y2, rfl⟩ := list4o (show xs.length = 4 by rw [hxl]; rfl)
  have gb := hf 0 _ rfl
  have g0 := hf 1 _ rfl
  have g1 := hf 2 _ rfl
  have g2 := hf 3 _ rfl
  simp [ci, cs, cl] at gb g0 g1 g2
  obtain ⟨b, hwb, _⟩ := DataW.trod_int Tryz.underlying3 gb
  obtain ⟨a0, n0, c0, hw0⟩ := slice_form Tryz.underlying26 g0
  obtain ⟨s, hw1, _, hs⟩ := DataW.trod_string Tryz.underlying9 g1
  obtain ⟨N, hw2, _⟩ := DataW.trod_int Tryz.underlying3 g2
  simp at hwb hw0 hw1 hw2
  subst hwb hw0 hw1 hw2
  obtain ⟨hl0, f, hR0, hX⟩ := open_rowString g0
  exact ⟨b, N, a0, n0, c0, f, s, rfl, hl0, hX, hs, hR0⟩
end Go.Proofs.YtnficndeblkjhaaGreatDoor
