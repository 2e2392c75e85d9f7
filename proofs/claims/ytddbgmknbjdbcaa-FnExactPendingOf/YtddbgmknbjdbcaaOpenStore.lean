/- Lists of lists of leaves and stores that came in, opened. -/
import Derived.Test.YtddbgmknbjdbcaaPlain16
import Derived.Test.YtddbgmknbjdbcaaOpenLeaf
namespace Go.Proofs.Ytddbgmknbjdbcaa
open Go.ChangeShapes Go.WideShapes Go.ChangeAt Go.RowKit Go.Deep Go.Joins

theorem choose_cf {len : Nat} {p : Nat → Cf → Prop} (h : ∀ i, i < len → ∃ q, p i q) : ∃ f : Nat → Cf, ∀ i, i < len → p i (f i) := by
  refine ⟨fun i => if hi : i < len then Classical.choose (h i hi) else cf0, fun i hi => ?_⟩
  simp only [dif_pos hi]
  exact Classical.choose_spec (h i hi)
theorem list4s {α : Type} {l : List α} (h : l.length = 4) : ∃ a b c d, l = [a, b, c, d] := by
  match l, h with
  | [a, b, c, d], _ => exact ⟨a, b, c, d, rfl⟩
theorem arr4s {α : Type} {cs : Array α} (h : cs.size = 4) : ∃ a b c d, cs = #[a, b, c, d] := by
  obtain ⟨l⟩ := cs
  obtain ⟨a, b, c, d, rfl⟩ := list4s (show l.length = 4 from h)
  exact ⟨a, b, c, d, rfl⟩
set_option maxRecDepth 100000 in
theorem open_leafSS {H : Type} {enc : TypeId × Value → H} {W : World} {base : Nat} {spare : Nat → Bool} {held : Bool} {fuel : Nat} {a : Option Addr} {len cap : Nat} {y : DataW H × List MemPlace}
    (h : DataW.trod enc Try.prog W base spare held fuel 31 [.slice a len cap] = some y) : len ≤ maxLen ∧ len ≤ cap ∧ ∃ T, RowX false a len T W ∧ ∀ i, i < len → MaxCf (T i) := by
  rcases open_slice Try.underlying31 h with ⟨hcs, _⟩ | ⟨x, l, c, m, n, D, Pl, hcs, _, hl, hm, hmm, _, hel⟩
  · simp at hcs
    obtain ⟨rfl, rfl, rfl⟩ := hcs
    exact ⟨Nat.zero_le _, Nat.zero_le _, fun _ => cf0, fun i hi => absurd hi (Nat.not_lt_zero _), fun i hi => absurd hi (Nat.not_lt_zero _)⟩
  · simp at hcs
    obtain ⟨rfl, rfl, rfl⟩ := hcs
    have hlm : len ≤ m := by rw [hmm]; split <;> omega
    have hce : Try.prog.cellsOf 30 = 1 := by kernel_rfl
    have each : ∀ i, i < len → ∃ t : Cf, (∃ (b off : Nat) (a0 : Option Addr) (c0 : Nat), x = ⟨b, off, none⟩ ∧ b < W.heap.size ∧
        W.cell? ⟨b, off + i, none⟩ = some (.slice a0 t.n c0) ∧ RowF false a0 t.n t.T W) ∧ MaxCf t := by
      intro i hi
      have hx : ∃ b off, x = ⟨b, off, none⟩ := by
        obtain ⟨cs0, h1, _⟩ := hel 0 (by omega)
        rw [hce] at h1
        obtain ⟨_, hlen, hcell⟩ := World.cells?_some h1
        have := hcell 0 (by omega)
        rw [List.getElem?_eq_getElem (by omega)] at this
        exact addr_plain (by simpa [Addr.add] using this)
      obtain ⟨b, off, rfl⟩ := hx
      obtain ⟨cs', h1, h2⟩ := hel i (by omega)
      rw [hce] at h1
      obtain ⟨_, hlen, hcell⟩ := World.cells?_some h1
      obtain ⟨v0, rfl⟩ := List.length_eq_one_iff.1 hlen
      obtain ⟨a0, n0, c0, hw0⟩ := slice_form Try.underlying30 h2
      simp at hw0
      subst hw0
      obtain ⟨hl0, f, hR0, hX⟩ := open_leaves h2
      have c1 := hcell 0 (by omega)
      rw [add_add, Addr.add_mid] at c1
      have hb := World.block_lt_of_cell? W _ c1
      exact ⟨⟨n0, f⟩, ⟨b, off, a0, c0, rfl, hb, by simpa using c1, hR0⟩, hl0, hX⟩
    obtain ⟨T, hT⟩ := choose_cf each
    refine ⟨Nat.le_trans hl hm, hl, T, fun i hi => ?_, fun i hi => (hT i hi).2⟩
    obtain ⟨b, off, a0, c0, hx, hr⟩ := (hT i hi).1
    exact ⟨b, off, a0, c0, by rw [hx], hr⟩
set_option maxRecDepth 100000 in
theorem open_store {H : Type} {enc : TypeId × Value → H} {W : World} {base : Nat} {spare : Nat → Bool} {held : Bool} {fuel : Nat} {vs : List Value} {y : DataW H × List MemPlace} (hvs : vs.length = 4)
    (h : DataW.trod enc Try.prog W base spare held fuel 33 vs = some y) : ∃ (s : Sto), MaxSt s ∧ RowSt false (.agg vs.toArray) s W := by
  have ci : Try.prog.cellsOf 3 = 1 := by kernel_rfl
  have cl : Try.prog.cellsOf 30 = 1 := by kernel_rfl
  have cs : Try.prog.cellsOf 31 = 1 := by kernel_rfl
  obtain ⟨v0, v1, v2, v3, rfl⟩ := list4s hvs
  obtain ⟨xs, k, hk, hxy, _, hxl, hf⟩ := DataW.trod_struct Try.underlying33 h
  obtain ⟨y0, y1, y2, y3, rfl⟩ := list4s (show xs.length = 4 by rw [hxl]; rfl)
  have g0 := hf 0 _ rfl
  have g1 := hf 1 _ rfl
  have g2 := hf 2 _ rfl
  have g3 := hf 3 _ rfl
  simp [ci, cl, cs] at g0 g1 g2 g3
  obtain ⟨ca, cn, cc, hw0⟩ := slice_form Try.underlying30 g0
  obtain ⟨ra, rn, rc, hw1⟩ := slice_form Try.underlying30 g1
  obtain ⟨ha, hn, hc, hw2⟩ := slice_form Try.underlying31 g2
  obtain ⟨l, hw3, _⟩ := DataW.trod_int Try.underlying3 g3
  simp at hw0 hw1 hw2 hw3
  subst hw0 hw1 hw2 hw3
  obtain ⟨l0, T0, R0, X0⟩ := open_leaves g0
  obtain ⟨l1, T1, R1, X1⟩ := open_leaves g1
  obtain ⟨l2, k2, T2, R2, X2⟩ := open_leafSS g2
  exact ⟨⟨⟨cn, T0⟩, ⟨rn, T1⟩, hn, T2, l⟩, ⟨⟨l0, X0⟩, ⟨l1, X1⟩, l2, X2⟩, ca, cc, ra, rc, ha, hc, rfl, R0, R1, R2, k2⟩
end Go.Proofs.Ytddbgmknbjdbcaa
