/- Problems that came in, opened. -/
import Derived.Test.YtcnlabedlcmilaaSp10
import Derived.Test.YtcnlabedlcmilaaOpenAlgebra
namespace Go.Proofs.Ytcnlabedlcmilaa
open Go.ChangeShapes Go.WideShapes Go.ChangeAt Go.RowKit Go.Deep Go.Joins

theorem choose_pl {len : Nat} {p : Nat → Pl → Prop} (h : ∀ i, i < len → ∃ q, p i q) : ∃ f : Nat → Pl, ∀ i, i < len → p i (f i) := by
  refine ⟨fun i => if hi : i < len then Classical.choose (h i hi) else pl0, fun i hi => ?_⟩
  simp only [dif_pos hi]
  exact Classical.choose_spec (h i hi)
theorem arr1a {α : Type} {cs : Array α} (h : cs.size = 1) : ∃ a, cs = #[a] := by
  obtain ⟨l⟩ := cs
  obtain ⟨a, rfl⟩ := List.length_eq_one_iff.1 (show l.length = 1 from h)
  exact ⟨a, rfl⟩
set_option maxRecDepth 100000 in
theorem open_rowS3 {H : Type} {enc : TypeId × Value → H} {W : World} {base : Nat} {spare : Nat → Bool} {held : Bool} {fuel : Nat} {a : Option Addr} {len cap : Nat} {y : DataW H × List MemPlace}
    (h : DataW.trod enc Try.prog W base spare held fuel 22 [.slice a len cap] = some y) : len ≤ maxLen ∧ ∃ U, RowS3 a len U W ∧ MaxS len U := by
  rcases open_slice Try.underlying22 h with ⟨hcs, _⟩ | ⟨x, l, c, m, n, D, Pl, hcs, _, hl, hm, hmm, _, hel⟩
  · simp at hcs
    obtain ⟨rfl, rfl, rfl⟩ := hcs
    exact ⟨Nat.zero_le _, fun _ => pl0, fun i hi => absurd hi (Nat.not_lt_zero _), fun i hi => absurd hi (Nat.not_lt_zero _)⟩
  · simp at hcs
    obtain ⟨rfl, rfl, rfl⟩ := hcs
    have hlm : len ≤ m := by rw [hmm]; split <;> omega
    have hce : Try.prog.cellsOf 44 = 1 := by kernel_rfl
    have each : ∀ i, i < len → ∃ t : Go.Proofs.Ytcnlabedlcmilaa.Pl, (∃ (b off : Nat) (a0 : Option Addr) (c0 : Nat), x = ⟨b, off, none⟩ ∧ b < W.heap.size ∧
        W.cell? ⟨b, off + i, none⟩ = some (.slice a0 t.n c0) ∧ RowLL a0 t.n t.T W) ∧ t.n ≤ maxLen ∧ MaxL t.n t.T := by
      intro i hi
      have hx : ∃ b off, x = ⟨b, off, none⟩ := by
        obtain ⟨cs0, h1, _⟩ := hel 0 (by omega)
        rw [hce] at h1
        obtain ⟨_, hlen, hcell⟩ := World.cells?_some h1
        have := hcell 0 (by omega)
        rw [List.getElem?_eq_getElem (by omega)] at this
        exact addr_plain (by simpa [Addr.add] using this)
      obtain ⟨b, off, rfl⟩ := hx
      obtain ⟨cs', h1, h2⟩ := hel i (by omega)
      rw [hce] at h1
      obtain ⟨_, hlen, hcell⟩ := World.cells?_some h1
      obtain ⟨v0, rfl⟩ := List.length_eq_one_iff.1 hlen
      obtain ⟨a0, n0, c0, hw0⟩ := slice_form Try.underlying44 h2
      simp at hw0
      subst hw0
      obtain ⟨hl0, f, hR0, hX0⟩ := open_rowLL h2
      have c1 := hcell 0 (by omega)
      rw [add_add, Addr.add_mid] at c1
      have hb := World.block_lt_of_cell? W _ c1
      exact ⟨⟨n0, f⟩, ⟨b, off, a0, c0, rfl, hb, by simpa using c1, hR0⟩, hl0, hX0⟩
    obtain ⟨T, hT⟩ := choose_pl each
    refine ⟨Nat.le_trans hl hm, T, fun i hi => ?_, fun i hi => (hT i hi).2⟩
    obtain ⟨b, off, a0, c0, hx, hr⟩ := (hT i hi).1
    exact ⟨b, off, a0, c0, by rw [hx], hr⟩
set_option maxRecDepth 100000 in
theorem open_spp {H : Type} {enc : TypeId × Value → H} {W : World} {base : Nat} {spare : Nat → Bool} {held : Bool} {fuel : Nat} {vs : List Value} {y : DataW H × List MemPlace} (hvs : vs.length = 1)
    (h : DataW.trod enc Try.prog W base spare held fuel 24 vs = some y) : ∃ (a : Option Addr) (n c : Nat) (U : Nat → Pl), vs = [.slice a n c] ∧ n ≤ maxLen ∧ MaxS n U ∧ RowS3 a n U W := by
  have cl : Try.prog.cellsOf 22 = 1 := by kernel_rfl
  obtain ⟨v0, rfl⟩ := List.length_eq_one_iff.1 hvs
  obtain ⟨xs, k, hk, hxy, _, hxl, hf⟩ := DataW.trod_struct Try.underlying24 h
  obtain ⟨y0, rfl⟩ := List.length_eq_one_iff.1 (show xs.length = 1 by rw [hxl]; rfl)
  have g0 := hf 0 _ rfl
  simp [cl] at g0
  obtain ⟨a0, n0, c0, hw1⟩ := slice_form Try.underlying22 g0
  simp at hw1
  subst hw1
  obtain ⟨hl0, U, hR0, hX⟩ := open_rowS3 g0
  exact ⟨a0, n0, c0, U, rfl, hl0, hX, hR0⟩
end Go.Proofs.Ytcnlabedlcmilaa
