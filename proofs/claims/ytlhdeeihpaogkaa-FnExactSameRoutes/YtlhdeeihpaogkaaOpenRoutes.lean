/- Lists of routes that came in, opened. -/
import Derived.Test.YtlhdeeihpaogkaaRou14
import Derived.Test.YtlhdeeihpaogkaaOpenRoute
import Derived.Test.YtlhdeeihpaogkaaOpenKit
import Derived.Lib.SmallJoins
namespace Go.Proofs.Ytlhdeeihpaogkaa
open Go.ChangeShapes Go.WideShapes Go.ChangeAt Go.RowKit Go.Deep Go.Joins

theorem choose_ro {len : Nat} {p : Nat → Ro → Prop} (h : ∀ i, i < len → ∃ q, p i q) : ∃ f : Nat → Ro, ∀ i, i < len → p i (f i) := by
  refine ⟨fun i => if hi : i < len then Classical.choose (h i hi) else ro0, fun i hi => ?_⟩
  simp only [dif_pos hi]
  exact Classical.choose_spec (h i hi)
set_option maxRecDepth 100000 in
theorem open_routes {H : Type} {enc : TypeId × Value → H} {W : World} {base : Nat} {spare : Nat → Bool} {held : Bool} {fuel : Nat} {a : Option Addr} {len cap : Nat} {y : DataW H × List MemPlace}
    (h : DataW.trod enc Try.prog W base spare held fuel 22 [.slice a len cap] = some y) : len ≤ maxLen ∧ ∃ T, RowG a len T W ∧ MaxG len T := by
  rcases open_slice Try.underlying22 h with ⟨hcs, _⟩ | ⟨x, l, c, m, n, D, Pl, hcs, _, hl, hm, hmm, _, hel⟩
  · simp at hcs
    obtain ⟨rfl, rfl, rfl⟩ := hcs
    exact ⟨Nat.zero_le _, fun _ => ro0, fun i hi => absurd hi (Nat.not_lt_zero _), fun i hi => absurd hi (Nat.not_lt_zero _)⟩
  · simp at hcs
    obtain ⟨rfl, rfl, rfl⟩ := hcs
    have hlm : len ≤ m := by rw [hmm]; split <;> omega
    have hce : Try.prog.cellsOf 56 = 8 := by kernel_rfl
    have each : ∀ i, i < len → ∃ t : Ro, (∃ (b off : Nat) (a0 : Option Addr) (c0 : Nat) (a1 : Option Addr) (c1 : Nat), x = ⟨b, off, none⟩ ∧ CellsO W b (off + i * 8) (rvG t a0 c0 a1 c1) ∧ RowInt a0 t.n0 t.f W ∧ RowInt a1 t.n1 t.g W) ∧ t.n0 ≤ maxLen ∧ t.n1 ≤ maxLen := by
      intro i hi
      have hx : ∃ b off, x = ⟨b, off, none⟩ := by
        obtain ⟨cs0, h1, _⟩ := hel 0 (by omega)
        rw [hce] at h1
        obtain ⟨_, hlen, hcell⟩ := World.cells?_some h1
        have := hcell 0 (by omega)
        rw [List.getElem?_eq_getElem (by omega)] at this
        exact addr_plain (by simpa [Addr.add] using this)
      obtain ⟨b, off, rfl⟩ := hx
      obtain ⟨cs', h1, h2⟩ := hel i (by omega)
      rw [hce] at h1
      obtain ⟨_, hlen, hcell⟩ := World.cells?_some h1
      obtain ⟨pa, pl, o, nx, md, pf, a0, n0, c0, f, a1, n1, c1, g, rfl, l0, R0, l1, R1⟩ := open_route hlen h2
      have cA := hcell 0 (by omega)
      have cB := hcell 1 (by omega)
      have cC := hcell 2 (by omega)
      have cD := hcell 3 (by omega)
      have cE := hcell 4 (by omega)
      have cF := hcell 5 (by omega)
      have cG := hcell 6 (by omega)
      have cH := hcell 7 (by omega)
      rw [add_add, Addr.add_mid] at cA cB cC cD cE cF cG cH
      have hb := World.block_lt_of_cell? W _ cA
      exact ⟨⟨pa, pl, o, nx, md, pf, n0, f, n1, g⟩, ⟨b, off, a0, _, a1, _, rfl, cellsO_of8r hb (by simpa using cA) (by simpa [Nat.add_assoc] using cB) (by simpa [Nat.add_assoc] using cC) (by simpa [Nat.add_assoc] using cD) (by simpa [Nat.add_assoc] using cE) (by simpa [Nat.add_assoc] using cF) (by simpa [Nat.add_assoc] using cG) (by simpa [Nat.add_assoc] using cH), R0, R1⟩, l0, l1⟩
    obtain ⟨T, hT⟩ := choose_ro each
    refine ⟨Nat.le_trans hl hm, T, fun i hi => ?_, fun i hi => (hT i hi).2⟩
    obtain ⟨b, off, a0, c0, a1, c1, hx, hr⟩ := (hT i hi).1
    exact ⟨b, off, a0, c0, a1, c1, by rw [hx], hr⟩
end Go.Proofs.Ytlhdeeihpaogkaa
