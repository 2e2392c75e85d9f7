/- A list of Arc that came in, opened: its cells. -/
import Derived.Test.YtelehmkmdbhcfaaFlatArc
import Derived.Test.YtelehmkmdbhcfaaOpenKit
namespace Go.Proofs.Ytelehmkmdbhcfaa
open Go.ChangeShapes Go.WideShapes Go.ChangeAt Go.RowKit Go.Deep

set_option maxRecDepth 100000 in
theorem open_rowArc {H : Type} {enc : TypeId × Value → H} {W : World} {base : Nat} {spare : Nat → Bool} {held : Bool} {fuel : Nat} {a : Option Addr} {len cap : Nat} {y : DataW H × List MemPlace}
    (h : DataW.trod enc Try.prog W base spare held fuel 25 [.slice a len cap] = some y) : len ≤ maxLen ∧ ∃ f0 f1 f2, RowArc a len f0 f1 f2 W := by
  rcases open_slice Try.underlying25 h with ⟨hcs, _⟩ | ⟨x, l, c, m, n, D, Pl, hcs, _, hl, hm, hmm, _, hel⟩
  · simp at hcs
    obtain ⟨rfl, rfl, rfl⟩ := hcs
    exact ⟨Nat.zero_le _, fun _ => 0, fun _ => 0, fun _ => 0, fun i hi => absurd hi (Nat.not_lt_zero _)⟩
  · simp at hcs
    obtain ⟨rfl, rfl, rfl⟩ := hcs
    have hlm : len ≤ m := by rw [hmm]; split <;> omega
    have hce : Try.prog.cellsOf 52 = 3 := by kernel_rfl
    have ci : Try.prog.cellsOf 3 = 1 := by kernel_rfl
    have each : ∀ i, i < len → ∃ q : Int × Int × Int, ∃ b off, x = ⟨b, off, none⟩ ∧ b < W.heap.size ∧ W.cell? ⟨b, off + i * 3, none⟩ = some (.int .i64 q.1) ∧ W.cell? ⟨b, off + i * 3 + 1, none⟩ = some (.int .i64 q.2.1) ∧ W.cell? ⟨b, off + i * 3 + 2, none⟩ = some (.int .i64 q.2.2) := by
      intro i hi
      have hx : ∃ b off, x = ⟨b, off, none⟩ := by
        obtain ⟨cs0, h1, _⟩ := hel 0 (by omega)
        rw [hce] at h1
        obtain ⟨_, hlen, hcell⟩ := World.cells?_some h1
        have := hcell 0 (by omega)
        rw [List.getElem?_eq_getElem (by omega)] at this
        exact addr_plain (by simpa [Addr.add] using this)
      obtain ⟨b, off, rfl⟩ := hx
      obtain ⟨cs', h1, h2⟩ := hel i (by omega)
      rw [hce] at h1
      obtain ⟨_, hlen, hcell⟩ := World.cells?_some h1
      obtain ⟨v0, v1, v2, rfl⟩ := list3 hlen
      obtain ⟨xs, k, hk, hxy, _, hxl, hf⟩ := DataW.trod_struct Try.underlying52 h2
      obtain ⟨y0, y1, y2, rfl⟩ := list3 (show xs.length = 3 by rw [hxl]; rfl)
      have g0 := hf 0 _ rfl
      have g1 := hf 1 _ rfl
      have g2 := hf 2 _ rfl
      simp [ci] at g0 g1 g2
      obtain ⟨w0, hw0, _⟩ := DataW.trod_int Try.underlying3 g0
      obtain ⟨w1, hw1, _⟩ := DataW.trod_int Try.underlying3 g1
      obtain ⟨w2, hw2, _⟩ := DataW.trod_int Try.underlying3 g2
      simp at hw0 hw1 hw2
      subst hw0 hw1 hw2
      have c0 := hcell 0 (by omega)
      have c1 := hcell 1 (by omega)
      have c2 := hcell 2 (by omega)
      rw [add_add, Addr.add_mid] at c0 c1 c2
      have hb := World.block_lt_of_cell? W _ c0
      exact ⟨(w0, w1, w2), b, off, rfl, hb, by simpa using c0, by simpa [Nat.add_assoc] using c1, by simpa [Nat.add_assoc] using c2⟩
    obtain ⟨q, hq⟩ := choose_lt each
    refine ⟨Nat.le_trans hl hm, fun i => (q i).1, fun i => (q i).2.1, fun i => (q i).2.2, fun i hi => ?_⟩
    obtain ⟨b, off, hx, h⟩ := hq i hi
    exact ⟨b, off, by rw [hx], h⟩
end Go.Proofs.Ytelehmkmdbhcfaa
