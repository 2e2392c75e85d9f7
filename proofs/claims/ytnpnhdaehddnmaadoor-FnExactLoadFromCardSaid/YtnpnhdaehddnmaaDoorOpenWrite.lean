/- A list of Write that came in, opened: its cells. -/
import Derived.Test.YtnpnhdaehddnmaaDoorFlatWrite
import Derived.Test.YtnpnhdaehddnmaaDoorOpenKit
namespace Go.Proofs.YtnpnhdaehddnmaaDoor
open Go.ChangeShapes Go.WideShapes Go.ChangeAt Go.RowKit Go.Deep

set_option maxRecDepth 100000 in
theorem open_rowWrite {H : Type} {enc : TypeId × Value → H} {W : World} {base : Nat} {spare : Nat → Bool} {held : Bool} {fuel : Nat} {a : Option Addr} {len cap : Nat} {y : DataW H × List MemPlace}
    (h : DataW.trod enc Tryd.prog W base spare held fuel 23 [.slice a len cap] = some y) : len ≤ maxLen ∧ ∃ f0 f1, RowWrite a len f0 f1 W ∧ ∀ i, i < len → (f1 i).size ≤ maxLen := by
  rcases open_slice Tryd.underlying23 h with ⟨hcs, _⟩ | ⟨x, l, c, m, n, D, Pl, hcs, _, hl, hm, hmm, _, hel⟩
  · simp at hcs
    obtain ⟨rfl, rfl, rfl⟩ := hcs
    exact ⟨Nat.zero_le _, fun _ => 0, fun _ => ByteArray.empty, fun i hi => absurd hi (Nat.not_lt_zero _), fun i hi => absurd hi (Nat.not_lt_zero _)⟩
  · simp at hcs
    obtain ⟨rfl, rfl, rfl⟩ := hcs
    have hlm : len ≤ m := by rw [hmm]; split <;> omega
    have hce : Tryd.prog.cellsOf 69 = 2 := by kernel_rfl
    have ci : Tryd.prog.cellsOf 3 = 1 := by kernel_rfl
    have cs : Tryd.prog.cellsOf 9 = 1 := by kernel_rfl
    have each : ∀ i, i < len → ∃ q : Int × ByteArray, q.2.size ≤ maxLen ∧ ∃ b off, x = ⟨b, off, none⟩ ∧ b < W.heap.size ∧ W.cell? ⟨b, off + i * 2, none⟩ = some (.int .i64 q.1) ∧ W.cell? ⟨b, off + i * 2 + 1, none⟩ = some (.string q.2) := by
      intro i hi
      have hx : ∃ b off, x = ⟨b, off, none⟩ := by
        obtain ⟨cs0, h1, _⟩ := hel 0 (by omega)
        rw [hce] at h1
        obtain ⟨_, hlen, hcell⟩ := World.cells?_some h1
        have := hcell 0 (by omega)
        rw [List.getElem?_eq_getElem (by omega)] at this
        exact addr_plain (by simpa [Addr.add] using this)
      obtain ⟨b, off, rfl⟩ := hx
      obtain ⟨cs', h1, h2⟩ := hel i (by omega)
      rw [hce] at h1
      obtain ⟨_, hlen, hcell⟩ := World.cells?_some h1
      obtain ⟨v0, v1, rfl⟩ := list2 hlen
      obtain ⟨xs, k, hk, hxy, _, hxl, hf⟩ := DataW.trod_struct Tryd.underlying69 h2
      obtain ⟨y0, y1, rfl⟩ := list2 (show xs.length = 2 by rw [hxl]; rfl)
      have g0 := hf 0 _ rfl
      have g1 := hf 1 _ rfl
      simp [ci, cs] at g0 g1
      obtain ⟨w0, hw0, _⟩ := DataW.trod_int Tryd.underlying3 g0
      obtain ⟨w1, hw1, _, hsb⟩ := DataW.trod_string Tryd.underlying9 g1
      simp at hw0 hw1
      subst hw0 hw1
      have c0 := hcell 0 (by omega)
      have c1 := hcell 1 (by omega)
      rw [add_add, Addr.add_mid] at c0 c1
      have hb := World.block_lt_of_cell? W _ c0
      exact ⟨(w0, w1), hsb, b, off, rfl, hb, by simpa using c0, by simpa [Nat.add_assoc] using c1⟩
    obtain ⟨q, hq⟩ := choose_lt each
    refine ⟨Nat.le_trans hl hm, fun i => (q i).1, fun i => (q i).2, fun i hi => ?_, fun i hi => (hq i hi).1⟩
    obtain ⟨_, b, off, hx, h⟩ := hq i hi
    exact ⟨b, off, by rw [hx], h⟩
end Go.Proofs.YtnpnhdaehddnmaaDoor
