/- Rows of Range in memory, and what the laws do with them: handed over, compared. -/
import Derived.Test.YtelehmkmdbhcfaaW0
namespace Go.Proofs.Ytelehmkmdbhcfaa
open Go.RowKit

/-- n of them at a, told by f0 f1 f2 f3. -/
def RowRange (a : Option Addr) (n : Nat) (f0 : Nat → Int) (f1 : Nat → Int) (f2 : Nat → Int) (f3 : Nat → Int) (w : World) : Prop := ∀ i, i < n → ∃ b off, a = some ⟨b, off, none⟩ ∧ b < w.heap.size ∧
  w.cell? ⟨b, off + i * 4, none⟩ = some (.int .i64 (f0 i)) ∧ w.cell? ⟨b, off + i * 4 + 1, none⟩ = some (.int .i64 (f1 i)) ∧ w.cell? ⟨b, off + i * 4 + 2, none⟩ = some (.int .i64 (f2 i)) ∧ w.cell? ⟨b, off + i * 4 + 3, none⟩ = some (.int .i64 (f3 i))
theorem RowRange.below {a : Option Addr} {n : Nat} {f0 : Nat → Int} {f1 : Nat → Int} {f2 : Nat → Int} {f3 : Nat → Int} {w w' : World} (h : RowRange a n f0 f1 f2 f3 w) (k : Below w.heap.size w w') : RowRange a n f0 f1 f2 f3 w' := by
  intro i hi
  obtain ⟨b, off, ha, hb, h0, h1, h2, h3⟩ := h i hi
  obtain ⟨hc, _⟩ := bcell k
  exact ⟨b, off, ha, Nat.lt_of_lt_of_le hb k.size, (hc _ _ hb).trans h0, (hc _ _ hb).trans h1, (hc _ _ hb).trans h2, (hc _ _ hb).trans h3⟩

/-- A row of n of them in block c, the first k told; it may be written. -/
def OutRange (c n k : Nat) (f0 : Nat → Int) (f1 : Nat → Int) (f2 : Nat → Int) (f3 : Nat → Int) (w : World) : Prop := c < w.heap.size ∧ ∀ i, i < n →
  (∃ (x0 : Int) (x1 : Int) (x2 : Int) (x3 : Int), w.cell? ⟨c, i * 4, none⟩ = some (.int .i64 x0) ∧ w.cell? ⟨c, i * 4 + 1, none⟩ = some (.int .i64 x1) ∧ w.cell? ⟨c, i * 4 + 2, none⟩ = some (.int .i64 x2) ∧ w.cell? ⟨c, i * 4 + 3, none⟩ = some (.int .i64 x3) ∧ (i < k → x0 = f0 i ∧ x1 = f1 i ∧ x2 = f2 i ∧ x3 = f3 i)) ∧
  w.frozen? ⟨c, i * 4, none⟩ = false ∧ w.frozen? ⟨c, i * 4 + 1, none⟩ = false ∧ w.frozen? ⟨c, i * 4 + 2, none⟩ = false ∧ w.frozen? ⟨c, i * 4 + 3, none⟩ = false
theorem OutRange.below {c n k : Nat} {f0 : Nat → Int} {f1 : Nat → Int} {f2 : Nat → Int} {f3 : Nat → Int} {w w' : World} (h : OutRange c n k f0 f1 f2 f3 w) (hb : Below w.heap.size w w') : OutRange c n k f0 f1 f2 f3 w' := by
  obtain ⟨hc, hf⟩ := bcell hb
  refine ⟨Nat.lt_of_lt_of_le h.1 hb.size, fun i hi => ?_⟩
  obtain ⟨⟨x0, x1, x2, x3, h0, h1, h2, h3, hk⟩, g0, g1, g2, g3⟩ := h.2 i hi
  exact ⟨⟨x0, x1, x2, x3, (hc _ _ h.1).trans h0, (hc _ _ h.1).trans h1, (hc _ _ h.1).trans h2, (hc _ _ h.1).trans h3, hk⟩, (hf _ _ h.1).trans g0, (hf _ _ h.1).trans g1, (hf _ _ h.1).trans g2, (hf _ _ h.1).trans g3⟩
theorem OutRange.row {c n : Nat} {f0 : Nat → Int} {f1 : Nat → Int} {f2 : Nat → Int} {f3 : Nat → Int} {w : World} (h : OutRange c n n f0 f1 f2 f3 w) : RowRange (some ⟨c, 0, none⟩) n f0 f1 f2 f3 w := by
  intro i hi
  obtain ⟨⟨x0, x1, x2, x3, h0, h1, h2, h3, hk⟩, g0, g1, g2, g3⟩ := h.2 i hi
  obtain ⟨rfl, rfl, rfl, rfl⟩ := hk hi
  exact ⟨c, 0, rfl, h.1, by rw [Nat.zero_add]; exact h0, by rw [Nat.zero_add]; exact h1, by rw [Nat.zero_add]; exact h2, by rw [Nat.zero_add]; exact h3⟩
theorem OutRange.set {c n k : Nat} {f0 : Nat → Int} {f1 : Nat → Int} {f2 : Nat → Int} {f3 : Nat → Int} {w : World} (h : OutRange c n k f0 f1 f2 f3 w) (hk : k < n) : OutRange c n (k + 1) f0 f1 f2 f3 ((((w.setCell ⟨c, k * 4, none⟩ (.int .i64 (f0 k))).setCell ⟨c, k * 4 + 1, none⟩ (.int .i64 (f1 k))).setCell ⟨c, k * 4 + 2, none⟩ (.int .i64 (f2 k))).setCell ⟨c, k * 4 + 3, none⟩ (.int .i64 (f3 k))) := by
  refine ⟨by have := h.1; simpa using this, fun i hi => ?_⟩
  obtain ⟨⟨x0, x1, x2, x3, h0, h1, h2, h3, hx⟩, g0, g1, g2, g3⟩ := h.2 i hi
  by_cases e : i = k
  · subst e
    refine ⟨⟨f0 i, f1 i, f2 i, f3 i, ?_, ?_, ?_, ?_, fun _ => ⟨rfl, rfl, rfl, rfl⟩⟩, ?_, ?_, ?_, ?_⟩ <;> simp [go_sem, h0, h1, h2, h3, g0, g1, g2, g3]
  · refine ⟨⟨x0, x1, x2, x3, ?_, ?_, ?_, ?_, fun hlt => hx (by omega)⟩, ?_, ?_, ?_, ?_⟩
    · rw [World.cell?_setCell_other _ _ _ _ (by simp <;> omega), World.cell?_setCell_other _ _ _ _ (by simp <;> omega), World.cell?_setCell_other _ _ _ _ (by simp <;> omega), World.cell?_setCell_other _ _ _ _ (by simp <;> omega)]; exact h0
    · rw [World.cell?_setCell_other _ _ _ _ (by simp <;> omega), World.cell?_setCell_other _ _ _ _ (by simp <;> omega), World.cell?_setCell_other _ _ _ _ (by simp <;> omega), World.cell?_setCell_other _ _ _ _ (by simp <;> omega)]; exact h1
    · rw [World.cell?_setCell_other _ _ _ _ (by simp <;> omega), World.cell?_setCell_other _ _ _ _ (by simp <;> omega), World.cell?_setCell_other _ _ _ _ (by simp <;> omega), World.cell?_setCell_other _ _ _ _ (by simp <;> omega)]; exact h2
    · rw [World.cell?_setCell_other _ _ _ _ (by simp <;> omega), World.cell?_setCell_other _ _ _ _ (by simp <;> omega), World.cell?_setCell_other _ _ _ _ (by simp <;> omega), World.cell?_setCell_other _ _ _ _ (by simp <;> omega)]; exact h3
    · simpa [go_sem] using g0
    · simpa [go_sem] using g1
    · simpa [go_sem] using g2
    · simpa [go_sem] using g3

end Go.Proofs.Ytelehmkmdbhcfaa
