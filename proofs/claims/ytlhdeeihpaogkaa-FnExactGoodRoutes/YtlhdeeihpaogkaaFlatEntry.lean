/- Rows of Entry in memory, and what the laws do with them: handed over, compared. -/
import Derived.Test.YtlhdeeihpaogkaaW0
namespace Go.Proofs.Ytlhdeeihpaogkaa
open Go.RowKit

/-- n of them at a, told by f0 f1 f2. -/
def RowEntry (a : Option Addr) (n : Nat) (f0 : Nat → Int) (f1 : Nat → Int) (f2 : Nat → Int) (w : World) : Prop := ∀ i, i < n → ∃ b off, a = some ⟨b, off, none⟩ ∧ b < w.heap.size ∧
  w.cell? ⟨b, off + i * 3, none⟩ = some (.int .i64 (f0 i)) ∧ w.cell? ⟨b, off + i * 3 + 1, none⟩ = some (.int .i64 (f1 i)) ∧ w.cell? ⟨b, off + i * 3 + 2, none⟩ = some (.int .i64 (f2 i))
theorem RowEntry.below {a : Option Addr} {n : Nat} {f0 : Nat → Int} {f1 : Nat → Int} {f2 : Nat → Int} {w w' : World} (h : RowEntry a n f0 f1 f2 w) (k : Below w.heap.size w w') : RowEntry a n f0 f1 f2 w' := by
  intro i hi
  obtain ⟨b, off, ha, hb, h0, h1, h2⟩ := h i hi
  obtain ⟨hc, _⟩ := bcell k
  exact ⟨b, off, ha, Nat.lt_of_lt_of_le hb k.size, (hc _ _ hb).trans h0, (hc _ _ hb).trans h1, (hc _ _ hb).trans h2⟩

/-- A row of n of them in block c, the first k told; it may be written. -/
def OutEntry (c n k : Nat) (f0 : Nat → Int) (f1 : Nat → Int) (f2 : Nat → Int) (w : World) : Prop := c < w.heap.size ∧ ∀ i, i < n →
  (∃ (x0 : Int) (x1 : Int) (x2 : Int), w.cell? ⟨c, i * 3, none⟩ = some (.int .i64 x0) ∧ w.cell? ⟨c, i * 3 + 1, none⟩ = some (.int .i64 x1) ∧ w.cell? ⟨c, i * 3 + 2, none⟩ = some (.int .i64 x2) ∧ (i < k → x0 = f0 i ∧ x1 = f1 i ∧ x2 = f2 i)) ∧
  w.frozen? ⟨c, i * 3, none⟩ = false ∧ w.frozen? ⟨c, i * 3 + 1, none⟩ = false ∧ w.frozen? ⟨c, i * 3 + 2, none⟩ = false
theorem OutEntry.below {c n k : Nat} {f0 : Nat → Int} {f1 : Nat → Int} {f2 : Nat → Int} {w w' : World} (h : OutEntry c n k f0 f1 f2 w) (hb : Below w.heap.size w w') : OutEntry c n k f0 f1 f2 w' := by
  obtain ⟨hc, hf⟩ := bcell hb
  refine ⟨Nat.lt_of_lt_of_le h.1 hb.size, fun i hi => ?_⟩
  obtain ⟨⟨x0, x1, x2, h0, h1, h2, hk⟩, g0, g1, g2⟩ := h.2 i hi
  exact ⟨⟨x0, x1, x2, (hc _ _ h.1).trans h0, (hc _ _ h.1).trans h1, (hc _ _ h.1).trans h2, hk⟩, (hf _ _ h.1).trans g0, (hf _ _ h.1).trans g1, (hf _ _ h.1).trans g2⟩
theorem OutEntry.row {c n : Nat} {f0 : Nat → Int} {f1 : Nat → Int} {f2 : Nat → Int} {w : World} (h : OutEntry c n n f0 f1 f2 w) : RowEntry (some ⟨c, 0, none⟩) n f0 f1 f2 w := by
  intro i hi
  obtain ⟨⟨x0, x1, x2, h0, h1, h2, hk⟩, g0, g1, g2⟩ := h.2 i hi
  obtain ⟨rfl, rfl, rfl⟩ := hk hi
  exact ⟨c, 0, rfl, h.1, by rw [Nat.zero_add]; exact h0, by rw [Nat.zero_add]; exact h1, by rw [Nat.zero_add]; exact h2⟩
theorem OutEntry.set {c n k : Nat} {f0 : Nat → Int} {f1 : Nat → Int} {f2 : Nat → Int} {w : World} (h : OutEntry c n k f0 f1 f2 w) (hk : k < n) : OutEntry c n (k + 1) f0 f1 f2 (((w.setCell ⟨c, k * 3, none⟩ (.int .i64 (f0 k))).setCell ⟨c, k * 3 + 1, none⟩ (.int .i64 (f1 k))).setCell ⟨c, k * 3 + 2, none⟩ (.int .i64 (f2 k))) := by
  refine ⟨by have := h.1; simpa using this, fun i hi => ?_⟩
  obtain ⟨⟨x0, x1, x2, h0, h1, h2, hx⟩, g0, g1, g2⟩ := h.2 i hi
  by_cases e : i = k
  · subst e
    refine ⟨⟨f0 i, f1 i, f2 i, ?_, ?_, ?_, fun _ => ⟨rfl, rfl, rfl⟩⟩, ?_, ?_, ?_⟩ <;> simp [go_sem, h0, h1, h2, g0, g1, g2]
  · refine ⟨⟨x0, x1, x2, ?_, ?_, ?_, fun hlt => hx (by omega)⟩, ?_, ?_, ?_⟩
    · rw [World.cell?_setCell_other _ _ _ _ (by simp <;> omega), World.cell?_setCell_other _ _ _ _ (by simp <;> omega), World.cell?_setCell_other _ _ _ _ (by simp <;> omega)]; exact h0
    · rw [World.cell?_setCell_other _ _ _ _ (by simp <;> omega), World.cell?_setCell_other _ _ _ _ (by simp <;> omega), World.cell?_setCell_other _ _ _ _ (by simp <;> omega)]; exact h1
    · rw [World.cell?_setCell_other _ _ _ _ (by simp <;> omega), World.cell?_setCell_other _ _ _ _ (by simp <;> omega), World.cell?_setCell_other _ _ _ _ (by simp <;> omega)]; exact h2
    · simpa [go_sem] using g0
    · simpa [go_sem] using g1
    · simpa [go_sem] using g2

end Go.Proofs.Ytlhdeeihpaogkaa
