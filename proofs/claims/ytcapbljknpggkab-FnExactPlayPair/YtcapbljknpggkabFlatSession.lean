/- Rows of Session in memory, and what the laws do with them: handed over, compared. -/
import Derived.Test.YtcapbljknpggkabW0
namespace Go.Proofs.Ytcapbljknpggkab
open Go.RowKit

/-- n of them at a, told by f0 f1 f2 f3 f4. -/
def RowSession (a : Option Addr) (n : Nat) (f0 : Nat → Int) (f1 : Nat → Int) (f2 : Nat → Int) (f3 : Nat → Int) (f4 : Nat → Int) (w : World) : Prop := ∀ i, i < n → ∃ b off, a = some ⟨b, off, none⟩ ∧ b < w.heap.size ∧
  w.cell? ⟨b, off + i * 5, none⟩ = some (.int .i64 (f0 i)) ∧ w.cell? ⟨b, off + i * 5 + 1, none⟩ = some (.int .i64 (f1 i)) ∧ w.cell? ⟨b, off + i * 5 + 2, none⟩ = some (.int .i64 (f2 i)) ∧ w.cell? ⟨b, off + i * 5 + 3, none⟩ = some (.int .i64 (f3 i)) ∧ w.cell? ⟨b, off + i * 5 + 4, none⟩ = some (.int .i64 (f4 i))
theorem RowSession.below {a : Option Addr} {n : Nat} {f0 : Nat → Int} {f1 : Nat → Int} {f2 : Nat → Int} {f3 : Nat → Int} {f4 : Nat → Int} {w w' : World} (h : RowSession a n f0 f1 f2 f3 f4 w) (k : Below w.heap.size w w') : RowSession a n f0 f1 f2 f3 f4 w' := by
  intro i hi
  obtain ⟨b, off, ha, hb, h0, h1, h2, h3, h4⟩ := h i hi
  obtain ⟨hc, _⟩ := bcell k
  exact ⟨b, off, ha, Nat.lt_of_lt_of_le hb k.size, (hc _ _ hb).trans h0, (hc _ _ hb).trans h1, (hc _ _ hb).trans h2, (hc _ _ hb).trans h3, (hc _ _ hb).trans h4⟩

/-- A row of n of them in block c, the first k told; it may be written. -/
def OutSession (c n k : Nat) (f0 : Nat → Int) (f1 : Nat → Int) (f2 : Nat → Int) (f3 : Nat → Int) (f4 : Nat → Int) (w : World) : Prop := c < w.heap.size ∧ ∀ i, i < n →
  (∃ (x0 : Int) (x1 : Int) (x2 : Int) (x3 : Int) (x4 : Int), w.cell? ⟨c, i * 5, none⟩ = some (.int .i64 x0) ∧ w.cell? ⟨c, i * 5 + 1, none⟩ = some (.int .i64 x1) ∧ w.cell? ⟨c, i * 5 + 2, none⟩ = some (.int .i64 x2) ∧ w.cell? ⟨c, i * 5 + 3, none⟩ = some (.int .i64 x3) ∧ w.cell? ⟨c, i * 5 + 4, none⟩ = some (.int .i64 x4) ∧ (i < k → x0 = f0 i ∧ x1 = f1 i ∧ x2 = f2 i ∧ x3 = f3 i ∧ x4 = f4 i)) ∧
  w.frozen? ⟨c, i * 5, none⟩ = false ∧ w.frozen? ⟨c, i * 5 + 1, none⟩ = false ∧ w.frozen? ⟨c, i * 5 + 2, none⟩ = false ∧ w.frozen? ⟨c, i * 5 + 3, none⟩ = false ∧ w.frozen? ⟨c, i * 5 + 4, none⟩ = false
theorem OutSession.below {c n k : Nat} {f0 : Nat → Int} {f1 : Nat → Int} {f2 : Nat → Int} {f3 : Nat → Int} {f4 : Nat → Int} {w w' : World} (h : OutSession c n k f0 f1 f2 f3 f4 w) (hb : Below w.heap.size w w') : OutSession c n k f0 f1 f2 f3 f4 w' := by
  obtain ⟨hc, hf⟩ := bcell hb
  refine ⟨Nat.lt_of_lt_of_le h.1 hb.size, fun i hi => ?_⟩
  obtain ⟨⟨x0, x1, x2, x3, x4, h0, h1, h2, h3, h4, hk⟩, g0, g1, g2, g3, g4⟩ := h.2 i hi
  exact ⟨⟨x0, x1, x2, x3, x4, (hc _ _ h.1).trans h0, (hc _ _ h.1).trans h1, (hc _ _ h.1).trans h2, (hc _ _ h.1).trans h3, (hc _ _ h.1).trans h4, hk⟩, (hf _ _ h.1).trans g0, (hf _ _ h.1).trans g1, (hf _ _ h.1).trans g2, (hf _ _ h.1).trans g3, (hf _ _ h.1).trans g4⟩
theorem OutSession.row {c n : Nat} {f0 : Nat → Int} {f1 : Nat → Int} {f2 : Nat → Int} {f3 : Nat → Int} {f4 : Nat → Int} {w : World} (h : OutSession c n n f0 f1 f2 f3 f4 w) : RowSession (some ⟨c, 0, none⟩) n f0 f1 f2 f3 f4 w := by
  intro i hi
  obtain ⟨⟨x0, x1, x2, x3, x4, h0, h1, h2, h3, h4, hk⟩, g0, g1, g2, g3, g4⟩ := h.2 i hi
  obtain ⟨rfl, rfl, rfl, rfl, rfl⟩ := hk hi
  exact ⟨c, 0, rfl, h.1, by rw [Nat.zero_add]; exact h0, by rw [Nat.zero_add]; exact h1, by rw [Nat.zero_add]; exact h2, by rw [Nat.zero_add]; exact h3, by rw [Nat.zero_add]; exact h4⟩
theorem OutSession.set {c n k : Nat} {f0 : Nat → Int} {f1 : Nat → Int} {f2 : Nat → Int} {f3 : Nat → Int} {f4 : Nat → Int} {w : World} (h : OutSession c n k f0 f1 f2 f3 f4 w) (hk : k < n) : OutSession c n (k + 1) f0 f1 f2 f3 f4 (((((w.setCell ⟨c, k * 5, none⟩ (.int .i64 (f0 k))).setCell ⟨c, k * 5 + 1, none⟩ (.int .i64 (f1 k))).setCell ⟨c, k * 5 + 2, none⟩ (.int .i64 (f2 k))).setCell ⟨c, k * 5 + 3, none⟩ (.int .i64 (f3 k))).setCell ⟨c, k * 5 + 4, none⟩ (.int .i64 (f4 k))) := by
  refine ⟨by have := h.1; simpa using this, fun i hi => ?_⟩
  obtain ⟨⟨x0, x1, x2, x3, x4, h0, h1, h2, h3, h4, hx⟩, g0, g1, g2, g3, g4⟩ := h.2 i hi
  by_cases e : i = k
  · subst e
    refine ⟨⟨f0 i, f1 i, f2 i, f3 i, f4 i, ?_, ?_, ?_, ?_, ?_, fun _ => ⟨rfl, rfl, rfl, rfl, rfl⟩⟩, ?_, ?_, ?_, ?_, ?_⟩ <;> simp [go_sem, h0, h1, h2, h3, h4, g0, g1, g2, g3, g4]
  · refine ⟨⟨x0, x1, x2, x3, x4, ?_, ?_, ?_, ?_, ?_, fun hlt => hx (by omega)⟩, ?_, ?_, ?_, ?_, ?_⟩
    · rw [World.cell?_setCell_other _ _ _ _ (by simp <;> omega), World.cell?_setCell_other _ _ _ _ (by simp <;> omega), World.cell?_setCell_other _ _ _ _ (by simp <;> omega), World.cell?_setCell_other _ _ _ _ (by simp <;> omega), World.cell?_setCell_other _ _ _ _ (by simp <;> omega)]; exact h0
    · rw [World.cell?_setCell_other _ _ _ _ (by simp <;> omega), World.cell?_setCell_other _ _ _ _ (by simp <;> omega), World.cell?_setCell_other _ _ _ _ (by simp <;> omega), World.cell?_setCell_other _ _ _ _ (by simp <;> omega), World.cell?_setCell_other _ _ _ _ (by simp <;> omega)]; exact h1
    · rw [World.cell?_setCell_other _ _ _ _ (by simp <;> omega), World.cell?_setCell_other _ _ _ _ (by simp <;> omega), World.cell?_setCell_other _ _ _ _ (by simp <;> omega), World.cell?_setCell_other _ _ _ _ (by simp <;> omega), World.cell?_setCell_other _ _ _ _ (by simp <;> omega)]; exact h2
    · rw [World.cell?_setCell_other _ _ _ _ (by simp <;> omega), World.cell?_setCell_other _ _ _ _ (by simp <;> omega), World.cell?_setCell_other _ _ _ _ (by simp <;> omega), World.cell?_setCell_other _ _ _ _ (by simp <;> omega), World.cell?_setCell_other _ _ _ _ (by simp <;> omega)]; exact h3
    · rw [World.cell?_setCell_other _ _ _ _ (by simp <;> omega), World.cell?_setCell_other _ _ _ _ (by simp <;> omega), World.cell?_setCell_other _ _ _ _ (by simp <;> omega), World.cell?_setCell_other _ _ _ _ (by simp <;> omega), World.cell?_setCell_other _ _ _ _ (by simp <;> omega)]; exact h4
    · simpa [go_sem] using g0
    · simpa [go_sem] using g1
    · simpa [go_sem] using g2
    · simpa [go_sem] using g3
    · simpa [go_sem] using g4

set_option maxRecDepth 100000 in
set_option maxHeartbeats 800000 in
theorem w_eqSession (x0 : Int) (x1 : Int) (x2 : Int) (x3 : Int) (x4 : Int) (w : World) :
    Calls Try.prog 9 #[.agg #[.int .i64 x0, .int .i64 x1, .int .i64 x2, .int .i64 x3, .int .i64 x4], .agg #[.int .i64 x0, .int .i64 x1, .int .i64 x2, .int .i64 x3, .int .i64 x4]] w fun e w' => e = .returned (.bool true) ∧ Below w.heap.size w w' := by
  go_enter Try.func9, Try.ntmps9
  go_wp2_with fail
  go_ret
  exact ⟨rfl, below_box2 (Below.refl _ _)⟩

end Go.Proofs.Ytcapbljknpggkab
