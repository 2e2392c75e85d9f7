/- What the specification's functions of chapter 2 answer: tables. -/
import Derived.Test.YtjjdfniemlcnnabAll1
import Derived.Test.YtjjdfniemlcnnabAll4
/- Rows of Entry in memory, and what the laws do with them: handed over, compared. -/
namespace Go.Proofs.Ytjjdfniemlcnnab
open Go.RowKit

/-- n of them at a, told by f0 f1 f2. -/
def RowEntry (a : Option Addr) (n : Nat) (f0 : Nat → Int) (f1 : Nat → Int) (f2 : Nat → Int) (w : World) : Prop := ∀ i, i < n → ∃ b off, a = some ⟨b, off, none⟩ ∧ b < w.heap.size ∧
  w.cell? ⟨b, off + i * 3, none⟩ = some (.int .i64 (f0 i)) ∧ w.cell? ⟨b, off + i * 3 + 1, none⟩ = some (.int .i64 (f1 i)) ∧ w.cell? ⟨b, off + i * 3 + 2, none⟩ = some (.int .i64 (f2 i))
theorem RowEntry.below {a : Option Addr} {n : Nat} {f0 : Nat → Int} {f1 : Nat → Int} {f2 : Nat → Int} {w w' : World} (h : RowEntry a n f0 f1 f2 w) (k : Below w.heap.size w w') : RowEntry a n f0 f1 f2 w' := by
  intro i hi
  obtain ⟨b, off, ha, hb, h0, h1, h2⟩ := h i hi
  obtain ⟨hc, _⟩ := bcell k
  exact ⟨b, off, ha, Nat.lt_of_lt_of_le hb k.size, (hc _ _ hb).trans h0, (hc _ _ hb).trans h1, (hc _ _ hb).trans h2⟩

/-- A row of n of them in block c, the first k told; it may be written. -/
def OutEntry (c n k : Nat) (f0 : Nat → Int) (f1 : Nat → Int) (f2 : Nat → Int) (w : World) : Prop := c < w.heap.size ∧ ∀ i, i < n →
  (∃ (x0 : Int) (x1 : Int) (x2 : Int), w.cell? ⟨c, i * 3, none⟩ = some (.int .i64 x0) ∧ w.cell? ⟨c, i * 3 + 1, none⟩ = some (.int .i64 x1) ∧ w.cell? ⟨c, i * 3 + 2, none⟩ = some (.int .i64 x2) ∧ (i < k → x0 = f0 i ∧ x1 = f1 i ∧ x2 = f2 i)) ∧
  w.frozen? ⟨c, i * 3, none⟩ = false ∧ w.frozen? ⟨c, i * 3 + 1, none⟩ = false ∧ w.frozen? ⟨c, i * 3 + 2, none⟩ = false
theorem OutEntry.below {c n k : Nat} {f0 : Nat → Int} {f1 : Nat → Int} {f2 : Nat → Int} {w w' : World} (h : OutEntry c n k f0 f1 f2 w) (hb : Below w.heap.size w w') : OutEntry c n k f0 f1 f2 w' := by
  obtain ⟨hc, hf⟩ := bcell hb
  refine ⟨Nat.lt_of_lt_of_le h.1 hb.size, fun i hi => ?_⟩
  obtain ⟨⟨x0, x1, x2, h0, h1, h2, hk⟩, g0, g1, g2⟩ := h.2 i hi
  exact ⟨⟨x0, x1, x2, (hc _ _ h.1).trans h0, (hc _ _ h.1).trans h1, (hc _ _ h.1).trans h2, hk⟩, (hf _ _ h.1).trans g0, (hf _ _ h.1).trans g1, (hf _ _ h.1).trans g2⟩
theorem OutEntry.row {c n : Nat} {f0 : Nat → Int} {f1 : Nat → Int} {f2 : Nat → Int} {w : World} (h : OutEntry c n n f0 f1 f2 w) : RowEntry (some ⟨c, 0, none⟩) n f0 f1 f2 w := by
  intro i hi
  obtain ⟨⟨x0, x1, x2, h0, h1, h2, hk⟩, g0, g1, g2⟩ := h.2 i hi
  obtain ⟨rfl, rfl, rfl⟩ := hk hi
  exact ⟨c, 0, rfl, h.1, by rw [Nat.zero_add]; exact h0, by rw [Nat.zero_add]; exact h1, by rw [Nat.zero_add]; exact h2⟩
theorem OutEntry.set {c n k : Nat} {f0 : Nat → Int} {f1 : Nat → Int} {f2 : Nat → Int} {w : World} (h : OutEntry c n k f0 f1 f2 w) (hk : k < n) : OutEntry c n (k + 1) f0 f1 f2 (((w.setCell ⟨c, k * 3, none⟩ (.int .i64 (f0 k))).setCell ⟨c, k * 3 + 1, none⟩ (.int .i64 (f1 k))).setCell ⟨c, k * 3 + 2, none⟩ (.int .i64 (f2 k))) := by
  refine ⟨by have := h.1; simpa using this, fun i hi => ?_⟩
  obtain ⟨⟨x0, x1, x2, h0, h1, h2, hx⟩, g0, g1, g2⟩ := h.2 i hi
  by_cases e : i = k
  · subst e
    refine ⟨⟨f0 i, f1 i, f2 i, ?_, ?_, ?_, fun _ => ⟨rfl, rfl, rfl⟩⟩, ?_, ?_, ?_⟩ <;> simp [go_sem, h0, h1, h2, g0, g1, g2]
  · refine ⟨⟨x0, x1, x2, ?_, ?_, ?_, fun hlt => hx (by omega)⟩, ?_, ?_, ?_⟩
    · rw [World.cell?_setCell_other _ _ _ _ (by simp <;> omega), World.cell?_setCell_other _ _ _ _ (by simp <;> omega), World.cell?_setCell_other _ _ _ _ (by simp <;> omega)]; exact h0
    · rw [World.cell?_setCell_other _ _ _ _ (by simp <;> omega), World.cell?_setCell_other _ _ _ _ (by simp <;> omega), World.cell?_setCell_other _ _ _ _ (by simp <;> omega)]; exact h1
    · rw [World.cell?_setCell_other _ _ _ _ (by simp <;> omega), World.cell?_setCell_other _ _ _ _ (by simp <;> omega), World.cell?_setCell_other _ _ _ _ (by simp <;> omega)]; exact h2
    · simpa [go_sem] using g0
    · simpa [go_sem] using g1
    · simpa [go_sem] using g2

end Go.Proofs.Ytjjdfniemlcnnab

/- What the specification's functions of chapter 1 answer: order, parents, halves, siblings. -/
namespace Go.Proofs.Ytjjdfniemlcnnab
open Go.RowKit

set_option maxRecDepth 100000 in
set_option maxHeartbeats 800000 in
theorem s_compare1 (a l b m : Int) (w : World) :
    Calls Try.prog 34 #[.agg #[.int .i64 a, .int .i64 l], .agg #[.int .i64 b, .int .i64 m]] w fun e w' =>
      e = .returned (.int .i64 (cmpP a l b m)) ∧ Below w.heap.size w w' := by
  have he := eqPrefix_run
  have hgu := eqPrefix_guard
  have hend := fun (o o' : Obj) => below_box2 (Below.refl ((w.alloc o).alloc o').heap.size ((w.alloc o).alloc o'))
  by_cases h1 : a < b
  · have e1 : cmpP a l b m = -1 := by unfold cmpP cmpI; rw [if_pos (by omega), if_pos h1]
    rw [e1]
    have d1 : decide (a < b) = true := by simpa using h1
    clear e1
    go_enter Try.func34, Try.ntmps34
    go_wp2_with fail
    go_ret
    exact ⟨rfl, hend _ _⟩
  · by_cases h2 : a = b
    · subst h2
      have d1 : decide (a < a) = false := by simp
      have d2 : (a == a) = true := by simp
      by_cases h3 : l < m
      · have e1 : cmpP a l a m = -1 := by unfold cmpP cmpI; rw [if_neg (by omega), if_pos h3]
        rw [e1]
        have d3 : decide (l < m) = true := by simpa using h3
        clear e1 h1
        go_enter Try.func34, Try.ntmps34
        go_wp2_with fail
        go_ret
        exact ⟨rfl, hend _ _⟩
      · have d3 : decide (l < m) = false := by simpa using h3
        by_cases h4 : l = m
        · subst h4
          have e1 : cmpP a l a l = 0 := by unfold cmpP cmpI; rw [if_neg (by omega), if_neg h3, if_neg h3]
          rw [e1]
          clear e1 h1
          go_enter Try.func34, Try.ntmps34
          go_wp2_with fail
          go_ret
          exact ⟨rfl, hend _ _⟩
        · have e1 : cmpP a l a m = 1 := by unfold cmpP cmpI; rw [if_neg (by omega), if_neg h3, if_pos (by omega)]
          rw [e1]
          have d4 : (l == m) = false := by simpa using h4
          clear e1 h1
          go_enter Try.func34, Try.ntmps34
          go_wp2_with fail
          go_ret
          exact ⟨rfl, hend _ _⟩
    · have e1 : cmpP a l b m = 1 := by unfold cmpP cmpI; rw [if_pos h2, if_neg h1, if_pos (by omega)]
      rw [e1]
      have d1 : decide (a < b) = false := by simpa using h1
      have d2 : (a == b) = false := by simpa using h2
      clear e1
      go_enter Try.func34, Try.ntmps34
      go_wp2_with fail
      go_ret
      exact ⟨rfl, hend _ _⟩

end Go.Proofs.Ytjjdfniemlcnnab

namespace Go.Proofs.Ytjjdfniemlcnnab
open Go.RowKit

def entOk (f0 f1 f2 : Nat → Int) (k : Nat) : Bool :=
  goodB (f0 k) (f1 k) && inB (f2 k) 0 1000000 && (k == 0 || decide (cmpP (f0 (k - 1)) (f1 (k - 1)) (f0 k) (f1 k) < 0))
def tabB (f0 f1 f2 : Nat → Int) (n : Nat) : Bool := (List.range n).all (entOk f0 f1 f2) && decide (n ≤ 30)

theorem all_next {f0 f1 f2 : Nat → Int} {k : Nat} (h : (List.range k).all (entOk f0 f1 f2) = true) (h1 : entOk f0 f1 f2 k = true) : (List.range (k + 1)).all (entOk f0 f1 f2) = true := by
  rw [List.range_succ, List.all_append, h, Bool.true_and]
  simp [h1]
theorem tabB_no {f0 f1 f2 : Nat → Int} {n k : Nat} (hk : k < n) (h : entOk f0 f1 f2 k = false) : tabB f0 f1 f2 n = false := by
  unfold tabB
  have h2 : (List.range n).all (entOk f0 f1 f2) = false := by
    rw [List.all_eq_false]
    exact ⟨k, List.mem_range.2 hk, by simp [h]⟩
  rw [h2]; rfl

end Go.Proofs.Ytjjdfniemlcnnab
