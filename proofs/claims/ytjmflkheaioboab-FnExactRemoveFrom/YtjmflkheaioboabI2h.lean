/- What the program's withHalf answers. -/
import Derived.Test.YtjmflkheaioboabI2f
import Derived.Test.YtjmflkheaioboabS2f
namespace Go.Proofs.Ytjmflkheaioboab
open Go.RowKit

/-- Block b holds a node and may be written. -/
def Cell4 (w : World) (b : Nat) (z o : Int) (h : Bool) (v : Int) : Prop := b < w.heap.size ∧
  (w.cell? ⟨b, 0, none⟩ = some (.int .i64 z) ∧ w.cell? ⟨b, 1, none⟩ = some (.int .i64 o) ∧ w.cell? ⟨b, 2, none⟩ = some (.bool h) ∧ w.cell? ⟨b, 3, none⟩ = some (.int .i64 v)) ∧
  (w.frozen? ⟨b, 0, none⟩ = false ∧ w.frozen? ⟨b, 1, none⟩ = false ∧ w.frozen? ⟨b, 2, none⟩ = false ∧ w.frozen? ⟨b, 3, none⟩ = false)
theorem Cell4.below {w w' : World} {b : Nat} {z o : Int} {hh : Bool} {v : Int} (h : Cell4 w b z o hh v) (k : Below w.heap.size w w') : Cell4 w' b z o hh v := by
  obtain ⟨hc, hf⟩ := bcell k
  obtain ⟨h0, ⟨h1, h2, h3, h4⟩, h5, h6, h7, h8⟩ := h
  exact ⟨Nat.lt_of_lt_of_le h0 k.size, ⟨(hc _ _ h0).trans h1, (hc _ _ h0).trans h2, (hc _ _ h0).trans h3, (hc _ _ h0).trans h4⟩, (hf _ _ h0).trans h5, (hf _ _ h0).trans h6, (hf _ _ h0).trans h7, (hf _ _ h0).trans h8⟩
theorem Cell4.alloc {w : World} {b : Nat} {z o : Int} {hh : Bool} {v : Int} (h : Cell4 w b z o hh v) (ob : Obj) : Cell4 (w.alloc ob) b z o hh v := h.below (below_box (Below.refl _ _))
theorem Cell4.drew {w : World} {b : Nat} {z o : Int} {hh : Bool} {v : Int} (h : Cell4 w b z o hh v) : Cell4 w.drew b z o hh v := h.below (Below.refl _ _).drew
theorem Cell4.new (w : World) (z o : Int) (h : Bool) (v : Int) (t : TypeId) : Cell4 (w.alloc (.cells #[.int .i64 z, .int .i64 o, .bool h, .int .i64 v] t)) w.heap.size z o h v := by
  refine ⟨by simp, ⟨?_, ?_, ?_, ?_⟩, ?_, ?_, ?_, ?_⟩ <;> simp [go_sem]
theorem Cell4.put01 {w : World} {b : Nat} {z o : Int} {hh : Bool} {v : Int} (h : Cell4 w b z o hh v) (y0 y1 : Int) : Cell4 ((w.setCell ⟨b, 0, none⟩ (.int .i64 y0)).setCell ⟨b, 1, none⟩ (.int .i64 y1)) b y0 y1 hh v := by
  obtain ⟨h0, ⟨h1, h2, h3, h4⟩, h5, h6, h7, h8⟩ := h
  refine ⟨by simpa using h0, ⟨?_, ?_, ?_, ?_⟩, ?_, ?_, ?_, ?_⟩ <;> simp [go_sem, h1, h2, h3, h4, h5, h6, h7, h8]
theorem Cell4.other {w : World} {b : Nat} {z o : Int} {hh : Bool} {v : Int} (h : Cell4 w b z o hh v) {c : Nat} (hn : b ≠ c) (k : Nat) (u : Value) : Cell4 (w.setCell ⟨c, k, none⟩ u) b z o hh v := by
  obtain ⟨h0, ⟨h1, h2, h3, h4⟩, h5, h6, h7, h8⟩ := h
  refine ⟨by simpa using h0, ⟨?_, ?_, ?_, ?_⟩, ?_, ?_, ?_, ?_⟩
  · rw [World.cell?_setCell_other _ _ _ _ (by simp <;> omega)]; exact h1
  · rw [World.cell?_setCell_other _ _ _ _ (by simp <;> omega)]; exact h2
  · rw [World.cell?_setCell_other _ _ _ _ (by simp <;> omega)]; exact h3
  · rw [World.cell?_setCell_other _ _ _ _ (by simp <;> omega)]; exact h4
  · simpa [go_sem] using h5
  · simpa [go_sem] using h6
  · simpa [go_sem] using h7
  · simpa [go_sem] using h8
theorem old1f {w2 : World} {b : Nat} (h : b < w2.heap.size) (o : Obj) (k : Nat) : (w2.alloc o).frozen? ⟨b, k, none⟩ = w2.frozen? ⟨b, k, none⟩ :=
  (bcell (below_box (Below.refl (w2.alloc o).heap.size (w2.alloc o)))).2 b k h

set_option maxRecDepth 100000 in
set_option maxHeartbeats 1600000 in
theorem i_withHalf0 (z o v x : Int) (h : Bool) (w : World) :
    Calls Try.prog 71 #[.agg #[.int .i64 z, .int .i64 o, .bool h, .int .i64 v], .int .i64 0, .int .i64 x] w fun e w' => e = .returned (.agg #[.int .i64 x, .int .i64 o, .bool h, .int .i64 v]) ∧ Below w.heap.size w w' := by
  have s1 := hide (fun w => i_nodeHalves z o v h w)
  go_enter Try.func71, Try.ntmps71
  go_wp2_with fail
  refine (s1.out _).mono ?_
  rintro e w1 ⟨rfl, hb⟩
  have hX := hide (((Cell4.new w z o h v 70).alloc (.cells #[.int .i64 0, .int .i64 0, .bool false, .int .i64 0] 70)).below hb)
  have hY0 := (Cell4.new (w.alloc (.cells #[.int .i64 z, .int .i64 o, .bool h, .int .i64 v] 70)) 0 0 false 0 70).below hb
  rw [World.size_alloc] at hY0
  have hY := hide hY0
  clear hY0
  obtain ⟨hc, hf⟩ := bcell hb
  have hz : w.heap.size + 2 ≤ w1.heap.size := by have := hb.size; simp at this; omega
  have n0 : ¬ w.heap.size = w1.heap.size := by omega
  have n1 : ¬ w.heap.size + 1 = w1.heap.size := by omega
  have q0 := old1 (show w.heap.size < w1.heap.size by omega)
  have r0 := old1f (show w.heap.size < w1.heap.size by omega)
  clear hz
  go_wp2_with fail
  go_region_held (fun w' => w'.cell? ⟨w1.heap.size, 0, none⟩ = some (.int .i64 x) ∧ w'.cell? ⟨w1.heap.size, 1, none⟩ = some (.int .i64 o)) (first | (simp [go_sem]; done) | (go_keep; done)) (fail)
  all_goals
    have hX2 := ((hX.out.alloc (.cells #[.int .i64 x, .int .i64 o] 90)).put01 x o).drew
    have hY2 := (((hY.out.alloc (.cells #[.int .i64 x, .int .i64 o] 90)).other (c := w.heap.size) (by omega) 0 (.int .i64 x)).other (c := w.heap.size) (by omega) 1 (.int .i64 o)).drew
    have hBB : Below w.heap.size w ((((w1.alloc (.cells #[.int .i64 x, .int .i64 o] 90)).setCell ⟨w.heap.size, 0, none⟩ (.int .i64 x)).setCell ⟨w.heap.size, 1, none⟩ (.int .i64 o)).drew) := by
      have hw := below_box2 hb
      exact (((hw.alloc hw.size _).setCell (Nat.le_refl _) _).setCell (Nat.le_refl _) _).drew
    generalize ((((w1.alloc (.cells #[.int .i64 x, .int .i64 o] 90)).setCell ⟨w.heap.size, 0, none⟩ (.int .i64 x)).setCell ⟨w.heap.size, 1, none⟩ (.int .i64 o)).drew) = wq at *
    obtain ⟨_, ⟨c0, c1, c2, c3⟩, _⟩ := hX2
    obtain ⟨_, ⟨d0, d1, d2, d3⟩, f0, f1, f2, f3⟩ := hY2
    clear hc hf hX hY q0 r0 n0 n1 hb
    go_wp2_with fail
    refine bodyPost_ret (v := .agg #[.int .i64 x, .int .i64 o, .bool h, .int .i64 v]) (by simp [results, Try.results71, go_sem, d0, d1, d2, d3]) rfl ⟨rfl, ?_⟩
    exact (((hBB.setCell (Nat.le_succ _) _).setCell (Nat.le_succ _) _).setCell (Nat.le_succ _) _).setCell (Nat.le_succ _) _
set_option maxRecDepth 100000 in
set_option maxHeartbeats 1600000 in
theorem i_withHalf1 (z o v x : Int) (h : Bool) (w : World) :
    Calls Try.prog 71 #[.agg #[.int .i64 z, .int .i64 o, .bool h, .int .i64 v], .int .i64 1, .int .i64 x] w fun e w' => e = .returned (.agg #[.int .i64 z, .int .i64 x, .bool h, .int .i64 v]) ∧ Below w.heap.size w w' := by
  have s1 := hide (fun w => i_nodeHalves z o v h w)
  go_enter Try.func71, Try.ntmps71
  go_wp2_with fail
  refine (s1.out _).mono ?_
  rintro e w1 ⟨rfl, hb⟩
  have hX := hide (((Cell4.new w z o h v 70).alloc (.cells #[.int .i64 0, .int .i64 0, .bool false, .int .i64 0] 70)).below hb)
  have hY0 := (Cell4.new (w.alloc (.cells #[.int .i64 z, .int .i64 o, .bool h, .int .i64 v] 70)) 0 0 false 0 70).below hb
  rw [World.size_alloc] at hY0
  have hY := hide hY0
  clear hY0
  obtain ⟨hc, hf⟩ := bcell hb
  have hz : w.heap.size + 2 ≤ w1.heap.size := by have := hb.size; simp at this; omega
  have n0 : ¬ w.heap.size = w1.heap.size := by omega
  have n1 : ¬ w.heap.size + 1 = w1.heap.size := by omega
  have q0 := old1 (show w.heap.size < w1.heap.size by omega)
  have r0 := old1f (show w.heap.size < w1.heap.size by omega)
  clear hz
  go_wp2_with fail
  go_region_held (fun w' => w'.cell? ⟨w1.heap.size, 0, none⟩ = some (.int .i64 z) ∧ w'.cell? ⟨w1.heap.size, 1, none⟩ = some (.int .i64 x)) (first | (simp [go_sem]; done) | (go_keep; done)) (fail)
  all_goals
    have hX2 := ((hX.out.alloc (.cells #[.int .i64 z, .int .i64 x] 90)).put01 z x).drew
    have hY2 := (((hY.out.alloc (.cells #[.int .i64 z, .int .i64 x] 90)).other (c := w.heap.size) (by omega) 0 (.int .i64 z)).other (c := w.heap.size) (by omega) 1 (.int .i64 x)).drew
    have hBB : Below w.heap.size w ((((w1.alloc (.cells #[.int .i64 z, .int .i64 x] 90)).setCell ⟨w.heap.size, 0, none⟩ (.int .i64 z)).setCell ⟨w.heap.size, 1, none⟩ (.int .i64 x)).drew) := by
      have hw := below_box2 hb
      exact (((hw.alloc hw.size _).setCell (Nat.le_refl _) _).setCell (Nat.le_refl _) _).drew
    generalize ((((w1.alloc (.cells #[.int .i64 z, .int .i64 x] 90)).setCell ⟨w.heap.size, 0, none⟩ (.int .i64 z)).setCell ⟨w.heap.size, 1, none⟩ (.int .i64 x)).drew) = wq at *
    obtain ⟨_, ⟨c0, c1, c2, c3⟩, _⟩ := hX2
    obtain ⟨_, ⟨d0, d1, d2, d3⟩, f0, f1, f2, f3⟩ := hY2
    clear hc hf hX hY q0 r0 n0 n1 hb
    go_wp2_with fail
    refine bodyPost_ret (v := .agg #[.int .i64 z, .int .i64 x, .bool h, .int .i64 v]) (by simp [results, Try.results71, go_sem, d0, d1, d2, d3]) rfl ⟨rfl, ?_⟩
    exact (((hBB.setCell (Nat.le_succ _) _).setCell (Nat.le_succ _) _).setCell (Nat.le_succ _) _).setCell (Nat.le_succ _) _
end Go.Proofs.Ytjmflkheaioboab
