/- What an op has no use for. -/
import Derived.Test.YtnficndeblkjhaaGreatDoorGrp5
import Derived.Lib.SliceRun
namespace Go.Proofs.YtnficndeblkjhaaGreatDoor
open Go.RowKit

set_option maxRecDepth 100000 in
set_option maxHeartbeats 1600000 in
theorem i_indexB (q : Nat) (x y z : Bool) (w : World) (M : Mut w q [.bool x, .bool y, .bool z]) :
    Calls Tryz.prog 110 #[.slice (some ⟨q, 0, none⟩) 3 3, .bool true] w fun e w' => e = .returned (.int .i64 (if x then 0 else if y then 1 else if z then 2 else -1)) ∧ w' = w := by
  have u0 := M.2.1 0 _ rfl
  have u1 := M.2.1 1 _ rfl
  have u2 := M.2.1 2 _ rfl
  clear M
  cases x <;> cases y <;> cases z
  all_goals
    go_enter Tryz.func110, Tryz.ntmps110
    go_wp2
    refine wp_loop_rounds 4 ?_
    rw [rounds_succ]
    go_wp2
    try rw [rounds_succ]
    try go_wp2
    try rw [rounds_succ]
    try go_wp2
    try rw [rounds_succ]
    try go_wp2
    go_ret
    exact ⟨rfl, rfl⟩
set_option maxRecDepth 100000 in
set_option maxHeartbeats 1600000 in
theorem i_containsB (q : Nat) (x y z : Bool) (w : World) (M : Mut w q [.bool x, .bool y, .bool z]) :
    Calls Tryz.prog 97 #[.slice (some ⟨q, 0, none⟩) 3 3, .bool true] w fun e w' => e = .returned (.bool (x || y || z)) ∧ w' = w := by
  have I := hide (i_indexB q x y z w M)
  clear M
  cases x <;> cases y <;> cases z
  all_goals
    go_enter Tryz.func97, Tryz.ntmps97
    go_wp2_with fail
    refine I.out.mono ?_
    rintro e w' ⟨rfl, rfl⟩
    go_wp2_with fail
    go_ret
    exact ⟨rfl, rfl⟩
theorem need_t {o : OpX} {b : Bool} (h : NeedX o → b = false) (k : ¬ NeedX o → b = true) : b = tB (¬ NeedX o) := tB_of k (fun q => h (Classical.byContradiction q))
set_option maxRecDepth 100000 in
set_option maxHeartbeats 1600000 in
theorem i_hasNeedless (o : OpX) (pa : Option Addr) (c : Nat) (w : World) :
    Calls Tryz.prog 64 #[.agg #[.int .i64 o.k, .slice pa o.n c, .string o.v, .int .i64 o.N]] w fun e w' => e = .returned (.bool (tB (¬ NeedX o))) ∧ Below w.heap.size w w' := by
  have M := Mut.new (w.alloc (.cells #[.int .i64 o.k, .slice pa o.n c, .string o.v, .int .i64 o.N] 38)) #[.bool (decide (0 < o.n)), .bool (!o.v.toList.isEmpty), .bool (o.N != 0)] 4
  have d2 : Below w.heap.size w ((w.alloc (.cells #[.int .i64 o.k, .slice pa o.n c, .string o.v, .int .i64 o.N] 38)).alloc (.cells #[.bool (decide (0 < o.n)), .bool (!o.v.toList.isEmpty), .bool (o.N != 0)] 4)) := below_box2 (Below.refl _ _)
  simp only [World.size_alloc] at M
  have hzv : ∀ w, (zeroValue 4).run Tryz.prog w = .ok (.bool false) w := fun w => by kernel_rfl
  have e0 : o.n = 0 ↔ decide (0 < o.n) = false := by simp
  have e1 : o.v.toList = [] ↔ (!o.v.toList.isEmpty) = false := by simp
  have e2 : o.N = 0 ↔ (o.N != 0) = false := by simp
  by_cases h1 : o.k = 1
  · have q1 : (o.k == 1) = true := by simp [h1]
    replace h1 := hide h1
    have CL := fun ty => Lib.run_clear_slice (P := Tryz.prog) ((w.alloc (.cells #[.int .i64 o.k, .slice pa o.n c, .string o.v, .int .i64 o.N] 38)).alloc (.cells #[.bool (decide (0 < o.n)), .bool (!o.v.toList.isEmpty), .bool (o.N != 0)] 4)) 47 4 ty (.bool false) Tryz.underlying47 hzv rfl rfl (w.heap.size + 1) 0 2 3 (by omega) (fun j hj => by rw [M.2.1 (0 + j) ([.bool (decide (0 < o.n)), .bool (!o.v.toList.isEmpty), .bool (o.N != 0)][0 + j]'(by simp; omega)) (List.getElem?_eq_getElem _)]; rfl) (fun j hj => M.2.2 (0 + j) (by simp; omega))
    go_enter Tryz.func64, Tryz.ntmps64
    go_wp2_with fail
    clear CL
    have M3 : Mut (((w.alloc (.cells #[.int .i64 o.k, .slice pa o.n c, .string o.v, .int .i64 o.N] 38)).alloc (.cells #[.bool (decide (0 < o.n)), .bool (!o.v.toList.isEmpty), .bool (o.N != 0)] 4)).setCells (w.heap.size + 1) 0 (List.replicate 2 (.bool false))) (w.heap.size + 1) [.bool false, .bool false, .bool (o.N != 0)] := (M.set 0 (.bool false)).set 1 (.bool false)
    have d3 : Below w.heap.size w (((w.alloc (.cells #[.int .i64 o.k, .slice pa o.n c, .string o.v, .int .i64 o.N] 38)).alloc (.cells #[.bool (decide (0 < o.n)), .bool (!o.v.toList.isEmpty), .bool (o.N != 0)] 4)).setCells (w.heap.size + 1) 0 (List.replicate 2 (.bool false))) := (d2.setCell (p := ⟨w.heap.size + 1, 0, none⟩) (Nat.le_succ _) _).setCell (p := ⟨w.heap.size + 1, 1, none⟩) (Nat.le_succ _) _
    refine (i_containsB (w.heap.size + 1) _ _ _ _ M3).mono ?_
    rintro e w' ⟨rfl, rfl⟩
    go_wp2_with fail
    go_ret
    have hB : (false || false || (o.N != 0)) = tB (¬ NeedX o) := need_t (fun h => by have h1 := h1.out; have hN : o.N = 0 := (by rcases h with h | h | h; exact h.2; exact absurd h.1 (by omega); exact absurd h1 h.1); simp [hN]) (fun h => by have h1 := h1.out; have hN : o.N ≠ 0 := (fun q => h (Or.inl ⟨h1, q⟩)); simp [hN])
    exact ⟨by rw [← hB]; first | rfl | (simp; done), d3⟩
  have q1 : (o.k == 1) = false := by simp [h1]
  by_cases h2 : o.k = 2
  · have q2 : (o.k == 2) = true := by simp [h2]
    replace h2 := hide h2
    have CL := fun ty => Lib.run_clear_slice (P := Tryz.prog) ((w.alloc (.cells #[.int .i64 o.k, .slice pa o.n c, .string o.v, .int .i64 o.N] 38)).alloc (.cells #[.bool (decide (0 < o.n)), .bool (!o.v.toList.isEmpty), .bool (o.N != 0)] 4)) 47 4 ty (.bool false) Tryz.underlying47 hzv rfl rfl (w.heap.size + 1) 0 1 3 (by omega) (fun j hj => by rw [M.2.1 (0 + j) ([.bool (decide (0 < o.n)), .bool (!o.v.toList.isEmpty), .bool (o.N != 0)][0 + j]'(by simp; omega)) (List.getElem?_eq_getElem _)]; rfl) (fun j hj => M.2.2 (0 + j) (by simp; omega))
    go_enter Tryz.func64, Tryz.ntmps64
    go_wp2_with fail
    clear CL
    have M3 : Mut (((w.alloc (.cells #[.int .i64 o.k, .slice pa o.n c, .string o.v, .int .i64 o.N] 38)).alloc (.cells #[.bool (decide (0 < o.n)), .bool (!o.v.toList.isEmpty), .bool (o.N != 0)] 4)).setCells (w.heap.size + 1) 0 (List.replicate 1 (.bool false))) (w.heap.size + 1) [.bool false, .bool (!o.v.toList.isEmpty), .bool (o.N != 0)] := M.set 0 (.bool false)
    have d3 : Below w.heap.size w (((w.alloc (.cells #[.int .i64 o.k, .slice pa o.n c, .string o.v, .int .i64 o.N] 38)).alloc (.cells #[.bool (decide (0 < o.n)), .bool (!o.v.toList.isEmpty), .bool (o.N != 0)] 4)).setCells (w.heap.size + 1) 0 (List.replicate 1 (.bool false))) := d2.setCell (p := ⟨w.heap.size + 1, 0, none⟩) (Nat.le_succ _) _
    refine (i_containsB (w.heap.size + 1) _ _ _ _ M3).mono ?_
    rintro e w' ⟨rfl, rfl⟩
    go_wp2_with fail
    go_ret
    have hB : (false || (!o.v.toList.isEmpty) || (o.N != 0)) = tB (¬ NeedX o) := need_t (fun h => by have h2 := h2.out; have hN : o.v.toList = [] ∧ o.N = 0 := (by rcases h with h | h | h; exact absurd h.1 h1; exact h.2; exact absurd h2 h.2.1); simp [hN.1, hN.2]) (fun h => by have h2 := h2.out; by_cases p : o.v.toList = []; (have hN : o.N ≠ 0 := (fun q => h (Or.inr (Or.inl ⟨h2, p, q⟩))); simp [hN]); simp [p])
    exact ⟨by rw [← hB]; first | rfl | (simp; done), d3⟩
  have q2 : (o.k == 2) = false := by simp [h2]
  have hb : NeedX o ↔ (o.n = 0 ∧ o.v.toList = []) ∧ (o.k = 4 ∨ o.k = 6 ∨ o.N = 0) := ⟨fun h => by rcases h with h | h | h; exact absurd h.1 h1; exact absurd h.1 h2; exact ⟨h.2.2.1, h.2.2.2⟩, fun h => Or.inr (Or.inr ⟨h1, h2, h.1, h.2⟩)⟩
  by_cases h4 : o.k = 4
  · have q4 : (o.k == 4) = true := by simp [h4]
    replace h4 := hide h4
    have CL := fun ty => Lib.run_clear_slice (P := Tryz.prog) ((w.alloc (.cells #[.int .i64 o.k, .slice pa o.n c, .string o.v, .int .i64 o.N] 38)).alloc (.cells #[.bool (decide (0 < o.n)), .bool (!o.v.toList.isEmpty), .bool (o.N != 0)] 4)) 47 4 ty (.bool false) Tryz.underlying47 hzv rfl rfl (w.heap.size + 1) 2 1 1 (by omega) (fun j hj => by rw [M.2.1 (2 + j) ([.bool (decide (0 < o.n)), .bool (!o.v.toList.isEmpty), .bool (o.N != 0)][2 + j]'(by simp; omega)) (List.getElem?_eq_getElem _)]; rfl) (fun j hj => M.2.2 (2 + j) (by simp; omega))
    go_enter Tryz.func64, Tryz.ntmps64
    go_wp2_with fail
    clear CL
    have M3 : Mut (((w.alloc (.cells #[.int .i64 o.k, .slice pa o.n c, .string o.v, .int .i64 o.N] 38)).alloc (.cells #[.bool (decide (0 < o.n)), .bool (!o.v.toList.isEmpty), .bool (o.N != 0)] 4)).setCells (w.heap.size + 1) 2 (List.replicate 1 (.bool false))) (w.heap.size + 1) [.bool (decide (0 < o.n)), .bool (!o.v.toList.isEmpty), .bool false] := M.set 2 (.bool false)
    have d3 : Below w.heap.size w (((w.alloc (.cells #[.int .i64 o.k, .slice pa o.n c, .string o.v, .int .i64 o.N] 38)).alloc (.cells #[.bool (decide (0 < o.n)), .bool (!o.v.toList.isEmpty), .bool (o.N != 0)] 4)).setCells (w.heap.size + 1) 2 (List.replicate 1 (.bool false))) := d2.setCell (p := ⟨w.heap.size + 1, 2, none⟩) (Nat.le_succ _) _
    refine (i_containsB (w.heap.size + 1) _ _ _ _ M3).mono ?_
    rintro e w' ⟨rfl, rfl⟩
    go_wp2_with fail
    go_ret
    have hB : ((decide (0 < o.n)) || (!o.v.toList.isEmpty) || false) = tB (¬ NeedX o) := need_t (fun h => by have h := hb.1 h; simp [h.1.1, h.1.2]) (fun h => by have hk := h4.out; by_cases p : o.v.toList = []; (have hn : o.n ≠ 0 := (fun q => h (hb.2 ⟨⟨q, p⟩, by omega⟩)); simp; omega); simp [p])
    exact ⟨by rw [← hB]; first | rfl | (simp; done), d3⟩
  have q4 : (o.k == 4) = false := by simp [h4]
  by_cases h6 : o.k = 6
  · have q6 : (o.k == 6) = true := by simp [h6]
    replace h6 := hide h6
    have CL := fun ty => Lib.run_clear_slice (P := Tryz.prog) ((w.alloc (.cells #[.int .i64 o.k, .slice pa o.n c, .string o.v, .int .i64 o.N] 38)).alloc (.cells #[.bool (decide (0 < o.n)), .bool (!o.v.toList.isEmpty), .bool (o.N != 0)] 4)) 47 4 ty (.bool false) Tryz.underlying47 hzv rfl rfl (w.heap.size + 1) 2 1 1 (by omega) (fun j hj => by rw [M.2.1 (2 + j) ([.bool (decide (0 < o.n)), .bool (!o.v.toList.isEmpty), .bool (o.N != 0)][2 + j]'(by simp; omega)) (List.getElem?_eq_getElem _)]; rfl) (fun j hj => M.2.2 (2 + j) (by simp; omega))
    go_enter Tryz.func64, Tryz.ntmps64
    go_wp2_with fail
    clear CL
    have M3 : Mut (((w.alloc (.cells #[.int .i64 o.k, .slice pa o.n c, .string o.v, .int .i64 o.N] 38)).alloc (.cells #[.bool (decide (0 < o.n)), .bool (!o.v.toList.isEmpty), .bool (o.N != 0)] 4)).setCells (w.heap.size + 1) 2 (List.replicate 1 (.bool false))) (w.heap.size + 1) [.bool (decide (0 < o.n)), .bool (!o.v.toList.isEmpty), .bool false] := M.set 2 (.bool false)
    have d3 : Below w.heap.size w (((w.alloc (.cells #[.int .i64 o.k, .slice pa o.n c, .string o.v, .int .i64 o.N] 38)).alloc (.cells #[.bool (decide (0 < o.n)), .bool (!o.v.toList.isEmpty), .bool (o.N != 0)] 4)).setCells (w.heap.size + 1) 2 (List.replicate 1 (.bool false))) := d2.setCell (p := ⟨w.heap.size + 1, 2, none⟩) (Nat.le_succ _) _
    refine (i_containsB (w.heap.size + 1) _ _ _ _ M3).mono ?_
    rintro e w' ⟨rfl, rfl⟩
    go_wp2_with fail
    go_ret
    have hB : ((decide (0 < o.n)) || (!o.v.toList.isEmpty) || false) = tB (¬ NeedX o) := need_t (fun h => by have h := hb.1 h; simp [h.1.1, h.1.2]) (fun h => by have hk := h6.out; by_cases p : o.v.toList = []; (have hn : o.n ≠ 0 := (fun q => h (hb.2 ⟨⟨q, p⟩, by omega⟩)); simp; omega); simp [p])
    exact ⟨by rw [← hB]; first | rfl | (simp; done), d3⟩
  have q6 : (o.k == 6) = false := by simp [h6]
  go_enter Tryz.func64, Tryz.ntmps64
  go_wp2_with fail
  have M3 := M
  have d3 := d2
  refine (i_containsB (w.heap.size + 1) _ _ _ _ M3).mono ?_
  rintro e w' ⟨rfl, rfl⟩
  go_wp2_with fail
  go_ret
  have hB : ((decide (0 < o.n)) || (!o.v.toList.isEmpty) || (o.N != 0)) = tB (¬ NeedX o) := need_t (fun h => by have h := hb.1 h; have hN : o.N = 0 := (by omega); simp [h.1.1, h.1.2, hN]) (fun h => by by_cases p : o.v.toList = []; (by_cases r : o.N = 0; (have hn : o.n ≠ 0 := (fun q => h (hb.2 ⟨⟨q, p⟩, by omega⟩)); simp; omega); simp [r]); simp [p])
  exact ⟨by rw [← hB]; first | rfl | (simp; done), d3⟩
end Go.Proofs.YtnficndeblkjhaaGreatDoor
