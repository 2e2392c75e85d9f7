/- Steps of the program: states by method values. -/
import Derived.Test.YtjfalfjadleegaaI12c
import Derived.Laws.EntriesVeiled
import Derived.Deep.RegionHeld3
namespace Go.Proofs.Ytjfalfjadleegaa
open Go.RowKit

set_option maxRecDepth 100000 in
set_option maxHeartbeats 3200000 in
theorem i_step0 (x1 x2 x3 x4 k n : Int) (w : World) (hG : GS ⟨0, x1, x2, x3, x4⟩) :
    Calls Try.prog 27 #[(⟨0, x1, x2, x3, x4⟩ : Se).v, .agg #[.int .i64 k, .int .i64 n]] w fun e w' => ∃ v, e = .returned (.tuple #[(stp ⟨0, x1, x2, x3, x4⟩ k n).1.v, v]) ∧ TB w.heap.size v (stp ⟨0, x1, x2, x3, x4⟩ k n).2 w' ∧ Below w.heap.size w w' := by
  have s1 := hide (fun w => i_idle x1 x2 x3 x4 k n w hG)
  have hmf : ∀ (fn : Fn) (first cap : Array Value) (w : World), (Instr.makeFunc fn first cap).run Try.prog w = .ok (.func fn first cap) w := fun _ _ _ _ => rfl
  generalize stp ⟨0, x1, x2, x3, x4⟩ k n = T at *
  obtain ⟨⟨y0, y1, y2, y3, y4⟩, t⟩ := T
  clear hG
  go_enter Try.func27, Try.ntmps27
  go_wp2_with fail
  go_region_with (go_at_call 30; refine (s1.out _).mono ?_; rintro e w1 ⟨v, rfl, T1, b1⟩; obtain ⟨hc, hf⟩ := bcell b1; have hz : w.heap.size + 1 + 1 + 1 < w1.heap.size := (by have := b1.size; simp at this; omega); have hg3 : w.heap.size + 1 + 1 < w.heap.size + 1 + 1 + 1 := (by omega); have T2 : TB (w.heap.size + 1 + 1 + 1) v t w1 := TB.base T1 (by simp); have u0 : w1.cell? ⟨w.heap.size + 1 + 1, 0, none⟩ = some (.int .i64 0) := (by rw [hc _ _ (by simp)]; simp [go_sem]); have f0 : w1.frozen? ⟨w.heap.size + 1 + 1, 0, none⟩ = false := (by rw [hf _ _ (by simp)]; simp [go_sem]); have u1 : w1.cell? ⟨w.heap.size + 1 + 1, 1, none⟩ = some (.int .i64 0) := (by rw [hc _ _ (by simp)]; simp [go_sem]); have f1 : w1.frozen? ⟨w.heap.size + 1 + 1, 1, none⟩ = false := (by rw [hf _ _ (by simp)]; simp [go_sem]); have u2 : w1.cell? ⟨w.heap.size + 1 + 1, 2, none⟩ = some (.int .i64 0) := (by rw [hc _ _ (by simp)]; simp [go_sem]); have f2 : w1.frozen? ⟨w.heap.size + 1 + 1, 2, none⟩ = false := (by rw [hf _ _ (by simp)]; simp [go_sem]); have u3 : w1.cell? ⟨w.heap.size + 1 + 1, 3, none⟩ = some (.int .i64 0) := (by rw [hc _ _ (by simp)]; simp [go_sem]); have f3 : w1.frozen? ⟨w.heap.size + 1 + 1, 3, none⟩ = false := (by rw [hf _ _ (by simp)]; simp [go_sem]); have u4 : w1.cell? ⟨w.heap.size + 1 + 1, 4, none⟩ = some (.int .i64 0) := (by rw [hc _ _ (by simp)]; simp [go_sem]); have f4 : w1.frozen? ⟨w.heap.size + 1 + 1, 4, none⟩ = false := (by rw [hf _ _ (by simp)]; simp [go_sem]); have d1 : Below w.heap.size w w1 := (by first | with_reducible exact below_box4 b1 | with_reducible exact below_box4 (below_drew0 b1)); clear hc hf b1 T1)
  all_goals go_wp2_with fail
  all_goals refine bodyPost_ret (v := .tuple #[(⟨y0, y1, y2, y3, y4⟩ : Se).v, v]) (by simp [results, Try.results27, go_sem, u0, u1, u2, u3, u4]) rfl ⟨_, rfl, ?_, ?_⟩
  all_goals first | with_reducible exact TB.base (TB.set (TB.set (TB.set (TB.set (TB.set T2 hg3 _ _) hg3 _ _) hg3 _ _) hg3 _ _) hg3 _ _) (by omega) | exact (by (repeat (first | with_reducible exact Below.refl _ _ | with_reducible exact d1 | with_reducible apply Below.setCell | with_reducible apply Below.alloc)); all_goals (first | (simp; done) | (simp; omega) | omega))
set_option maxRecDepth 100000 in
set_option maxHeartbeats 3200000 in
theorem i_step1 (x1 x2 x3 x4 k n : Int) (w : World) (hG : GS ⟨1, x1, x2, x3, x4⟩) :
    Calls Try.prog 27 #[(⟨1, x1, x2, x3, x4⟩ : Se).v, .agg #[.int .i64 k, .int .i64 n]] w fun e w' => ∃ v, e = .returned (.tuple #[(stp ⟨1, x1, x2, x3, x4⟩ k n).1.v, v]) ∧ TB w.heap.size v (stp ⟨1, x1, x2, x3, x4⟩ k n).2 w' ∧ Below w.heap.size w w' := by
  have s1 := hide (fun w => i_connect x1 x2 x3 x4 k n w hG)
  have hmf : ∀ (fn : Fn) (first cap : Array Value) (w : World), (Instr.makeFunc fn first cap).run Try.prog w = .ok (.func fn first cap) w := fun _ _ _ _ => rfl
  generalize stp ⟨1, x1, x2, x3, x4⟩ k n = T at *
  obtain ⟨⟨y0, y1, y2, y3, y4⟩, t⟩ := T
  clear hG
  go_enter Try.func27, Try.ntmps27
  go_wp2_with fail
  go_region_with (go_at_call 31; refine (s1.out _).mono ?_; rintro e w1 ⟨v, rfl, T1, b1⟩; obtain ⟨hc, hf⟩ := bcell b1; have hz : w.heap.size + 1 + 1 + 1 < w1.heap.size := (by have := b1.size; simp at this; omega); have hg3 : w.heap.size + 1 + 1 < w.heap.size + 1 + 1 + 1 := (by omega); have T2 : TB (w.heap.size + 1 + 1 + 1) v t w1 := TB.base T1 (by simp); have u0 : w1.cell? ⟨w.heap.size + 1 + 1, 0, none⟩ = some (.int .i64 0) := (by rw [hc _ _ (by simp)]; simp [go_sem]); have f0 : w1.frozen? ⟨w.heap.size + 1 + 1, 0, none⟩ = false := (by rw [hf _ _ (by simp)]; simp [go_sem]); have u1 : w1.cell? ⟨w.heap.size + 1 + 1, 1, none⟩ = some (.int .i64 0) := (by rw [hc _ _ (by simp)]; simp [go_sem]); have f1 : w1.frozen? ⟨w.heap.size + 1 + 1, 1, none⟩ = false := (by rw [hf _ _ (by simp)]; simp [go_sem]); have u2 : w1.cell? ⟨w.heap.size + 1 + 1, 2, none⟩ = some (.int .i64 0) := (by rw [hc _ _ (by simp)]; simp [go_sem]); have f2 : w1.frozen? ⟨w.heap.size + 1 + 1, 2, none⟩ = false := (by rw [hf _ _ (by simp)]; simp [go_sem]); have u3 : w1.cell? ⟨w.heap.size + 1 + 1, 3, none⟩ = some (.int .i64 0) := (by rw [hc _ _ (by simp)]; simp [go_sem]); have f3 : w1.frozen? ⟨w.heap.size + 1 + 1, 3, none⟩ = false := (by rw [hf _ _ (by simp)]; simp [go_sem]); have u4 : w1.cell? ⟨w.heap.size + 1 + 1, 4, none⟩ = some (.int .i64 0) := (by rw [hc _ _ (by simp)]; simp [go_sem]); have f4 : w1.frozen? ⟨w.heap.size + 1 + 1, 4, none⟩ = false := (by rw [hf _ _ (by simp)]; simp [go_sem]); have d1 : Below w.heap.size w w1 := (by first | with_reducible exact below_box4 b1 | with_reducible exact below_box4 (below_drew0 b1)); clear hc hf b1 T1)
  all_goals go_wp2_with fail
  all_goals refine bodyPost_ret (v := .tuple #[(⟨y0, y1, y2, y3, y4⟩ : Se).v, v]) (by simp [results, Try.results27, go_sem, u0, u1, u2, u3, u4]) rfl ⟨_, rfl, ?_, ?_⟩
  all_goals first | with_reducible exact TB.base (TB.set (TB.set (TB.set (TB.set (TB.set T2 hg3 _ _) hg3 _ _) hg3 _ _) hg3 _ _) hg3 _ _) (by omega) | exact (by (repeat (first | with_reducible exact Below.refl _ _ | with_reducible exact d1 | with_reducible apply Below.setCell | with_reducible apply Below.alloc)); all_goals (first | (simp; done) | (simp; omega) | omega))
set_option maxRecDepth 100000 in
set_option maxHeartbeats 3200000 in
theorem i_step2 (x1 x2 x3 x4 k n : Int) (w : World) (hG : GS ⟨2, x1, x2, x3, x4⟩) :
    Calls Try.prog 27 #[(⟨2, x1, x2, x3, x4⟩ : Se).v, .agg #[.int .i64 k, .int .i64 n]] w fun e w' => ∃ v, e = .returned (.tuple #[(stp ⟨2, x1, x2, x3, x4⟩ k n).1.v, v]) ∧ TB w.heap.size v (stp ⟨2, x1, x2, x3, x4⟩ k n).2 w' ∧ Below w.heap.size w w' := by
  have s1 := hide (fun w => i_openSent x1 x2 x3 x4 k n w hG)
  have hmf : ∀ (fn : Fn) (first cap : Array Value) (w : World), (Instr.makeFunc fn first cap).run Try.prog w = .ok (.func fn first cap) w := fun _ _ _ _ => rfl
  generalize stp ⟨2, x1, x2, x3, x4⟩ k n = T at *
  obtain ⟨⟨y0, y1, y2, y3, y4⟩, t⟩ := T
  clear hG
  go_enter Try.func27, Try.ntmps27
  go_wp2_with fail
  go_region_with (go_at_call 32; refine (s1.out _).mono ?_; rintro e w1 ⟨v, rfl, T1, b1⟩; obtain ⟨hc, hf⟩ := bcell b1; have hz : w.heap.size + 1 + 1 + 1 < w1.heap.size := (by have := b1.size; simp at this; omega); have hg3 : w.heap.size + 1 + 1 < w.heap.size + 1 + 1 + 1 := (by omega); have T2 : TB (w.heap.size + 1 + 1 + 1) v t w1 := TB.base T1 (by simp); have u0 : w1.cell? ⟨w.heap.size + 1 + 1, 0, none⟩ = some (.int .i64 0) := (by rw [hc _ _ (by simp)]; simp [go_sem]); have f0 : w1.frozen? ⟨w.heap.size + 1 + 1, 0, none⟩ = false := (by rw [hf _ _ (by simp)]; simp [go_sem]); have u1 : w1.cell? ⟨w.heap.size + 1 + 1, 1, none⟩ = some (.int .i64 0) := (by rw [hc _ _ (by simp)]; simp [go_sem]); have f1 : w1.frozen? ⟨w.heap.size + 1 + 1, 1, none⟩ = false := (by rw [hf _ _ (by simp)]; simp [go_sem]); have u2 : w1.cell? ⟨w.heap.size + 1 + 1, 2, none⟩ = some (.int .i64 0) := (by rw [hc _ _ (by simp)]; simp [go_sem]); have f2 : w1.frozen? ⟨w.heap.size + 1 + 1, 2, none⟩ = false := (by rw [hf _ _ (by simp)]; simp [go_sem]); have u3 : w1.cell? ⟨w.heap.size + 1 + 1, 3, none⟩ = some (.int .i64 0) := (by rw [hc _ _ (by simp)]; simp [go_sem]); have f3 : w1.frozen? ⟨w.heap.size + 1 + 1, 3, none⟩ = false := (by rw [hf _ _ (by simp)]; simp [go_sem]); have u4 : w1.cell? ⟨w.heap.size + 1 + 1, 4, none⟩ = some (.int .i64 0) := (by rw [hc _ _ (by simp)]; simp [go_sem]); have f4 : w1.frozen? ⟨w.heap.size + 1 + 1, 4, none⟩ = false := (by rw [hf _ _ (by simp)]; simp [go_sem]); have d1 : Below w.heap.size w w1 := (by first | with_reducible exact below_box4 b1 | with_reducible exact below_box4 (below_drew0 b1)); clear hc hf b1 T1)
  all_goals go_wp2_with fail
  all_goals refine bodyPost_ret (v := .tuple #[(⟨y0, y1, y2, y3, y4⟩ : Se).v, v]) (by simp [results, Try.results27, go_sem, u0, u1, u2, u3, u4]) rfl ⟨_, rfl, ?_, ?_⟩
  all_goals first | with_reducible exact TB.base (TB.set (TB.set (TB.set (TB.set (TB.set T2 hg3 _ _) hg3 _ _) hg3 _ _) hg3 _ _) hg3 _ _) (by omega) | exact (by (repeat (first | with_reducible exact Below.refl _ _ | with_reducible exact d1 | with_reducible apply Below.setCell | with_reducible apply Below.alloc)); all_goals (first | (simp; done) | (simp; omega) | omega))
set_option maxRecDepth 100000 in
set_option maxHeartbeats 3200000 in
theorem i_step3 (x1 x2 x3 x4 k n : Int) (w : World) (hG : GS ⟨3, x1, x2, x3, x4⟩) :
    Calls Try.prog 27 #[(⟨3, x1, x2, x3, x4⟩ : Se).v, .agg #[.int .i64 k, .int .i64 n]] w fun e w' => ∃ v, e = .returned (.tuple #[(stp ⟨3, x1, x2, x3, x4⟩ k n).1.v, v]) ∧ TB w.heap.size v (stp ⟨3, x1, x2, x3, x4⟩ k n).2 w' ∧ Below w.heap.size w w' := by
  have s1 := hide (fun w => i_openConfirm x1 x2 x3 x4 k n w hG)
  have hmf : ∀ (fn : Fn) (first cap : Array Value) (w : World), (Instr.makeFunc fn first cap).run Try.prog w = .ok (.func fn first cap) w := fun _ _ _ _ => rfl
  generalize stp ⟨3, x1, x2, x3, x4⟩ k n = T at *
  obtain ⟨⟨y0, y1, y2, y3, y4⟩, t⟩ := T
  clear hG
  go_enter Try.func27, Try.ntmps27
  go_wp2_with fail
  go_region_with (go_at_call 33; refine (s1.out _).mono ?_; rintro e w1 ⟨v, rfl, T1, b1⟩; obtain ⟨hc, hf⟩ := bcell b1; have hz : w.heap.size + 1 + 1 + 1 < w1.heap.size := (by have := b1.size; simp at this; omega); have hg3 : w.heap.size + 1 + 1 < w.heap.size + 1 + 1 + 1 := (by omega); have T2 : TB (w.heap.size + 1 + 1 + 1) v t w1 := TB.base T1 (by simp); have u0 : w1.cell? ⟨w.heap.size + 1 + 1, 0, none⟩ = some (.int .i64 0) := (by rw [hc _ _ (by simp)]; simp [go_sem]); have f0 : w1.frozen? ⟨w.heap.size + 1 + 1, 0, none⟩ = false := (by rw [hf _ _ (by simp)]; simp [go_sem]); have u1 : w1.cell? ⟨w.heap.size + 1 + 1, 1, none⟩ = some (.int .i64 0) := (by rw [hc _ _ (by simp)]; simp [go_sem]); have f1 : w1.frozen? ⟨w.heap.size + 1 + 1, 1, none⟩ = false := (by rw [hf _ _ (by simp)]; simp [go_sem]); have u2 : w1.cell? ⟨w.heap.size + 1 + 1, 2, none⟩ = some (.int .i64 0) := (by rw [hc _ _ (by simp)]; simp [go_sem]); have f2 : w1.frozen? ⟨w.heap.size + 1 + 1, 2, none⟩ = false := (by rw [hf _ _ (by simp)]; simp [go_sem]); have u3 : w1.cell? ⟨w.heap.size + 1 + 1, 3, none⟩ = some (.int .i64 0) := (by rw [hc _ _ (by simp)]; simp [go_sem]); have f3 : w1.frozen? ⟨w.heap.size + 1 + 1, 3, none⟩ = false := (by rw [hf _ _ (by simp)]; simp [go_sem]); have u4 : w1.cell? ⟨w.heap.size + 1 + 1, 4, none⟩ = some (.int .i64 0) := (by rw [hc _ _ (by simp)]; simp [go_sem]); have f4 : w1.frozen? ⟨w.heap.size + 1 + 1, 4, none⟩ = false := (by rw [hf _ _ (by simp)]; simp [go_sem]); have d1 : Below w.heap.size w w1 := (by first | with_reducible exact below_box4 b1 | with_reducible exact below_box4 (below_drew0 b1)); clear hc hf b1 T1)
  all_goals go_wp2_with fail
  all_goals refine bodyPost_ret (v := .tuple #[(⟨y0, y1, y2, y3, y4⟩ : Se).v, v]) (by simp [results, Try.results27, go_sem, u0, u1, u2, u3, u4]) rfl ⟨_, rfl, ?_, ?_⟩
  all_goals first | with_reducible exact TB.base (TB.set (TB.set (TB.set (TB.set (TB.set T2 hg3 _ _) hg3 _ _) hg3 _ _) hg3 _ _) hg3 _ _) (by omega) | exact (by (repeat (first | with_reducible exact Below.refl _ _ | with_reducible exact d1 | with_reducible apply Below.setCell | with_reducible apply Below.alloc)); all_goals (first | (simp; done) | (simp; omega) | omega))
set_option maxRecDepth 100000 in
set_option maxHeartbeats 3200000 in
theorem i_step4 (x1 x2 x3 x4 k n : Int) (w : World) (hG : GS ⟨4, x1, x2, x3, x4⟩) :
    Calls Try.prog 27 #[(⟨4, x1, x2, x3, x4⟩ : Se).v, .agg #[.int .i64 k, .int .i64 n]] w fun e w' => ∃ v, e = .returned (.tuple #[(stp ⟨4, x1, x2, x3, x4⟩ k n).1.v, v]) ∧ TB w.heap.size v (stp ⟨4, x1, x2, x3, x4⟩ k n).2 w' ∧ Below w.heap.size w w' := by
  have s1 := hide (fun w => i_up x1 x2 x3 x4 k n w hG)
  have hmf : ∀ (fn : Fn) (first cap : Array Value) (w : World), (Instr.makeFunc fn first cap).run Try.prog w = .ok (.func fn first cap) w := fun _ _ _ _ => rfl
  generalize stp ⟨4, x1, x2, x3, x4⟩ k n = T at *
  obtain ⟨⟨y0, y1, y2, y3, y4⟩, t⟩ := T
  clear hG
  go_enter Try.func27, Try.ntmps27
  go_wp2_with fail
  go_region_with (go_at_call 34; refine (s1.out _).mono ?_; rintro e w1 ⟨v, rfl, T1, b1⟩; obtain ⟨hc, hf⟩ := bcell b1; have hz : w.heap.size + 1 + 1 + 1 < w1.heap.size := (by have := b1.size; simp at this; omega); have hg3 : w.heap.size + 1 + 1 < w.heap.size + 1 + 1 + 1 := (by omega); have T2 : TB (w.heap.size + 1 + 1 + 1) v t w1 := TB.base T1 (by simp); have u0 : w1.cell? ⟨w.heap.size + 1 + 1, 0, none⟩ = some (.int .i64 0) := (by rw [hc _ _ (by simp)]; simp [go_sem]); have f0 : w1.frozen? ⟨w.heap.size + 1 + 1, 0, none⟩ = false := (by rw [hf _ _ (by simp)]; simp [go_sem]); have u1 : w1.cell? ⟨w.heap.size + 1 + 1, 1, none⟩ = some (.int .i64 0) := (by rw [hc _ _ (by simp)]; simp [go_sem]); have f1 : w1.frozen? ⟨w.heap.size + 1 + 1, 1, none⟩ = false := (by rw [hf _ _ (by simp)]; simp [go_sem]); have u2 : w1.cell? ⟨w.heap.size + 1 + 1, 2, none⟩ = some (.int .i64 0) := (by rw [hc _ _ (by simp)]; simp [go_sem]); have f2 : w1.frozen? ⟨w.heap.size + 1 + 1, 2, none⟩ = false := (by rw [hf _ _ (by simp)]; simp [go_sem]); have u3 : w1.cell? ⟨w.heap.size + 1 + 1, 3, none⟩ = some (.int .i64 0) := (by rw [hc _ _ (by simp)]; simp [go_sem]); have f3 : w1.frozen? ⟨w.heap.size + 1 + 1, 3, none⟩ = false := (by rw [hf _ _ (by simp)]; simp [go_sem]); have u4 : w1.cell? ⟨w.heap.size + 1 + 1, 4, none⟩ = some (.int .i64 0) := (by rw [hc _ _ (by simp)]; simp [go_sem]); have f4 : w1.frozen? ⟨w.heap.size + 1 + 1, 4, none⟩ = false := (by rw [hf _ _ (by simp)]; simp [go_sem]); have d1 : Below w.heap.size w w1 := (by first | with_reducible exact below_box4 b1 | with_reducible exact below_box4 (below_drew0 b1)); clear hc hf b1 T1)
  all_goals go_wp2_with fail
  all_goals refine bodyPost_ret (v := .tuple #[(⟨y0, y1, y2, y3, y4⟩ : Se).v, v]) (by simp [results, Try.results27, go_sem, u0, u1, u2, u3, u4]) rfl ⟨_, rfl, ?_, ?_⟩
  all_goals first | with_reducible exact TB.base (TB.set (TB.set (TB.set (TB.set (TB.set T2 hg3 _ _) hg3 _ _) hg3 _ _) hg3 _ _) hg3 _ _) (by omega) | exact (by (repeat (first | with_reducible exact Below.refl _ _ | with_reducible exact d1 | with_reducible apply Below.setCell | with_reducible apply Below.alloc)); all_goals (first | (simp; done) | (simp; omega) | omega))
theorem i_step (s : Se) (k n : Int) (w : World) (hG : GS s) :
    Calls Try.prog 27 #[s.v, .agg #[.int .i64 k, .int .i64 n]] w fun e w' => ∃ v, e = .returned (.tuple #[(stp s k n).1.v, v]) ∧ TB w.heap.size v (stp s k n).2 w' ∧ Below w.heap.size w w' := by
  obtain ⟨x0, x1, x2, x3, x4⟩ := s
  have hx0 : x0 = 0 ∨ x0 = 1 ∨ x0 = 2 ∨ x0 = 3 ∨ x0 = 4 := by unfold GS at hG; dsimp only at hG; omega
  rcases hx0 with rfl | rfl | rfl | rfl | rfl
  · exact i_step0 x1 x2 x3 x4 k n w hG
  · exact i_step1 x1 x2 x3 x4 k n w hG
  · exact i_step2 x1 x2 x3 x4 k n w hG
  · exact i_step3 x1 x2 x3 x4 k n w hG
  · exact i_step4 x1 x2 x3 x4 k n w hG
end Go.Proofs.Ytjfalfjadleegaa
