/- Steps of the specification. -/
import Derived.Test.YtjfalfjadleegaaS12c
import Derived.Test.YtjfalfjadleegaaS12d
import Derived.Test.YtjfalfjadleegaaS12e
namespace Go.Proofs.Ytjfalfjadleegaa
open Go.RowKit

set_option maxRecDepth 100000 in
set_option maxHeartbeats 3200000 in
theorem s_step10 (x0 x1 x2 x3 x4 : Int) (n : Int) (w : World) (hG : GS ⟨x0, x1, x2, x3, x4⟩) :
    Calls Try.prog 25 #[(⟨x0, x1, x2, x3, x4⟩ : Se).v, .agg #[.int .i64 10, .int .i64 n]] w fun e w' => ∃ v, e = .returned (.tuple #[(stp ⟨x0, x1, x2, x3, x4⟩ 10 n).1.v, v]) ∧ TB w.heap.size v (stp ⟨x0, x1, x2, x3, x4⟩ 10 n).2 w' ∧ Below w.heap.size w w' := by
  rw [show stp ⟨x0, x1, x2, x3, x4⟩ 10 n = tick ⟨x0, x1, x2, x3, x4⟩ by simp [stp]]
  have s1 := hide (fun w => s_tick x0 x1 x2 x3 x4 w hG)
  clear hG
  generalize tick ⟨x0, x1, x2, x3, x4⟩ = T at *
  obtain ⟨⟨y0, y1, y2, y3, y4⟩, t⟩ := T
  go_enter Try.func25, Try.ntmps25
  go_wp2_with fail
  refine (s1.out _).mono ?_
  rintro e w1 ⟨v, rfl, T1, b1⟩
  obtain ⟨hc, hf⟩ := bcell b1
  have hz : w.heap.size + 1 + 1 < w1.heap.size := by have := b1.size; simp at this; omega
  have hz0 : w.heap.size < w1.heap.size := by omega
  have d1 : Below w.heap.size w w1 := below_box3 b1
  have u0 : w1.cell? ⟨w.heap.size + 1 + 1, 0, none⟩ = some (.int .i64 0) := by rw [hc _ _ (by simp <;> omega)]; simp [go_sem]
  have uf0 : w1.frozen? ⟨w.heap.size + 1 + 1, 0, none⟩ = false := by rw [hf _ _ (by simp <;> omega)]; simp [go_sem]
  have u1 : w1.cell? ⟨w.heap.size + 1 + 1, 1, none⟩ = some (.int .i64 0) := by rw [hc _ _ (by simp <;> omega)]; simp [go_sem]
  have uf1 : w1.frozen? ⟨w.heap.size + 1 + 1, 1, none⟩ = false := by rw [hf _ _ (by simp <;> omega)]; simp [go_sem]
  have u2 : w1.cell? ⟨w.heap.size + 1 + 1, 2, none⟩ = some (.int .i64 0) := by rw [hc _ _ (by simp <;> omega)]; simp [go_sem]
  have uf2 : w1.frozen? ⟨w.heap.size + 1 + 1, 2, none⟩ = false := by rw [hf _ _ (by simp <;> omega)]; simp [go_sem]
  have u3 : w1.cell? ⟨w.heap.size + 1 + 1, 3, none⟩ = some (.int .i64 0) := by rw [hc _ _ (by simp <;> omega)]; simp [go_sem]
  have uf3 : w1.frozen? ⟨w.heap.size + 1 + 1, 3, none⟩ = false := by rw [hf _ _ (by simp <;> omega)]; simp [go_sem]
  have u4 : w1.cell? ⟨w.heap.size + 1 + 1, 4, none⟩ = some (.int .i64 0) := by rw [hc _ _ (by simp <;> omega)]; simp [go_sem]
  have uf4 : w1.frozen? ⟨w.heap.size + 1 + 1, 4, none⟩ = false := by rw [hf _ _ (by simp <;> omega)]; simp [go_sem]
  have A0 := fun (o : Obj) k => old1 hz o k
  have A1 := fun (o : Obj) k => old1f hz o k
  clear hc hf b1
  go_wp2_with fail
  refine bodyPost_ret (v := .tuple #[(⟨y0, y1, y2, y3, y4⟩ : Se).v, v]) (by simp [results, Try.results25, go_sem, u0, u1, u2, u3, u4]) rfl ⟨_, rfl, ?_, (by (repeat (first | with_reducible exact Below.refl _ _ | with_reducible exact d1 | with_reducible apply Below.setCell | with_reducible apply Below.alloc)); all_goals (first | (simp; done) | (simp; omega) | omega))⟩
  exact TB.base (TB.set (TB.set (TB.set (TB.set (TB.set T1 (by simp) _ _) (by simp) _ _) (by simp) _ _) (by simp) _ _) (by simp) _ _) (by simp; omega)
theorem s_step (s : Se) (k n : Int) (w : World) (hG : GS s) :
    Calls Try.prog 25 #[s.v, .agg #[.int .i64 k, .int .i64 n]] w fun e w' => ∃ v, e = .returned (.tuple #[(stp s k n).1.v, v]) ∧ TB w.heap.size v (stp s k n).2 w' ∧ Below w.heap.size w w' := by
  obtain ⟨x0, x1, x2, x3, x4⟩ := s
  by_cases e10 : k = 10
  · rw [e10]; exact s_step10 x0 x1 x2 x3 x4 n w hG
  by_cases e1 : k = 1
  · rw [e1]; exact s_step1 x0 x1 x2 x3 x4 n w hG
  by_cases e3 : k = 3
  · rw [e3]; exact s_step3 x0 x1 x2 x3 x4 n w hG
  by_cases e4 : k = 4
  · rw [e4]; exact s_step4 x0 x1 x2 x3 x4 n w hG
  by_cases e9 : k = 9
  · rw [e9]; exact s_step9 x0 x1 x2 x3 x4 n w hG
  by_cases e2 : k = 2
  · rw [e2]; exact s_step2 x0 x1 x2 x3 x4 n w hG
  by_cases e5 : k = 5
  · rw [e5]; exact s_step5 x0 x1 x2 x3 x4 n w hG
  by_cases e7 : k = 7
  · rw [e7]; exact s_step7 x0 x1 x2 x3 x4 n w hG
  by_cases e8 : k = 8
  · rw [e8]; exact s_step8 x0 x1 x2 x3 x4 n w hG
  exact s_stepN x0 x1 x2 x3 x4 k n w hG ⟨e10, e1, e3, e4, e9, e2, e5, e7, e8⟩
end Go.Proofs.Ytjfalfjadleegaa
