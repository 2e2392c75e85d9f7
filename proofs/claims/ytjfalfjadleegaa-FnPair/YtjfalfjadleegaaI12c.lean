/- The states of the program. -/
import Derived.Test.YtjfalfjadleegaaI12b
namespace Go.Proofs.Ytjfalfjadleegaa
open Go.RowKit

set_option maxRecDepth 100000 in
set_option maxHeartbeats 3200000 in
theorem i_idle (x1 x2 x3 x4 k n : Int) (w : World) (hG : GS ⟨0, x1, x2, x3, x4⟩) :
    Calls Try.prog 30 #[(⟨0, x1, x2, x3, x4⟩ : Se).v, .agg #[.int .i64 k, .int .i64 n]] w fun e w' => ∃ v, e = .returned (.tuple #[(stp ⟨0, x1, x2, x3, x4⟩ k n).1.v, v]) ∧ TB w.heap.size v (stp ⟨0, x1, x2, x3, x4⟩ k n).2 w' ∧ Below w.heap.size w w' := by
  have hl : x2 = 0 ∧ x3 = 0 := by unfold GS at hG; dsimp only at hG; omega
  obtain ⟨rfl, rfl⟩ := hl
  clear hG
  by_cases e1 : k = 1
  · rw [show stp ⟨0, x1, 0, 0, x4⟩ k n = (⟨1, x1, 0, 0, x4⟩, 0) by simp [stp, e1]]
    subst e1
    have s1 := hide (fun w => i_unl 0 x1 0 0 x4 1 w)
    go_enter Try.func30, Try.ntmps30
    go_wp2_with fail
    refine (s1.out _).mono ?_
    rintro e w1 ⟨rfl, b1⟩
    obtain ⟨hc, hf⟩ := bcell b1
    have hz : w.heap.size + 1 + 1 < w1.heap.size := by have := b1.size; simp at this; omega
    have hz0 : w.heap.size < w1.heap.size := by omega
    have d1 : Below w.heap.size w w1 := below_box3 b1
    have u0 : w1.cell? ⟨w.heap.size + 1 + 1, 0, none⟩ = some (.int .i64 0) := by rw [hc _ _ (by simp <;> omega)]; simp [go_sem]
    have uf0 : w1.frozen? ⟨w.heap.size + 1 + 1, 0, none⟩ = false := by rw [hf _ _ (by simp <;> omega)]; simp [go_sem]
    have u1 : w1.cell? ⟨w.heap.size + 1 + 1, 1, none⟩ = some (.int .i64 0) := by rw [hc _ _ (by simp <;> omega)]; simp [go_sem]
    have uf1 : w1.frozen? ⟨w.heap.size + 1 + 1, 1, none⟩ = false := by rw [hf _ _ (by simp <;> omega)]; simp [go_sem]
    have u2 : w1.cell? ⟨w.heap.size + 1 + 1, 2, none⟩ = some (.int .i64 0) := by rw [hc _ _ (by simp <;> omega)]; simp [go_sem]
    have uf2 : w1.frozen? ⟨w.heap.size + 1 + 1, 2, none⟩ = false := by rw [hf _ _ (by simp <;> omega)]; simp [go_sem]
    have u3 : w1.cell? ⟨w.heap.size + 1 + 1, 3, none⟩ = some (.int .i64 0) := by rw [hc _ _ (by simp <;> omega)]; simp [go_sem]
    have uf3 : w1.frozen? ⟨w.heap.size + 1 + 1, 3, none⟩ = false := by rw [hf _ _ (by simp <;> omega)]; simp [go_sem]
    have u4 : w1.cell? ⟨w.heap.size + 1 + 1, 4, none⟩ = some (.int .i64 0) := by rw [hc _ _ (by simp <;> omega)]; simp [go_sem]
    have uf4 : w1.frozen? ⟨w.heap.size + 1 + 1, 4, none⟩ = false := by rw [hf _ _ (by simp <;> omega)]; simp [go_sem]
    have A0 := fun (o : Obj) k => old1 hz o k
    have A1 := fun (o : Obj) k => old1f hz o k
    clear hc hf b1
    go_wp2_with fail
    exact bodyPost_ret (v := .tuple #[(⟨1, x1, 0, 0, x4⟩ : Se).v, .slice none 0 0]) (by simp [results, Try.results30, go_sem, u0, u1, u2, u3, u4]) rfl ⟨_, rfl, TB.nil _ _, (by (repeat (first | with_reducible exact Below.refl _ _ | with_reducible exact d1 | with_reducible apply Below.setCell | with_reducible apply Below.alloc)); all_goals (first | (simp; done) | (simp; omega) | omega))⟩
  · rw [show stp ⟨0, x1, 0, 0, x4⟩ k n = (⟨0, x1, 0, 0, x4⟩, 0) by simp [stp, tick, e1]]
    have q1 : (k == 1) = false := by simp [e1]
    go_enter Try.func30, Try.ntmps30
    go_wp2_with fail
    exact bodyPost_ret (v := .tuple #[(⟨0, x1, 0, 0, x4⟩ : Se).v, .slice none 0 0]) (by simp [results, Try.results30, go_sem]) rfl ⟨_, rfl, TB.nil _ _, (by (repeat (first | with_reducible exact Below.refl _ _ | with_reducible exact d1 | with_reducible apply Below.setCell | with_reducible apply Below.alloc)); all_goals (first | (simp; done) | (simp; omega) | omega))⟩
set_option maxRecDepth 100000 in
set_option maxHeartbeats 3200000 in
theorem i_connect (x1 x2 x3 x4 k n : Int) (w : World) (hG : GS ⟨1, x1, x2, x3, x4⟩) :
    Calls Try.prog 31 #[(⟨1, x1, x2, x3, x4⟩ : Se).v, .agg #[.int .i64 k, .int .i64 n]] w fun e w' => ∃ v, e = .returned (.tuple #[(stp ⟨1, x1, x2, x3, x4⟩ k n).1.v, v]) ∧ TB w.heap.size v (stp ⟨1, x1, x2, x3, x4⟩ k n).2 w' ∧ Below w.heap.size w w' := by
  have hl : x2 = 0 ∧ x3 = 0 := by unfold GS at hG; dsimp only at hG; omega
  obtain ⟨rfl, rfl⟩ := hl
  clear hG
  by_cases e2 : k = 2
  · rw [show stp ⟨1, x1, 0, 0, x4⟩ k n = (⟨0, x1, 0, 0, x4⟩, 0) by simp [stp, e2]]
    subst e2
    have s1 := hide (fun w => i_unl 1 x1 0 0 x4 0 w)
    go_enter Try.func31, Try.ntmps31
    go_wp2_with fail
    refine (s1.out _).mono ?_
    rintro e w1 ⟨rfl, b1⟩
    obtain ⟨hc, hf⟩ := bcell b1
    have hz : w.heap.size + 1 + 1 < w1.heap.size := by have := b1.size; simp at this; omega
    have hz0 : w.heap.size < w1.heap.size := by omega
    have d1 : Below w.heap.size w w1 := below_box3 b1
    have u0 : w1.cell? ⟨w.heap.size + 1 + 1, 0, none⟩ = some (.int .i64 0) := by rw [hc _ _ (by simp <;> omega)]; simp [go_sem]
    have uf0 : w1.frozen? ⟨w.heap.size + 1 + 1, 0, none⟩ = false := by rw [hf _ _ (by simp <;> omega)]; simp [go_sem]
    have u1 : w1.cell? ⟨w.heap.size + 1 + 1, 1, none⟩ = some (.int .i64 0) := by rw [hc _ _ (by simp <;> omega)]; simp [go_sem]
    have uf1 : w1.frozen? ⟨w.heap.size + 1 + 1, 1, none⟩ = false := by rw [hf _ _ (by simp <;> omega)]; simp [go_sem]
    have u2 : w1.cell? ⟨w.heap.size + 1 + 1, 2, none⟩ = some (.int .i64 0) := by rw [hc _ _ (by simp <;> omega)]; simp [go_sem]
    have uf2 : w1.frozen? ⟨w.heap.size + 1 + 1, 2, none⟩ = false := by rw [hf _ _ (by simp <;> omega)]; simp [go_sem]
    have u3 : w1.cell? ⟨w.heap.size + 1 + 1, 3, none⟩ = some (.int .i64 0) := by rw [hc _ _ (by simp <;> omega)]; simp [go_sem]
    have uf3 : w1.frozen? ⟨w.heap.size + 1 + 1, 3, none⟩ = false := by rw [hf _ _ (by simp <;> omega)]; simp [go_sem]
    have u4 : w1.cell? ⟨w.heap.size + 1 + 1, 4, none⟩ = some (.int .i64 0) := by rw [hc _ _ (by simp <;> omega)]; simp [go_sem]
    have uf4 : w1.frozen? ⟨w.heap.size + 1 + 1, 4, none⟩ = false := by rw [hf _ _ (by simp <;> omega)]; simp [go_sem]
    have A0 := fun (o : Obj) k => old1 hz o k
    have A1 := fun (o : Obj) k => old1f hz o k
    clear hc hf b1
    go_wp2_with fail
    exact bodyPost_ret (v := .tuple #[(⟨0, x1, 0, 0, x4⟩ : Se).v, .slice none 0 0]) (by simp [results, Try.results31, go_sem, u0, u1, u2, u3, u4]) rfl ⟨_, rfl, TB.nil _ _, (by (repeat (first | with_reducible exact Below.refl _ _ | with_reducible exact d1 | with_reducible apply Below.setCell | with_reducible apply Below.alloc)); all_goals (first | (simp; done) | (simp; omega) | omega))⟩
  by_cases e3 : k = 3
  · rw [show stp ⟨1, x1, 0, 0, x4⟩ k n = (⟨2, x1, 90, 0, x4⟩, 1) by simp [stp, e3]]
    subst e3
    go_enter Try.func31, Try.ntmps31
    go_wp2_with fail
    refine bodyPost_ret (v := .tuple #[(⟨2, x1, 90, 0, x4⟩ : Se).v, .slice (some ⟨w.heap.size + 1 + 1 + 1, 0, none⟩) 1 1]) (by simp [results, Try.results31, go_sem]) rfl ⟨_, rfl, TB.one' (by decide) (by simp) (by omega), ?_⟩
    exact (by (repeat (first | with_reducible exact Below.refl _ _ | with_reducible exact d1 | with_reducible apply Below.setCell | with_reducible apply Below.alloc)); all_goals (first | (simp; done) | (simp; omega) | omega))
  · rw [show stp ⟨1, x1, 0, 0, x4⟩ k n = (⟨1, x1, 0, 0, x4⟩, 0) by simp [stp, tick, e2, e3]]
    have q2 : (k == 2) = false := by simp [e2]
    have q3 : (k == 3) = false := by simp [e3]
    go_enter Try.func31, Try.ntmps31
    go_wp2_with fail
    exact bodyPost_ret (v := .tuple #[(⟨1, x1, 0, 0, x4⟩ : Se).v, .slice none 0 0]) (by simp [results, Try.results31, go_sem]) rfl ⟨_, rfl, TB.nil _ _, (by (repeat (first | with_reducible exact Below.refl _ _ | with_reducible exact d1 | with_reducible apply Below.setCell | with_reducible apply Below.alloc)); all_goals (first | (simp; done) | (simp; omega) | omega))⟩
set_option maxRecDepth 100000 in
set_option maxHeartbeats 3200000 in
theorem i_openSent (x1 x2 x3 x4 k n : Int) (w : World) (hG : GS ⟨2, x1, x2, x3, x4⟩) :
    Calls Try.prog 32 #[(⟨2, x1, x2, x3, x4⟩ : Se).v, .agg #[.int .i64 k, .int .i64 n]] w fun e w' => ∃ v, e = .returned (.tuple #[(stp ⟨2, x1, x2, x3, x4⟩ k n).1.v, v]) ∧ TB w.heap.size v (stp ⟨2, x1, x2, x3, x4⟩ k n).2 w' ∧ Below w.heap.size w w' := by
  by_cases e5 : k = 5 ∧ 3 ≤ n
  · obtain ⟨rfl, h3⟩ := e5
    have h3' : ¬ n < 3 := by omega
    have g1 : 3 ≤ x1 ∧ x1 ≤ 90 := by unfold GS at hG; dsimp only at hG; omega
    obtain ⟨h1a, h1b⟩ := g1
    clear hG
    by_cases c2 : n < x1
    · rw [show stp ⟨2, x1, x2, x3, x4⟩ 5 n = (⟨3, n, n, n / 3, x4⟩, 4) by simp [stp, h3, c2]]
      have hd : Int.tdiv n 3 = n / 3 := Int.tdiv_eq_ediv_of_nonneg (by omega)
      have hm : min x1 n = n := by omega
      have hn : n ≤ 90 := by omega
      go_enter Try.func32, Try.ntmps32
      go_wp2_with fail
      refine bodyPost_ret (v := .tuple #[(⟨3, n, n, n / 3, x4⟩ : Se).v, .slice (some ⟨w.heap.size + 1 + 1 + 1 + 1, 0, none⟩) 1 1]) (by simp [results, Try.results32, go_sem]) rfl ⟨_, rfl, TB.one' (by decide) (by simp) (by omega), ?_⟩
      exact (by (repeat (first | with_reducible exact Below.refl _ _ | with_reducible exact d1 | with_reducible apply Below.setCell | with_reducible apply Below.alloc)); all_goals (first | (simp; done) | (simp; omega) | omega))
    · rw [show stp ⟨2, x1, x2, x3, x4⟩ 5 n = (⟨3, x1, x1, x1 / 3, x4⟩, 4) by simp [stp, h3, c2]]
      have hd : Int.tdiv x1 3 = x1 / 3 := Int.tdiv_eq_ediv_of_nonneg (by omega)
      have hm : min x1 n = x1 := by omega
      go_enter Try.func32, Try.ntmps32
      go_wp2_with fail
      refine bodyPost_ret (v := .tuple #[(⟨3, x1, x1, x1 / 3, x4⟩ : Se).v, .slice (some ⟨w.heap.size + 1 + 1 + 1 + 1, 0, none⟩) 1 1]) (by simp [results, Try.results32, go_sem]) rfl ⟨_, rfl, TB.one' (by decide) (by simp) (by omega), ?_⟩
      exact (by (repeat (first | with_reducible exact Below.refl _ _ | with_reducible exact d1 | with_reducible apply Below.setCell | with_reducible apply Below.alloc)); all_goals (first | (simp; done) | (simp; omega) | omega))
  · by_cases e6 : k = 5
    · subst e6
      have h3 : n < 3 := by omega
      have s1 := hide (fun w => i_any 2 x1 x2 x3 x4 5 n w hG (by omega))
      rw [show stp ⟨2, x1, x2, x3, x4⟩ 5 n = anyL ⟨2, x1, x2, x3, x4⟩ 5 by simp [stp, anyL]; omega]
      clear hG e5
      generalize anyL ⟨2, x1, x2, x3, x4⟩ 5 = T at *
      obtain ⟨⟨y0, y1, y2, y3, y4⟩, t⟩ := T
      go_enter Try.func32, Try.ntmps32
      go_wp2_with fail
      refine (s1.out _).mono ?_
      rintro e w1 ⟨v, rfl, T1, b1⟩
      obtain ⟨hc, hf⟩ := bcell b1
      have hz : w.heap.size + 1 + 1 < w1.heap.size := by have := b1.size; simp at this; omega
      have hz0 : w.heap.size < w1.heap.size := by omega
      have d1 : Below w.heap.size w w1 := below_box3 b1
      have u0 : w1.cell? ⟨w.heap.size + 1 + 1, 0, none⟩ = some (.int .i64 0) := by rw [hc _ _ (by simp <;> omega)]; simp [go_sem]
      have uf0 : w1.frozen? ⟨w.heap.size + 1 + 1, 0, none⟩ = false := by rw [hf _ _ (by simp <;> omega)]; simp [go_sem]
      have u1 : w1.cell? ⟨w.heap.size + 1 + 1, 1, none⟩ = some (.int .i64 0) := by rw [hc _ _ (by simp <;> omega)]; simp [go_sem]
      have uf1 : w1.frozen? ⟨w.heap.size + 1 + 1, 1, none⟩ = false := by rw [hf _ _ (by simp <;> omega)]; simp [go_sem]
      have u2 : w1.cell? ⟨w.heap.size + 1 + 1, 2, none⟩ = some (.int .i64 0) := by rw [hc _ _ (by simp <;> omega)]; simp [go_sem]
      have uf2 : w1.frozen? ⟨w.heap.size + 1 + 1, 2, none⟩ = false := by rw [hf _ _ (by simp <;> omega)]; simp [go_sem]
      have u3 : w1.cell? ⟨w.heap.size + 1 + 1, 3, none⟩ = some (.int .i64 0) := by rw [hc _ _ (by simp <;> omega)]; simp [go_sem]
      have uf3 : w1.frozen? ⟨w.heap.size + 1 + 1, 3, none⟩ = false := by rw [hf _ _ (by simp <;> omega)]; simp [go_sem]
      have u4 : w1.cell? ⟨w.heap.size + 1 + 1, 4, none⟩ = some (.int .i64 0) := by rw [hc _ _ (by simp <;> omega)]; simp [go_sem]
      have uf4 : w1.frozen? ⟨w.heap.size + 1 + 1, 4, none⟩ = false := by rw [hf _ _ (by simp <;> omega)]; simp [go_sem]
      have A0 := fun (o : Obj) k => old1 hz o k
      have A1 := fun (o : Obj) k => old1f hz o k
      clear hc hf b1
      go_wp2_with fail
      refine bodyPost_ret (v := .tuple #[(⟨y0, y1, y2, y3, y4⟩ : Se).v, v]) (by simp [results, Try.results32, go_sem, u0, u1, u2, u3, u4]) rfl ⟨_, rfl, ?_, (by (repeat (first | with_reducible exact Below.refl _ _ | with_reducible exact d1 | with_reducible apply Below.setCell | with_reducible apply Below.alloc)); all_goals (first | (simp; done) | (simp; omega) | omega))⟩
      exact TB.base (TB.set (TB.set (TB.set (TB.set (TB.set T1 (by simp) _ _) (by simp) _ _) (by simp) _ _) (by simp) _ _) (by simp) _ _) (by simp; omega)
    · have s1 := hide (fun w => i_any 2 x1 x2 x3 x4 k n w hG (by omega))
      rw [show stp ⟨2, x1, x2, x3, x4⟩ k n = anyL ⟨2, x1, x2, x3, x4⟩ k by unfold stp anyL; dsimp only; (repeat' split) <;> (first | rfl | omega)]
      have q5 : (k != 5) = true := by simp [e6]
      clear hG e5
      generalize anyL ⟨2, x1, x2, x3, x4⟩ k = T at *
      obtain ⟨⟨y0, y1, y2, y3, y4⟩, t⟩ := T
      go_enter Try.func32, Try.ntmps32
      go_wp2_with fail
      refine (s1.out _).mono ?_
      rintro e w1 ⟨v, rfl, T1, b1⟩
      obtain ⟨hc, hf⟩ := bcell b1
      have hz : w.heap.size + 1 + 1 < w1.heap.size := by have := b1.size; simp at this; omega
      have hz0 : w.heap.size < w1.heap.size := by omega
      have d1 : Below w.heap.size w w1 := below_box3 b1
      have u0 : w1.cell? ⟨w.heap.size + 1 + 1, 0, none⟩ = some (.int .i64 0) := by rw [hc _ _ (by simp <;> omega)]; simp [go_sem]
      have uf0 : w1.frozen? ⟨w.heap.size + 1 + 1, 0, none⟩ = false := by rw [hf _ _ (by simp <;> omega)]; simp [go_sem]
      have u1 : w1.cell? ⟨w.heap.size + 1 + 1, 1, none⟩ = some (.int .i64 0) := by rw [hc _ _ (by simp <;> omega)]; simp [go_sem]
      have uf1 : w1.frozen? ⟨w.heap.size + 1 + 1, 1, none⟩ = false := by rw [hf _ _ (by simp <;> omega)]; simp [go_sem]
      have u2 : w1.cell? ⟨w.heap.size + 1 + 1, 2, none⟩ = some (.int .i64 0) := by rw [hc _ _ (by simp <;> omega)]; simp [go_sem]
      have uf2 : w1.frozen? ⟨w.heap.size + 1 + 1, 2, none⟩ = false := by rw [hf _ _ (by simp <;> omega)]; simp [go_sem]
      have u3 : w1.cell? ⟨w.heap.size + 1 + 1, 3, none⟩ = some (.int .i64 0) := by rw [hc _ _ (by simp <;> omega)]; simp [go_sem]
      have uf3 : w1.frozen? ⟨w.heap.size + 1 + 1, 3, none⟩ = false := by rw [hf _ _ (by simp <;> omega)]; simp [go_sem]
      have u4 : w1.cell? ⟨w.heap.size + 1 + 1, 4, none⟩ = some (.int .i64 0) := by rw [hc _ _ (by simp <;> omega)]; simp [go_sem]
      have uf4 : w1.frozen? ⟨w.heap.size + 1 + 1, 4, none⟩ = false := by rw [hf _ _ (by simp <;> omega)]; simp [go_sem]
      have A0 := fun (o : Obj) k => old1 hz o k
      have A1 := fun (o : Obj) k => old1f hz o k
      clear hc hf b1
      go_wp2_with fail
      refine bodyPost_ret (v := .tuple #[(⟨y0, y1, y2, y3, y4⟩ : Se).v, v]) (by simp [results, Try.results32, go_sem, u0, u1, u2, u3, u4]) rfl ⟨_, rfl, ?_, (by (repeat (first | with_reducible exact Below.refl _ _ | with_reducible exact d1 | with_reducible apply Below.setCell | with_reducible apply Below.alloc)); all_goals (first | (simp; done) | (simp; omega) | omega))⟩
      exact TB.base (TB.set (TB.set (TB.set (TB.set (TB.set T1 (by simp) _ _) (by simp) _ _) (by simp) _ _) (by simp) _ _) (by simp) _ _) (by simp; omega)
set_option maxRecDepth 100000 in
set_option maxHeartbeats 3200000 in
theorem i_openConfirm (x1 x2 x3 x4 k n : Int) (w : World) (hG : GS ⟨3, x1, x2, x3, x4⟩) :
    Calls Try.prog 33 #[(⟨3, x1, x2, x3, x4⟩ : Se).v, .agg #[.int .i64 k, .int .i64 n]] w fun e w' => ∃ v, e = .returned (.tuple #[(stp ⟨3, x1, x2, x3, x4⟩ k n).1.v, v]) ∧ TB w.heap.size v (stp ⟨3, x1, x2, x3, x4⟩ k n).2 w' ∧ Below w.heap.size w w' := by
  by_cases e7 : k = 7
  · subst e7
    have g1 : (3 ≤ x1 ∧ x1 ≤ 90) ∧ 0 ≤ x4 ∧ x4 ≤ 1000 := by unfold GS at hG; dsimp only at hG; omega
    obtain ⟨⟨h1a, h1b⟩, h4a, h4b⟩ := g1
    clear hG
    by_cases c2 : x4 < 1000
    · rw [show stp ⟨3, x1, x2, x3, x4⟩ 7 n = (⟨4, x1, x1, x3, x4 + 1⟩, 0) by simp [stp, c2]]
      have hm : min (x4 + 1) 1000 = x4 + 1 := by omega
      go_enter Try.func33, Try.ntmps33
      go_wp2_with fail
      exact bodyPost_ret (v := .tuple #[(⟨4, x1, x1, x3, x4 + 1⟩ : Se).v, .slice none 0 0]) (by simp [results, Try.results33, go_sem]) rfl ⟨_, rfl, TB.nil _ _, (by (repeat (first | with_reducible exact Below.refl _ _ | with_reducible exact d1 | with_reducible apply Below.setCell | with_reducible apply Below.alloc)); all_goals (first | (simp; done) | (simp; omega) | omega))⟩
    · rw [show stp ⟨3, x1, x2, x3, x4⟩ 7 n = (⟨4, x1, x1, x3, x4⟩, 0) by simp [stp, c2]]
      have hx4 : x4 = 1000 := by omega
      subst hx4
      go_enter Try.func33, Try.ntmps33
      go_wp2_with fail
      exact bodyPost_ret (v := .tuple #[(⟨4, x1, x1, x3, 1000⟩ : Se).v, .slice none 0 0]) (by simp [results, Try.results33, go_sem]) rfl ⟨_, rfl, TB.nil _ _, (by (repeat (first | with_reducible exact Below.refl _ _ | with_reducible exact d1 | with_reducible apply Below.setCell | with_reducible apply Below.alloc)); all_goals (first | (simp; done) | (simp; omega) | omega))⟩
  · skip
    have s1 := hide (fun w => i_any 3 x1 x2 x3 x4 k n w hG (by omega))
    rw [show stp ⟨3, x1, x2, x3, x4⟩ k n = anyL ⟨3, x1, x2, x3, x4⟩ k by unfold stp anyL; dsimp only; (repeat' split) <;> (first | rfl | omega)]
    have q7 : (k != 7) = true := by simp [e7]
    clear hG
    generalize anyL ⟨3, x1, x2, x3, x4⟩ k = T at *
    obtain ⟨⟨y0, y1, y2, y3, y4⟩, t⟩ := T
    go_enter Try.func33, Try.ntmps33
    go_wp2_with fail
    refine (s1.out _).mono ?_
    rintro e w1 ⟨v, rfl, T1, b1⟩
    obtain ⟨hc, hf⟩ := bcell b1
    have hz : w.heap.size + 1 + 1 < w1.heap.size := by have := b1.size; simp at this; omega
    have hz0 : w.heap.size < w1.heap.size := by omega
    have d1 : Below w.heap.size w w1 := below_box3 b1
    have u0 : w1.cell? ⟨w.heap.size + 1 + 1, 0, none⟩ = some (.int .i64 0) := by rw [hc _ _ (by simp <;> omega)]; simp [go_sem]
    have uf0 : w1.frozen? ⟨w.heap.size + 1 + 1, 0, none⟩ = false := by rw [hf _ _ (by simp <;> omega)]; simp [go_sem]
    have u1 : w1.cell? ⟨w.heap.size + 1 + 1, 1, none⟩ = some (.int .i64 0) := by rw [hc _ _ (by simp <;> omega)]; simp [go_sem]
    have uf1 : w1.frozen? ⟨w.heap.size + 1 + 1, 1, none⟩ = false := by rw [hf _ _ (by simp <;> omega)]; simp [go_sem]
    have u2 : w1.cell? ⟨w.heap.size + 1 + 1, 2, none⟩ = some (.int .i64 0) := by rw [hc _ _ (by simp <;> omega)]; simp [go_sem]
    have uf2 : w1.frozen? ⟨w.heap.size + 1 + 1, 2, none⟩ = false := by rw [hf _ _ (by simp <;> omega)]; simp [go_sem]
    have u3 : w1.cell? ⟨w.heap.size + 1 + 1, 3, none⟩ = some (.int .i64 0) := by rw [hc _ _ (by simp <;> omega)]; simp [go_sem]
    have uf3 : w1.frozen? ⟨w.heap.size + 1 + 1, 3, none⟩ = false := by rw [hf _ _ (by simp <;> omega)]; simp [go_sem]
    have u4 : w1.cell? ⟨w.heap.size + 1 + 1, 4, none⟩ = some (.int .i64 0) := by rw [hc _ _ (by simp <;> omega)]; simp [go_sem]
    have uf4 : w1.frozen? ⟨w.heap.size + 1 + 1, 4, none⟩ = false := by rw [hf _ _ (by simp <;> omega)]; simp [go_sem]
    have A0 := fun (o : Obj) k => old1 hz o k
    have A1 := fun (o : Obj) k => old1f hz o k
    clear hc hf b1
    go_wp2_with fail
    refine bodyPost_ret (v := .tuple #[(⟨y0, y1, y2, y3, y4⟩ : Se).v, v]) (by simp [results, Try.results33, go_sem, u0, u1, u2, u3, u4]) rfl ⟨_, rfl, ?_, (by (repeat (first | with_reducible exact Below.refl _ _ | with_reducible exact d1 | with_reducible apply Below.setCell | with_reducible apply Below.alloc)); all_goals (first | (simp; done) | (simp; omega) | omega))⟩
    exact TB.base (TB.set (TB.set (TB.set (TB.set (TB.set T1 (by simp) _ _) (by simp) _ _) (by simp) _ _) (by simp) _ _) (by simp) _ _) (by simp; omega)
set_option maxRecDepth 100000 in
set_option maxHeartbeats 3200000 in
theorem i_up (x1 x2 x3 x4 k n : Int) (w : World) (hG : GS ⟨4, x1, x2, x3, x4⟩) :
    Calls Try.prog 34 #[(⟨4, x1, x2, x3, x4⟩ : Se).v, .agg #[.int .i64 k, .int .i64 n]] w fun e w' => ∃ v, e = .returned (.tuple #[(stp ⟨4, x1, x2, x3, x4⟩ k n).1.v, v]) ∧ TB w.heap.size v (stp ⟨4, x1, x2, x3, x4⟩ k n).2 w' ∧ Below w.heap.size w w' := by
  have g1 : 3 ≤ x1 ∧ x1 ≤ 90 := by unfold GS at hG; dsimp only at hG; omega
  obtain ⟨h1a, h1b⟩ := g1
  by_cases e7 : k = 7
  · subst e7
    rw [show stp ⟨4, x1, x2, x3, x4⟩ 7 n = (⟨4, x1, x1, x3, x4⟩, 0) by simp [stp]]
    clear hG
    go_enter Try.func34, Try.ntmps34
    go_wp2_with fail
    exact bodyPost_ret (v := .tuple #[(⟨4, x1, x1, x3, x4⟩ : Se).v, .slice none 0 0]) (by simp [results, Try.results34, go_sem]) rfl ⟨_, rfl, TB.nil _ _, (by (repeat (first | with_reducible exact Below.refl _ _ | with_reducible exact d1 | with_reducible apply Below.setCell | with_reducible apply Below.alloc)); all_goals (first | (simp; done) | (simp; omega) | omega))⟩
  by_cases e8 : k = 8
  · subst e8
    rw [show stp ⟨4, x1, x2, x3, x4⟩ 8 n = (⟨4, x1, x1, x3, x4⟩, 0) by simp [stp]]
    clear hG
    go_enter Try.func34, Try.ntmps34
    go_wp2_with fail
    exact bodyPost_ret (v := .tuple #[(⟨4, x1, x1, x3, x4⟩ : Se).v, .slice none 0 0]) (by simp [results, Try.results34, go_sem]) rfl ⟨_, rfl, TB.nil _ _, (by (repeat (first | with_reducible exact Below.refl _ _ | with_reducible exact d1 | with_reducible apply Below.setCell | with_reducible apply Below.alloc)); all_goals (first | (simp; done) | (simp; omega) | omega))⟩
  · skip
    have s1 := hide (fun w => i_any 4 x1 x2 x3 x4 k n w hG (by omega))
    rw [show stp ⟨4, x1, x2, x3, x4⟩ k n = anyL ⟨4, x1, x2, x3, x4⟩ k by unfold stp anyL; dsimp only; (repeat' split) <;> (first | rfl | omega)]
    have q7 : (k != 7) = true := by simp [e7]
    have q8 : (k != 8) = true := by simp [e8]
    clear hG
    generalize anyL ⟨4, x1, x2, x3, x4⟩ k = T at *
    obtain ⟨⟨y0, y1, y2, y3, y4⟩, t⟩ := T
    go_enter Try.func34, Try.ntmps34
    go_wp2_with fail
    refine (s1.out _).mono ?_
    rintro e w1 ⟨v, rfl, T1, b1⟩
    obtain ⟨hc, hf⟩ := bcell b1
    have hz : w.heap.size + 1 + 1 < w1.heap.size := by have := b1.size; simp at this; omega
    have hz0 : w.heap.size < w1.heap.size := by omega
    have d1 : Below w.heap.size w w1 := below_box3 b1
    have u0 : w1.cell? ⟨w.heap.size + 1 + 1, 0, none⟩ = some (.int .i64 0) := by rw [hc _ _ (by simp <;> omega)]; simp [go_sem]
    have uf0 : w1.frozen? ⟨w.heap.size + 1 + 1, 0, none⟩ = false := by rw [hf _ _ (by simp <;> omega)]; simp [go_sem]
    have u1 : w1.cell? ⟨w.heap.size + 1 + 1, 1, none⟩ = some (.int .i64 0) := by rw [hc _ _ (by simp <;> omega)]; simp [go_sem]
    have uf1 : w1.frozen? ⟨w.heap.size + 1 + 1, 1, none⟩ = false := by rw [hf _ _ (by simp <;> omega)]; simp [go_sem]
    have u2 : w1.cell? ⟨w.heap.size + 1 + 1, 2, none⟩ = some (.int .i64 0) := by rw [hc _ _ (by simp <;> omega)]; simp [go_sem]
    have uf2 : w1.frozen? ⟨w.heap.size + 1 + 1, 2, none⟩ = false := by rw [hf _ _ (by simp <;> omega)]; simp [go_sem]
    have u3 : w1.cell? ⟨w.heap.size + 1 + 1, 3, none⟩ = some (.int .i64 0) := by rw [hc _ _ (by simp <;> omega)]; simp [go_sem]
    have uf3 : w1.frozen? ⟨w.heap.size + 1 + 1, 3, none⟩ = false := by rw [hf _ _ (by simp <;> omega)]; simp [go_sem]
    have u4 : w1.cell? ⟨w.heap.size + 1 + 1, 4, none⟩ = some (.int .i64 0) := by rw [hc _ _ (by simp <;> omega)]; simp [go_sem]
    have uf4 : w1.frozen? ⟨w.heap.size + 1 + 1, 4, none⟩ = false := by rw [hf _ _ (by simp <;> omega)]; simp [go_sem]
    have A0 := fun (o : Obj) k => old1 hz o k
    have A1 := fun (o : Obj) k => old1f hz o k
    clear hc hf b1
    go_wp2_with fail
    refine bodyPost_ret (v := .tuple #[(⟨y0, y1, y2, y3, y4⟩ : Se).v, v]) (by simp [results, Try.results34, go_sem, u0, u1, u2, u3, u4]) rfl ⟨_, rfl, ?_, (by (repeat (first | with_reducible exact Below.refl _ _ | with_reducible exact d1 | with_reducible apply Below.setCell | with_reducible apply Below.alloc)); all_goals (first | (simp; done) | (simp; omega) | omega))⟩
    exact TB.base (TB.set (TB.set (TB.set (TB.set (TB.set T1 (by simp) _ _) (by simp) _ _) (by simp) _ _) (by simp) _ _) (by simp) _ _) (by simp; omega)
end Go.Proofs.Ytjfalfjadleegaa
