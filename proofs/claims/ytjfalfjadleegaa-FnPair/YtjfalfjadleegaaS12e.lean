/- Steps of the specification: an open, an update, others. -/
import Derived.Test.YtjfalfjadleegaaS12b
namespace Go.Proofs.Ytjfalfjadleegaa
open Go.RowKit

set_option maxRecDepth 100000 in
set_option maxHeartbeats 3200000 in
theorem s_step5 (x0 x1 x2 x3 x4 : Int) (n : Int) (w : World) (hG : GS ⟨x0, x1, x2, x3, x4⟩) :
    Calls Try.prog 25 #[(⟨x0, x1, x2, x3, x4⟩ : Se).v, .agg #[.int .i64 5, .int .i64 n]] w fun e w' => ∃ v, e = .returned (.tuple #[(stp ⟨x0, x1, x2, x3, x4⟩ 5 n).1.v, v]) ∧ TB w.heap.size v (stp ⟨x0, x1, x2, x3, x4⟩ 5 n).2 w' ∧ Below w.heap.size w w' := by
  have s1 := hide (fun x0 x1 x2 x3 x4 t w => s_to x0 x1 x2 x3 x4 t w)
  have hG0 := hG
  unfold GS at hG
  dsimp only at hG
  have hx0 : x0 = 0 ∨ x0 = 1 ∨ x0 = 2 ∨ x0 = 3 ∨ x0 = 4 := by omega
  have h1a : 3 ≤ x1 := by omega
  have h1b : x1 ≤ 90 := by omega
  have h4a : 0 ≤ x4 := by omega
  have h4b : x4 ≤ 1000 := by omega
  rcases hx0 with rfl | rfl | rfl | rfl | rfl
  · clear hG hG0
    clear s1
    rw [show stp ⟨0, x1, x2, x3, x4⟩ 5 n = (⟨0, x1, x2, x3, x4⟩, 0) by simp [stp]]
    go_enter Try.func25, Try.ntmps25
    go_wp2_with fail
    exact bodyPost_ret (v := .tuple #[(⟨0, x1, x2, x3, x4⟩ : Se).v, .slice none 0 0]) (by simp [results, Try.results25, go_sem]) rfl ⟨_, rfl, TB.nil _ _, (by (repeat (first | with_reducible exact Below.refl _ _ | with_reducible exact d1 | with_reducible apply Below.setCell | with_reducible apply Below.alloc)); all_goals (first | (simp; done) | (simp; omega) | omega))⟩
  · clear hG hG0
    clear s1
    rw [show stp ⟨1, x1, x2, x3, x4⟩ 5 n = (⟨1, x1, x2, x3, x4⟩, 0) by simp [stp]]
    go_enter Try.func25, Try.ntmps25
    go_wp2_with fail
    exact bodyPost_ret (v := .tuple #[(⟨1, x1, x2, x3, x4⟩ : Se).v, .slice none 0 0]) (by simp [results, Try.results25, go_sem]) rfl ⟨_, rfl, TB.nil _ _, (by (repeat (first | with_reducible exact Below.refl _ _ | with_reducible exact d1 | with_reducible apply Below.setCell | with_reducible apply Below.alloc)); all_goals (first | (simp; done) | (simp; omega) | omega))⟩
  · clear hG hG0
    by_cases c1 : 3 ≤ n
    · clear s1
      have c1' : n ≥ 3 := c1
      by_cases c2 : n < x1
      · have hd : Int.tdiv n 3 = n / 3 := Int.tdiv_eq_ediv_of_nonneg (by omega)
        have hn : n ≤ 90 := by omega
        rw [show stp ⟨2, x1, x2, x3, x4⟩ 5 n = (⟨3, n, n, n / 3, x4⟩, 4) by simp [stp, c1, c2]]
        go_enter Try.func25, Try.ntmps25
        go_wp2_with fail
        refine bodyPost_ret (v := .tuple #[(⟨3, n, n, n / 3, x4⟩ : Se).v, .slice (some ⟨w.heap.size + 1 + 1 + 1, 0, none⟩) 1 1]) (by simp [results, Try.results25, go_sem]) rfl ⟨_, rfl, TB.one' (by decide) (by simp) (by omega), ?_⟩
        exact (by (repeat (first | with_reducible exact Below.refl _ _ | with_reducible exact d1 | with_reducible apply Below.setCell | with_reducible apply Below.alloc)); all_goals (first | (simp; done) | (simp; omega) | omega))
      · have hd : Int.tdiv x1 3 = x1 / 3 := Int.tdiv_eq_ediv_of_nonneg (by omega)
        rw [show stp ⟨2, x1, x2, x3, x4⟩ 5 n = (⟨3, x1, x1, x1 / 3, x4⟩, 4) by simp [stp, c1, c2]]
        go_enter Try.func25, Try.ntmps25
        go_wp2_with fail
        refine bodyPost_ret (v := .tuple #[(⟨3, x1, x1, x1 / 3, x4⟩ : Se).v, .slice (some ⟨w.heap.size + 1 + 1 + 1, 0, none⟩) 1 1]) (by simp [results, Try.results25, go_sem]) rfl ⟨_, rfl, TB.one' (by decide) (by simp) (by omega), ?_⟩
        exact (by (repeat (first | with_reducible exact Below.refl _ _ | with_reducible exact d1 | with_reducible apply Below.setCell | with_reducible apply Below.alloc)); all_goals (first | (simp; done) | (simp; omega) | omega))
    · have c1' : ¬ n ≥ 3 := c1
      rw [show stp ⟨2, x1, x2, x3, x4⟩ 5 n = (⟨0, x1, 0, 0, x4⟩, 3) by simp [stp, c1]]
      go_enter Try.func25, Try.ntmps25
      go_wp2_with fail
      refine (s1.out _ _ _ _ _ _ _).mono ?_
      rintro e w1 ⟨rfl, b1⟩
      obtain ⟨hc, hf⟩ := bcell b1
      have hz : w.heap.size + 1 + 1 < w1.heap.size := by have := b1.size; simp at this; omega
      have hz0 : w.heap.size < w1.heap.size := by omega
      have d1 : Below w.heap.size w w1 := below_box3 b1
      have u0 : w1.cell? ⟨w.heap.size + 1 + 1, 0, none⟩ = some (.int .i64 0) := by rw [hc _ _ (by simp <;> omega)]; simp [go_sem]
      have uf0 : w1.frozen? ⟨w.heap.size + 1 + 1, 0, none⟩ = false := by rw [hf _ _ (by simp <;> omega)]; simp [go_sem]
      have u1 : w1.cell? ⟨w.heap.size + 1 + 1, 1, none⟩ = some (.int .i64 0) := by rw [hc _ _ (by simp <;> omega)]; simp [go_sem]
      have uf1 : w1.frozen? ⟨w.heap.size + 1 + 1, 1, none⟩ = false := by rw [hf _ _ (by simp <;> omega)]; simp [go_sem]
      have u2 : w1.cell? ⟨w.heap.size + 1 + 1, 2, none⟩ = some (.int .i64 0) := by rw [hc _ _ (by simp <;> omega)]; simp [go_sem]
      have uf2 : w1.frozen? ⟨w.heap.size + 1 + 1, 2, none⟩ = false := by rw [hf _ _ (by simp <;> omega)]; simp [go_sem]
      have u3 : w1.cell? ⟨w.heap.size + 1 + 1, 3, none⟩ = some (.int .i64 0) := by rw [hc _ _ (by simp <;> omega)]; simp [go_sem]
      have uf3 : w1.frozen? ⟨w.heap.size + 1 + 1, 3, none⟩ = false := by rw [hf _ _ (by simp <;> omega)]; simp [go_sem]
      have u4 : w1.cell? ⟨w.heap.size + 1 + 1, 4, none⟩ = some (.int .i64 0) := by rw [hc _ _ (by simp <;> omega)]; simp [go_sem]
      have uf4 : w1.frozen? ⟨w.heap.size + 1 + 1, 4, none⟩ = false := by rw [hf _ _ (by simp <;> omega)]; simp [go_sem]
      have A0 := fun (o : Obj) k => old1 hz o k
      have A1 := fun (o : Obj) k => old1f hz o k
      clear hc hf b1
      go_wp2_with fail
      refine bodyPost_ret (v := .tuple #[(⟨0, x1, 0, 0, x4⟩ : Se).v, .slice (some ⟨w1.heap.size, 0, none⟩) 1 1]) (by simp [results, Try.results25, go_sem, u0, u1, u2, u3, u4, old1, hz]) rfl ⟨_, rfl, TB.one' (by decide) (by simp) (by omega), ?_⟩
      exact (by (repeat (first | with_reducible exact Below.refl _ _ | with_reducible exact d1 | with_reducible apply Below.setCell | with_reducible apply Below.alloc)); all_goals (first | (simp; done) | (simp; omega) | omega))
  · clear hG hG0
    rw [show stp ⟨3, x1, x2, x3, x4⟩ 5 n = (⟨0, x1, 0, 0, x4⟩, 3) by simp [stp]]
    go_enter Try.func25, Try.ntmps25
    go_wp2_with fail
    refine (s1.out _ _ _ _ _ _ _).mono ?_
    rintro e w1 ⟨rfl, b1⟩
    obtain ⟨hc, hf⟩ := bcell b1
    have hz : w.heap.size + 1 + 1 < w1.heap.size := by have := b1.size; simp at this; omega
    have hz0 : w.heap.size < w1.heap.size := by omega
    have d1 : Below w.heap.size w w1 := below_box3 b1
    have u0 : w1.cell? ⟨w.heap.size + 1 + 1, 0, none⟩ = some (.int .i64 0) := by rw [hc _ _ (by simp <;> omega)]; simp [go_sem]
    have uf0 : w1.frozen? ⟨w.heap.size + 1 + 1, 0, none⟩ = false := by rw [hf _ _ (by simp <;> omega)]; simp [go_sem]
    have u1 : w1.cell? ⟨w.heap.size + 1 + 1, 1, none⟩ = some (.int .i64 0) := by rw [hc _ _ (by simp <;> omega)]; simp [go_sem]
    have uf1 : w1.frozen? ⟨w.heap.size + 1 + 1, 1, none⟩ = false := by rw [hf _ _ (by simp <;> omega)]; simp [go_sem]
    have u2 : w1.cell? ⟨w.heap.size + 1 + 1, 2, none⟩ = some (.int .i64 0) := by rw [hc _ _ (by simp <;> omega)]; simp [go_sem]
    have uf2 : w1.frozen? ⟨w.heap.size + 1 + 1, 2, none⟩ = false := by rw [hf _ _ (by simp <;> omega)]; simp [go_sem]
    have u3 : w1.cell? ⟨w.heap.size + 1 + 1, 3, none⟩ = some (.int .i64 0) := by rw [hc _ _ (by simp <;> omega)]; simp [go_sem]
    have uf3 : w1.frozen? ⟨w.heap.size + 1 + 1, 3, none⟩ = false := by rw [hf _ _ (by simp <;> omega)]; simp [go_sem]
    have u4 : w1.cell? ⟨w.heap.size + 1 + 1, 4, none⟩ = some (.int .i64 0) := by rw [hc _ _ (by simp <;> omega)]; simp [go_sem]
    have uf4 : w1.frozen? ⟨w.heap.size + 1 + 1, 4, none⟩ = false := by rw [hf _ _ (by simp <;> omega)]; simp [go_sem]
    have A0 := fun (o : Obj) k => old1 hz o k
    have A1 := fun (o : Obj) k => old1f hz o k
    clear hc hf b1
    go_wp2_with fail
    refine bodyPost_ret (v := .tuple #[(⟨0, x1, 0, 0, x4⟩ : Se).v, .slice (some ⟨w1.heap.size, 0, none⟩) 1 1]) (by simp [results, Try.results25, go_sem, u0, u1, u2, u3, u4, old1, hz]) rfl ⟨_, rfl, TB.one' (by decide) (by simp) (by omega), ?_⟩
    exact (by (repeat (first | with_reducible exact Below.refl _ _ | with_reducible exact d1 | with_reducible apply Below.setCell | with_reducible apply Below.alloc)); all_goals (first | (simp; done) | (simp; omega) | omega))
  · clear hG hG0
    rw [show stp ⟨4, x1, x2, x3, x4⟩ 5 n = (⟨0, x1, 0, 0, x4⟩, 3) by simp [stp]]
    go_enter Try.func25, Try.ntmps25
    go_wp2_with fail
    refine (s1.out _ _ _ _ _ _ _).mono ?_
    rintro e w1 ⟨rfl, b1⟩
    obtain ⟨hc, hf⟩ := bcell b1
    have hz : w.heap.size + 1 + 1 < w1.heap.size := by have := b1.size; simp at this; omega
    have hz0 : w.heap.size < w1.heap.size := by omega
    have d1 : Below w.heap.size w w1 := below_box3 b1
    have u0 : w1.cell? ⟨w.heap.size + 1 + 1, 0, none⟩ = some (.int .i64 0) := by rw [hc _ _ (by simp <;> omega)]; simp [go_sem]
    have uf0 : w1.frozen? ⟨w.heap.size + 1 + 1, 0, none⟩ = false := by rw [hf _ _ (by simp <;> omega)]; simp [go_sem]
    have u1 : w1.cell? ⟨w.heap.size + 1 + 1, 1, none⟩ = some (.int .i64 0) := by rw [hc _ _ (by simp <;> omega)]; simp [go_sem]
    have uf1 : w1.frozen? ⟨w.heap.size + 1 + 1, 1, none⟩ = false := by rw [hf _ _ (by simp <;> omega)]; simp [go_sem]
    have u2 : w1.cell? ⟨w.heap.size + 1 + 1, 2, none⟩ = some (.int .i64 0) := by rw [hc _ _ (by simp <;> omega)]; simp [go_sem]
    have uf2 : w1.frozen? ⟨w.heap.size + 1 + 1, 2, none⟩ = false := by rw [hf _ _ (by simp <;> omega)]; simp [go_sem]
    have u3 : w1.cell? ⟨w.heap.size + 1 + 1, 3, none⟩ = some (.int .i64 0) := by rw [hc _ _ (by simp <;> omega)]; simp [go_sem]
    have uf3 : w1.frozen? ⟨w.heap.size + 1 + 1, 3, none⟩ = false := by rw [hf _ _ (by simp <;> omega)]; simp [go_sem]
    have u4 : w1.cell? ⟨w.heap.size + 1 + 1, 4, none⟩ = some (.int .i64 0) := by rw [hc _ _ (by simp <;> omega)]; simp [go_sem]
    have uf4 : w1.frozen? ⟨w.heap.size + 1 + 1, 4, none⟩ = false := by rw [hf _ _ (by simp <;> omega)]; simp [go_sem]
    have A0 := fun (o : Obj) k => old1 hz o k
    have A1 := fun (o : Obj) k => old1f hz o k
    clear hc hf b1
    go_wp2_with fail
    refine bodyPost_ret (v := .tuple #[(⟨0, x1, 0, 0, x4⟩ : Se).v, .slice (some ⟨w1.heap.size, 0, none⟩) 1 1]) (by simp [results, Try.results25, go_sem, u0, u1, u2, u3, u4, old1, hz]) rfl ⟨_, rfl, TB.one' (by decide) (by simp) (by omega), ?_⟩
    exact (by (repeat (first | with_reducible exact Below.refl _ _ | with_reducible exact d1 | with_reducible apply Below.setCell | with_reducible apply Below.alloc)); all_goals (first | (simp; done) | (simp; omega) | omega))
set_option maxRecDepth 100000 in
set_option maxHeartbeats 3200000 in
theorem s_step8 (x0 x1 x2 x3 x4 : Int) (n : Int) (w : World) (hG : GS ⟨x0, x1, x2, x3, x4⟩) :
    Calls Try.prog 25 #[(⟨x0, x1, x2, x3, x4⟩ : Se).v, .agg #[.int .i64 8, .int .i64 n]] w fun e w' => ∃ v, e = .returned (.tuple #[(stp ⟨x0, x1, x2, x3, x4⟩ 8 n).1.v, v]) ∧ TB w.heap.size v (stp ⟨x0, x1, x2, x3, x4⟩ 8 n).2 w' ∧ Below w.heap.size w w' := by
  have s1 := hide (fun x0 x1 x2 x3 x4 t w => s_to x0 x1 x2 x3 x4 t w)
  have hG0 := hG
  unfold GS at hG
  dsimp only at hG
  have hx0 : x0 = 0 ∨ x0 = 1 ∨ x0 = 2 ∨ x0 = 3 ∨ x0 = 4 := by omega
  have h1a : 3 ≤ x1 := by omega
  have h1b : x1 ≤ 90 := by omega
  have h4a : 0 ≤ x4 := by omega
  have h4b : x4 ≤ 1000 := by omega
  rcases hx0 with rfl | rfl | rfl | rfl | rfl
  · clear hG hG0
    clear s1
    rw [show stp ⟨0, x1, x2, x3, x4⟩ 8 n = (⟨0, x1, x2, x3, x4⟩, 0) by simp [stp]]
    go_enter Try.func25, Try.ntmps25
    go_wp2_with fail
    exact bodyPost_ret (v := .tuple #[(⟨0, x1, x2, x3, x4⟩ : Se).v, .slice none 0 0]) (by simp [results, Try.results25, go_sem]) rfl ⟨_, rfl, TB.nil _ _, (by (repeat (first | with_reducible exact Below.refl _ _ | with_reducible exact d1 | with_reducible apply Below.setCell | with_reducible apply Below.alloc)); all_goals (first | (simp; done) | (simp; omega) | omega))⟩
  · clear hG hG0
    clear s1
    rw [show stp ⟨1, x1, x2, x3, x4⟩ 8 n = (⟨1, x1, x2, x3, x4⟩, 0) by simp [stp]]
    go_enter Try.func25, Try.ntmps25
    go_wp2_with fail
    exact bodyPost_ret (v := .tuple #[(⟨1, x1, x2, x3, x4⟩ : Se).v, .slice none 0 0]) (by simp [results, Try.results25, go_sem]) rfl ⟨_, rfl, TB.nil _ _, (by (repeat (first | with_reducible exact Below.refl _ _ | with_reducible exact d1 | with_reducible apply Below.setCell | with_reducible apply Below.alloc)); all_goals (first | (simp; done) | (simp; omega) | omega))⟩
  · clear hG hG0
    rw [show stp ⟨2, x1, x2, x3, x4⟩ 8 n = (⟨0, x1, 0, 0, x4⟩, 3) by simp [stp]]
    go_enter Try.func25, Try.ntmps25
    go_wp2_with fail
    refine (s1.out _ _ _ _ _ _ _).mono ?_
    rintro e w1 ⟨rfl, b1⟩
    obtain ⟨hc, hf⟩ := bcell b1
    have hz : w.heap.size + 1 + 1 < w1.heap.size := by have := b1.size; simp at this; omega
    have hz0 : w.heap.size < w1.heap.size := by omega
    have d1 : Below w.heap.size w w1 := below_box3 b1
    have u0 : w1.cell? ⟨w.heap.size + 1 + 1, 0, none⟩ = some (.int .i64 0) := by rw [hc _ _ (by simp <;> omega)]; simp [go_sem]
    have uf0 : w1.frozen? ⟨w.heap.size + 1 + 1, 0, none⟩ = false := by rw [hf _ _ (by simp <;> omega)]; simp [go_sem]
    have u1 : w1.cell? ⟨w.heap.size + 1 + 1, 1, none⟩ = some (.int .i64 0) := by rw [hc _ _ (by simp <;> omega)]; simp [go_sem]
    have uf1 : w1.frozen? ⟨w.heap.size + 1 + 1, 1, none⟩ = false := by rw [hf _ _ (by simp <;> omega)]; simp [go_sem]
    have u2 : w1.cell? ⟨w.heap.size + 1 + 1, 2, none⟩ = some (.int .i64 0) := by rw [hc _ _ (by simp <;> omega)]; simp [go_sem]
    have uf2 : w1.frozen? ⟨w.heap.size + 1 + 1, 2, none⟩ = false := by rw [hf _ _ (by simp <;> omega)]; simp [go_sem]
    have u3 : w1.cell? ⟨w.heap.size + 1 + 1, 3, none⟩ = some (.int .i64 0) := by rw [hc _ _ (by simp <;> omega)]; simp [go_sem]
    have uf3 : w1.frozen? ⟨w.heap.size + 1 + 1, 3, none⟩ = false := by rw [hf _ _ (by simp <;> omega)]; simp [go_sem]
    have u4 : w1.cell? ⟨w.heap.size + 1 + 1, 4, none⟩ = some (.int .i64 0) := by rw [hc _ _ (by simp <;> omega)]; simp [go_sem]
    have uf4 : w1.frozen? ⟨w.heap.size + 1 + 1, 4, none⟩ = false := by rw [hf _ _ (by simp <;> omega)]; simp [go_sem]
    have A0 := fun (o : Obj) k => old1 hz o k
    have A1 := fun (o : Obj) k => old1f hz o k
    clear hc hf b1
    go_wp2_with fail
    refine bodyPost_ret (v := .tuple #[(⟨0, x1, 0, 0, x4⟩ : Se).v, .slice (some ⟨w1.heap.size, 0, none⟩) 1 1]) (by simp [results, Try.results25, go_sem, u0, u1, u2, u3, u4, old1, hz]) rfl ⟨_, rfl, TB.one' (by decide) (by simp) (by omega), ?_⟩
    exact (by (repeat (first | with_reducible exact Below.refl _ _ | with_reducible exact d1 | with_reducible apply Below.setCell | with_reducible apply Below.alloc)); all_goals (first | (simp; done) | (simp; omega) | omega))
  · clear hG hG0
    rw [show stp ⟨3, x1, x2, x3, x4⟩ 8 n = (⟨0, x1, 0, 0, x4⟩, 3) by simp [stp]]
    go_enter Try.func25, Try.ntmps25
    go_wp2_with fail
    refine (s1.out _ _ _ _ _ _ _).mono ?_
    rintro e w1 ⟨rfl, b1⟩
    obtain ⟨hc, hf⟩ := bcell b1
    have hz : w.heap.size + 1 + 1 < w1.heap.size := by have := b1.size; simp at this; omega
    have hz0 : w.heap.size < w1.heap.size := by omega
    have d1 : Below w.heap.size w w1 := below_box3 b1
    have u0 : w1.cell? ⟨w.heap.size + 1 + 1, 0, none⟩ = some (.int .i64 0) := by rw [hc _ _ (by simp <;> omega)]; simp [go_sem]
    have uf0 : w1.frozen? ⟨w.heap.size + 1 + 1, 0, none⟩ = false := by rw [hf _ _ (by simp <;> omega)]; simp [go_sem]
    have u1 : w1.cell? ⟨w.heap.size + 1 + 1, 1, none⟩ = some (.int .i64 0) := by rw [hc _ _ (by simp <;> omega)]; simp [go_sem]
    have uf1 : w1.frozen? ⟨w.heap.size + 1 + 1, 1, none⟩ = false := by rw [hf _ _ (by simp <;> omega)]; simp [go_sem]
    have u2 : w1.cell? ⟨w.heap.size + 1 + 1, 2, none⟩ = some (.int .i64 0) := by rw [hc _ _ (by simp <;> omega)]; simp [go_sem]
    have uf2 : w1.frozen? ⟨w.heap.size + 1 + 1, 2, none⟩ = false := by rw [hf _ _ (by simp <;> omega)]; simp [go_sem]
    have u3 : w1.cell? ⟨w.heap.size + 1 + 1, 3, none⟩ = some (.int .i64 0) := by rw [hc _ _ (by simp <;> omega)]; simp [go_sem]
    have uf3 : w1.frozen? ⟨w.heap.size + 1 + 1, 3, none⟩ = false := by rw [hf _ _ (by simp <;> omega)]; simp [go_sem]
    have u4 : w1.cell? ⟨w.heap.size + 1 + 1, 4, none⟩ = some (.int .i64 0) := by rw [hc _ _ (by simp <;> omega)]; simp [go_sem]
    have uf4 : w1.frozen? ⟨w.heap.size + 1 + 1, 4, none⟩ = false := by rw [hf _ _ (by simp <;> omega)]; simp [go_sem]
    have A0 := fun (o : Obj) k => old1 hz o k
    have A1 := fun (o : Obj) k => old1f hz o k
    clear hc hf b1
    go_wp2_with fail
    refine bodyPost_ret (v := .tuple #[(⟨0, x1, 0, 0, x4⟩ : Se).v, .slice (some ⟨w1.heap.size, 0, none⟩) 1 1]) (by simp [results, Try.results25, go_sem, u0, u1, u2, u3, u4, old1, hz]) rfl ⟨_, rfl, TB.one' (by decide) (by simp) (by omega), ?_⟩
    exact (by (repeat (first | with_reducible exact Below.refl _ _ | with_reducible exact d1 | with_reducible apply Below.setCell | with_reducible apply Below.alloc)); all_goals (first | (simp; done) | (simp; omega) | omega))
  · clear hG hG0
    clear s1
    rw [show stp ⟨4, x1, x2, x3, x4⟩ 8 n = (⟨4, x1, x1, x3, x4⟩, 0) by simp [stp]]
    go_enter Try.func25, Try.ntmps25
    go_wp2_with fail
    exact bodyPost_ret (v := .tuple #[(⟨4, x1, x1, x3, x4⟩ : Se).v, .slice none 0 0]) (by simp [results, Try.results25, go_sem]) rfl ⟨_, rfl, TB.nil _ _, (by (repeat (first | with_reducible exact Below.refl _ _ | with_reducible exact d1 | with_reducible apply Below.setCell | with_reducible apply Below.alloc)); all_goals (first | (simp; done) | (simp; omega) | omega))⟩
set_option maxRecDepth 100000 in
set_option maxHeartbeats 3200000 in
theorem s_stepN (x0 x1 x2 x3 x4 : Int) (k : Int) (n : Int) (w : World) (hG : GS ⟨x0, x1, x2, x3, x4⟩) (hk : k ≠ 10 ∧ k ≠ 1 ∧ k ≠ 3 ∧ k ≠ 4 ∧ k ≠ 9 ∧ k ≠ 2 ∧ k ≠ 5 ∧ k ≠ 7 ∧ k ≠ 8) :
    Calls Try.prog 25 #[(⟨x0, x1, x2, x3, x4⟩ : Se).v, .agg #[.int .i64 k, .int .i64 n]] w fun e w' => ∃ v, e = .returned (.tuple #[(stp ⟨x0, x1, x2, x3, x4⟩ k n).1.v, v]) ∧ TB w.heap.size v (stp ⟨x0, x1, x2, x3, x4⟩ k n).2 w' ∧ Below w.heap.size w w' := by
  have s1 := hide (fun x0 x1 x2 x3 x4 t w => s_to x0 x1 x2 x3 x4 t w)
  have q10 : (k == 10) = false := by simp; omega
  have q1 : (k == 1) = false := by simp; omega
  have q3 : (k == 3) = false := by simp; omega
  have q4 : (k == 4) = false := by simp; omega
  have q9 : (k == 9) = false := by simp; omega
  have q2 : (k == 2) = false := by simp; omega
  have q5 : (k == 5) = false := by simp; omega
  have q7 : (k == 7) = false := by simp; omega
  have q8 : (k == 8) = false := by simp; omega
  obtain ⟨m10, m1, m3, m4, m9, m2, m5, m7, m8⟩ := hk
  have hG0 := hG
  unfold GS at hG
  dsimp only at hG
  have hx0 : x0 = 0 ∨ x0 = 1 ∨ x0 = 2 ∨ x0 = 3 ∨ x0 = 4 := by omega
  have h1a : 3 ≤ x1 := by omega
  have h1b : x1 ≤ 90 := by omega
  have h4a : 0 ≤ x4 := by omega
  have h4b : x4 ≤ 1000 := by omega
  rcases hx0 with rfl | rfl | rfl | rfl | rfl
  · clear hG hG0
    clear s1
    rw [show stp ⟨0, x1, x2, x3, x4⟩ k n = (⟨0, x1, x2, x3, x4⟩, 0) by simp [stp, m10, m1, m3, m4, m9, m2]]
    go_enter Try.func25, Try.ntmps25
    go_wp2_with fail
    exact bodyPost_ret (v := .tuple #[(⟨0, x1, x2, x3, x4⟩ : Se).v, .slice none 0 0]) (by simp [results, Try.results25, go_sem]) rfl ⟨_, rfl, TB.nil _ _, (by (repeat (first | with_reducible exact Below.refl _ _ | with_reducible exact d1 | with_reducible apply Below.setCell | with_reducible apply Below.alloc)); all_goals (first | (simp; done) | (simp; omega) | omega))⟩
  · clear hG hG0
    clear s1
    rw [show stp ⟨1, x1, x2, x3, x4⟩ k n = (⟨1, x1, x2, x3, x4⟩, 0) by simp [stp, m10, m1, m3, m4, m9, m2]]
    go_enter Try.func25, Try.ntmps25
    go_wp2_with fail
    exact bodyPost_ret (v := .tuple #[(⟨1, x1, x2, x3, x4⟩ : Se).v, .slice none 0 0]) (by simp [results, Try.results25, go_sem]) rfl ⟨_, rfl, TB.nil _ _, (by (repeat (first | with_reducible exact Below.refl _ _ | with_reducible exact d1 | with_reducible apply Below.setCell | with_reducible apply Below.alloc)); all_goals (first | (simp; done) | (simp; omega) | omega))⟩
  · clear hG hG0
    rw [show stp ⟨2, x1, x2, x3, x4⟩ k n = (⟨0, x1, 0, 0, x4⟩, 3) by simp [stp, m10, m1, m3, m4, m9, m2, m5, m7, m8]]
    go_enter Try.func25, Try.ntmps25
    go_wp2_with fail
    refine (s1.out _ _ _ _ _ _ _).mono ?_
    rintro e w1 ⟨rfl, b1⟩
    obtain ⟨hc, hf⟩ := bcell b1
    have hz : w.heap.size + 1 + 1 < w1.heap.size := by have := b1.size; simp at this; omega
    have hz0 : w.heap.size < w1.heap.size := by omega
    have d1 : Below w.heap.size w w1 := below_box3 b1
    have u0 : w1.cell? ⟨w.heap.size + 1 + 1, 0, none⟩ = some (.int .i64 0) := by rw [hc _ _ (by simp <;> omega)]; simp [go_sem]
    have uf0 : w1.frozen? ⟨w.heap.size + 1 + 1, 0, none⟩ = false := by rw [hf _ _ (by simp <;> omega)]; simp [go_sem]
    have u1 : w1.cell? ⟨w.heap.size + 1 + 1, 1, none⟩ = some (.int .i64 0) := by rw [hc _ _ (by simp <;> omega)]; simp [go_sem]
    have uf1 : w1.frozen? ⟨w.heap.size + 1 + 1, 1, none⟩ = false := by rw [hf _ _ (by simp <;> omega)]; simp [go_sem]
    have u2 : w1.cell? ⟨w.heap.size + 1 + 1, 2, none⟩ = some (.int .i64 0) := by rw [hc _ _ (by simp <;> omega)]; simp [go_sem]
    have uf2 : w1.frozen? ⟨w.heap.size + 1 + 1, 2, none⟩ = false := by rw [hf _ _ (by simp <;> omega)]; simp [go_sem]
    have u3 : w1.cell? ⟨w.heap.size + 1 + 1, 3, none⟩ = some (.int .i64 0) := by rw [hc _ _ (by simp <;> omega)]; simp [go_sem]
    have uf3 : w1.frozen? ⟨w.heap.size + 1 + 1, 3, none⟩ = false := by rw [hf _ _ (by simp <;> omega)]; simp [go_sem]
    have u4 : w1.cell? ⟨w.heap.size + 1 + 1, 4, none⟩ = some (.int .i64 0) := by rw [hc _ _ (by simp <;> omega)]; simp [go_sem]
    have uf4 : w1.frozen? ⟨w.heap.size + 1 + 1, 4, none⟩ = false := by rw [hf _ _ (by simp <;> omega)]; simp [go_sem]
    have A0 := fun (o : Obj) k => old1 hz o k
    have A1 := fun (o : Obj) k => old1f hz o k
    clear hc hf b1
    go_wp2_with fail
    refine bodyPost_ret (v := .tuple #[(⟨0, x1, 0, 0, x4⟩ : Se).v, .slice (some ⟨w1.heap.size, 0, none⟩) 1 1]) (by simp [results, Try.results25, go_sem, u0, u1, u2, u3, u4, old1, hz]) rfl ⟨_, rfl, TB.one' (by decide) (by simp) (by omega), ?_⟩
    exact (by (repeat (first | with_reducible exact Below.refl _ _ | with_reducible exact d1 | with_reducible apply Below.setCell | with_reducible apply Below.alloc)); all_goals (first | (simp; done) | (simp; omega) | omega))
  · clear hG hG0
    rw [show stp ⟨3, x1, x2, x3, x4⟩ k n = (⟨0, x1, 0, 0, x4⟩, 3) by simp [stp, m10, m1, m3, m4, m9, m2, m5, m7, m8]]
    go_enter Try.func25, Try.ntmps25
    go_wp2_with fail
    refine (s1.out _ _ _ _ _ _ _).mono ?_
    rintro e w1 ⟨rfl, b1⟩
    obtain ⟨hc, hf⟩ := bcell b1
    have hz : w.heap.size + 1 + 1 < w1.heap.size := by have := b1.size; simp at this; omega
    have hz0 : w.heap.size < w1.heap.size := by omega
    have d1 : Below w.heap.size w w1 := below_box3 b1
    have u0 : w1.cell? ⟨w.heap.size + 1 + 1, 0, none⟩ = some (.int .i64 0) := by rw [hc _ _ (by simp <;> omega)]; simp [go_sem]
    have uf0 : w1.frozen? ⟨w.heap.size + 1 + 1, 0, none⟩ = false := by rw [hf _ _ (by simp <;> omega)]; simp [go_sem]
    have u1 : w1.cell? ⟨w.heap.size + 1 + 1, 1, none⟩ = some (.int .i64 0) := by rw [hc _ _ (by simp <;> omega)]; simp [go_sem]
    have uf1 : w1.frozen? ⟨w.heap.size + 1 + 1, 1, none⟩ = false := by rw [hf _ _ (by simp <;> omega)]; simp [go_sem]
    have u2 : w1.cell? ⟨w.heap.size + 1 + 1, 2, none⟩ = some (.int .i64 0) := by rw [hc _ _ (by simp <;> omega)]; simp [go_sem]
    have uf2 : w1.frozen? ⟨w.heap.size + 1 + 1, 2, none⟩ = false := by rw [hf _ _ (by simp <;> omega)]; simp [go_sem]
    have u3 : w1.cell? ⟨w.heap.size + 1 + 1, 3, none⟩ = some (.int .i64 0) := by rw [hc _ _ (by simp <;> omega)]; simp [go_sem]
    have uf3 : w1.frozen? ⟨w.heap.size + 1 + 1, 3, none⟩ = false := by rw [hf _ _ (by simp <;> omega)]; simp [go_sem]
    have u4 : w1.cell? ⟨w.heap.size + 1 + 1, 4, none⟩ = some (.int .i64 0) := by rw [hc _ _ (by simp <;> omega)]; simp [go_sem]
    have uf4 : w1.frozen? ⟨w.heap.size + 1 + 1, 4, none⟩ = false := by rw [hf _ _ (by simp <;> omega)]; simp [go_sem]
    have A0 := fun (o : Obj) k => old1 hz o k
    have A1 := fun (o : Obj) k => old1f hz o k
    clear hc hf b1
    go_wp2_with fail
    refine bodyPost_ret (v := .tuple #[(⟨0, x1, 0, 0, x4⟩ : Se).v, .slice (some ⟨w1.heap.size, 0, none⟩) 1 1]) (by simp [results, Try.results25, go_sem, u0, u1, u2, u3, u4, old1, hz]) rfl ⟨_, rfl, TB.one' (by decide) (by simp) (by omega), ?_⟩
    exact (by (repeat (first | with_reducible exact Below.refl _ _ | with_reducible exact d1 | with_reducible apply Below.setCell | with_reducible apply Below.alloc)); all_goals (first | (simp; done) | (simp; omega) | omega))
  · clear hG hG0
    rw [show stp ⟨4, x1, x2, x3, x4⟩ k n = (⟨0, x1, 0, 0, x4⟩, 3) by simp [stp, m10, m1, m3, m4, m9, m2, m5, m7, m8]]
    go_enter Try.func25, Try.ntmps25
    go_wp2_with fail
    refine (s1.out _ _ _ _ _ _ _).mono ?_
    rintro e w1 ⟨rfl, b1⟩
    obtain ⟨hc, hf⟩ := bcell b1
    have hz : w.heap.size + 1 + 1 < w1.heap.size := by have := b1.size; simp at this; omega
    have hz0 : w.heap.size < w1.heap.size := by omega
    have d1 : Below w.heap.size w w1 := below_box3 b1
    have u0 : w1.cell? ⟨w.heap.size + 1 + 1, 0, none⟩ = some (.int .i64 0) := by rw [hc _ _ (by simp <;> omega)]; simp [go_sem]
    have uf0 : w1.frozen? ⟨w.heap.size + 1 + 1, 0, none⟩ = false := by rw [hf _ _ (by simp <;> omega)]; simp [go_sem]
    have u1 : w1.cell? ⟨w.heap.size + 1 + 1, 1, none⟩ = some (.int .i64 0) := by rw [hc _ _ (by simp <;> omega)]; simp [go_sem]
    have uf1 : w1.frozen? ⟨w.heap.size + 1 + 1, 1, none⟩ = false := by rw [hf _ _ (by simp <;> omega)]; simp [go_sem]
    have u2 : w1.cell? ⟨w.heap.size + 1 + 1, 2, none⟩ = some (.int .i64 0) := by rw [hc _ _ (by simp <;> omega)]; simp [go_sem]
    have uf2 : w1.frozen? ⟨w.heap.size + 1 + 1, 2, none⟩ = false := by rw [hf _ _ (by simp <;> omega)]; simp [go_sem]
    have u3 : w1.cell? ⟨w.heap.size + 1 + 1, 3, none⟩ = some (.int .i64 0) := by rw [hc _ _ (by simp <;> omega)]; simp [go_sem]
    have uf3 : w1.frozen? ⟨w.heap.size + 1 + 1, 3, none⟩ = false := by rw [hf _ _ (by simp <;> omega)]; simp [go_sem]
    have u4 : w1.cell? ⟨w.heap.size + 1 + 1, 4, none⟩ = some (.int .i64 0) := by rw [hc _ _ (by simp <;> omega)]; simp [go_sem]
    have uf4 : w1.frozen? ⟨w.heap.size + 1 + 1, 4, none⟩ = false := by rw [hf _ _ (by simp <;> omega)]; simp [go_sem]
    have A0 := fun (o : Obj) k => old1 hz o k
    have A1 := fun (o : Obj) k => old1f hz o k
    clear hc hf b1
    go_wp2_with fail
    refine bodyPost_ret (v := .tuple #[(⟨0, x1, 0, 0, x4⟩ : Se).v, .slice (some ⟨w1.heap.size, 0, none⟩) 1 1]) (by simp [results, Try.results25, go_sem, u0, u1, u2, u3, u4, old1, hz]) rfl ⟨_, rfl, TB.one' (by decide) (by simp) (by omega), ?_⟩
    exact (by (repeat (first | with_reducible exact Below.refl _ _ | with_reducible exact d1 | with_reducible apply Below.setCell | with_reducible apply Below.alloc)); all_goals (first | (simp; done) | (simp; omega) | omega))
end Go.Proofs.Ytjfalfjadleegaa
