/- Ticks and steps of the specification. -/
import Derived.Test.YtjfalfjadleegaaS12a
namespace Go.Proofs.Ytjfalfjadleegaa
open Go.RowKit

theorem old1f {w2 : World} {b : Nat} (h : b < w2.heap.size) (o : Obj) (k : Nat) : (w2.alloc o).frozen? ⟨b, k, none⟩ = w2.frozen? ⟨b, k, none⟩ :=
  (bcell (below_box (Below.refl (w2.alloc o).heap.size (w2.alloc o)))).2 b k h
set_option maxRecDepth 100000 in
set_option maxHeartbeats 1600000 in
theorem s_to (x0 x1 x2 x3 x4 t : Int) (w : World) :
    Calls Try.prog 26 #[(⟨x0, x1, x2, x3, x4⟩ : Se).v, .int .i64 t] w fun e w' => e = .returned (⟨t, x1, 0, 0, x4⟩ : Se).v ∧ Below w.heap.size w w' := by
  go_enter Try.func26, Try.ntmps26
  go_wp2_with fail
  exact bodyPost_ret (v := (⟨t, x1, 0, 0, x4⟩ : Se).v) (by simp [results, Try.results26, go_sem]) rfl ⟨rfl, (by (repeat (first | with_reducible exact Below.refl _ _ | with_reducible exact d1 | with_reducible apply Below.setCell | with_reducible apply Below.alloc)); all_goals (first | (simp; done) | (simp; omega) | omega))⟩
set_option maxRecDepth 100000 in
set_option maxHeartbeats 1600000 in
theorem s_tick (x0 x1 x2 x3 x4 : Int) (w : World) (hG : GS ⟨x0, x1, x2, x3, x4⟩) :
    Calls Try.prog 16 #[(⟨x0, x1, x2, x3, x4⟩ : Se).v] w fun e w' => ∃ v, e = .returned (.tuple #[(tick ⟨x0, x1, x2, x3, x4⟩).1.v, v]) ∧ TB w.heap.size v (tick ⟨x0, x1, x2, x3, x4⟩).2 w' ∧ Below w.heap.size w w' := by
  have s1 := hide (fun x0 x1 x2 x3 x4 w => s_to x0 x1 x2 x3 x4 0 w)
  unfold GS at hG
  dsimp only at hG
  by_cases c0 : x0 < 2
  · rw [show tick ⟨x0, x1, x2, x3, x4⟩ = (⟨x0, x1, x2, x3, x4⟩, 0) by simp [tick, c0]]
    clear hG s1
    go_enter Try.func16, Try.ntmps16
    go_wp2_with fail
    exact bodyPost_ret (v := .tuple #[(⟨x0, x1, x2, x3, x4⟩ : Se).v, .slice none 0 0]) (by simp [results, Try.results16, go_sem]) rfl ⟨_, rfl, TB.nil _ _, (by (repeat (first | with_reducible exact Below.refl _ _ | with_reducible exact d1 | with_reducible apply Below.setCell | with_reducible apply Below.alloc)); all_goals (first | (simp; done) | (simp; omega) | omega))⟩
  · by_cases c1 : x2 = 1
    · rw [show tick ⟨x0, x1, x2, x3, x4⟩ = (⟨0, x1, 0, 0, x4⟩, 3) by simp [tick, c0, c1]]
      subst c1
      clear hG
      go_enter Try.func16, Try.ntmps16
      go_wp2_with fail
      refine (s1.out _ _ _ _ _ _).mono ?_
      rintro e w1 ⟨rfl, b1⟩
      obtain ⟨hc, hf⟩ := bcell b1
      have hz : w.heap.size + 1 < w1.heap.size := by have := b1.size; simp at this; omega
      have d1 : Below w.heap.size w w1 := by first | exact below_box2 b1 | exact below_box3 b1 | exact below_box b1
      have u0 : w1.cell? ⟨w.heap.size + 1, 0, none⟩ = some (.int .i64 0) := by rw [hc _ _ (by simp)]; simp [go_sem]
      have f0 : w1.frozen? ⟨w.heap.size + 1, 0, none⟩ = false := by rw [hf _ _ (by simp)]; simp [go_sem]
      have u1 : w1.cell? ⟨w.heap.size + 1, 1, none⟩ = some (.int .i64 0) := by rw [hc _ _ (by simp)]; simp [go_sem]
      have f1 : w1.frozen? ⟨w.heap.size + 1, 1, none⟩ = false := by rw [hf _ _ (by simp)]; simp [go_sem]
      have u2 : w1.cell? ⟨w.heap.size + 1, 2, none⟩ = some (.int .i64 0) := by rw [hc _ _ (by simp)]; simp [go_sem]
      have f2 : w1.frozen? ⟨w.heap.size + 1, 2, none⟩ = false := by rw [hf _ _ (by simp)]; simp [go_sem]
      have u3 : w1.cell? ⟨w.heap.size + 1, 3, none⟩ = some (.int .i64 0) := by rw [hc _ _ (by simp)]; simp [go_sem]
      have f3 : w1.frozen? ⟨w.heap.size + 1, 3, none⟩ = false := by rw [hf _ _ (by simp)]; simp [go_sem]
      have u4 : w1.cell? ⟨w.heap.size + 1, 4, none⟩ = some (.int .i64 0) := by rw [hc _ _ (by simp)]; simp [go_sem]
      have f4 : w1.frozen? ⟨w.heap.size + 1, 4, none⟩ = false := by rw [hf _ _ (by simp)]; simp [go_sem]
      have A0 := fun (o : Obj) k => old1 hz o k
      have A1 := fun (o : Obj) k => old1f hz o k
      clear hc hf b1
      go_wp2_with fail
      refine bodyPost_ret (v := .tuple #[(⟨0, x1, 0, 0, x4⟩ : Se).v, .slice (some ⟨w1.heap.size, 0, none⟩) 1 1]) (by simp [results, Try.results16, go_sem, u0, u1, u2, u3, u4, old1, hz]) rfl ⟨_, rfl, TB.one' (by decide) (by simp) (by omega), ?_⟩
      exact (by (repeat (first | with_reducible exact Below.refl _ _ | with_reducible exact d1 | with_reducible apply Below.setCell | with_reducible apply Below.alloc)); all_goals (first | (simp; done) | (simp; omega) | omega))
    · have hb2 : 2 ≤ x2 := by omega
      have hb2' : x2 ≤ 90 := by omega
      have c1' : (x2 - 1 == 0) = false := by simp; omega
      clear s1
      by_cases c2 : x0 = 2
      · rw [show tick ⟨x0, x1, x2, x3, x4⟩ = (⟨x0, x1, x2 - 1, x3, x4⟩, 0) by simp [tick, c1, c2]]
        clear hG
        have c2' : (x0 == 2) = true := by simp [c2]
        clear c2
        go_enter Try.func16, Try.ntmps16
        go_wp2_with fail
        exact bodyPost_ret (v := .tuple #[(⟨x0, x1, x2 - 1, x3, x4⟩ : Se).v, .slice none 0 0]) (by simp [results, Try.results16, go_sem]) rfl ⟨_, rfl, TB.nil _ _, (by (repeat (first | with_reducible exact Below.refl _ _ | with_reducible exact d1 | with_reducible apply Below.setCell | with_reducible apply Below.alloc)); all_goals (first | (simp; done) | (simp; omega) | omega))⟩
      · have c2' : (x0 == 2) = false := by simp [c2]
        by_cases c3 : x3 = 1
        · rw [show tick ⟨x0, x1, x2, x3, x4⟩ = (⟨x0, x1, x2 - 1, x1 / 3, x4⟩, 4) by simp [tick, c0, c1, c2, c3]]
          subst c3
          have hd : Int.tdiv x1 3 = x1 / 3 := Int.tdiv_eq_ediv_of_nonneg (by omega)
          have h1a : 3 ≤ x1 := by omega
          have h1b : x1 ≤ 90 := by omega
          clear hG
          go_enter Try.func16, Try.ntmps16
          go_wp2_with fail
          refine bodyPost_ret (v := .tuple #[(⟨x0, x1, x2 - 1, x1 / 3, x4⟩ : Se).v, .slice (some ⟨w.heap.size + 1 + 1, 0, none⟩) 1 1]) (by simp [results, Try.results16, go_sem]) rfl ⟨_, rfl, TB.one' (by decide) (by simp) (by omega), ?_⟩
          exact (by (repeat (first | with_reducible exact Below.refl _ _ | with_reducible exact d1 | with_reducible apply Below.setCell | with_reducible apply Below.alloc)); all_goals (first | (simp; done) | (simp; omega) | omega))
        · rw [show tick ⟨x0, x1, x2, x3, x4⟩ = (⟨x0, x1, x2 - 1, x3 - 1, x4⟩, 0) by simp [tick, c0, c1, c2, c3]]
          have hb3 : 2 ≤ x3 := by omega
          have hb3' : x3 ≤ 30 := by omega
          have c3' : (x3 - 1 == 0) = false := by simp; omega
          clear hG
          go_enter Try.func16, Try.ntmps16
          go_wp2_with fail
          exact bodyPost_ret (v := .tuple #[(⟨x0, x1, x2 - 1, x3 - 1, x4⟩ : Se).v, .slice none 0 0]) (by simp [results, Try.results16, go_sem]) rfl ⟨_, rfl, TB.nil _ _, (by (repeat (first | with_reducible exact Below.refl _ _ | with_reducible exact d1 | with_reducible apply Below.setCell | with_reducible apply Below.alloc)); all_goals (first | (simp; done) | (simp; omega) | omega))⟩
end Go.Proofs.Ytjfalfjadleegaa
