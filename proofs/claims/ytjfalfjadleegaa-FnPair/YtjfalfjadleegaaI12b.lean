/- What the states of the program have in common. -/
import Derived.Test.YtjfalfjadleegaaPlain12
import Derived.Test.YtjfalfjadleegaaMut4
import Derived.Test.YtjfalfjadleegaaArr6
namespace Go.Proofs.Ytjfalfjadleegaa
open Go.RowKit

/-- What StOpenSent and the states further on have in common. -/
def anyL (s : Se) (k : Int) : Se × Int := if k = 4 then (⟨1, s.ho, 0, 0, s.up⟩, 0) else if k = 9 then (⟨0, s.ho, 0, 0, s.up⟩, 0) else if k = 10 then tick s else (⟨0, s.ho, 0, 0, s.up⟩, 3)
theorem old1f {w2 : World} {b : Nat} (h : b < w2.heap.size) (o : Obj) (k : Nat) : (w2.alloc o).frozen? ⟨b, k, none⟩ = w2.frozen? ⟨b, k, none⟩ :=
  (bcell (below_box (Below.refl (w2.alloc o).heap.size (w2.alloc o)))).2 b k h
set_option maxRecDepth 100000 in
set_option maxHeartbeats 1600000 in
theorem i_unl (x0 x1 x2 x3 x4 t : Int) (w : World) :
    Calls Try.prog 35 #[(⟨x0, x1, x2, x3, x4⟩ : Se).v, .int .i64 t] w fun e w' => e = .returned (⟨t, x1, 0, 0, x4⟩ : Se).v ∧ Below w.heap.size w w' := by
  go_enter Try.func35, Try.ntmps35
  go_wp2_with fail
  exact bodyPost_ret (v := (⟨t, x1, 0, 0, x4⟩ : Se).v) (by simp [results, Try.results35, go_sem]) rfl ⟨rfl, (by (repeat (first | with_reducible exact Below.refl _ _ | with_reducible exact d1 | with_reducible apply Below.setCell | with_reducible apply Below.alloc)); all_goals (first | (simp; done) | (simp; omega) | omega))⟩
set_option maxRecDepth 100000 in
set_option maxHeartbeats 1600000 in
theorem i_given (x0 x1 x2 x3 x4 : Int) (w : World) :
    Calls Try.prog 38 #[(⟨x0, x1, x2, x3, x4⟩ : Se).v] w fun e w' => ∃ v, e = .returned (.tuple #[(⟨0, x1, 0, 0, x4⟩ : Se).v, v]) ∧ TB w.heap.size v 3 w' ∧ Below w.heap.size w w' := by
  have s1 := hide (fun w => i_unl x0 x1 x2 x3 x4 0 w)
  go_enter Try.func38, Try.ntmps38
  go_wp2_with fail
  refine (s1.out _).mono ?_
  rintro e w1 ⟨rfl, b1⟩
  obtain ⟨hc, hf⟩ := bcell b1
  have hz : w.heap.size + 1 < w1.heap.size := by have := b1.size; simp at this; omega
  have d1 : Below w.heap.size w w1 := by first | exact below_box2 b1 | exact below_box3 b1 | exact below_box b1
  have u0 : w1.cell? ⟨w.heap.size + 1, 0, none⟩ = some (.int .i64 0) := by rw [hc _ _ (by simp)]; simp [go_sem]
  have f0 : w1.frozen? ⟨w.heap.size + 1, 0, none⟩ = false := by rw [hf _ _ (by simp)]; simp [go_sem]
  have u1 : w1.cell? ⟨w.heap.size + 1, 1, none⟩ = some (.int .i64 0) := by rw [hc _ _ (by simp)]; simp [go_sem]
  have f1 : w1.frozen? ⟨w.heap.size + 1, 1, none⟩ = false := by rw [hf _ _ (by simp)]; simp [go_sem]
  have u2 : w1.cell? ⟨w.heap.size + 1, 2, none⟩ = some (.int .i64 0) := by rw [hc _ _ (by simp)]; simp [go_sem]
  have f2 : w1.frozen? ⟨w.heap.size + 1, 2, none⟩ = false := by rw [hf _ _ (by simp)]; simp [go_sem]
  have u3 : w1.cell? ⟨w.heap.size + 1, 3, none⟩ = some (.int .i64 0) := by rw [hc _ _ (by simp)]; simp [go_sem]
  have f3 : w1.frozen? ⟨w.heap.size + 1, 3, none⟩ = false := by rw [hf _ _ (by simp)]; simp [go_sem]
  have u4 : w1.cell? ⟨w.heap.size + 1, 4, none⟩ = some (.int .i64 0) := by rw [hc _ _ (by simp)]; simp [go_sem]
  have f4 : w1.frozen? ⟨w.heap.size + 1, 4, none⟩ = false := by rw [hf _ _ (by simp)]; simp [go_sem]
  have A0 := fun (o : Obj) k => old1 hz o k
  have A1 := fun (o : Obj) k => old1f hz o k
  clear hc hf b1
  go_wp2_with fail
  refine bodyPost_ret (v := .tuple #[(⟨0, x1, 0, 0, x4⟩ : Se).v, .slice (some ⟨w1.heap.size, 0, none⟩) 1 1]) (by simp [results, Try.results38, go_sem, u0, u1, u2, u3, u4, old1, hz]) rfl ⟨_, rfl, TB.one' (by decide) (by simp) (by omega), ?_⟩
  exact (by (repeat (first | with_reducible exact Below.refl _ _ | with_reducible exact d1 | with_reducible apply Below.setCell | with_reducible apply Below.alloc)); all_goals (first | (simp; done) | (simp; omega) | omega))
set_option maxRecDepth 100000 in
set_option maxHeartbeats 1600000 in
theorem i_ticked (x0 x1 x2 x3 x4 : Int) (w : World) (hG : GS ⟨x0, x1, x2, x3, x4⟩) (h2 : 2 ≤ x0) :
    Calls Try.prog 37 #[(⟨x0, x1, x2, x3, x4⟩ : Se).v] w fun e w' => ∃ v, e = .returned (.tuple #[(tick ⟨x0, x1, x2, x3, x4⟩).1.v, v]) ∧ TB w.heap.size v (tick ⟨x0, x1, x2, x3, x4⟩).2 w' ∧ Below w.heap.size w w' := by
  have s1 := hide (fun x0 x1 x2 x3 x4 w => i_given x0 x1 x2 x3 x4 w)
  unfold GS at hG
  dsimp only at hG
  have c0 : ¬ x0 < 2 := by omega
  by_cases c1 : x2 = 1
  · rw [show tick ⟨x0, x1, x2, x3, x4⟩ = (⟨0, x1, 0, 0, x4⟩, 3) by simp [tick, c0, c1]]
    subst c1
    clear hG
    go_enter Try.func37, Try.ntmps37
    go_wp2_with fail
    refine (s1.out _ _ _ _ _ _).mono ?_
    rintro e w1 ⟨v, rfl, T1, b1⟩
    obtain ⟨hc, hf⟩ := bcell b1
    have hz : w.heap.size + 1 < w1.heap.size := by have := b1.size; simp at this; omega
    have d1 : Below w.heap.size w w1 := by first | exact below_box2 b1 | exact below_box3 b1 | exact below_box b1
    have u0 : w1.cell? ⟨w.heap.size + 1, 0, none⟩ = some (.int .i64 0) := by rw [hc _ _ (by simp)]; simp [go_sem]
    have f0 : w1.frozen? ⟨w.heap.size + 1, 0, none⟩ = false := by rw [hf _ _ (by simp)]; simp [go_sem]
    have u1 : w1.cell? ⟨w.heap.size + 1, 1, none⟩ = some (.int .i64 0) := by rw [hc _ _ (by simp)]; simp [go_sem]
    have f1 : w1.frozen? ⟨w.heap.size + 1, 1, none⟩ = false := by rw [hf _ _ (by simp)]; simp [go_sem]
    have u2 : w1.cell? ⟨w.heap.size + 1, 2, none⟩ = some (.int .i64 0) := by rw [hc _ _ (by simp)]; simp [go_sem]
    have f2 : w1.frozen? ⟨w.heap.size + 1, 2, none⟩ = false := by rw [hf _ _ (by simp)]; simp [go_sem]
    have u3 : w1.cell? ⟨w.heap.size + 1, 3, none⟩ = some (.int .i64 0) := by rw [hc _ _ (by simp)]; simp [go_sem]
    have f3 : w1.frozen? ⟨w.heap.size + 1, 3, none⟩ = false := by rw [hf _ _ (by simp)]; simp [go_sem]
    have u4 : w1.cell? ⟨w.heap.size + 1, 4, none⟩ = some (.int .i64 0) := by rw [hc _ _ (by simp)]; simp [go_sem]
    have f4 : w1.frozen? ⟨w.heap.size + 1, 4, none⟩ = false := by rw [hf _ _ (by simp)]; simp [go_sem]
    have A0 := fun (o : Obj) k => old1 hz o k
    have A1 := fun (o : Obj) k => old1f hz o k
    clear hc hf b1
    go_wp2_with fail
    refine bodyPost_ret (v := .tuple #[(⟨0, x1, 0, 0, x4⟩ : Se).v, v]) (by simp [results, Try.results37, go_sem, u0, u1, u2, u3, u4]) rfl ⟨_, rfl, ?_, (by (repeat (first | with_reducible exact Below.refl _ _ | with_reducible exact d1 | with_reducible apply Below.setCell | with_reducible apply Below.alloc)); all_goals (first | (simp; done) | (simp; omega) | omega))⟩
    exact TB.base (TB.set (TB.set (TB.set (TB.set (TB.set T1 (by simp) _ _) (by simp) _ _) (by simp) _ _) (by simp) _ _) (by simp) _ _) (by simp; omega)
  · have hb2 : 2 ≤ x2 := by omega
    have hb2' : x2 ≤ 90 := by omega
    have c1' : (x2 - 1 == 0) = false := by simp; omega
    clear s1
    by_cases c2 : x0 = 2
    · rw [show tick ⟨x0, x1, x2, x3, x4⟩ = (⟨x0, x1, x2 - 1, x3, x4⟩, 0) by simp [tick, c1, c2]]
      clear hG
      have c2' : (x0 == 2) = true := by simp [c2]
      clear c2
      go_enter Try.func37, Try.ntmps37
      go_wp2_with fail
      exact bodyPost_ret (v := .tuple #[(⟨x0, x1, x2 - 1, x3, x4⟩ : Se).v, .slice none 0 0]) (by simp [results, Try.results37, go_sem]) rfl ⟨_, rfl, TB.nil _ _, (by (repeat (first | with_reducible exact Below.refl _ _ | with_reducible exact d1 | with_reducible apply Below.setCell | with_reducible apply Below.alloc)); all_goals (first | (simp; done) | (simp; omega) | omega))⟩
    · have c2' : (x0 == 2) = false := by simp [c2]
      by_cases c3 : x3 = 1
      · rw [show tick ⟨x0, x1, x2, x3, x4⟩ = (⟨x0, x1, x2 - 1, x1 / 3, x4⟩, 4) by simp [tick, c0, c1, c2, c3]]
        subst c3
        have hd : Int.tdiv x1 3 = x1 / 3 := Int.tdiv_eq_ediv_of_nonneg (by omega)
        have h1a : 3 ≤ x1 := by omega
        have h1b : x1 ≤ 90 := by omega
        clear hG
        go_enter Try.func37, Try.ntmps37
        go_wp2_with fail
        refine bodyPost_ret (v := .tuple #[(⟨x0, x1, x2 - 1, x1 / 3, x4⟩ : Se).v, .slice (some ⟨w.heap.size + 1 + 1, 0, none⟩) 1 1]) (by simp [results, Try.results37, go_sem]) rfl ⟨_, rfl, TB.one' (by decide) (by simp) (by omega), ?_⟩
        exact (by (repeat (first | with_reducible exact Below.refl _ _ | with_reducible exact d1 | with_reducible apply Below.setCell | with_reducible apply Below.alloc)); all_goals (first | (simp; done) | (simp; omega) | omega))
      · rw [show tick ⟨x0, x1, x2, x3, x4⟩ = (⟨x0, x1, x2 - 1, x3 - 1, x4⟩, 0) by simp [tick, c0, c1, c2, c3]]
        have hb3 : 2 ≤ x3 := by omega
        have hb3' : x3 ≤ 30 := by omega
        have c3' : x3 - 1 > 0 := by omega
        clear hG
        go_enter Try.func37, Try.ntmps37
        go_wp2_with fail
        exact bodyPost_ret (v := .tuple #[(⟨x0, x1, x2 - 1, x3 - 1, x4⟩ : Se).v, .slice none 0 0]) (by simp [results, Try.results37, go_sem]) rfl ⟨_, rfl, TB.nil _ _, (by (repeat (first | with_reducible exact Below.refl _ _ | with_reducible exact d1 | with_reducible apply Below.setCell | with_reducible apply Below.alloc)); all_goals (first | (simp; done) | (simp; omega) | omega))⟩
set_option maxRecDepth 100000 in
set_option maxHeartbeats 3200000 in
theorem i_any (x0 x1 x2 x3 x4 k n : Int) (w : World) (hG : GS ⟨x0, x1, x2, x3, x4⟩) (h2 : 2 ≤ x0) :
    Calls Try.prog 36 #[(⟨x0, x1, x2, x3, x4⟩ : Se).v, .agg #[.int .i64 k, .int .i64 n]] w fun e w' => ∃ v, e = .returned (.tuple #[(anyL ⟨x0, x1, x2, x3, x4⟩ k).1.v, v]) ∧ TB w.heap.size v (anyL ⟨x0, x1, x2, x3, x4⟩ k).2 w' ∧ Below w.heap.size w w' := by
  by_cases e4 : k = 4
  · rw [show anyL ⟨x0, x1, x2, x3, x4⟩ k = (⟨1, x1, 0, 0, x4⟩, 0) by simp [anyL, e4]]
    subst e4
    have s1 := hide (fun w => i_unl x0 x1 x2 x3 x4 1 w)
    go_enter Try.func36, Try.ntmps36
    go_wp2_with fail
    refine (s1.out _).mono ?_
    rintro e w1 ⟨rfl, b1⟩
    obtain ⟨hc, hf⟩ := bcell b1
    have hz : w.heap.size + 1 + 1 < w1.heap.size := by have := b1.size; simp at this; omega
    have hz0 : w.heap.size < w1.heap.size := by omega
    have d1 : Below w.heap.size w w1 := below_box3 b1
    have u0 : w1.cell? ⟨w.heap.size + 1 + 1, 0, none⟩ = some (.int .i64 0) := by rw [hc _ _ (by simp <;> omega)]; simp [go_sem]
    have uf0 : w1.frozen? ⟨w.heap.size + 1 + 1, 0, none⟩ = false := by rw [hf _ _ (by simp <;> omega)]; simp [go_sem]
    have u1 : w1.cell? ⟨w.heap.size + 1 + 1, 1, none⟩ = some (.int .i64 0) := by rw [hc _ _ (by simp <;> omega)]; simp [go_sem]
    have uf1 : w1.frozen? ⟨w.heap.size + 1 + 1, 1, none⟩ = false := by rw [hf _ _ (by simp <;> omega)]; simp [go_sem]
    have u2 : w1.cell? ⟨w.heap.size + 1 + 1, 2, none⟩ = some (.int .i64 0) := by rw [hc _ _ (by simp <;> omega)]; simp [go_sem]
    have uf2 : w1.frozen? ⟨w.heap.size + 1 + 1, 2, none⟩ = false := by rw [hf _ _ (by simp <;> omega)]; simp [go_sem]
    have u3 : w1.cell? ⟨w.heap.size + 1 + 1, 3, none⟩ = some (.int .i64 0) := by rw [hc _ _ (by simp <;> omega)]; simp [go_sem]
    have uf3 : w1.frozen? ⟨w.heap.size + 1 + 1, 3, none⟩ = false := by rw [hf _ _ (by simp <;> omega)]; simp [go_sem]
    have u4 : w1.cell? ⟨w.heap.size + 1 + 1, 4, none⟩ = some (.int .i64 0) := by rw [hc _ _ (by simp <;> omega)]; simp [go_sem]
    have uf4 : w1.frozen? ⟨w.heap.size + 1 + 1, 4, none⟩ = false := by rw [hf _ _ (by simp <;> omega)]; simp [go_sem]
    have A0 := fun (o : Obj) k => old1 hz o k
    have A1 := fun (o : Obj) k => old1f hz o k
    clear hc hf b1
    go_wp2_with fail
    exact bodyPost_ret (v := .tuple #[(⟨1, x1, 0, 0, x4⟩ : Se).v, .slice none 0 0]) (by simp [results, Try.results36, go_sem, u0, u1, u2, u3, u4]) rfl ⟨_, rfl, TB.nil _ _, (by (repeat (first | with_reducible exact Below.refl _ _ | with_reducible exact d1 | with_reducible apply Below.setCell | with_reducible apply Below.alloc)); all_goals (first | (simp; done) | (simp; omega) | omega))⟩
  by_cases e9 : k = 9
  · rw [show anyL ⟨x0, x1, x2, x3, x4⟩ k = (⟨0, x1, 0, 0, x4⟩, 0) by simp [anyL, e9]]
    subst e9
    have s1 := hide (fun w => i_unl x0 x1 x2 x3 x4 0 w)
    go_enter Try.func36, Try.ntmps36
    go_wp2_with fail
    refine (s1.out _).mono ?_
    rintro e w1 ⟨rfl, b1⟩
    obtain ⟨hc, hf⟩ := bcell b1
    have hz : w.heap.size + 1 + 1 < w1.heap.size := by have := b1.size; simp at this; omega
    have hz0 : w.heap.size < w1.heap.size := by omega
    have d1 : Below w.heap.size w w1 := below_box3 b1
    have u0 : w1.cell? ⟨w.heap.size + 1 + 1, 0, none⟩ = some (.int .i64 0) := by rw [hc _ _ (by simp <;> omega)]; simp [go_sem]
    have uf0 : w1.frozen? ⟨w.heap.size + 1 + 1, 0, none⟩ = false := by rw [hf _ _ (by simp <;> omega)]; simp [go_sem]
    have u1 : w1.cell? ⟨w.heap.size + 1 + 1, 1, none⟩ = some (.int .i64 0) := by rw [hc _ _ (by simp <;> omega)]; simp [go_sem]
    have uf1 : w1.frozen? ⟨w.heap.size + 1 + 1, 1, none⟩ = false := by rw [hf _ _ (by simp <;> omega)]; simp [go_sem]
    have u2 : w1.cell? ⟨w.heap.size + 1 + 1, 2, none⟩ = some (.int .i64 0) := by rw [hc _ _ (by simp <;> omega)]; simp [go_sem]
    have uf2 : w1.frozen? ⟨w.heap.size + 1 + 1, 2, none⟩ = false := by rw [hf _ _ (by simp <;> omega)]; simp [go_sem]
    have u3 : w1.cell? ⟨w.heap.size + 1 + 1, 3, none⟩ = some (.int .i64 0) := by rw [hc _ _ (by simp <;> omega)]; simp [go_sem]
    have uf3 : w1.frozen? ⟨w.heap.size + 1 + 1, 3, none⟩ = false := by rw [hf _ _ (by simp <;> omega)]; simp [go_sem]
    have u4 : w1.cell? ⟨w.heap.size + 1 + 1, 4, none⟩ = some (.int .i64 0) := by rw [hc _ _ (by simp <;> omega)]; simp [go_sem]
    have uf4 : w1.frozen? ⟨w.heap.size + 1 + 1, 4, none⟩ = false := by rw [hf _ _ (by simp <;> omega)]; simp [go_sem]
    have A0 := fun (o : Obj) k => old1 hz o k
    have A1 := fun (o : Obj) k => old1f hz o k
    clear hc hf b1
    go_wp2_with fail
    exact bodyPost_ret (v := .tuple #[(⟨0, x1, 0, 0, x4⟩ : Se).v, .slice none 0 0]) (by simp [results, Try.results36, go_sem, u0, u1, u2, u3, u4]) rfl ⟨_, rfl, TB.nil _ _, (by (repeat (first | with_reducible exact Below.refl _ _ | with_reducible exact d1 | with_reducible apply Below.setCell | with_reducible apply Below.alloc)); all_goals (first | (simp; done) | (simp; omega) | omega))⟩
  by_cases e10 : k = 10
  · rw [show anyL ⟨x0, x1, x2, x3, x4⟩ k = tick ⟨x0, x1, x2, x3, x4⟩ by simp [anyL, e10]]
    subst e10
    have s1 := hide (fun w => i_ticked x0 x1 x2 x3 x4 w hG h2)
    clear hG h2 e4 e9
    generalize tick ⟨x0, x1, x2, x3, x4⟩ = T at *
    obtain ⟨⟨y0, y1, y2, y3, y4⟩, t⟩ := T
    go_enter Try.func36, Try.ntmps36
    go_wp2_with fail
    refine (s1.out _).mono ?_
    rintro e w1 ⟨v, rfl, T1, b1⟩
    obtain ⟨hc, hf⟩ := bcell b1
    have hz : w.heap.size + 1 + 1 < w1.heap.size := by have := b1.size; simp at this; omega
    have hz0 : w.heap.size < w1.heap.size := by omega
    have d1 : Below w.heap.size w w1 := below_box3 b1
    have u0 : w1.cell? ⟨w.heap.size + 1 + 1, 0, none⟩ = some (.int .i64 0) := by rw [hc _ _ (by simp <;> omega)]; simp [go_sem]
    have uf0 : w1.frozen? ⟨w.heap.size + 1 + 1, 0, none⟩ = false := by rw [hf _ _ (by simp <;> omega)]; simp [go_sem]
    have u1 : w1.cell? ⟨w.heap.size + 1 + 1, 1, none⟩ = some (.int .i64 0) := by rw [hc _ _ (by simp <;> omega)]; simp [go_sem]
    have uf1 : w1.frozen? ⟨w.heap.size + 1 + 1, 1, none⟩ = false := by rw [hf _ _ (by simp <;> omega)]; simp [go_sem]
    have u2 : w1.cell? ⟨w.heap.size + 1 + 1, 2, none⟩ = some (.int .i64 0) := by rw [hc _ _ (by simp <;> omega)]; simp [go_sem]
    have uf2 : w1.frozen? ⟨w.heap.size + 1 + 1, 2, none⟩ = false := by rw [hf _ _ (by simp <;> omega)]; simp [go_sem]
    have u3 : w1.cell? ⟨w.heap.size + 1 + 1, 3, none⟩ = some (.int .i64 0) := by rw [hc _ _ (by simp <;> omega)]; simp [go_sem]
    have uf3 : w1.frozen? ⟨w.heap.size + 1 + 1, 3, none⟩ = false := by rw [hf _ _ (by simp <;> omega)]; simp [go_sem]
    have u4 : w1.cell? ⟨w.heap.size + 1 + 1, 4, none⟩ = some (.int .i64 0) := by rw [hc _ _ (by simp <;> omega)]; simp [go_sem]
    have uf4 : w1.frozen? ⟨w.heap.size + 1 + 1, 4, none⟩ = false := by rw [hf _ _ (by simp <;> omega)]; simp [go_sem]
    have A0 := fun (o : Obj) k => old1 hz o k
    have A1 := fun (o : Obj) k => old1f hz o k
    clear hc hf b1
    go_wp2_with fail
    refine bodyPost_ret (v := .tuple #[(⟨y0, y1, y2, y3, y4⟩ : Se).v, v]) (by simp [results, Try.results36, go_sem, u0, u1, u2, u3, u4]) rfl ⟨_, rfl, ?_, (by (repeat (first | with_reducible exact Below.refl _ _ | with_reducible exact d1 | with_reducible apply Below.setCell | with_reducible apply Below.alloc)); all_goals (first | (simp; done) | (simp; omega) | omega))⟩
    exact TB.base (TB.set (TB.set (TB.set (TB.set (TB.set T1 (by simp) _ _) (by simp) _ _) (by simp) _ _) (by simp) _ _) (by simp) _ _) (by simp; omega)
  · rw [show anyL ⟨x0, x1, x2, x3, x4⟩ k = (⟨0, x1, 0, 0, x4⟩, 3) by simp [anyL, e4, e9, e10]]
    have s1 := hide (fun w => i_given x0 x1 x2 x3 x4 w)
    have q4 : (k == 4) = false := by simp [e4]
    have q9 : (k == 9) = false := by simp [e9]
    have q10 : (k == 10) = false := by simp [e10]
    clear hG h2
    go_enter Try.func36, Try.ntmps36
    go_wp2_with fail
    refine (s1.out _).mono ?_
    rintro e w1 ⟨v, rfl, T1, b1⟩
    obtain ⟨hc, hf⟩ := bcell b1
    have hz : w.heap.size + 1 + 1 < w1.heap.size := by have := b1.size; simp at this; omega
    have hz0 : w.heap.size < w1.heap.size := by omega
    have d1 : Below w.heap.size w w1 := below_box3 b1
    have u0 : w1.cell? ⟨w.heap.size + 1 + 1, 0, none⟩ = some (.int .i64 0) := by rw [hc _ _ (by simp <;> omega)]; simp [go_sem]
    have uf0 : w1.frozen? ⟨w.heap.size + 1 + 1, 0, none⟩ = false := by rw [hf _ _ (by simp <;> omega)]; simp [go_sem]
    have u1 : w1.cell? ⟨w.heap.size + 1 + 1, 1, none⟩ = some (.int .i64 0) := by rw [hc _ _ (by simp <;> omega)]; simp [go_sem]
    have uf1 : w1.frozen? ⟨w.heap.size + 1 + 1, 1, none⟩ = false := by rw [hf _ _ (by simp <;> omega)]; simp [go_sem]
    have u2 : w1.cell? ⟨w.heap.size + 1 + 1, 2, none⟩ = some (.int .i64 0) := by rw [hc _ _ (by simp <;> omega)]; simp [go_sem]
    have uf2 : w1.frozen? ⟨w.heap.size + 1 + 1, 2, none⟩ = false := by rw [hf _ _ (by simp <;> omega)]; simp [go_sem]
    have u3 : w1.cell? ⟨w.heap.size + 1 + 1, 3, none⟩ = some (.int .i64 0) := by rw [hc _ _ (by simp <;> omega)]; simp [go_sem]
    have uf3 : w1.frozen? ⟨w.heap.size + 1 + 1, 3, none⟩ = false := by rw [hf _ _ (by simp <;> omega)]; simp [go_sem]
    have u4 : w1.cell? ⟨w.heap.size + 1 + 1, 4, none⟩ = some (.int .i64 0) := by rw [hc _ _ (by simp <;> omega)]; simp [go_sem]
    have uf4 : w1.frozen? ⟨w.heap.size + 1 + 1, 4, none⟩ = false := by rw [hf _ _ (by simp <;> omega)]; simp [go_sem]
    have A0 := fun (o : Obj) k => old1 hz o k
    have A1 := fun (o : Obj) k => old1f hz o k
    clear hc hf b1
    go_wp2_with fail
    refine bodyPost_ret (v := .tuple #[(⟨0, x1, 0, 0, x4⟩ : Se).v, v]) (by simp [results, Try.results36, go_sem, u0, u1, u2, u3, u4]) rfl ⟨_, rfl, ?_, (by (repeat (first | with_reducible exact Below.refl _ _ | with_reducible exact d1 | with_reducible apply Below.setCell | with_reducible apply Below.alloc)); all_goals (first | (simp; done) | (simp; omega) | omega))⟩
    exact TB.base (TB.set (TB.set (TB.set (TB.set (TB.set T1 (by simp) _ _) (by simp) _ _) (by simp) _ _) (by simp) _ _) (by simp) _ _) (by simp; omega)
end Go.Proofs.Ytjfalfjadleegaa
