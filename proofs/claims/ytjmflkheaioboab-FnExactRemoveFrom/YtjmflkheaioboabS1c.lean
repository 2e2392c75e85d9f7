/- What the specification's functions of chapter 1 answer: order, parents, halves, siblings. -/
import Derived.Test.YtjmflkheaioboabS1
namespace Go.Proofs.Ytjmflkheaioboab
open Go.RowKit

set_option maxRecDepth 100000 in
set_option maxHeartbeats 800000 in
theorem s_compare1 (a l b m : Int) (w : World) :
    Calls Try.prog 41 #[.agg #[.int .i64 a, .int .i64 l], .agg #[.int .i64 b, .int .i64 m]] w fun e w' =>
      e = .returned (.int .i64 (cmpP a l b m)) ∧ Below w.heap.size w w' := by
  have he := eqPrefix_run
  have hgu := eqPrefix_guard
  have hend := fun (o o' : Obj) => below_box2 (Below.refl ((w.alloc o).alloc o').heap.size ((w.alloc o).alloc o'))
  by_cases h1 : a < b
  · have e1 : cmpP a l b m = -1 := by unfold cmpP cmpI; rw [if_pos (by omega), if_pos h1]
    rw [e1]
    have d1 : decide (a < b) = true := by simpa using h1
    clear e1
    go_enter Try.func41, Try.ntmps41
    go_wp2_with fail
    go_ret
    exact ⟨rfl, hend _ _⟩
  · by_cases h2 : a = b
    · subst h2
      have d1 : decide (a < a) = false := by simp
      have d2 : (a == a) = true := by simp
      by_cases h3 : l < m
      · have e1 : cmpP a l a m = -1 := by unfold cmpP cmpI; rw [if_neg (by omega), if_pos h3]
        rw [e1]
        have d3 : decide (l < m) = true := by simpa using h3
        clear e1 h1
        go_enter Try.func41, Try.ntmps41
        go_wp2_with fail
        go_ret
        exact ⟨rfl, hend _ _⟩
      · have d3 : decide (l < m) = false := by simpa using h3
        by_cases h4 : l = m
        · subst h4
          have e1 : cmpP a l a l = 0 := by unfold cmpP cmpI; rw [if_neg (by omega), if_neg h3, if_neg h3]
          rw [e1]
          clear e1 h1
          go_enter Try.func41, Try.ntmps41
          go_wp2_with fail
          go_ret
          exact ⟨rfl, hend _ _⟩
        · have e1 : cmpP a l a m = 1 := by unfold cmpP cmpI; rw [if_neg (by omega), if_neg h3, if_pos (by omega)]
          rw [e1]
          have d4 : (l == m) = false := by simpa using h4
          clear e1 h1
          go_enter Try.func41, Try.ntmps41
          go_wp2_with fail
          go_ret
          exact ⟨rfl, hend _ _⟩
    · have e1 : cmpP a l b m = 1 := by unfold cmpP cmpI; rw [if_pos h2, if_neg h1, if_pos (by omega)]
      rw [e1]
      have d1 : decide (a < b) = false := by simpa using h1
      have d2 : (a == b) = false := by simpa using h2
      clear e1
      go_enter Try.func41, Try.ntmps41
      go_wp2_with fail
      go_ret
      exact ⟨rfl, hend _ _⟩

set_option maxRecDepth 100000 in
set_option maxHeartbeats 800000 in
theorem s_halves1 (a l : Int) (w : World) (hl0 : 0 ≤ l) (hl1 : l < 32) (ha0 : 0 ≤ a) (ha1 : a ≤ 4294967295) :
    Calls Try.prog 73 #[.agg #[.int .i64 a, .int .i64 l]] w fun e w' =>
      e = .returned (.tuple #[.agg #[.int .i64 a, .int .i64 (l + 1)], .agg #[.int .i64 (a + pw (l + 1)), .int .i64 (l + 1)]]) ∧ Below w.heap.size w w' := by
  have p1 := pw_pos (l + 1)
  have p2 := pw_le (l + 1) (by omega)
  have p7 : IntKind.i64.wrap (a + pw (l + 1)) = a + pw (l + 1) := wrapk_in _ (by omega)
  have p8 : IntKind.i64.wrap (l + 1) = l + 1 := wrapk_in _ (by omega)
  have s1 := hide (fun w => s_size a (l + 1) w (by omega) (by omega))
  go_enter Try.func73, Try.ntmps73
  go_wp2_with fail
  go_region_held (fun w' => w'.cell? ⟨w.heap.size, 0, none⟩ = some (.int .i64 a) ∧ w'.cell? ⟨w.heap.size, 1, none⟩ = some (.int .i64 l) ∧ w'.cell? ⟨w.heap.size + 1 + 1 + 1, 0, none⟩ = some (.int .i64 a) ∧ w'.cell? ⟨w.heap.size + 1 + 1 + 1, 1, none⟩ = some (.int .i64 (l + 1))) (first | (simp [go_sem]; done) | (simp [hc, go_sem]; done) | (go_keep; done)) ((go_at_call 64; refine (s1.out _).mono ?_; rintro e w' ⟨rfl, hb0⟩; obtain ⟨hc, hf⟩ := bcell hb0))
  all_goals
    go_wp2_with fail
    exact bodyPost_ret (v := .tuple #[.agg #[.int .i64 a, .int .i64 (l + 1)], .agg #[.int .i64 (a + pw (l + 1)), .int .i64 (l + 1)]]) (by simp [results, Try.results73, go_sem, hc]) rfl ⟨rfl, ((((below_box4 (below_drew0 hb0)).setCell (by simp) _).setCell (by simp) _).setCell (by simp; omega) _).setCell (by simp; omega) _⟩

end Go.Proofs.Ytjmflkheaioboab
