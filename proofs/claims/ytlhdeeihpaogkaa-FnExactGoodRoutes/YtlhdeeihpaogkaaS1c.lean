/- What the specification's functions of chapter 1 answer: order, parents, halves, siblings. -/
import Derived.Test.YtlhdeeihpaogkaaS1
namespace Go.Proofs.Ytlhdeeihpaogkaa
open Go.RowKit

set_option maxRecDepth 100000 in
set_option maxHeartbeats 800000 in
theorem s_compare1 (a l b m : Int) (w : World) :
    Calls Try.prog 33 #[.agg #[.int .i64 a, .int .i64 l], .agg #[.int .i64 b, .int .i64 m]] w fun e w' =>
      e = .returned (.int .i64 (cmpP a l b m)) ∧ Below w.heap.size w w' := by
  have he := eqPrefix_run
  have hgu := eqPrefix_guard
  have hend := fun (o o' : Obj) => below_box2 (Below.refl ((w.alloc o).alloc o').heap.size ((w.alloc o).alloc o'))
  by_cases h1 : a < b
  · have e1 : cmpP a l b m = -1 := by unfold cmpP cmpI; rw [if_pos (by omega), if_pos h1]
    rw [e1]
    have d1 : decide (a < b) = true := by simpa using h1
    clear e1
    go_enter Try.func33, Try.ntmps33
    go_wp2_with fail
    go_ret
    exact ⟨rfl, hend _ _⟩
  · by_cases h2 : a = b
    · subst h2
      have d1 : decide (a < a) = false := by simp
      have d2 : (a == a) = true := by simp
      by_cases h3 : l < m
      · have e1 : cmpP a l a m = -1 := by unfold cmpP cmpI; rw [if_neg (by omega), if_pos h3]
        rw [e1]
        have d3 : decide (l < m) = true := by simpa using h3
        clear e1 h1
        go_enter Try.func33, Try.ntmps33
        go_wp2_with fail
        go_ret
        exact ⟨rfl, hend _ _⟩
      · have d3 : decide (l < m) = false := by simpa using h3
        by_cases h4 : l = m
        · subst h4
          have e1 : cmpP a l a l = 0 := by unfold cmpP cmpI; rw [if_neg (by omega), if_neg h3, if_neg h3]
          rw [e1]
          clear e1 h1
          go_enter Try.func33, Try.ntmps33
          go_wp2_with fail
          go_ret
          exact ⟨rfl, hend _ _⟩
        · have e1 : cmpP a l a m = 1 := by unfold cmpP cmpI; rw [if_neg (by omega), if_neg h3, if_pos (by omega)]
          rw [e1]
          have d4 : (l == m) = false := by simpa using h4
          clear e1 h1
          go_enter Try.func33, Try.ntmps33
          go_wp2_with fail
          go_ret
          exact ⟨rfl, hend _ _⟩
    · have e1 : cmpP a l b m = 1 := by unfold cmpP cmpI; rw [if_pos h2, if_neg h1, if_pos (by omega)]
      rw [e1]
      have d1 : decide (a < b) = false := by simpa using h1
      have d2 : (a == b) = false := by simpa using h2
      clear e1
      go_enter Try.func33, Try.ntmps33
      go_wp2_with fail
      go_ret
      exact ⟨rfl, hend _ _⟩

end Go.Proofs.Ytlhdeeihpaogkaa
