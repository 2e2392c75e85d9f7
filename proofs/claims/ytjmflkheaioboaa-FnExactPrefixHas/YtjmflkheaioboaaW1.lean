/- The laws of chapter 1, walked: each returns true, and writes nothing that was there. -/
import Derived.Test.YtjmflkheaioboaaW0
import Derived.Test.YtjmflkheaioboaaS1b
import Derived.Test.YtjmflkheaioboaaI1b
namespace Go.Proofs.Ytjmflkheaioboaa
open Go.RowKit

set_option maxRecDepth 100000 in
set_option maxHeartbeats 800000 in
theorem w_goodPrefix (a l : Int) (w : World) :
    Calls Try.prog 5 #[.agg #[.int .i64 a, .int .i64 l]] w fun e w' => e = .returned (.bool true) ∧ Below w.heap.size w w' := by
  have s1 := hide (fun w => s_good a l w)
  have s2 := hide (fun w => i_good a l w)
  generalize goodB a l = g at s1 s2
  go_enter Try.func5, Try.ntmps5
  go_wp2_with fail
  refine (w_toPrefix _ _ _).mono ?_
  rintro e w1 ⟨rfl, hb1⟩
  go_wp2_with fail
  refine (s1.out _).mono ?_
  rintro e w2 ⟨rfl, hb2⟩
  have hb := below_step hb1 hb2
  clear hb1 hb2
  obtain ⟨hc, hf⟩ := bcell hb
  go_wp2_with fail
  clear hc hf
  refine (w_toPrefix _ _ _).mono ?_
  rintro e w3 ⟨rfl, hb3⟩
  have hb' := below_step hb hb3
  clear hb hb3
  go_wp2_with fail
  refine (s2.out _).mono ?_
  rintro e w4 ⟨rfl, hb4⟩
  have hb := below_step hb' hb4
  go_wp2_with fail
  go_ret
  exact ⟨rfl, below_box hb⟩

set_option maxRecDepth 100000 in
set_option maxHeartbeats 800000 in
theorem w_hasAddr (a l x : Int) (w : World) :
    Calls Try.prog 7 #[.agg #[.int .i64 a, .int .i64 l], .int .i64 x] w fun e w' => e = .returned (.bool true) ∧ Below w.heap.size w w' := by
  have s1 := hide (fun w => s_hasAddr a l x w)
  have s2 := hide (fun w => i_hasAddr a l x w)
  generalize (goodB a l && inB x 0 4294967295 && hasB a l x) = g at s1 s2
  generalize (goodB a l && inB x 0 4294967295) = g' at s1 s2
  go_enter Try.func7, Try.ntmps7
  go_wp2_with fail
  refine (w_toPrefix _ _ _).mono ?_
  rintro e w1 ⟨rfl, hb1⟩
  go_wp2_with fail
  refine (s1.out _).mono ?_
  rintro e w2 ⟨rfl, hb2⟩
  have hb := below_step hb1 hb2
  clear hb1 hb2
  obtain ⟨hc, hf⟩ := bcell hb
  go_wp2_with fail
  clear hc hf
  refine (w_toPrefix _ _ _).mono ?_
  rintro e w3 ⟨rfl, hb3⟩
  have hb' := below_step hb hb3
  clear hb hb3
  go_wp2_with fail
  refine (s2.out _).mono ?_
  rintro e w4 ⟨rfl, hb4⟩
  have hb := below_step hb' hb4
  go_wp2_with fail
  go_ret
  exact ⟨rfl, below_box hb⟩

set_option maxRecDepth 100000 in
set_option maxHeartbeats 1600000 in
theorem w_prefixHas (a l b m : Int) (w : World) :
    Calls Try.prog 6 #[.agg #[.int .i64 a, .int .i64 l], .agg #[.int .i64 b, .int .i64 m]] w fun e w' => e = .returned (.bool true) ∧ Below w.heap.size w w' := by
  have s1 := hide (fun w => s_prefixHas a l b m w)
  have s2 := hide (fun w => i_prefixHas a l b m w)
  generalize (goodB a l && goodB b m && (decide (l ≤ m) && hasB a l b)) = g at s1 s2
  generalize (goodB a l && goodB b m) = g' at s1 s2
  go_enter Try.func6, Try.ntmps6
  go_wp2_with fail
  go_region_held (fun w' => Box2 55 55 w a l b m w') (first | exact box2_of (Below.refl _ _).drew | exact box2_of (below_step (Below.refl _ _).drew hb0) | exact box2_step hb0 (by assumption)) ((first
    | (go_at_call 35; refine (w_toPrefix _ _ _).mono ?_; rintro e w' ⟨rfl, hb0⟩)
    | (go_at_call 37; refine (s1.out _).mono ?_; rintro e w' ⟨rfl, hb0⟩)))
  all_goals
    go_wp2_with fail
    have hS : Box2 55 55 w a l b m w' := by assumption
    go_region_held (fun w' => Box2 55 55 w a l b m w') (first | exact box2_of hS.2.2.2.2.drew | exact box2_of (below_step hS.2.2.2.2.drew hb0) | exact box2_step hb0 (by assumption)) ((first
      | (go_at_call 35; refine (w_toPrefix _ _ _).mono ?_; rintro e w' ⟨rfl, hb0⟩)
      | (go_at_call 38; refine (s2.out _).mono ?_; rintro e w' ⟨rfl, hb0⟩)))
    all_goals
      go_wp2_with fail
      have hT : Box2 55 55 w a l b m w' := by assumption
      go_ret
      exact ⟨rfl, below_box2 hT.2.2.2.2⟩

end Go.Proofs.Ytjmflkheaioboaa
