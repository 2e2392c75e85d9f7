/- The laws of order, parents, halves and siblings, walked: each returns true, and writes nothing that was there. -/
import Derived.Test.YtjmflkheaioboaaW0
import Derived.Test.YtjmflkheaioboaaS1c
import Derived.Test.YtjmflkheaioboaaI1c
namespace Go.Proofs.Ytjmflkheaioboaa
open Go.RowKit

set_option maxRecDepth 100000 in
set_option maxHeartbeats 1600000 in
theorem w_compare (a l b m : Int) (w : World) :
    Calls Try.prog 8 #[.agg #[.int .i64 a, .int .i64 l], .agg #[.int .i64 b, .int .i64 m]] w fun e w' => e = .returned (.bool true) ∧ Below w.heap.size w w' := by
  have s1 := hide (fun w => s_compare a l b m w)
  have s2 := hide (fun w => i_compare a l b m w)
  generalize (if goodB a l && goodB b m then cmpP a l b m else 0) = g at s1 s2
  generalize (goodB a l && goodB b m) = g' at s1 s2
  go_enter Try.func8, Try.ntmps8
  go_wp2_with fail
  go_region_held (fun w' => Box2 55 55 w a l b m w') (first | exact box2_of (Below.refl _ _).drew | exact box2_of (below_step (Below.refl _ _).drew hb0) | exact box2_step hb0 (by assumption)) ((first
    | (go_at_call 35; refine (w_toPrefix _ _ _).mono ?_; rintro e w' ⟨rfl, hb0⟩)
    | (go_at_call 40; refine (s1.out _).mono ?_; rintro e w' ⟨rfl, hb0⟩)))
  all_goals
    go_wp2_with fail
    have hS : Box2 55 55 w a l b m w' := by assumption
    go_region_held (fun w' => Box2 55 55 w a l b m w') (first | exact box2_of hS.2.2.2.2.drew | exact box2_of (below_step hS.2.2.2.2.drew hb0) | exact box2_step hb0 (by assumption)) ((first
      | (go_at_call 35; refine (w_toPrefix _ _ _).mono ?_; rintro e w' ⟨rfl, hb0⟩)
      | (go_at_call 41; refine (s2.out _).mono ?_; rintro e w' ⟨rfl, hb0⟩)))
    all_goals
      go_wp2_with fail
      have hT : Box2 55 55 w a l b m w' := by assumption
      go_ret
      exact ⟨rfl, below_box2 hT.2.2.2.2⟩

set_option maxRecDepth 100000 in
set_option maxHeartbeats 800000 in
theorem w_parent_core (a l x y : Int) (g : Bool) (w : World)
    (s1 : Hid (∀ w : World, Calls Try.prog 42 #[.agg #[.int .i64 a, .int .i64 l]] w fun e w' => e = .returned (.tuple #[.agg #[.int .i64 x, .int .i64 y], .bool g]) ∧ Below w.heap.size w w'))
    (s2 : Hid (∀ w : World, Calls Try.prog 43 #[.agg #[.int .i64 a, .int .i64 l]] w fun e w' => e = .returned (.tuple #[.agg #[.int .i64 x, .int .i64 y], .bool g]) ∧ Below w.heap.size w w')) :
    Calls Try.prog 9 #[.agg #[.int .i64 a, .int .i64 l]] w fun e w' => e = .returned (.bool true) ∧ Below w.heap.size w w' := by
  go_enter Try.func9, Try.ntmps9
  go_wp2_with fail
  refine (w_toPrefix _ _ _).mono ?_
  rintro e w1 ⟨rfl, hb1⟩
  go_wp2_with fail
  refine (s1.out _).mono ?_
  rintro e w2 ⟨rfl, hb2⟩
  have hb := below_step hb1 hb2
  clear hb1 hb2
  obtain ⟨c0, c1, _⟩ := box1_of hb
  have hz : w.heap.size < w2.heap.size := by have := hb.size; simp at this; omega
  have k0 := fun o => (old1 hz o 0).trans c0
  have k1 := fun o => (old1 hz o 1).trans c1
  clear c0 c1
  go_wp2_with fail
  clear k0 k1
  refine (w_toPrefix _ _ _).mono ?_
  rintro e w3 ⟨rfl, hb3⟩
  go_wp2_with fail
  refine (s2.out _).mono ?_
  rintro e w4 ⟨rfl, hb4⟩
  have hb' := below_step hb3 hb4
  clear hb3 hb4
  obtain ⟨c0, c1, _⟩ := box1_of hb'
  have hz' : w2.heap.size < w4.heap.size := by have := hb'.size; simp at this; omega
  have k0 := fun o => (old1 hz' o 0).trans c0
  have k1 := fun o => (old1 hz' o 1).trans c1
  clear c0 c1
  go_wp2_with fail
  refine (w_eqPrefix _ _ _).mono ?_
  rintro e w5 ⟨rfl, hb5⟩
  go_wp2_with fail
  go_ret
  exact ⟨rfl, below_box (below_step hb (below_box (below_step hb' (below_box hb5))))⟩

theorem w_parent (a l : Int) (w : World) :
    Calls Try.prog 9 #[.agg #[.int .i64 a, .int .i64 l]] w fun e w' => e = .returned (.bool true) ∧ Below w.heap.size w w' := by
  by_cases hg : goodB a l = true
  · obtain ⟨hl, _⟩ := goodB_iff.1 hg
    by_cases h0 : l = 0
    · exact w_parent_core a l 0 0 false w (hide fun w => s_parent_no a l w (.inr h0)) (hide fun w => i_parent_no a l w (.inr h0))
    · exact w_parent_core a l _ _ true w (hide fun w => s_parent_yes a l w hg (by omega)) (hide fun w => i_parent_yes a l w hg (by omega))
  · have hg' : goodB a l = false := by simpa using hg
    exact w_parent_core a l 0 0 false w (hide fun w => s_parent_no a l w (.inl hg')) (hide fun w => i_parent_no a l w (.inl hg'))

set_option maxRecDepth 100000 in
set_option maxHeartbeats 800000 in
theorem w_halves_core (a l x y x' y' : Int) (g : Bool) (w : World)
    (s1 : Hid (∀ w : World, Calls Try.prog 45 #[.agg #[.int .i64 a, .int .i64 l]] w fun e w' => e = .returned (.tuple #[.agg #[.int .i64 x, .int .i64 y], .agg #[.int .i64 x', .int .i64 y'], .bool g]) ∧ Below w.heap.size w w'))
    (s2 : Hid (∀ w : World, Calls Try.prog 46 #[.agg #[.int .i64 a, .int .i64 l]] w fun e w' => e = .returned (.tuple #[.agg #[.int .i64 x, .int .i64 y], .agg #[.int .i64 x', .int .i64 y'], .bool g]) ∧ Below w.heap.size w w')) :
    Calls Try.prog 10 #[.agg #[.int .i64 a, .int .i64 l]] w fun e w' => e = .returned (.bool true) ∧ Below w.heap.size w w' := by
  go_enter Try.func10, Try.ntmps10
  go_wp2_with fail
  refine (w_toPrefix _ _ _).mono ?_
  rintro e w1 ⟨rfl, hb1⟩
  go_wp2_with fail
  refine (s1.out _).mono ?_
  rintro e w2 ⟨rfl, hb2⟩
  have hb := below_step hb1 hb2
  clear hb1 hb2
  obtain ⟨c0, c1, _⟩ := box1_of hb
  have hz : w.heap.size < w2.heap.size := by have := hb.size; simp at this; omega
  have k0 := fun o o' => ((old2 hz).1 o o' 0).trans c0
  have k1 := fun o o' => ((old2 hz).1 o o' 1).trans c1
  clear c0 c1
  go_wp2_with fail
  clear k0 k1
  refine (w_toPrefix _ _ _).mono ?_
  rintro e w3 ⟨rfl, hb3⟩
  go_wp2_with fail
  refine (s2.out _).mono ?_
  rintro e w4 ⟨rfl, hb4⟩
  have hb' := below_step hb3 hb4
  clear hb3 hb4
  obtain ⟨c0, c1, d0, d1, _⟩ := box2_of hb'
  have hz' : w2.heap.size + 1 < w4.heap.size := by have := hb'.size; simp at this; omega
  have k0 := fun o o' => ((old2 (show w2.heap.size < w4.heap.size by omega)).1 o o' 0).trans c0
  have k1 := fun o o' => ((old2 (show w2.heap.size < w4.heap.size by omega)).1 o o' 1).trans c1
  have j0 := fun o o' => ((old2 hz').1 o o' 0).trans d0
  have j1 := fun o o' => ((old2 hz').1 o o' 1).trans d1
  clear c0 c1 d0 d1
  go_wp2_with fail
  refine (w_eqPrefix _ _ _).mono ?_
  rintro e w5 ⟨rfl, hb5⟩
  obtain ⟨_, _, d0, d1, _⟩ := box2_of hb5
  obtain ⟨hc, hf⟩ := bcell hb5
  have i0 := (hc (w2.heap.size + 1) 0 (by simp; omega)).trans (j0 _ _)
  have i1 := (hc (w2.heap.size + 1) 1 (by simp; omega)).trans (j1 _ _)
  clear hc hf k0 k1 j0 j1
  go_wp2_with fail
  refine (w_eqPrefix _ _ _).mono ?_
  rintro e w6 ⟨rfl, hb6⟩
  go_wp2_with fail
  go_ret
  exact ⟨rfl, below_box (below_step hb (below_box2 (below_step hb' (below_box2 (below_step hb5 hb6)))))⟩

theorem w_halves (a l : Int) (w : World) :
    Calls Try.prog 10 #[.agg #[.int .i64 a, .int .i64 l]] w fun e w' => e = .returned (.bool true) ∧ Below w.heap.size w w' := by
  by_cases hg : goodB a l = true
  · obtain ⟨hl, _⟩ := goodB_iff.1 hg
    by_cases h0 : l = 32
    · exact w_halves_core a l 0 0 0 0 false w (hide fun w => s_halves_no a l w (.inr h0)) (hide fun w => i_halves_no a l w (.inr h0))
    · exact w_halves_core a l _ _ _ _ true w (hide fun w => s_halves_yes a l w hg (by omega)) (hide fun w => i_halves_yes a l w hg (by omega))
  · have hg' : goodB a l = false := by simpa using hg
    exact w_halves_core a l 0 0 0 0 false w (hide fun w => s_halves_no a l w (.inl hg')) (hide fun w => i_halves_no a l w (.inl hg'))

end Go.Proofs.Ytjmflkheaioboaa
