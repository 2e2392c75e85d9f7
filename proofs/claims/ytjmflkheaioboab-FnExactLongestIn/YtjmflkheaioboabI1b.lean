/- What the program's functions of chapter 1 answer: addresses, covers. -/
import Derived.Test.YtjmflkheaioboabI1
namespace Go.Proofs.Ytjmflkheaioboab
open Go.RowKit

theorem eq_has (a l x : Int) : (a == x - x % pw l) = hasB a l x := by rw [hasB, beq_swap]

set_option maxRecDepth 100000 in
set_option maxHeartbeats 800000 in
theorem i_hasAddr (a l x : Int) (w : World) :
    Calls Try.prog 49 #[.agg #[.int .i64 a, .int .i64 l], .int .i64 x] w fun e w' =>
      e = .returned (.tuple #[.bool (goodB a l && inB x 0 4294967295 && hasB a l x), .bool (goodB a l && inB x 0 4294967295)]) ∧ Below w.heap.size w w' := by
  have s1 := hide (fun w => i_good a l w)
  have s2 := hide (fun w => i_isAddr x w)
  by_cases hg : goodB a l = true
  · by_cases hx : 0 ≤ x ∧ x ≤ 4294967295
    · have hx' := inB_t hx.1 hx.2
      obtain ⟨hl, ha, _⟩ := goodB_iff.1 hg
      rw [hg] at s1 ⊢
      rw [hx'] at s2 ⊢
      simp only [Bool.true_and]
      have s3 := hide (fun w => i_around x l w hl.1 hl.2 hx.1 hx.2)
      have he := eqPrefix_run
      have hgu := eqPrefix_guard
      clear hg hx hl ha hx'
      go_enter Try.func49, Try.ntmps49
      go_wp2_with fail
      refine (s1.out _).mono ?_
      rintro e w1 ⟨rfl, hb1⟩
      go_wp2_with fail
      refine (s2.out _).mono ?_
      rintro e w2 ⟨rfl, rfl⟩
      obtain ⟨hc1, hf1⟩ := bcell hb1
      go_wp2_with fail
      go_region_with (go_at_call 65; refine (s3.out _).mono ?_; rintro e w' ⟨rfl, hb0⟩; have hb := below_step hb1.drew hb0; obtain ⟨hc, hf⟩ := bcell hb)
      all_goals
        go_wp2
        go_ret2
        exact ⟨ret_bools (eq_has a l x) rfl, below_box hb⟩
    · have hx' := inB_n hx
      rw [hg] at s1 ⊢
      rw [hx'] at s2 ⊢
      clear hg hx hx'
      go_enter Try.func49, Try.ntmps49
      go_wp2_with fail
      refine (s1.out _).mono ?_
      rintro e w1 ⟨rfl, hb1⟩
      go_wp2_with fail
      refine (s2.out _).mono ?_
      rintro e w2 ⟨rfl, rfl⟩
      go_wp2_with fail
      go_ret2
      exact ⟨rfl, below_box hb1⟩
  · have hg' : goodB a l = false := by simpa using hg
    rw [hg'] at s1 ⊢
    clear hg hg'
    go_enter Try.func49, Try.ntmps49
    go_wp2_with fail
    refine (s1.out _).mono ?_
    rintro e w1 ⟨rfl, hb1⟩
    go_wp2_with fail
    go_ret2
    exact ⟨rfl, below_box hb1⟩

end Go.Proofs.Ytjmflkheaioboab
