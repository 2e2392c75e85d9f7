/- What the program's functions of chapter 1 answer: addresses, covers. -/
import Derived.Test.YtofalilkephkpaaI1
namespace Go.Proofs.Ytofalilkephkpaa
open Go.RowKit

theorem eq_has (a l x : Int) : (a == x - x % pw l) = hasB a l x := by rw [hasB, beq_swap]

set_option maxRecDepth 100000 in
set_option maxHeartbeats 800000 in
theorem i_hasAddr (a l x : Int) (w : World) :
    Calls Try.prog 40 #[.agg #[.int .i64 a, .int .i64 l], .int .i64 x] w fun e w' =>
      e = .returned (.tuple #[.bool (goodB a l && inB x 0 4294967295 && hasB a l x), .bool (goodB a l && inB x 0 4294967295)]) ∧ Below w.heap.size w w' := by
  have s1 := hide (fun w => i_good a l w)
  have s2 := hide (fun w => i_isAddr x w)
  by_cases hg : goodB a l = true
  · by_cases hx : 0 ≤ x ∧ x ≤ 4294967295
    · have hx' := inB_t hx.1 hx.2
      obtain ⟨hl, ha, _⟩ := goodB_iff.1 hg
      rw [hg] at s1 ⊢
      rw [hx'] at s2 ⊢
      simp only [Bool.true_and]
      have s3 := hide (fun w => i_around x l w hl.1 hl.2 hx.1 hx.2)
      have he := eqPrefix_run
      have hgu := eqPrefix_guard
      clear hg hx hl ha hx'
      go_enter Try.func40, Try.ntmps40
      go_wp2_with fail
      refine (s1.out _).mono ?_
      rintro e w1 ⟨rfl, hb1⟩
      go_wp2_with fail
      refine (s2.out _).mono ?_
      rintro e w2 ⟨rfl, rfl⟩
      obtain ⟨hc1, hf1⟩ := bcell hb1
      go_wp2_with fail
      go_region_with (go_at_call 117; refine (s3.out _).mono ?_; rintro e w' ⟨rfl, hb0⟩; have hb := below_step hb1.drew hb0; obtain ⟨hc, hf⟩ := bcell hb)
      all_goals
        go_wp2
        go_ret2
        exact ⟨ret_bools (eq_has a l x) rfl, below_box hb⟩
    · have hx' := inB_n hx
      rw [hg] at s1 ⊢
      rw [hx'] at s2 ⊢
      clear hg hx hx'
      go_enter Try.func40, Try.ntmps40
      go_wp2_with fail
      refine (s1.out _).mono ?_
      rintro e w1 ⟨rfl, hb1⟩
      go_wp2_with fail
      refine (s2.out _).mono ?_
      rintro e w2 ⟨rfl, rfl⟩
      go_wp2_with fail
      go_ret2
      exact ⟨rfl, below_box hb1⟩
  · have hg' : goodB a l = false := by simpa using hg
    rw [hg'] at s1 ⊢
    clear hg hg'
    go_enter Try.func40, Try.ntmps40
    go_wp2_with fail
    refine (s1.out _).mono ?_
    rintro e w1 ⟨rfl, hb1⟩
    go_wp2_with fail
    go_ret2
    exact ⟨rfl, below_box hb1⟩

set_option maxRecDepth 100000 in
set_option maxHeartbeats 1600000 in
theorem i_prefixHas (a l b m : Int) (w : World) :
    Calls Try.prog 204 #[.agg #[.int .i64 a, .int .i64 l], .agg #[.int .i64 b, .int .i64 m]] w fun e w' =>
      e = .returned (.tuple #[.bool (goodB a l && goodB b m && (decide (l ≤ m) && hasB a l b)), .bool (goodB a l && goodB b m)]) ∧ Below w.heap.size w w' := by
  have s1 := hide (fun w => i_good a l w)
  have s2 := hide (fun w => i_good b m w)
  by_cases hg : goodB a l = true
  · by_cases hx : goodB b m = true
    · obtain ⟨hl, ha, _⟩ := goodB_iff.1 hg
      obtain ⟨hm, hb, _⟩ := goodB_iff.1 hx
      rw [hg] at s1 ⊢
      rw [hx] at s2 ⊢
      simp only [Bool.true_and]
      have s3 := hide (fun w => i_around b l w hl.1 hl.2 hb.1 hb.2)
      have he := eqPrefix_run
      have hgu := eqPrefix_guard
      clear hg hx hl ha hm hb
      by_cases h : l ≤ m
      · have ht : decide (l ≤ m) = true := by simpa using h
        rw [ht]
        simp only [Bool.true_and]
        go_enter Try.func204, Try.ntmps204
        go_wp2_with fail
        refine (s1.out _).mono ?_
        rintro e w1 ⟨rfl, hb1⟩
        obtain ⟨hc, hf⟩ := bcell hb1
        go_wp2_with fail
        clear hc hf
        refine (s2.out _).mono ?_
        rintro e w2 ⟨rfl, hb2⟩
        have hb := below_step hb1 hb2
        clear hb1 hb2
        obtain ⟨hc, hf⟩ := bcell hb
        go_wp2_with fail
        go_region_held (fun w' => Box2 34 34 w a l b m w') (first | exact box2_of hb.drew | exact box2_of (below_step hb.drew hb0)) ((go_at_call 117; refine (s3.out _).mono ?_; rintro e w' ⟨rfl, hb0⟩))
        all_goals
          go_wp2
          go_ret2
          exact ⟨ret_bools (eq_has a l b) rfl, below_box2 (below_step hb.drew hb0)⟩
      · have ht : decide (l ≤ m) = false := by simpa using h
        rw [ht]
        simp only [Bool.false_and]
        go_enter Try.func204, Try.ntmps204
        go_wp2_with fail
        refine (s1.out _).mono ?_
        rintro e w1 ⟨rfl, hb1⟩
        obtain ⟨hc, hf⟩ := bcell hb1
        go_wp2_with fail
        clear hc hf
        refine (s2.out _).mono ?_
        rintro e w2 ⟨rfl, hb2⟩
        have hb := below_step hb1 hb2
        clear hb1 hb2
        obtain ⟨hc, hf⟩ := bcell hb
        go_wp2_with fail
        go_quiet ((fail))
        go_wp2
        go_ret2
        exact ⟨rfl, below_box2 (below_drewN hb _)⟩
    · have hx' : goodB b m = false := by simpa using hx
      rw [hg] at s1 ⊢
      rw [hx'] at s2 ⊢
      clear hg hx hx'
      go_enter Try.func204, Try.ntmps204
      go_wp2_with fail
      refine (s1.out _).mono ?_
      rintro e w1 ⟨rfl, hb1⟩
      obtain ⟨hc, hf⟩ := bcell hb1
      go_wp2_with fail
      clear hc hf
      refine (s2.out _).mono ?_
      rintro e w2 ⟨rfl, hb2⟩
      go_wp2_with fail
      go_ret2
      exact ⟨rfl, below_box2 (below_step hb1 hb2)⟩
  · have hg' : goodB a l = false := by simpa using hg
    rw [hg'] at s1 ⊢
    clear hg hg'
    go_enter Try.func204, Try.ntmps204
    go_wp2_with fail
    refine (s1.out _).mono ?_
    rintro e w1 ⟨rfl, hb1⟩
    go_wp2_with fail
    go_ret2
    exact ⟨rfl, below_box2 hb1⟩

end Go.Proofs.Ytofalilkephkpaa
