/- What the program's functions of chapter 1 answer: order, parents, halves, siblings. -/
import Derived.Test.YtlhdeeihpaogkaaI1
namespace Go.Proofs.Ytlhdeeihpaogkaa
open Go.RowKit

theorem c_isNaN (x : Int) (w : World) :
    Calls Try.prog 119 #[.int .i64 x] w fun e w' => e = .returned (.bool false) ∧ w' = w := by
  go_enter Try.func119, Try.ntmps119
  go_wp2
  go_ret
  exact ⟨ret_bool (by simp), rfl⟩

set_option maxHeartbeats 800000 in
theorem c_compare (x y : Int) (w : World) :
    Calls Try.prog 107 #[.int .i64 x, .int .i64 y] w fun e w' => e = .returned (.int .i64 (cmpI x y)) ∧ w' = w := by
  by_cases h1 : x < y
  · have e1 : cmpI x y = -1 := by unfold cmpI; rw [if_pos h1]
    rw [e1]
    clear e1
    go_enter Try.func107, Try.ntmps107
    go_wp2_with (go_at_call 119; refine (c_isNaN _ _).mono ?_; rintro e w' ⟨rfl, rfl⟩)
    go_ret
    exact ⟨rfl, rfl⟩
  · by_cases h2 : y < x
    · have e1 : cmpI x y = 1 := by unfold cmpI; rw [if_neg h1, if_pos h2]
      rw [e1]
      clear e1
      go_enter Try.func107, Try.ntmps107
      go_wp2_with (go_at_call 119; refine (c_isNaN _ _).mono ?_; rintro e w' ⟨rfl, rfl⟩)
      go_ret
      exact ⟨rfl, rfl⟩
    · have e1 : cmpI x y = 0 := by unfold cmpI; rw [if_neg h1, if_neg h2]
      rw [e1]
      clear e1
      go_enter Try.func107, Try.ntmps107
      go_wp2_with (go_at_call 119; refine (c_isNaN _ _).mono ?_; rintro e w' ⟨rfl, rfl⟩)
      go_ret
      exact ⟨rfl, rfl⟩

set_option maxHeartbeats 800000 in
theorem i_compare (a l b m : Int) (w : World) :
    Calls Try.prog 68 #[.agg #[.int .i64 a, .int .i64 l], .agg #[.int .i64 b, .int .i64 m]] w fun e w' =>
      e = .returned (.tuple #[.int .i64 (if goodB a l && goodB b m then cmpP a l b m else 0), .bool (goodB a l && goodB b m)]) ∧ Below w.heap.size w w' := by
  have s1 := hide (fun w => i_good a l w)
  have s2 := hide (fun w => i_good b m w)
  generalize goodB a l = g1 at s1 ⊢
  generalize goodB b m = g2 at s2 ⊢
  cases g1
  · go_enter Try.func68, Try.ntmps68
    go_wp2_with fail
    refine (s1.out _).mono ?_
    rintro e w1 ⟨rfl, hb1⟩
    go_wp2_with fail
    go_ret2
    exact ⟨rfl, below_box2 hb1⟩
  · cases g2
    · go_enter Try.func68, Try.ntmps68
      go_wp2_with fail
      refine (s1.out _).mono ?_
      rintro e w1 ⟨rfl, hb1⟩
      obtain ⟨hc, hf⟩ := bcell hb1
      go_wp2_with fail
      clear hc hf
      refine (s2.out _).mono ?_
      rintro e w2 ⟨rfl, hb2⟩
      go_wp2_with fail
      go_ret2
      exact ⟨rfl, below_box2 (below_step hb1 hb2)⟩
    · by_cases h : a = b
      · have e1 : (if (true && true) = true then cmpP a l b m else 0) = cmpI l m := by simp [cmpP, h]
        rw [e1]
        have z0 : (a != b) = false := by simp [h]
        clear e1 h
        have s3 := hide (fun w => c_compare l m w)
        generalize cmpI l m = r at s3 ⊢
        go_enter Try.func68, Try.ntmps68
        go_wp2_with fail
        refine (s1.out _).mono ?_
        rintro e w1 ⟨rfl, hb1⟩
        obtain ⟨hc, hf⟩ := bcell hb1
        go_wp2_with fail
        clear hc hf
        refine (s2.out _).mono ?_
        rintro e w2 ⟨rfl, hb2⟩
        have hb := below_step hb1 hb2
        clear hb1 hb2
        obtain ⟨hc, hf⟩ := bcell hb
        go_wp2_with fail
        refine (s3.out _).mono ?_
        rintro e w3 ⟨rfl, rfl⟩
        go_wp2_with fail
        go_ret2
        exact ⟨rfl, below_box2 hb⟩
      · have e1 : (if (true && true) = true then cmpP a l b m else 0) = cmpI a b := by simp [cmpP, h]
        rw [e1]
        have z0 : (a != b) = true := by simp [h]
        clear e1 h
        have s3 := hide (fun w => c_compare a b w)
        generalize cmpI a b = r at s3 ⊢
        go_enter Try.func68, Try.ntmps68
        go_wp2_with fail
        refine (s1.out _).mono ?_
        rintro e w1 ⟨rfl, hb1⟩
        obtain ⟨hc, hf⟩ := bcell hb1
        go_wp2_with fail
        clear hc hf
        refine (s2.out _).mono ?_
        rintro e w2 ⟨rfl, hb2⟩
        have hb := below_step hb1 hb2
        clear hb1 hb2
        obtain ⟨hc, hf⟩ := bcell hb
        go_wp2_with fail
        refine (s3.out _).mono ?_
        rintro e w3 ⟨rfl, rfl⟩
        go_wp2_with fail
        go_ret2
        exact ⟨rfl, below_box2 hb⟩

end Go.Proofs.Ytlhdeeihpaogkaa
