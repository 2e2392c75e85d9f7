/- NewSession, GoodSession, good events of the program. -/
import Derived.Test.YtjfalfjadleegaaPlain12
import Derived.Test.YtjfalfjadleegaaMut4
namespace Go.Proofs.Ytjfalfjadleegaa
open Go.RowKit

set_option maxRecDepth 100000 in
set_option maxHeartbeats 1600000 in
theorem i_new (h : Int) (w : World) :
    Calls Try.prog 11 #[.int .i64 h] w fun e w' => e = .returned (.tuple #[(newS h).v, .bool (newB h)]) ∧ Below w.heap.size w w' := by
  by_cases c0 : ¬ h < 3
  · skip
    by_cases c1 : ¬ h > 90
    · skip
      rw [(new_t ⟨by omega, by omega⟩).1, (new_t ⟨by omega, by omega⟩).2]
      go_enter Try.func11, Try.ntmps11
      go_wp2_with fail
      exact bodyPost_ret (v := .tuple #[.agg #[.int .i64 0, .int .i64 h, .int .i64 0, .int .i64 0, .int .i64 0], .bool true]) (by simp [results, Try.results11, go_sem]) rfl ⟨rfl, by first | exact below_box (Below.refl _ _) | exact below_box2 (Below.refl _ _) | exact below_box3 (Below.refl _ _)⟩
    · skip
      rw [(new_f (by omega)).1, (new_f (by omega)).2]
      go_enter Try.func11, Try.ntmps11
      go_wp2_with fail
      exact bodyPost_ret (v := .tuple #[.agg #[.int .i64 0, .int .i64 0, .int .i64 0, .int .i64 0, .int .i64 0], .bool false]) (by simp [results, Try.results11, go_sem]) rfl ⟨rfl, by first | exact below_box (Below.refl _ _) | exact below_box2 (Below.refl _ _) | exact below_box3 (Below.refl _ _)⟩
  · skip
    rw [(new_f (by omega)).1, (new_f (by omega)).2]
    go_enter Try.func11, Try.ntmps11
    go_wp2_with fail
    exact bodyPost_ret (v := .tuple #[.agg #[.int .i64 0, .int .i64 0, .int .i64 0, .int .i64 0, .int .i64 0], .bool false]) (by simp [results, Try.results11, go_sem]) rfl ⟨rfl, by first | exact below_box (Below.refl _ _) | exact below_box2 (Below.refl _ _) | exact below_box3 (Below.refl _ _)⟩
def gcB (c m : Int) (r : Bool) : Bool := if r then decide (1 ≤ c ∧ c ≤ m) else c == 0
set_option maxRecDepth 100000 in
set_option maxHeartbeats 1600000 in
theorem i_goodCount (c m : Int) (r : Bool) (w : World) :
    Calls Try.prog 18 #[.int .i64 c, .int .i64 m, .bool r] w fun e w' => e = .returned (.bool (gcB c m r)) ∧ w' = w := by
  cases r with
  | false =>
    go_enter Try.func18, Try.ntmps18
    go_wp2_with fail
    go_ret
    exact ⟨rfl, rfl⟩
  | true =>
    by_cases h1 : 1 ≤ c
    · by_cases h2 : c ≤ m
      · rw [show gcB c m true = true by simp [gcB, h1, h2]]
        go_enter Try.func18, Try.ntmps18
        go_wp2_with fail
        go_ret
        exact ⟨rfl, rfl⟩
      · rw [show gcB c m true = false by simp [gcB, h2]]
        go_enter Try.func18, Try.ntmps18
        go_wp2_with fail
        go_ret
        exact ⟨rfl, rfl⟩
    · rw [show gcB c m true = false by simp [gcB, h1]]
      go_enter Try.func18, Try.ntmps18
      go_wp2_with fail
      go_ret
      exact ⟨rfl, rfl⟩
set_option maxRecDepth 100000 in
set_option maxHeartbeats 1600000 in
theorem i_goodS (x0 x1 x2 x3 x4 : Int) (w : World) :
    Calls Try.prog 7 #[(⟨x0, x1, x2, x3, x4⟩ : Se).v] w fun e w' => e = .returned (.bool (gsB ⟨x0, x1, x2, x3, x4⟩)) ∧ Below w.heap.size w w' := by
  by_cases c0 : 0 ≤ x0
  · skip
    by_cases c1 : x0 ≤ 4
    · skip
      by_cases c2 : 3 ≤ x1
      · skip
        by_cases c3 : x1 ≤ 90
        · skip
          by_cases c4 : x0 ≥ 2
          · skip
            have t4_0 : decide (x0 ≥ 2) = true := decide_eq_true c4
            by_cases c5 : 1 ≤ x2 ∧ x2 ≤ 90
            · skip
              have t5_0 : gcB x2 90 true = true := by simp [gcB, c5.1, c5.2]
              by_cases c6 : x0 ≥ 3
              · skip
                have t6_0 : decide (x0 ≥ 3) = true := decide_eq_true c6
                by_cases c7 : 1 ≤ x3 ∧ x3 ≤ 30
                · skip
                  have t7_0 : gcB x3 30 true = true := by simp [gcB, c7.1, c7.2]
                  by_cases c8 : 0 ≤ x4
                  · skip
                    by_cases c9 : x4 ≤ 1000
                    · skip
                      rw [gsB_t (by unfold GS; dsimp only; omega)]
                      go_enter Try.func7, Try.ntmps7
                      go_wp2_with (go_at_call 18; refine (i_goodCount _ _ _ _).mono ?_; rintro e w' ⟨rfl, rfl⟩)
                      go_ret
                      first | exact ⟨rfl, below_box (Below.refl _ _)⟩ | exact ⟨ret_bool (decide_eq_true (by omega)), below_box (Below.refl _ _)⟩ | exact ⟨ret_bool (decide_eq_false (by omega)), below_box (Below.refl _ _)⟩
                    · skip
                      rw [gsB_f (by intro h; unfold GS at h; dsimp only at h; omega)]
                      go_enter Try.func7, Try.ntmps7
                      go_wp2_with (go_at_call 18; refine (i_goodCount _ _ _ _).mono ?_; rintro e w' ⟨rfl, rfl⟩)
                      go_ret
                      first | exact ⟨rfl, below_box (Below.refl _ _)⟩ | exact ⟨ret_bool (decide_eq_true (by omega)), below_box (Below.refl _ _)⟩ | exact ⟨ret_bool (decide_eq_false (by omega)), below_box (Below.refl _ _)⟩
                  · skip
                    rw [gsB_f (by intro h; unfold GS at h; dsimp only at h; omega)]
                    go_enter Try.func7, Try.ntmps7
                    go_wp2_with (go_at_call 18; refine (i_goodCount _ _ _ _).mono ?_; rintro e w' ⟨rfl, rfl⟩)
                    go_ret
                    first | exact ⟨rfl, below_box (Below.refl _ _)⟩ | exact ⟨ret_bool (decide_eq_true (by omega)), below_box (Below.refl _ _)⟩ | exact ⟨ret_bool (decide_eq_false (by omega)), below_box (Below.refl _ _)⟩
                · skip
                  have t7_0 : gcB x3 30 true = false := by simp only [gcB, if_true]; exact decide_eq_false c7
                  rw [gsB_f (by intro h; unfold GS at h; dsimp only at h; omega)]
                  go_enter Try.func7, Try.ntmps7
                  go_wp2_with (go_at_call 18; refine (i_goodCount _ _ _ _).mono ?_; rintro e w' ⟨rfl, rfl⟩)
                  go_ret
                  first | exact ⟨rfl, below_box (Below.refl _ _)⟩ | exact ⟨ret_bool (decide_eq_true (by omega)), below_box (Below.refl _ _)⟩ | exact ⟨ret_bool (decide_eq_false (by omega)), below_box (Below.refl _ _)⟩
              · skip
                have t6_0 : decide (x0 ≥ 3) = false := decide_eq_false c6
                by_cases c7 : x3 = 0
                · skip
                  have t7_0 : gcB x3 30 false = true := by simp [gcB, c7]
                  by_cases c8 : 0 ≤ x4
                  · skip
                    by_cases c9 : x4 ≤ 1000
                    · skip
                      rw [gsB_t (by unfold GS; dsimp only; omega)]
                      go_enter Try.func7, Try.ntmps7
                      go_wp2_with (go_at_call 18; refine (i_goodCount _ _ _ _).mono ?_; rintro e w' ⟨rfl, rfl⟩)
                      go_ret
                      first | exact ⟨rfl, below_box (Below.refl _ _)⟩ | exact ⟨ret_bool (decide_eq_true (by omega)), below_box (Below.refl _ _)⟩ | exact ⟨ret_bool (decide_eq_false (by omega)), below_box (Below.refl _ _)⟩
                    · skip
                      rw [gsB_f (by intro h; unfold GS at h; dsimp only at h; omega)]
                      go_enter Try.func7, Try.ntmps7
                      go_wp2_with (go_at_call 18; refine (i_goodCount _ _ _ _).mono ?_; rintro e w' ⟨rfl, rfl⟩)
                      go_ret
                      first | exact ⟨rfl, below_box (Below.refl _ _)⟩ | exact ⟨ret_bool (decide_eq_true (by omega)), below_box (Below.refl _ _)⟩ | exact ⟨ret_bool (decide_eq_false (by omega)), below_box (Below.refl _ _)⟩
                  · skip
                    rw [gsB_f (by intro h; unfold GS at h; dsimp only at h; omega)]
                    go_enter Try.func7, Try.ntmps7
                    go_wp2_with (go_at_call 18; refine (i_goodCount _ _ _ _).mono ?_; rintro e w' ⟨rfl, rfl⟩)
                    go_ret
                    first | exact ⟨rfl, below_box (Below.refl _ _)⟩ | exact ⟨ret_bool (decide_eq_true (by omega)), below_box (Below.refl _ _)⟩ | exact ⟨ret_bool (decide_eq_false (by omega)), below_box (Below.refl _ _)⟩
                · skip
                  have t7_0 : gcB x3 30 false = false := by simp [gcB, c7]
                  rw [gsB_f (by intro h; unfold GS at h; dsimp only at h; omega)]
                  go_enter Try.func7, Try.ntmps7
                  go_wp2_with (go_at_call 18; refine (i_goodCount _ _ _ _).mono ?_; rintro e w' ⟨rfl, rfl⟩)
                  go_ret
                  first | exact ⟨rfl, below_box (Below.refl _ _)⟩ | exact ⟨ret_bool (decide_eq_true (by omega)), below_box (Below.refl _ _)⟩ | exact ⟨ret_bool (decide_eq_false (by omega)), below_box (Below.refl _ _)⟩
            · skip
              have t5_0 : gcB x2 90 true = false := by simp only [gcB, if_true]; exact decide_eq_false c5
              rw [gsB_f (by intro h; unfold GS at h; dsimp only at h; omega)]
              go_enter Try.func7, Try.ntmps7
              go_wp2_with (go_at_call 18; refine (i_goodCount _ _ _ _).mono ?_; rintro e w' ⟨rfl, rfl⟩)
              go_ret
              first | exact ⟨rfl, below_box (Below.refl _ _)⟩ | exact ⟨ret_bool (decide_eq_true (by omega)), below_box (Below.refl _ _)⟩ | exact ⟨ret_bool (decide_eq_false (by omega)), below_box (Below.refl _ _)⟩
          · skip
            have t4_0 : decide (x0 ≥ 2) = false := decide_eq_false c4
            have t4_1 : decide (x0 ≥ 3) = false := decide_eq_false (by omega)
            by_cases c5 : x2 = 0
            · skip
              have t5_0 : gcB x2 90 false = true := by simp [gcB, c5]
              by_cases c6 : x3 = 0
              · skip
                have t6_0 : gcB x3 30 false = true := by simp [gcB, c6]
                by_cases c7 : 0 ≤ x4
                · skip
                  by_cases c8 : x4 ≤ 1000
                  · skip
                    rw [gsB_t (by unfold GS; dsimp only; omega)]
                    go_enter Try.func7, Try.ntmps7
                    go_wp2_with (go_at_call 18; refine (i_goodCount _ _ _ _).mono ?_; rintro e w' ⟨rfl, rfl⟩)
                    go_ret
                    first | exact ⟨rfl, below_box (Below.refl _ _)⟩ | exact ⟨ret_bool (decide_eq_true (by omega)), below_box (Below.refl _ _)⟩ | exact ⟨ret_bool (decide_eq_false (by omega)), below_box (Below.refl _ _)⟩
                  · skip
                    rw [gsB_f (by intro h; unfold GS at h; dsimp only at h; omega)]
                    go_enter Try.func7, Try.ntmps7
                    go_wp2_with (go_at_call 18; refine (i_goodCount _ _ _ _).mono ?_; rintro e w' ⟨rfl, rfl⟩)
                    go_ret
                    first | exact ⟨rfl, below_box (Below.refl _ _)⟩ | exact ⟨ret_bool (decide_eq_true (by omega)), below_box (Below.refl _ _)⟩ | exact ⟨ret_bool (decide_eq_false (by omega)), below_box (Below.refl _ _)⟩
                · skip
                  rw [gsB_f (by intro h; unfold GS at h; dsimp only at h; omega)]
                  go_enter Try.func7, Try.ntmps7
                  go_wp2_with (go_at_call 18; refine (i_goodCount _ _ _ _).mono ?_; rintro e w' ⟨rfl, rfl⟩)
                  go_ret
                  first | exact ⟨rfl, below_box (Below.refl _ _)⟩ | exact ⟨ret_bool (decide_eq_true (by omega)), below_box (Below.refl _ _)⟩ | exact ⟨ret_bool (decide_eq_false (by omega)), below_box (Below.refl _ _)⟩
              · skip
                have t6_0 : gcB x3 30 false = false := by simp [gcB, c6]
                rw [gsB_f (by intro h; unfold GS at h; dsimp only at h; omega)]
                go_enter Try.func7, Try.ntmps7
                go_wp2_with (go_at_call 18; refine (i_goodCount _ _ _ _).mono ?_; rintro e w' ⟨rfl, rfl⟩)
                go_ret
                first | exact ⟨rfl, below_box (Below.refl _ _)⟩ | exact ⟨ret_bool (decide_eq_true (by omega)), below_box (Below.refl _ _)⟩ | exact ⟨ret_bool (decide_eq_false (by omega)), below_box (Below.refl _ _)⟩
            · skip
              have t5_0 : gcB x2 90 false = false := by simp [gcB, c5]
              rw [gsB_f (by intro h; unfold GS at h; dsimp only at h; omega)]
              go_enter Try.func7, Try.ntmps7
              go_wp2_with (go_at_call 18; refine (i_goodCount _ _ _ _).mono ?_; rintro e w' ⟨rfl, rfl⟩)
              go_ret
              first | exact ⟨rfl, below_box (Below.refl _ _)⟩ | exact ⟨ret_bool (decide_eq_true (by omega)), below_box (Below.refl _ _)⟩ | exact ⟨ret_bool (decide_eq_false (by omega)), below_box (Below.refl _ _)⟩
        · skip
          rw [gsB_f (by intro h; unfold GS at h; dsimp only at h; omega)]
          go_enter Try.func7, Try.ntmps7
          go_wp2_with (go_at_call 18; refine (i_goodCount _ _ _ _).mono ?_; rintro e w' ⟨rfl, rfl⟩)
          go_ret
          first | exact ⟨rfl, below_box (Below.refl _ _)⟩ | exact ⟨ret_bool (decide_eq_true (by omega)), below_box (Below.refl _ _)⟩ | exact ⟨ret_bool (decide_eq_false (by omega)), below_box (Below.refl _ _)⟩
      · skip
        rw [gsB_f (by intro h; unfold GS at h; dsimp only at h; omega)]
        go_enter Try.func7, Try.ntmps7
        go_wp2_with (go_at_call 18; refine (i_goodCount _ _ _ _).mono ?_; rintro e w' ⟨rfl, rfl⟩)
        go_ret
        first | exact ⟨rfl, below_box (Below.refl _ _)⟩ | exact ⟨ret_bool (decide_eq_true (by omega)), below_box (Below.refl _ _)⟩ | exact ⟨ret_bool (decide_eq_false (by omega)), below_box (Below.refl _ _)⟩
    · skip
      rw [gsB_f (by intro h; unfold GS at h; dsimp only at h; omega)]
      go_enter Try.func7, Try.ntmps7
      go_wp2_with (go_at_call 18; refine (i_goodCount _ _ _ _).mono ?_; rintro e w' ⟨rfl, rfl⟩)
      go_ret
      first | exact ⟨rfl, below_box (Below.refl _ _)⟩ | exact ⟨ret_bool (decide_eq_true (by omega)), below_box (Below.refl _ _)⟩ | exact ⟨ret_bool (decide_eq_false (by omega)), below_box (Below.refl _ _)⟩
  · skip
    rw [gsB_f (by intro h; unfold GS at h; dsimp only at h; omega)]
    go_enter Try.func7, Try.ntmps7
    go_wp2_with (go_at_call 18; refine (i_goodCount _ _ _ _).mono ?_; rintro e w' ⟨rfl, rfl⟩)
    go_ret
    first | exact ⟨rfl, below_box (Below.refl _ _)⟩ | exact ⟨ret_bool (decide_eq_true (by omega)), below_box (Below.refl _ _)⟩ | exact ⟨ret_bool (decide_eq_false (by omega)), below_box (Below.refl _ _)⟩
end Go.Proofs.Ytjfalfjadleegaa
