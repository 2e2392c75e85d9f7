/- NewSession, GoodSession, good events of the specification. -/
import Derived.Test.YtencpplhlciffaaPlain12
import Derived.Test.YtencpplhlciffaaMut4
import Derived.Test.YtencpplhlciffaaS1
namespace Go.Proofs.Ytencpplhlciffaa
open Go.RowKit

set_option maxRecDepth 100000 in
set_option maxHeartbeats 1600000 in
theorem s_new (h : Int) (w : World) :
    Calls Try.prog 15 #[.int .i64 h] w fun e w' => e = .returned (.tuple #[(newS h).v, .bool (newB h)]) ∧ Below w.heap.size w w' := by
  by_cases c0 : 3 ≤ h ∧ h ≤ 90
  · skip
    have t0_0 : inB h 3 90 = true := inB_t c0.1 c0.2
    rw [(new_t c0).1, (new_t c0).2]
    go_enter Try.func15, Try.ntmps15
    go_wp2_with (go_at_call 26; refine (s_in _ _ _ _).mono ?_; rintro e w' ⟨rfl, rfl⟩)
    exact bodyPost_ret (v := .tuple #[.agg #[.int .i64 0, .int .i64 h, .int .i64 0, .int .i64 0, .int .i64 0], .bool true]) (by simp [results, Try.results15, go_sem]) rfl ⟨rfl, by first | exact below_box (Below.refl _ _) | exact below_box2 (Below.refl _ _) | exact below_box3 (Below.refl _ _)⟩
  · skip
    have t0_0 : inB h 3 90 = false := inB_n c0
    rw [(new_f c0).1, (new_f c0).2]
    go_enter Try.func15, Try.ntmps15
    go_wp2_with (go_at_call 26; refine (s_in _ _ _ _).mono ?_; rintro e w' ⟨rfl, rfl⟩)
    exact bodyPost_ret (v := .tuple #[.agg #[.int .i64 0, .int .i64 0, .int .i64 0, .int .i64 0, .int .i64 0], .bool false]) (by simp [results, Try.results15, go_sem]) rfl ⟨rfl, by first | exact below_box (Below.refl _ _) | exact below_box2 (Below.refl _ _) | exact below_box3 (Below.refl _ _)⟩
set_option maxRecDepth 100000 in
set_option maxHeartbeats 1600000 in
theorem s_goodS (x0 x1 x2 x3 x4 : Int) (w : World) :
    Calls Try.prog 16 #[(⟨x0, x1, x2, x3, x4⟩ : Se).v] w fun e w' => e = .returned (.bool (gsB ⟨x0, x1, x2, x3, x4⟩)) ∧ Below w.heap.size w w' := by
  by_cases c0 : 0 ≤ x0 ∧ x0 ≤ 4
  · skip
    have t0_0 : inB x0 0 4 = true := inB_t c0.1 c0.2
    by_cases c1 : 3 ≤ x1 ∧ x1 ≤ 90
    · skip
      have t1_0 : inB x1 3 90 = true := inB_t c1.1 c1.2
      by_cases c2 : 0 ≤ x4 ∧ x4 ≤ 1000
      · skip
        have t2_0 : inB x4 0 1000 = true := inB_t c2.1 c2.2
        by_cases c3 : x0 = 0
        · skip
          have t3_0 : (x0 == 0) = true := by simp [c3]
          by_cases c4 : x2 = 0
          · skip
            have t4_0 : (x2 == 0) = true := by simp [c4]
            by_cases c5 : x3 = 0
            · skip
              have t5_0 : (x3 == 0) = true := by simp [c5]
              rw [gsB_t (by unfold GS; dsimp only; omega)]
              go_enter Try.func16, Try.ntmps16
              go_wp2_with (go_at_call 26; refine (s_in _ _ _ _).mono ?_; rintro e w' ⟨rfl, rfl⟩)
              go_ret
              exact ⟨rfl, below_box (Below.refl _ _)⟩
            · skip
              have t5_0 : (x3 == 0) = false := by simp [c5]
              rw [gsB_f (by intro h; unfold GS at h; dsimp only at h; omega)]
              go_enter Try.func16, Try.ntmps16
              go_wp2_with (go_at_call 26; refine (s_in _ _ _ _).mono ?_; rintro e w' ⟨rfl, rfl⟩)
              go_ret
              exact ⟨rfl, below_box (Below.refl _ _)⟩
          · skip
            have t4_0 : (x2 == 0) = false := by simp [c4]
            rw [gsB_f (by intro h; unfold GS at h; dsimp only at h; omega)]
            go_enter Try.func16, Try.ntmps16
            go_wp2_with (go_at_call 26; refine (s_in _ _ _ _).mono ?_; rintro e w' ⟨rfl, rfl⟩)
            go_ret
            exact ⟨rfl, below_box (Below.refl _ _)⟩
        · skip
          have t3_0 : (x0 == 0) = false := by simp [c3]
          by_cases c4 : x0 = 1
          · skip
            have t4_0 : (x0 == 1) = true := by simp [c4]
            by_cases c5 : x2 = 0
            · skip
              have t5_0 : (x2 == 0) = true := by simp [c5]
              by_cases c6 : x3 = 0
              · skip
                have t6_0 : (x3 == 0) = true := by simp [c6]
                rw [gsB_t (by unfold GS; dsimp only; omega)]
                go_enter Try.func16, Try.ntmps16
                go_wp2_with (go_at_call 26; refine (s_in _ _ _ _).mono ?_; rintro e w' ⟨rfl, rfl⟩)
                go_ret
                exact ⟨rfl, below_box (Below.refl _ _)⟩
              · skip
                have t6_0 : (x3 == 0) = false := by simp [c6]
                rw [gsB_f (by intro h; unfold GS at h; dsimp only at h; omega)]
                go_enter Try.func16, Try.ntmps16
                go_wp2_with (go_at_call 26; refine (s_in _ _ _ _).mono ?_; rintro e w' ⟨rfl, rfl⟩)
                go_ret
                exact ⟨rfl, below_box (Below.refl _ _)⟩
            · skip
              have t5_0 : (x2 == 0) = false := by simp [c5]
              rw [gsB_f (by intro h; unfold GS at h; dsimp only at h; omega)]
              go_enter Try.func16, Try.ntmps16
              go_wp2_with (go_at_call 26; refine (s_in _ _ _ _).mono ?_; rintro e w' ⟨rfl, rfl⟩)
              go_ret
              exact ⟨rfl, below_box (Below.refl _ _)⟩
          · skip
            have t4_0 : (x0 == 1) = false := by simp [c4]
            by_cases c5 : x0 = 2
            · skip
              have t5_0 : (x0 == 2) = true := by simp [c5]
              by_cases c6 : 1 ≤ x2 ∧ x2 ≤ 90
              · skip
                have t6_0 : inB x2 1 90 = true := inB_t c6.1 c6.2
                by_cases c7 : x3 = 0
                · skip
                  have t7_0 : (x3 == 0) = true := by simp [c7]
                  rw [gsB_t (by unfold GS; dsimp only; omega)]
                  go_enter Try.func16, Try.ntmps16
                  go_wp2_with (go_at_call 26; refine (s_in _ _ _ _).mono ?_; rintro e w' ⟨rfl, rfl⟩)
                  go_ret
                  exact ⟨rfl, below_box (Below.refl _ _)⟩
                · skip
                  have t7_0 : (x3 == 0) = false := by simp [c7]
                  rw [gsB_f (by intro h; unfold GS at h; dsimp only at h; omega)]
                  go_enter Try.func16, Try.ntmps16
                  go_wp2_with (go_at_call 26; refine (s_in _ _ _ _).mono ?_; rintro e w' ⟨rfl, rfl⟩)
                  go_ret
                  exact ⟨rfl, below_box (Below.refl _ _)⟩
              · skip
                have t6_0 : inB x2 1 90 = false := inB_n c6
                rw [gsB_f (by intro h; unfold GS at h; dsimp only at h; omega)]
                go_enter Try.func16, Try.ntmps16
                go_wp2_with (go_at_call 26; refine (s_in _ _ _ _).mono ?_; rintro e w' ⟨rfl, rfl⟩)
                go_ret
                exact ⟨rfl, below_box (Below.refl _ _)⟩
            · skip
              have t5_0 : (x0 == 2) = false := by simp [c5]
              by_cases c6 : 1 ≤ x2 ∧ x2 ≤ 90
              · skip
                have t6_0 : inB x2 1 90 = true := inB_t c6.1 c6.2
                by_cases c7 : 1 ≤ x3 ∧ x3 ≤ 30
                · skip
                  have t7_0 : inB x3 1 30 = true := inB_t c7.1 c7.2
                  rw [gsB_t (by unfold GS; dsimp only; omega)]
                  go_enter Try.func16, Try.ntmps16
                  go_wp2_with (go_at_call 26; refine (s_in _ _ _ _).mono ?_; rintro e w' ⟨rfl, rfl⟩)
                  go_ret
                  exact ⟨rfl, below_box (Below.refl _ _)⟩
                · skip
                  have t7_0 : inB x3 1 30 = false := inB_n c7
                  rw [gsB_f (by intro h; unfold GS at h; dsimp only at h; omega)]
                  go_enter Try.func16, Try.ntmps16
                  go_wp2_with (go_at_call 26; refine (s_in _ _ _ _).mono ?_; rintro e w' ⟨rfl, rfl⟩)
                  go_ret
                  exact ⟨rfl, below_box (Below.refl _ _)⟩
              · skip
                have t6_0 : inB x2 1 90 = false := inB_n c6
                rw [gsB_f (by intro h; unfold GS at h; dsimp only at h; omega)]
                go_enter Try.func16, Try.ntmps16
                go_wp2_with (go_at_call 26; refine (s_in _ _ _ _).mono ?_; rintro e w' ⟨rfl, rfl⟩)
                go_ret
                exact ⟨rfl, below_box (Below.refl _ _)⟩
      · skip
        have t2_0 : inB x4 0 1000 = false := inB_n c2
        rw [gsB_f (by intro h; unfold GS at h; dsimp only at h; omega)]
        go_enter Try.func16, Try.ntmps16
        go_wp2_with (go_at_call 26; refine (s_in _ _ _ _).mono ?_; rintro e w' ⟨rfl, rfl⟩)
        go_ret
        exact ⟨rfl, below_box (Below.refl _ _)⟩
    · skip
      have t1_0 : inB x1 3 90 = false := inB_n c1
      rw [gsB_f (by intro h; unfold GS at h; dsimp only at h; omega)]
      go_enter Try.func16, Try.ntmps16
      go_wp2_with (go_at_call 26; refine (s_in _ _ _ _).mono ?_; rintro e w' ⟨rfl, rfl⟩)
      go_ret
      exact ⟨rfl, below_box (Below.refl _ _)⟩
  · skip
    have t0_0 : inB x0 0 4 = false := inB_n c0
    rw [gsB_f (by intro h; unfold GS at h; dsimp only at h; omega)]
    go_enter Try.func16, Try.ntmps16
    go_wp2_with (go_at_call 26; refine (s_in _ _ _ _).mono ?_; rintro e w' ⟨rfl, rfl⟩)
    go_ret
    exact ⟨rfl, below_box (Below.refl _ _)⟩
set_option maxRecDepth 100000 in
set_option maxHeartbeats 1600000 in
theorem s_event (k n : Int) (w : World) :
    Calls Try.prog 21 #[.agg #[.int .i64 k, .int .i64 n]] w fun e w' => e = .returned (.bool (geB k n)) ∧ Below w.heap.size w w' := by
  by_cases c0 : k = 5
  · skip
    have t0_0 : (k == 5) = true := by simp [c0]
    by_cases c1 : 0 ≤ n ∧ n ≤ 100
    · skip
      have t1_0 : inB n 0 100 = true := inB_t c1.1 c1.2
      rw [geB_t (by unfold GE; omega)]
      go_enter Try.func21, Try.ntmps21
      go_wp2_with (go_at_call 26; refine (s_in _ _ _ _).mono ?_; rintro e w' ⟨rfl, rfl⟩)
      go_ret
      exact ⟨rfl, below_box (Below.refl _ _)⟩
    · skip
      have t1_0 : inB n 0 100 = false := inB_n c1
      rw [geB_f (by intro h; unfold GE at h; omega)]
      go_enter Try.func21, Try.ntmps21
      go_wp2_with (go_at_call 26; refine (s_in _ _ _ _).mono ?_; rintro e w' ⟨rfl, rfl⟩)
      go_ret
      exact ⟨rfl, below_box (Below.refl _ _)⟩
  · skip
    have t0_0 : (k == 5) = false := by simp [c0]
    by_cases c1 : 1 ≤ k ∧ k ≤ 10
    · skip
      have t1_0 : inB k 1 10 = true := inB_t c1.1 c1.2
      by_cases c2 : n = 0
      · skip
        have t2_0 : (n == 0) = true := by simp [c2]
        rw [geB_t (by unfold GE; omega)]
        go_enter Try.func21, Try.ntmps21
        go_wp2_with (go_at_call 26; refine (s_in _ _ _ _).mono ?_; rintro e w' ⟨rfl, rfl⟩)
        go_ret
        exact ⟨rfl, below_box (Below.refl _ _)⟩
      · skip
        have t2_0 : (n == 0) = false := by simp [c2]
        rw [geB_f (by intro h; unfold GE at h; omega)]
        go_enter Try.func21, Try.ntmps21
        go_wp2_with (go_at_call 26; refine (s_in _ _ _ _).mono ?_; rintro e w' ⟨rfl, rfl⟩)
        go_ret
        exact ⟨rfl, below_box (Below.refl _ _)⟩
    · skip
      have t1_0 : inB k 1 10 = false := inB_n c1
      rw [geB_f (by intro h; unfold GE at h; omega)]
      go_enter Try.func21, Try.ntmps21
      go_wp2_with (go_at_call 26; refine (s_in _ _ _ _).mono ?_; rintro e w' ⟨rfl, rfl⟩)
      go_ret
      exact ⟨rfl, below_box (Below.refl _ _)⟩
end Go.Proofs.Ytencpplhlciffaa
