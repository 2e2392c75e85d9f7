/- NewSession, GoodSession, good events of the specification. -/
import Derived.Test.YtcapbljknpggkabPlain12
import Derived.Test.YtcapbljknpggkabMut4
import Derived.Test.YtcapbljknpggkabS1
namespace Go.Proofs.Ytcapbljknpggkab
open Go.RowKit

set_option maxRecDepth 100000 in
set_option maxHeartbeats 1600000 in
theorem s_new (h : Int) (w : World) :
    Calls Try.prog 18 #[.int .i64 h] w fun e w' => e = .returned (.tuple #[(newS h).v, .bool (newB h)]) ∧ Below w.heap.size w w' := by
  by_cases c0 : 3 ≤ h ∧ h ≤ 90
  · skip
    have t0_0 : inB h 3 90 = true := inB_t c0.1 c0.2
    rw [(new_t c0).1, (new_t c0).2]
    go_enter Try.func18, Try.ntmps18
    go_wp2_with (go_at_call 26; refine (s_in _ _ _ _).mono ?_; rintro e w' ⟨rfl, rfl⟩)
    exact bodyPost_ret (v := .tuple #[.agg #[.int .i64 0, .int .i64 h, .int .i64 0, .int .i64 0, .int .i64 0], .bool true]) (by simp [results, Try.results18, go_sem]) rfl ⟨rfl, by first | exact below_box (Below.refl _ _) | exact below_box2 (Below.refl _ _) | exact below_box3 (Below.refl _ _)⟩
  · skip
    have t0_0 : inB h 3 90 = false := inB_n c0
    rw [(new_f c0).1, (new_f c0).2]
    go_enter Try.func18, Try.ntmps18
    go_wp2_with (go_at_call 26; refine (s_in _ _ _ _).mono ?_; rintro e w' ⟨rfl, rfl⟩)
    exact bodyPost_ret (v := .tuple #[.agg #[.int .i64 0, .int .i64 0, .int .i64 0, .int .i64 0, .int .i64 0], .bool false]) (by simp [results, Try.results18, go_sem]) rfl ⟨rfl, by first | exact below_box (Below.refl _ _) | exact below_box2 (Below.refl _ _) | exact below_box3 (Below.refl _ _)⟩
set_option maxRecDepth 100000 in
set_option maxHeartbeats 1600000 in
theorem s_event (k n : Int) (w : World) :
    Calls Try.prog 19 #[.agg #[.int .i64 k, .int .i64 n]] w fun e w' => e = .returned (.bool (geB k n)) ∧ Below w.heap.size w w' := by
  by_cases c0 : k = 5
  · skip
    have t0_0 : (k == 5) = true := by simp [c0]
    by_cases c1 : 0 ≤ n ∧ n ≤ 100
    · skip
      have t1_0 : inB n 0 100 = true := inB_t c1.1 c1.2
      rw [geB_t (by unfold GE; omega)]
      go_enter Try.func19, Try.ntmps19
      go_wp2_with (go_at_call 26; refine (s_in _ _ _ _).mono ?_; rintro e w' ⟨rfl, rfl⟩)
      go_ret
      exact ⟨rfl, below_box (Below.refl _ _)⟩
    · skip
      have t1_0 : inB n 0 100 = false := inB_n c1
      rw [geB_f (by intro h; unfold GE at h; omega)]
      go_enter Try.func19, Try.ntmps19
      go_wp2_with (go_at_call 26; refine (s_in _ _ _ _).mono ?_; rintro e w' ⟨rfl, rfl⟩)
      go_ret
      exact ⟨rfl, below_box (Below.refl _ _)⟩
  · skip
    have t0_0 : (k == 5) = false := by simp [c0]
    by_cases c1 : 1 ≤ k ∧ k ≤ 10
    · skip
      have t1_0 : inB k 1 10 = true := inB_t c1.1 c1.2
      by_cases c2 : n = 0
      · skip
        have t2_0 : (n == 0) = true := by simp [c2]
        rw [geB_t (by unfold GE; omega)]
        go_enter Try.func19, Try.ntmps19
        go_wp2_with (go_at_call 26; refine (s_in _ _ _ _).mono ?_; rintro e w' ⟨rfl, rfl⟩)
        go_ret
        exact ⟨rfl, below_box (Below.refl _ _)⟩
      · skip
        have t2_0 : (n == 0) = false := by simp [c2]
        rw [geB_f (by intro h; unfold GE at h; omega)]
        go_enter Try.func19, Try.ntmps19
        go_wp2_with (go_at_call 26; refine (s_in _ _ _ _).mono ?_; rintro e w' ⟨rfl, rfl⟩)
        go_ret
        exact ⟨rfl, below_box (Below.refl _ _)⟩
    · skip
      have t1_0 : inB k 1 10 = false := inB_n c1
      rw [geB_f (by intro h; unfold GE at h; omega)]
      go_enter Try.func19, Try.ntmps19
      go_wp2_with (go_at_call 26; refine (s_in _ _ _ _).mono ?_; rintro e w' ⟨rfl, rfl⟩)
      go_ret
      exact ⟨rfl, below_box (Below.refl _ _)⟩
end Go.Proofs.Ytcapbljknpggkab
