/- NewSession, GoodSession, good events of the program. -/
import Derived.Test.YtcapbljknpggkabPlain12
import Derived.Test.YtcapbljknpggkabMut4
namespace Go.Proofs.Ytcapbljknpggkab
open Go.RowKit

set_option maxRecDepth 100000 in
set_option maxHeartbeats 1600000 in
theorem i_new (h : Int) (w : World) :
    Calls Try.prog 22 #[.int .i64 h] w fun e w' => e = .returned (.tuple #[(newS h).v, .bool (newB h)]) ∧ Below w.heap.size w w' := by
  by_cases c0 : ¬ h < 3
  · skip
    by_cases c1 : ¬ h > 90
    · skip
      rw [(new_t ⟨by omega, by omega⟩).1, (new_t ⟨by omega, by omega⟩).2]
      go_enter Try.func22, Try.ntmps22
      go_wp2_with fail
      exact bodyPost_ret (v := .tuple #[.agg #[.int .i64 0, .int .i64 h, .int .i64 0, .int .i64 0, .int .i64 0], .bool true]) (by simp [results, Try.results22, go_sem]) rfl ⟨rfl, by first | exact below_box (Below.refl _ _) | exact below_box2 (Below.refl _ _) | exact below_box3 (Below.refl _ _)⟩
    · skip
      rw [(new_f (by omega)).1, (new_f (by omega)).2]
      go_enter Try.func22, Try.ntmps22
      go_wp2_with fail
      exact bodyPost_ret (v := .tuple #[.agg #[.int .i64 0, .int .i64 0, .int .i64 0, .int .i64 0, .int .i64 0], .bool false]) (by simp [results, Try.results22, go_sem]) rfl ⟨rfl, by first | exact below_box (Below.refl _ _) | exact below_box2 (Below.refl _ _) | exact below_box3 (Below.refl _ _)⟩
  · skip
    rw [(new_f (by omega)).1, (new_f (by omega)).2]
    go_enter Try.func22, Try.ntmps22
    go_wp2_with fail
    exact bodyPost_ret (v := .tuple #[.agg #[.int .i64 0, .int .i64 0, .int .i64 0, .int .i64 0, .int .i64 0], .bool false]) (by simp [results, Try.results22, go_sem]) rfl ⟨rfl, by first | exact below_box (Below.refl _ _) | exact below_box2 (Below.refl _ _) | exact below_box3 (Below.refl _ _)⟩
set_option maxRecDepth 100000 in
set_option maxHeartbeats 1600000 in
theorem i_event (k n : Int) (w : World) :
    Calls Try.prog 23 #[.agg #[.int .i64 k, .int .i64 n]] w fun e w' => e = .returned (.bool (geB k n)) ∧ Below w.heap.size w w' := by
  by_cases c0 : k = 5
  · skip
    have t0_0 : (k == 5) = true := by simp [c0]
    by_cases c1 : 0 ≤ n
    · skip
      by_cases c2 : n ≤ 100
      · skip
        rw [geB_t (by unfold GE; omega)]
        go_enter Try.func23, Try.ntmps23
        go_wp2_with fail
        go_ret
        exact ⟨rfl, below_box (Below.refl _ _)⟩
      · skip
        rw [geB_f (by intro h; unfold GE at h; omega)]
        go_enter Try.func23, Try.ntmps23
        go_wp2_with fail
        go_ret
        exact ⟨rfl, below_box (Below.refl _ _)⟩
    · skip
      rw [geB_f (by intro h; unfold GE at h; omega)]
      go_enter Try.func23, Try.ntmps23
      go_wp2_with fail
      go_ret
      exact ⟨rfl, below_box (Below.refl _ _)⟩
  · skip
    have t0_0 : (k == 5) = false := by simp [c0]
    by_cases c1 : 1 ≤ k
    · skip
      by_cases c2 : k ≤ 10
      · skip
        by_cases c3 : n = 0
        · skip
          have t3_0 : (n == 0) = true := by simp [c3]
          rw [geB_t (by unfold GE; omega)]
          go_enter Try.func23, Try.ntmps23
          go_wp2_with fail
          go_ret
          exact ⟨rfl, below_box (Below.refl _ _)⟩
        · skip
          have t3_0 : (n == 0) = false := by simp [c3]
          rw [geB_f (by intro h; unfold GE at h; omega)]
          go_enter Try.func23, Try.ntmps23
          go_wp2_with fail
          go_ret
          exact ⟨rfl, below_box (Below.refl _ _)⟩
      · skip
        rw [geB_f (by intro h; unfold GE at h; omega)]
        go_enter Try.func23, Try.ntmps23
        go_wp2_with fail
        go_ret
        exact ⟨rfl, below_box (Below.refl _ _)⟩
    · skip
      rw [geB_f (by intro h; unfold GE at h; omega)]
      go_enter Try.func23, Try.ntmps23
      go_wp2_with fail
      go_ret
      exact ⟨rfl, below_box (Below.refl _ _)⟩
end Go.Proofs.Ytcapbljknpggkab
