/- What the program's functions of chapter 1 answer: sizes, goodness. -/
import Derived.Test.YtlhdeeihpaogkaaKit
import Derived.Test.YtlhdeeihpaogkaaPlain1
namespace Go.Proofs.Ytlhdeeihpaogkaa
open Go.RowKit

set_option maxHeartbeats 400000 in
theorem i_sizeOf (l : Int) (w : World) (h0 : 0 ≤ l) (h1 : l ≤ 32) :
    Calls Try.prog 117 #[.int .i64 l] w fun e w' => e = .returned (.int .i64 (pw l)) ∧ w' = w := by
  go_enter Try.func117, Try.ntmps117
  go_wp2
  go_ret
  exact ⟨ret_int (pw_wrap l h0), rfl⟩

set_option maxHeartbeats 400000 in
theorem i_isAddr (n : Int) (w : World) :
    Calls Try.prog 102 #[.int .i64 n] w fun e w' => e = .returned (.bool (inB n 0 4294967295)) ∧ w' = w := by
  by_cases h1 : 0 ≤ n
  · by_cases h2 : n ≤ 4294967295
    · rw [inB_t h1 h2]
      go_enter Try.func102, Try.ntmps102
      go_wp2
      go_ret
      exact ⟨rfl, rfl⟩
    · rw [inB_f2 h2]
      go_enter Try.func102, Try.ntmps102
      go_wp2
      go_ret
      exact ⟨rfl, rfl⟩
  · rw [inB_f1 h1]
    go_enter Try.func102, Try.ntmps102
    go_wp2
    go_ret
    exact ⟨rfl, rfl⟩

set_option maxHeartbeats 400000 in
theorem i_around (a l : Int) (w : World) (h0 : 0 ≤ l) (h1 : l ≤ 32) (h2 : 0 ≤ a) (h3 : a ≤ 4294967295) :
    Calls Try.prog 103 #[.int .i64 a, .int .i64 l] w fun e w' => e = .returned (.agg #[.int .i64 (a - a % pw l), .int .i64 l]) ∧ Below w.heap.size w w' := by
  have p1 := pw_pos l
  have p2 := pw_le l h0
  have p3 : 0 ≤ a % pw l := Int.emod_nonneg _ (by omega)
  have p4 : a % pw l < pw l := Int.emod_lt_of_pos _ (by omega)
  go_enter Try.func103, Try.ntmps103
  go_wp2_with (go_at_call 117; refine (i_sizeOf _ _ (by omega) (by omega)).mono ?_; rintro e w' ⟨rfl, rfl⟩)
  exact bodyPost_ret (v := .agg #[.int .i64 (a - a % pw l), .int .i64 l]) (by simp [results, Try.results103, go_sem]) rfl ⟨rfl, (Below.refl _ _).alloc (Nat.le_refl _) _⟩

set_option maxRecDepth 100000 in
set_option maxHeartbeats 800000 in
theorem i_good_in (a l : Int) (w : World) (hl0 : 0 ≤ l) (hl1 : l ≤ 32) (ha0 : 0 ≤ a) (ha1 : a ≤ 4294967295) :
    Calls Try.prog 66 #[.agg #[.int .i64 a, .int .i64 l]] w fun e w' => e = .returned (.bool (a % pw l == 0)) ∧ Below w.heap.size w w' := by
  have i2 := inB_t ha0 ha1
  have t1 : decide (l < 0) = false := by simp; omega
  have t2 : decide (32 < l) = false := by simp; omega
  have he := eqPrefix_run
  have hg := eqPrefix_guard
  go_enter Try.func66, Try.ntmps66
  go_wp2_with (go_at_call 102; refine (i_isAddr _ _).mono ?_; rintro e w' ⟨rfl, rfl⟩)
  go_region_with (go_at_call 103; refine (i_around _ _ _ hl0 hl1 ha0 ha1).mono ?_; rintro e w' ⟨rfl, hb⟩; obtain ⟨hc, hf⟩ := bcell hb)
  all_goals
    go_wp2
    go_ret
    exact ⟨ret_bool (sub_is a (a % pw l)), ((Below.refl _ _).alloc (Nat.le_refl _) _).drew.trans (hb.mono (by simp))⟩

set_option maxRecDepth 100000 in
set_option maxHeartbeats 800000 in
theorem i_good_a (a l : Int) (w : World) (hl0 : 0 ≤ l) (hl1 : l ≤ 32) (ha : ¬ (0 ≤ a ∧ a ≤ 4294967295)) :
    Calls Try.prog 66 #[.agg #[.int .i64 a, .int .i64 l]] w fun e w' => e = .returned (.bool false) ∧ Below w.heap.size w w' := by
  have i2 : inB a 0 4294967295 = false := inB_n ha
  have t1 : decide (l < 0) = false := by simp; omega
  have t2 : decide (32 < l) = false := by simp; omega
  clear ha
  go_enter Try.func66, Try.ntmps66
  go_wp2_with (go_at_call 102; refine (i_isAddr _ _).mono ?_; rintro e w' ⟨rfl, rfl⟩)
  go_ret
  exact ⟨rfl, (Below.refl _ _).alloc (Nat.le_refl _) _⟩

set_option maxRecDepth 100000 in
set_option maxHeartbeats 800000 in
theorem i_good_l (a l : Int) (w : World) (hl : ¬ (0 ≤ l ∧ l ≤ 32)) :
    Calls Try.prog 66 #[.agg #[.int .i64 a, .int .i64 l]] w fun e w' => e = .returned (.bool false) ∧ Below w.heap.size w w' := by
  by_cases t0 : l < 0
  · go_enter Try.func66, Try.ntmps66
    go_wp2_with fail
    go_ret
    exact ⟨rfl, (Below.refl _ _).alloc (Nat.le_refl _) _⟩
  · have t3 : 32 < l := by omega
    clear hl
    go_enter Try.func66, Try.ntmps66
    go_wp2_with fail
    go_ret
    exact ⟨rfl, (Below.refl _ _).alloc (Nat.le_refl _) _⟩

theorem i_good (a l : Int) (w : World) :
    Calls Try.prog 66 #[.agg #[.int .i64 a, .int .i64 l]] w fun e w' => e = .returned (.bool (goodB a l)) ∧ Below w.heap.size w w' := by
  by_cases hl : 0 ≤ l ∧ l ≤ 32
  · by_cases ha : 0 ≤ a ∧ a ≤ 4294967295
    · rw [goodB_in hl.1 hl.2 ha.1 ha.2]
      exact i_good_in a l w hl.1 hl.2 ha.1 ha.2
    · rw [goodB_a ha]
      exact i_good_a a l w hl.1 hl.2 ha
  · rw [goodB_l hl]
    exact i_good_l a l w hl

end Go.Proofs.Ytlhdeeihpaogkaa
