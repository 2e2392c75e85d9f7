/- What the program's functions of chapter 2 answer: values, order, tables. -/
import Derived.Test.YtlhdeeihpaogkaaFlatEntry
import Derived.Test.YtlhdeeihpaogkaaS2
import Derived.Test.YtlhdeeihpaogkaaI1c
namespace Go.Proofs.Ytlhdeeihpaogkaa
open Go.RowKit

set_option maxHeartbeats 400000 in
theorem i_value (n : Int) (w : World) :
    Calls Try.prog 104 #[.int .i64 n] w fun e w' => e = .returned (.bool (inB n 0 1000000)) ∧ w' = w := by
  by_cases h1 : 0 ≤ n
  · by_cases h2 : n ≤ 1000000
    · rw [inB_t h1 h2]
      go_enter Try.func104, Try.ntmps104
      go_wp2
      go_ret
      exact ⟨rfl, rfl⟩
    · rw [inB_f2 h2]
      go_enter Try.func104, Try.ntmps104
      go_wp2
      go_ret
      exact ⟨rfl, rfl⟩
  · rw [inB_f1 h1]
    go_enter Try.func104, Try.ntmps104
    go_wp2
    go_ret
    exact ⟨rfl, rfl⟩

set_option maxHeartbeats 800000 in
theorem i_before (a l b m : Int) (w : World) (hg1 : goodB a l = true) (hg2 : goodB b m = true) :
    Calls Try.prog 36 #[.agg #[.int .i64 a, .int .i64 l], .agg #[.int .i64 b, .int .i64 m]] w fun e w' =>
      e = .returned (.bool (decide (cmpP a l b m < 0))) ∧ Below w.heap.size w w' := by
  have s1 := hide (fun w => i_compare a l b m w)
  rw [hg1, hg2] at s1
  simp only [Bool.and_self, if_true] at s1
  clear hg1 hg2
  generalize cmpP a l b m = r at s1 ⊢
  go_enter Try.func36, Try.ntmps36
  go_wp2_with fail
  refine (s1.out _).mono ?_
  rintro e w1 ⟨rfl, hb1⟩
  go_wp2_with fail
  go_ret
  exact ⟨rfl, below_box2 hb1⟩

theorem all_good {f0 f1 f2 : Nat → Int} {m : Nat} (h : (List.range (m + 1)).all (entOk f0 f1 f2) = true) : goodB (f0 m) (f1 m) = true := by
  rw [List.all_eq_true] at h
  have h1 := h m (List.mem_range.2 (by omega))
  unfold entOk at h1
  rw [Bool.and_eq_true, Bool.and_eq_true] at h1
  exact h1.1.1
theorem tabB_over {f0 f1 f2 : Nat → Int} {n : Nat} (h : ¬ n ≤ 30) : tabB f0 f1 f2 n = false := by
  unfold tabB
  rw [show decide (n ≤ 30) = false by simpa using h, Bool.and_false]
theorem tabB_all {f0 f1 f2 : Nat → Int} {n : Nat} (h : n ≤ 30) (ha : (List.range n).all (entOk f0 f1 f2) = true) : tabB f0 f1 f2 n = true := by
  unfold tabB
  rw [show decide (n ≤ 30) = true by simpa using h, ha]; rfl
end Go.Proofs.Ytlhdeeihpaogkaa
