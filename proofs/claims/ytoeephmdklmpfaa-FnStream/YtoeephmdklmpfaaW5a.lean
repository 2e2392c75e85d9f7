/- The laws on GoodMsg and MsgBytes: the program answers as the specification. -/
import Derived.Test.YtoeephmdklmpfaaS5
import Derived.Test.YtoeephmdklmpfaaI5
import Derived.Test.YtoeephmdklmpfaaFlatMsg
namespace Go.Proofs.Ytoeephmdklmpfaa
open Go.RowKit

set_option maxHeartbeats 400000 in
theorem w_szMsg (t : Int) (b : ByteArray) (left : Int) (w : World) (hb : b.size ≤ maxLen) (h0 : 0 ≤ left) (h1 : left ≤ 1048576) :
    Calls Try.prog 20 #[.agg #[.int .i64 t, .string b], .int .i64 left] w fun e w' => e = .returned (.int .i64 (if (b.size : Int) ≤ left then left - (b.size : Int) else -1)) ∧ Below w.heap.size w w' := by
  unfold maxLen at hb
  by_cases h : (b.size : Int) ≤ left
  · rw [if_pos h]
    have h2 : ¬ (left - (b.size : Int) < 0) := by omega
    go_enter Try.func20, Try.ntmps20
    go_wp2_with fail
    go_ret
    exact ⟨rfl, below_box (Below.refl _ _)⟩
  · rw [if_neg h]
    have h2 : left - (b.size : Int) < 0 := by omega
    go_enter Try.func20, Try.ntmps20
    go_wp2_with fail
    go_ret
    exact ⟨rfl, below_box (Below.refl _ _)⟩
set_option maxRecDepth 100000 in
set_option maxHeartbeats 1600000 in
theorem w_goodMsg (t : Int) (b : ByteArray) (w : World) (hb : b.size ≤ maxLen) :
    Calls Try.prog 4 #[.agg #[.int .i64 t, .string b]] w fun e w' => e = .returned (.bool true) ∧ Below w.heap.size w w' := by
  have Z := hide (fun w => w_szMsg t b 1048576 w hb (by omega) (by omega))
  have T1 := hide (fun w => w_toMsg t b w)
  have S1 := hide (fun w => s_goodMsg t b w)
  have I1 := hide (fun w => i_goodMsg t b w)
  generalize gmB t b = r at *
  have k0 : (r != r) = false := by simp
  by_cases h : (b.size : Int) ≤ 1048576
  · rw [if_pos h] at Z
    have h2 : ¬ (1048576 - (b.size : Int) < 0) := by omega
    go_enter Try.func4, Try.ntmps4
    go_wp2_with fail
    refine (Z.out _).mono ?_
    rintro e w0 ⟨rfl, b0⟩
    obtain ⟨hc0, _⟩ := bcell b0
    go_wp2_with fail
    refine (T1.out _).mono ?_
    rintro e w1 ⟨rfl, b1⟩
    have d1 := below_step b0 b1
    clear hc0
    go_wp2_with fail
    refine (S1.out _).mono ?_
    rintro e w2 ⟨rfl, b2⟩
    have d2 := below_step d1 b2
    obtain ⟨hc, _⟩ := bcell d2
    go_wp2_with fail
    refine (T1.out _).mono ?_
    rintro e w3 ⟨rfl, b3⟩
    have d3 := below_step d2 b3
    clear hc
    go_wp2_with fail
    refine (I1.out _).mono ?_
    rintro e w4 ⟨rfl, b4⟩
    have d4 := below_step d3 b4
    go_wp2_with fail
    go_ret
    exact ⟨rfl, below_box d4⟩
  · rw [if_neg h] at Z
    go_enter Try.func4, Try.ntmps4
    go_wp2_with fail
    refine (Z.out _).mono ?_
    rintro e w0 ⟨rfl, b0⟩
    go_wp2_with fail
    go_ret
    exact ⟨rfl, below_box b0⟩
set_option maxRecDepth 100000 in
set_option maxHeartbeats 1600000 in
theorem w_msgBytes (t : Int) (b : ByteArray) (w : World) (hb : b.size ≤ maxLen) :
    Calls Try.prog 5 #[.agg #[.int .i64 t, .string b]] w fun e w' => e = .returned (.bool true) ∧ Below w.heap.size w w' := by
  have Z := hide (fun w => w_szMsg t b 1048576 w hb (by omega) (by omega))
  have T1 := hide (fun w => w_toMsg t b w)
  have S1 := hide (fun w => s_msgBytes t b w)
  have I1 := hide (fun w => i_msgBytes t b w)
  generalize (if gmB t b then mby t b else ByteArray.empty) = X at *
  generalize gmB t b = r at *
  have k0 : (r != r) = false := by simp
  by_cases h : (b.size : Int) ≤ 1048576
  · rw [if_pos h] at Z
    have h2 : ¬ (1048576 - (b.size : Int) < 0) := by omega
    go_enter Try.func5, Try.ntmps5
    go_wp2_with fail
    refine (Z.out _).mono ?_
    rintro e w0 ⟨rfl, b0⟩
    obtain ⟨hc0, _⟩ := bcell b0
    go_wp2_with fail
    refine (T1.out _).mono ?_
    rintro e w1 ⟨rfl, b1⟩
    have d1 := below_step b0 b1
    clear hc0
    go_wp2_with fail
    refine (S1.out _).mono ?_
    rintro e w2 ⟨rfl, b2⟩
    have d2 := below_step d1 b2
    obtain ⟨hc, _⟩ := bcell d2
    go_wp2_with fail
    refine (T1.out _).mono ?_
    rintro e w3 ⟨rfl, b3⟩
    have d3 := below_step d2 b3
    clear hc
    go_wp2_with fail
    refine (I1.out _).mono ?_
    rintro e w4 ⟨rfl, b4⟩
    have d4 := below_step d3 b4
    go_wp2_with fail
    go_ret
    exact ⟨rfl, below_box d4⟩
  · rw [if_neg h] at Z
    go_enter Try.func5, Try.ntmps5
    go_wp2_with fail
    refine (Z.out _).mono ?_
    rintro e w0 ⟨rfl, b0⟩
    go_wp2_with fail
    go_ret
    exact ⟨rfl, below_box b0⟩
end Go.Proofs.Ytoeephmdklmpfaa
