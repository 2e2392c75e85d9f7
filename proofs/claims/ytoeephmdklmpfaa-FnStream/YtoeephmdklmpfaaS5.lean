/- Messages: what the specification's GoodMsg, l5Bytes and MsgBytes answer. -/
import Derived.Test.YtoeephmdklmpfaaPlain5
import Derived.Test.YtoeephmdklmpfaaS1
import Derived.Test.YtoeephmdklmpfaaByte4
import Derived.Laws.Concat
namespace Go.Proofs.Ytoeephmdklmpfaa
open Go.RowKit

set_option maxRecDepth 100000 in
set_option maxHeartbeats 1600000 in
theorem s_goodMsg (t : Int) (b : ByteArray) (w : World) :
    Calls Try.prog 21 #[.agg #[.int .i64 t, .string b]] w fun e w' => e = .returned (.bool (gmB t b)) ∧ Below w.heap.size w w' := by
  go_enter Try.func21, Try.ntmps21
  go_wp2_with (go_at_call 74; refine (s_in _ _ _ _).mono ?_; rintro e w' ⟨rfl, rfl⟩)
  all_goals go_ret
  all_goals refine ⟨ret_bool ?_, below_box (Below.refl _ _)⟩
  · rename_i h1 h2 h3
    have h1 := of_decide_eq_true h1
    rw [toList_nil]
    by_cases h4 : b.size = 0
    · rw [decide_eq_true h4, gm_yes h1.1 h1.2 (by omega) (fun _ => h4)]
    · rw [decide_eq_false h4, gm_no (fun h => h4 (h.2.2.2 h3))]
  · rename_i h1 h2 h3
    have h1 := of_decide_eq_true h1
    rw [gm_yes h1.1 h1.2 (by omega) (fun h => absurd h h3)]
  · rename_i h1 h2
    rw [gm_no (fun h => by omega)]
  · rename_i h1
    rw [gm_no (fun h => h1 (decide_eq_true ⟨h.1, h.2.1⟩))]
set_option maxRecDepth 100000 in
set_option maxHeartbeats 1600000 in
theorem s_bytes5 (t : Int) (b : ByteArray) (w : World) (hg : gmB t b = true) :
    Calls Try.prog 76 #[.agg #[.int .i64 t, .string b]] w fun e w' => e = .returned (.string (mby t b)) ∧ Below w.heap.size w w' := by
  obtain ⟨h1, h2, h3, _⟩ := of_decide_eq_true hg
  have hcat := fun (w : World) => run_string_add_sum (P := Try.prog) w (strOfNums [255, 255, 5 + (b.size : Int), 0, t]) b (by rw [strOfNums_size]; simp; omega)
  have hcv := run_convert_bytes_arg (P := Try.prog) ((w.alloc (.cells #[.int .i64 t, .string b] 37)).alloc (.cells #[.int .u8 255, .int .u8 255, .int .u8 (5 + (b.size : Int)), .int .u8 0, .int .u8 t] 5)) 72 5 Try.underlying72 Try.underlying5 (w.heap.size + 1) 0 5 5 [255, 255, 5 + (b.size : Int), 0, t] rfl (fun i hi => by
    rcases (show i = 0 ∨ i = 1 ∨ i = 2 ∨ i = 3 ∨ i = 4 by omega) with rfl | rfl | rfl | rfl | rfl <;> simp [go_sem]) 9 Try.underlying9
  have e1 : IntKind.u8.wrap (5 + (b.size : Int)) = 5 + (b.size : Int) := by rw [u8_wrap]; omega
  have e2 : IntKind.u8.wrap t = t := by rw [u8_wrap]; omega
  go_enter Try.func76, Try.ntmps76
  go_wp2_with fail
  go_ret
  exact ⟨rfl, below_box2 (Below.refl _ _)⟩
set_option maxRecDepth 100000 in
set_option maxHeartbeats 1600000 in
theorem s_msgBytes (t : Int) (b : ByteArray) (w : World) :
    Calls Try.prog 24 #[.agg #[.int .i64 t, .string b]] w fun e w' => e = .returned (.tuple #[.string (if gmB t b then mby t b else ByteArray.empty), .bool (gmB t b)]) ∧ Below w.heap.size w w' := by
  have s1 := hide (fun w => s_goodMsg t b w)
  cases hg : gmB t b with
  | true =>
    have s2 := hide (fun w => s_bytes5 t b w hg)
    rw [hg] at s1
    clear hg
    go_enter Try.func24, Try.ntmps24
    go_wp2_with fail
    refine (s1.out _).mono ?_
    rintro e w1 ⟨rfl, b1⟩
    obtain ⟨hc, _⟩ := bcell b1
    go_wp2_with fail
    refine (s2.out _).mono ?_
    rintro e w2 ⟨rfl, b2⟩
    go_wp2_with fail
    exact bodyPost_ret (v := .tuple #[.string (mby t b), .bool true]) (by simp [results, Try.results24, go_sem]) rfl ⟨by simp, below_box (below_step b1 b2)⟩
  | false =>
    rw [hg] at s1
    clear hg
    go_enter Try.func24, Try.ntmps24
    go_wp2_with fail
    refine (s1.out _).mono ?_
    rintro e w1 ⟨rfl, b1⟩
    go_wp2_with fail
    exact bodyPost_ret (v := .tuple #[.string ByteArray.empty, .bool false]) (by simp [results, Try.results24, go_sem] <;> rfl) rfl ⟨by simp, below_box b1⟩
end Go.Proofs.Ytoeephmdklmpfaa
