/- Messages: what the program's GoodMsg and MsgBytes answer. -/
import Derived.Test.YtoeephmdklmpfaaPlain5
import Derived.Test.YtoeephmdklmpfaaByte4
import Derived.Laws.Concat
namespace Go.Proofs.Ytoeephmdklmpfaa
open Go.RowKit

set_option maxHeartbeats 400000 in
theorem i_isType (t : Int) (w : World) :
    Calls Try.prog 75 #[.int .i64 t] w fun e w' => e = .returned (.bool (decide (1 ≤ t ∧ t ≤ 4))) ∧ w' = w := by
  by_cases h1 : 1 ≤ t
  · by_cases h2 : t ≤ 4
    · rw [decide_eq_true ⟨h1, h2⟩]
      go_enter Try.func75, Try.ntmps75
      go_wp2_with fail
      go_ret
      exact ⟨rfl, rfl⟩
    · rw [decide_eq_false (fun h => h2 h.2)]
      go_enter Try.func75, Try.ntmps75
      go_wp2_with fail
      go_ret
      exact ⟨rfl, rfl⟩
  · rw [decide_eq_false (fun h => h1 h.1)]
    go_enter Try.func75, Try.ntmps75
    go_wp2_with fail
    go_ret
    exact ⟨rfl, rfl⟩
set_option maxRecDepth 100000 in
set_option maxHeartbeats 1600000 in
theorem i_goodMsg (t : Int) (b : ByteArray) (w : World) :
    Calls Try.prog 23 #[.agg #[.int .i64 t, .string b]] w fun e w' => e = .returned (.bool (gmB t b)) ∧ Below w.heap.size w w' := by
  by_cases h4 : t = 4
  · subst h4
    go_enter Try.func23, Try.ntmps23
    go_wp2_with fail
    go_ret
    refine ⟨ret_bool ?_, below_box (Below.refl _ _)⟩
    rw [toList_nil]
    by_cases h : b.size = 0
    · rw [decide_eq_true h, gm_yes (by omega) (by omega) (by omega) (fun _ => h)]
    · rw [decide_eq_false h, gm_no (fun k => h (k.2.2.2 rfl))]
  · have k4 : (t == 4) = false := by simpa using h4
    by_cases h1 : 1 ≤ t ∧ t ≤ 4
    · have s1 := hide (fun w => i_isType t w)
      rw [decide_eq_true h1] at s1
      go_enter Try.func23, Try.ntmps23
      go_wp2_with (go_at_call 75; refine (s1.out _).mono ?_; rintro e w' ⟨rfl, rfl⟩)
      go_ret
      refine ⟨ret_bool ?_, below_box (Below.refl _ _)⟩
      by_cases h : b.size ≤ 60
      · rw [gm_yes h1.1 h1.2 h (fun k => absurd k h4)]
        exact decide_eq_true (by omega)
      · rw [gm_no (fun k => h k.2.2.1)]
        exact decide_eq_false (by omega)
    · have s1 := hide (fun w => i_isType t w)
      rw [decide_eq_false h1] at s1
      go_enter Try.func23, Try.ntmps23
      go_wp2_with (go_at_call 75; refine (s1.out _).mono ?_; rintro e w' ⟨rfl, rfl⟩)
      go_ret
      refine ⟨ret_bool ?_, below_box (Below.refl _ _)⟩
      rw [gm_no (fun k => h1 ⟨k.1, k.2.1⟩)]
set_option maxRecDepth 100000 in
set_option maxHeartbeats 1600000 in
theorem i_msgBytes (t : Int) (b : ByteArray) (w : World) :
    Calls Try.prog 25 #[.agg #[.int .i64 t, .string b]] w fun e w' => e = .returned (.tuple #[.string (if gmB t b then mby t b else ByteArray.empty), .bool (gmB t b)]) ∧ Below w.heap.size w w' := by
  have s1 := hide (fun w => i_goodMsg t b w)
  cases hg : gmB t b with
  | true =>
    obtain ⟨h1, h2, h3, _⟩ := of_decide_eq_true hg
    rw [hg] at s1
    clear hg
    have e1 : IntKind.u8.wrap (5 + (b.size : Int)) = 5 + (b.size : Int) := by rw [u8_wrap]; omega
    have e2 : IntKind.u8.wrap t = t := by rw [u8_wrap]; omega
    have hcat := fun (w : World) => run_string_add_sum (P := Try.prog) w (strOfNums [255, 255, 5 + (b.size : Int), 0, t]) b (by rw [strOfNums_size]; simp; omega)
    go_enter Try.func25, Try.ntmps25
    go_wp2_with fail
    refine (s1.out _).mono ?_
    rintro e w1 ⟨rfl, b1⟩
    obtain ⟨hc, _⟩ := bcell b1
    have M1 : (w1.alloc (.cells #[.int .u8 255, .int .u8 255, .int .u8 (5 + (b.size : Int)), .int .u8 0, .int .u8 t] 99)).cell? ⟨w.heap.size, 1, none⟩ = some (.string b) := by
      rw [(below_box (Below.refl _ _) : Below w1.heap.size w1 (w1.alloc _)).cell (p := ⟨w.heap.size, 1, none⟩) (by have := b1.size; simp at this; exact this)]
      rw [hc _ _ (by simp)]
      simp [go_sem]
    have hcv := fun n => run_convert_bytes_arg (P := Try.prog) ((w1.alloc (.cells #[.int .u8 255, .int .u8 255, .int .u8 (5 + (b.size : Int)), .int .u8 0, .int .u8 t] 99)).drewN n) 72 5 Try.underlying72 Try.underlying5 w1.heap.size 0 5 5 [255, 255, 5 + (b.size : Int), 0, t] rfl (fun i hi => by
      rcases (show i = 0 ∨ i = 1 ∨ i = 2 ∨ i = 3 ∨ i = 4 by omega) with rfl | rfl | rfl | rfl | rfl <;> simp [go_sem]) 9 Try.underlying9
    go_wp2_with fail
    go_quiet (fail)
    go_wp2_with fail
    exact bodyPost_ret (v := .tuple #[.string (mby t b), .bool true]) (by simp [results, Try.results25, go_sem]; rfl) rfl ⟨by simp, (below_drewN (below_step (below_box b1) (below_box (Below.refl _ _))) _)⟩
  | false =>
    rw [hg] at s1
    clear hg
    go_enter Try.func25, Try.ntmps25
    go_wp2_with fail
    refine (s1.out _).mono ?_
    rintro e w1 ⟨rfl, b1⟩
    go_wp2_with fail
    exact bodyPost_ret (v := .tuple #[.string ByteArray.empty, .bool false]) (by simp [results, Try.results25, go_sem] <;> rfl) rfl ⟨by simp, below_box b1⟩
end Go.Proofs.Ytoeephmdklmpfaa
