/- Faults: what the program's faultAt, faultOf, beginsWhole and mayBecomeMsg answer. -/
import Derived.Test.YtoeephmdklmpfaaI5
import Derived.Laws.DeepStrings4
namespace Go.Proofs.Ytoeephmdklmpfaa
open Go.RowKit

set_option maxRecDepth 100000 in
set_option maxHeartbeats 1600000 in
theorem i_faultAt (s : ByteArray) (k : Nat) (w : World) (hk : k < s.size) (h5 : k < 5) (hf : flN s k = 0) :
    Calls Try.prog 146 #[.string s, .int .i64 k] w fun e w' => e = .returned (.int .i64 (flA s k)) ∧ w' = w := by
  have hb := bt_at hk
  have hb0 := (bt_bd s k).1
  have hb1 := (bt_bd s k).2
  rw [hb] at hb0 hb1
  rcases (show k = 0 ∨ k = 1 ∨ k = 2 ∨ k = 3 ∨ k = 4 by omega) with rfl | rfl | rfl | rfl | rfl
  · unfold flA
    rw [if_pos (by omega), hb]
    clear hb hf
    by_cases hx : (s[0].toNat : Int) = 255
    · rw [if_pos hx]
      go_enter Try.func146, Try.ntmps146
      go_wp2_with fail
      go_ret
      exact ⟨rfl, rfl⟩
    · rw [if_neg hx]
      have hx2 : ((s[0].toNat : Int) != 255) = true := by simpa using hx
      go_enter Try.func146, Try.ntmps146
      go_wp2_with fail
      go_ret
      exact ⟨rfl, rfl⟩
  · unfold flA
    rw [if_pos (by omega), hb]
    clear hb hf
    by_cases hx : (s[1].toNat : Int) = 255
    · rw [if_pos hx]
      go_enter Try.func146, Try.ntmps146
      go_wp2_with fail
      go_ret
      exact ⟨rfl, rfl⟩
    · rw [if_neg hx]
      have hx2 : ((s[1].toNat : Int) != 255) = true := by simpa using hx
      go_enter Try.func146, Try.ntmps146
      go_wp2_with fail
      go_ret
      exact ⟨rfl, rfl⟩
  · unfold flA
    rw [if_neg (by omega), if_pos rfl, hb]
    clear hb hf
    by_cases hx : (5 : Int) ≤ (s[2].toNat : Int) ∧ (s[2].toNat : Int) ≤ 65
    · rw [if_pos hx]
      obtain ⟨x0, x1⟩ := hx
      have y0 : ¬ ((s[2].toNat : Int) < 5) := by omega
      have y1 : ¬ ((s[2].toNat : Int) > 65) := by omega
      go_enter Try.func146, Try.ntmps146
      go_wp2_with fail
      go_ret
      exact ⟨rfl, rfl⟩
    · rw [if_neg hx]
      by_cases y0 : (s[2].toNat : Int) < 5
      · clear hx
        go_enter Try.func146, Try.ntmps146
        go_wp2_with fail
        go_ret
        exact ⟨rfl, rfl⟩
      · have y1 : (s[2].toNat : Int) > 65 := by omega
        clear hx
        go_enter Try.func146, Try.ntmps146
        go_wp2_with fail
        go_ret
        exact ⟨rfl, rfl⟩
  · unfold flA
    rw [if_neg (by omega), if_neg (by omega), if_pos rfl, hb]
    clear hb hf
    by_cases hx : (s[3].toNat : Int) = 0
    · rw [if_pos hx]
      go_enter Try.func146, Try.ntmps146
      go_wp2_with fail
      go_ret
      exact ⟨rfl, rfl⟩
    · rw [if_neg hx]
      have hx2 : ((s[3].toNat : Int) != 0) = true := by simpa using hx
      go_enter Try.func146, Try.ntmps146
      go_wp2_with fail
      go_ret
      exact ⟨rfl, rfl⟩
  · obtain ⟨z0, z1⟩ := fl2 hf (by omega)
    have hb2 := bt_at (s := s) (i := 2) (by omega)
    unfold flA
    rw [if_neg (by omega), if_neg (by omega), if_neg (by omega), hb]
    rw [hb2] at z0 z1 ⊢
    clear hb hf hb2
    have s1 := hide (fun w => i_isType (s[4].toNat : Int) w)
    by_cases hx : (1 : Int) ≤ (s[4].toNat : Int) ∧ (s[4].toNat : Int) ≤ 4
    · rw [if_neg (by simpa using hx)]
      rw [decide_eq_true hx] at s1
      obtain ⟨x0, x1⟩ := hx
      by_cases h4 : (s[4].toNat : Int) = 4
      · rw [h4] at s1
        by_cases h2 : (s[2].toNat : Int) = 5
        · rw [if_neg (by omega)]
          go_enter Try.func146, Try.ntmps146
          go_wp2_with (go_at_call 75; refine (s1.out _).mono ?_; rintro e w' ⟨rfl, rfl⟩)
          go_ret
          exact ⟨rfl, rfl⟩
        · rw [if_pos ⟨h4, h2⟩]
          have h2' : (s[2].toNat : Int) > 5 := by omega
          go_enter Try.func146, Try.ntmps146
          go_wp2_with (go_at_call 75; refine (s1.out _).mono ?_; rintro e w' ⟨rfl, rfl⟩)
          go_ret
          exact ⟨rfl, rfl⟩
      · rw [if_neg (fun h => h4 h.1)]
        have h4' : ((s[4].toNat : Int) == 4) = false := by simpa using h4
        go_enter Try.func146, Try.ntmps146
        go_wp2_with (go_at_call 75; refine (s1.out _).mono ?_; rintro e w' ⟨rfl, rfl⟩)
        go_ret
        exact ⟨rfl, rfl⟩
    · rw [if_pos hx]
      rw [decide_eq_false hx] at s1
      clear hx
      go_enter Try.func146, Try.ntmps146
      go_wp2_with (go_at_call 75; refine (s1.out _).mono ?_; rintro e w' ⟨rfl, rfl⟩)
      go_ret
      exact ⟨rfl, rfl⟩
set_option maxRecDepth 100000 in
set_option maxHeartbeats 1600000 in
theorem i_faultOf (s : ByteArray) (w : World) (hs : s.size ≤ 2097152) :
    Calls Try.prog 116 #[.string s] w fun e w' => e = .returned (.int .i64 (flt s)) ∧ w' = w := by
  by_cases h : 5 < s.size
  · have hM : min s.size 5 = 5 := by omega
    have hI : (5 : Int) < (s.size : Int) := by omega
    go_enter Try.func116, Try.ntmps116
    go_wp2_with fail
    go_loop [8] (fun i => ∃ k : Nat, k ≤ 5 ∧ i = .int .i64 k ∧ flN s k = 0) (fun i => 5 - (intOf i).toNat)
    case atStart => exact ⟨0, Nat.zero_le _, rfl, rfl⟩
    case round =>
      obtain ⟨k, hk, rfl, hf⟩ := hrel
      by_cases hlt : k < 5
      · have hlt' : (k : Int) < (5 : Int) := by omega
        have F1 := hide (fun w => i_faultAt s k w (by omega) (by omega) hf)
        by_cases hz : flA s k = 0
        · rw [hz] at F1
          have hn := hide (show flN s (k + 1) = 0 by rw [flN_next hf]; exact hz)
          have hk5 : k < 5 := by omega
          clear hz hf hM
          go_wp2_with fail
          refine (F1.out _).mono ?_
          rintro e w' ⟨rfl, rfl⟩
          go_wp2_with fail
          exact ⟨⟨k + 1, by omega, by go_num, hn.out⟩, by simp [intOf]; omega⟩
        · have hm := hide (flt_met hf (by omega) (by omega) hz)
          have hz' : (flA s k != 0) = true := by simpa using hz
          clear hf hM
          generalize flA s k = c at *
          go_wp2_with fail
          refine (F1.out _).mono ?_
          rintro e w' ⟨rfl, rfl⟩
          go_wp2_with fail
          go_ret
          exact ⟨ret_int hm.out.symm, rfl⟩
      · have hk' : k = 5 := by omega
        have hn : ¬ ((k : Int) < (5 : Int)) := by omega
        have hm := hide (show flt s = 0 by unfold flt; rw [hM, ← hk']; exact hf)
        clear hk' hf hM
        go_wp2_with fail
        go_ret
        exact ⟨ret_int hm.out.symm, rfl⟩
  · have hM : min s.size 5 = s.size := by omega
    have hI : (s.size : Int) ≤ 5 := by omega
    go_enter Try.func116, Try.ntmps116
    go_wp2_with fail
    go_loop [8] (fun i => ∃ k : Nat, k ≤ s.size ∧ i = .int .i64 k ∧ flN s k = 0) (fun i => 5 - (intOf i).toNat)
    case atStart => exact ⟨0, Nat.zero_le _, rfl, rfl⟩
    case round =>
      obtain ⟨k, hk, rfl, hf⟩ := hrel
      by_cases hlt : k < s.size
      · have hlt' : (k : Int) < (s.size : Int) := by omega
        have F1 := hide (fun w => i_faultAt s k w (by omega) (by omega) hf)
        by_cases hz : flA s k = 0
        · rw [hz] at F1
          have hn := hide (show flN s (k + 1) = 0 by rw [flN_next hf]; exact hz)
          have hk5 : k < 5 := by omega
          clear hz hf hM
          go_wp2_with fail
          refine (F1.out _).mono ?_
          rintro e w' ⟨rfl, rfl⟩
          go_wp2_with fail
          exact ⟨⟨k + 1, by omega, by go_num, hn.out⟩, by simp [intOf]; omega⟩
        · have hm := hide (flt_met hf (by omega) (by omega) hz)
          have hz' : (flA s k != 0) = true := by simpa using hz
          clear hf hM
          generalize flA s k = c at *
          go_wp2_with fail
          refine (F1.out _).mono ?_
          rintro e w' ⟨rfl, rfl⟩
          go_wp2_with fail
          go_ret
          exact ⟨ret_int hm.out.symm, rfl⟩
      · have hk' : k = s.size := by omega
        have hn : ¬ ((k : Int) < (s.size : Int)) := by omega
        have hm := hide (show flt s = 0 by unfold flt; rw [hM, ← hk']; exact hf)
        clear hk' hf hM
        go_wp2_with fail
        go_ret
        exact ⟨ret_int hm.out.symm, rfl⟩
set_option maxRecDepth 100000 in
set_option maxHeartbeats 800000 in
theorem i_whole (s : ByteArray) (w : World) :
    Calls Try.prog 117 #[.string s] w fun e w' => e = .returned (.bool (whB s)) ∧ w' = w := by
  by_cases h : 5 ≤ s.size
  · have hb2 := bt_at (s := s) (i := 2) (by omega)
    have hb0 := (bt_bd s 2).1
    have hb1 := (bt_bd s 2).2
    rw [hb2] at hb0 hb1
    have h' : (s.size : Int) ≥ 5 := by omega
    have e : whB s = decide ((s[2].toNat : Int) ≤ (s.size : Int)) := by
      unfold whB
      rw [hb2]
      by_cases q : (s[2].toNat : Int) ≤ (s.size : Int)
      · rw [decide_eq_true q, decide_eq_true ⟨h, q⟩]
      · rw [decide_eq_false q, decide_eq_false (fun k => q k.2)]
    rw [e]
    clear e hb2
    go_enter Try.func117, Try.ntmps117
    go_wp2_with fail
    go_ret
    exact ⟨ret_bool (by simp), rfl⟩
  · have e : whB s = false := decide_eq_false (fun k => h k.1)
    rw [e]
    have h' : ¬ ((s.size : Int) ≥ 5) := by omega
    clear e
    go_enter Try.func117, Try.ntmps117
    go_wp2_with fail
    go_ret
    exact ⟨rfl, rfl⟩
set_option maxRecDepth 100000 in
set_option maxHeartbeats 800000 in
theorem i_may (s : ByteArray) (w : World) (hs : s.size ≤ 2097152) :
    Calls Try.prog 83 #[.string s] w fun e w' => e = .returned (.bool (decide (flt s = 0) && !whB s)) ∧ w' = w := by
  have F1 := hide (fun w => i_faultOf s w hs)
  have W1 := hide (fun w => i_whole s w)
  clear hs
  by_cases h : flt s = 0
  · rw [h] at F1 ⊢
    clear h
    generalize whB s = r at *
    go_enter Try.func83, Try.ntmps83
    go_wp2_with (first | (go_at_call 116; refine (F1.out _).mono ?_; rintro e w' ⟨rfl, rfl⟩) | (go_at_call 117; refine (W1.out _).mono ?_; rintro e w' ⟨rfl, rfl⟩))
    go_ret
    exact ⟨ret_bool (by simp), rfl⟩
  · have h2 : (flt s == 0) = false := by simpa using h
    rw [decide_eq_false h, Bool.false_and]
    clear h
    generalize flt s = c at *
    go_enter Try.func83, Try.ntmps83
    go_wp2_with (first | (go_at_call 116; refine (F1.out _).mono ?_; rintro e w' ⟨rfl, rfl⟩) | (go_at_call 117; refine (W1.out _).mono ?_; rintro e w' ⟨rfl, rfl⟩))
    go_ret
    exact ⟨rfl, rfl⟩
end Go.Proofs.Ytoeephmdklmpfaa
