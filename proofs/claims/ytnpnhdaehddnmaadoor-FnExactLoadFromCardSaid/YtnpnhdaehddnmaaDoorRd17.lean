/- l17Read of the specification. -/
import Derived.Test.YtnpnhdaehddnmaaDoorSs17
import Derived.Test.YtnpnhdaehddnmaaDoorPlain17l
namespace Go.Proofs.YtnpnhdaehddnmaaDoor
open Go.RowKit

theorem bits_or17 (n x : Int) (h0 : 0 ≤ n) (h1 : n < 16777216) (x0 : 0 ≤ x) (x1 : x < 256) : bits .or .i64 (n * 256) x = n * 256 + x := by
  obtain ⟨a, rfl⟩ := Int.eq_ofNat_of_zero_le h0
  obtain ⟨b, rfl⟩ := Int.eq_ofNat_of_zero_le x0
  have ha : a < 16777216 := by omega
  have hb : b < 256 := by omega
  have e : ((a : Int) * 256) = ((256 * a : Nat) : Int) := by omega
  rw [e]
  have k1 : (BitVec.ofInt 64 ((256 * a : Nat) : Int)).toNat = 256 * a := by
    rw [BitVec.ofInt_natCast, BitVec.toNat_ofNat]; exact Nat.mod_eq_of_lt (by omega)
  have k2 : (BitVec.ofInt 64 (b : Int)).toNat = b := by
    rw [BitVec.ofInt_natCast, BitVec.toNat_ofNat]; exact Nat.mod_eq_of_lt (by omega)
  show IntKind.i64.wrap ((BitVec.ofInt 64 ((256 * a : Nat) : Int) ||| BitVec.ofInt 64 (b : Int)).toNat : Int) = _
  rw [BitVec.toNat_or, k1, k2]
  have k3 : 256 * a ||| b = 256 * a + b := (Nat.two_pow_add_eq_or_of_lt (i := 8) (by omega) a).symm
  rw [k3, wrapk_in _ (by omega)]
  omega
set_option maxRecDepth 100000 in
set_option maxHeartbeats 1600000 in
theorem s_l17ReadU (s : ByteArray) (w : World) (hs : s.size ≤ 1048577) (hU : UsOk s) (h4 : s.size = 4) :
    Calls Tryd.prog 44 #[.string s] w fun e w' => e = .returned (.tuple #[.int .i64 (rdN s), .int .i64 (rdL s), .bool (decide (rdN s ≤ 999 ∧ rdL s ≤ 72))]) ∧ Below w.heap.size w w' := by
  have US := hide (fun w => s_unseal s w hs)
  have e1 : usA s = (preB s, true) := if_pos hU
  rw [e1] at US
  have b0 := by17_bd (preB s) 0
  have b1 := by17_bd (preB s) 1
  have b2 := by17_bd (preB s) 2
  have hz : (preB s).size = 3 := by rw [preB_size]; omega
  unfold rdN rdL
  generalize preB s = t at *
  have h0 : 0 < t.size := by omega
  have h1 : 1 < t.size := by omega
  have h2 : 2 < t.size := by omega
  have y0 := (by17_at h0).symm
  have y1 := (by17_at h1).symm
  have y2 := (by17_at h2).symm
  generalize by17 t 0 = x0 at *
  generalize by17 t 1 = x1 at *
  generalize by17 t 2 = x2 at *
  have hor := bits_or17 x0 x1 b0.1 (by omega) b1.1 b1.2
  obtain ⟨b0a, b0b⟩ := b0
  obtain ⟨b1a, b1b⟩ := b1
  obtain ⟨b2a, b2b⟩ := b2
  clear e1 hU h4
  have R : ∀ b : Bool, Hid (decide (x0 * 256 + x1 ≤ 999 ∧ x2 ≤ 72) = b) → Hid (decide (x0 * 256 + x1 ≤ 999 ∧ x2 ≤ 72) = b) := fun _ h => h
  obtain ⟨r, hr⟩ : ∃ r, Hid (decide (x0 * 256 + x1 ≤ 999 ∧ x2 ≤ 72) = r) := ⟨_, hide rfl⟩
  rw [hr.out]
  clear R
  by_cases hN : x0 * 256 + x1 < 1000
  · by_cases hL : x2 ≤ 72
    · obtain rfl : r = true := by rw [← hr.out]; exact decide_eq_true ⟨by omega, hL⟩
      clear hr
      go_enter Tryd.func44, Tryd.ntmps44
      go_wp2_with fail
      refine (US.out _).mono ?_
      rintro e w1 ⟨rfl, bw⟩
      go_wp2_with fail
      go_region
      all_goals
        go_wp2_with fail
        go_region
      all_goals
        go_wp2_with fail
        exact bodyPost_ret (v := .tuple #[.int .i64 (x0 * 256 + x1), .int .i64 x2, .bool true]) (by simp [results, Tryd.results44, go_sem]) rfl ⟨rfl, by first | exact bw | exact bw.drew | exact bw.drew.drew⟩
    · obtain rfl : r = false := by rw [← hr.out]; exact decide_eq_false (fun h => hL h.2)
      clear hr
      go_enter Tryd.func44, Tryd.ntmps44
      go_wp2_with fail
      refine (US.out _).mono ?_
      rintro e w1 ⟨rfl, bw⟩
      go_wp2_with fail
      go_region
      all_goals
        go_wp2_with fail
        go_region
      all_goals
        go_wp2_with fail
        exact bodyPost_ret (v := .tuple #[.int .i64 (x0 * 256 + x1), .int .i64 x2, .bool false]) (by simp [results, Tryd.results44, go_sem] <;> omega) rfl ⟨rfl, by first | exact bw | exact bw.drew | exact bw.drew.drew⟩
  · obtain rfl : r = false := by rw [← hr.out]; exact decide_eq_false (fun h => hN (by omega))
    have hN2 : decide (x0 * 256 + x1 < 1000) = false := decide_eq_false hN
    clear hr
    go_enter Tryd.func44, Tryd.ntmps44
    go_wp2_with fail
    refine (US.out _).mono ?_
    rintro e w1 ⟨rfl, bw⟩
    go_wp2_with fail
    go_region
    all_goals
      go_wp2_with fail
      go_region
    all_goals
      go_wp2_with fail
      exact bodyPost_ret (v := .tuple #[.int .i64 (x0 * 256 + x1), .int .i64 x2, .bool false]) (by simp [results, Tryd.results44, go_sem] <;> omega) rfl ⟨rfl, by first | exact bw | exact bw.drew | exact bw.drew.drew⟩
set_option maxRecDepth 100000 in
set_option maxHeartbeats 1600000 in
theorem s_l17ReadN (s : ByteArray) (w : World) (hs : s.size ≤ 1048577) (hU : ¬ (UsOk s ∧ s.size = 4)) :
    Calls Tryd.prog 44 #[.string s] w fun e w' => e = .returned (.tuple #[.int .i64 0, .int .i64 0, .bool false]) ∧ Below w.heap.size w w' := by
  have US := hide (fun w => s_unseal s w hs)
  by_cases hY : UsOk s
  · have e1 : usA s = (preB s, true) := if_pos hY
    rw [e1] at US
    have hz : (preB s).size ≠ 3 := by
      rw [preB_size]
      have := hY.1
      intro h
      exact hU ⟨hY, by omega⟩
    generalize preB s = t at *
    have hz2 : ((t.size : Int) != 3) = true := by simp; omega
    clear e1 hU hY hz
    go_enter Tryd.func44, Tryd.ntmps44
    go_wp2_with fail
    refine (US.out _).mono ?_
    rintro e w1 ⟨rfl, bw⟩
    go_wp2_with fail
    exact bodyPost_ret (v := .tuple #[.int .i64 0, .int .i64 0, .bool false]) (by simp [results, Tryd.results44, go_sem]) rfl ⟨rfl, bw⟩
  · have e1 : usA s = (⟨#[]⟩, false) := if_neg hY
    rw [e1] at US
    clear e1 hU hY
    go_enter Tryd.func44, Tryd.ntmps44
    go_wp2_with fail
    refine (US.out _).mono ?_
    rintro e w1 ⟨rfl, bw⟩
    go_wp2_with fail
    exact bodyPost_ret (v := .tuple #[.int .i64 0, .int .i64 0, .bool false]) (by simp [results, Tryd.results44, go_sem]) rfl ⟨rfl, bw⟩
theorem s_l17Read (s : ByteArray) (w : World) (hs : s.size ≤ 1048577) :
    Calls Tryd.prog 44 #[.string s] w fun e w' => e = .returned (.tuple #[.int .i64 (rdA s).1, .int .i64 (rdA s).2, .bool (decide (RdOk s))]) ∧ Below w.heap.size w w' := by
  by_cases h : UsOk s ∧ s.size = 4
  · have e1 : rdA s = (rdN s, rdL s) := if_pos h
    rw [e1]
    have e2 : decide (RdOk s) = decide (rdN s ≤ 999 ∧ rdL s ≤ 72) := decide_eq_decide.2 ⟨fun q => q.2.2, fun q => ⟨h.1, h.2, q⟩⟩
    rw [e2]
    exact s_l17ReadU s w hs h.1 h.2
  · have e1 : rdA s = (0, 0) := if_neg h
    rw [e1, decide_eq_false (fun q : RdOk s => h ⟨q.1, q.2.1⟩)]
    exact s_l17ReadN s w hs h
end Go.Proofs.YtnpnhdaehddnmaaDoor
