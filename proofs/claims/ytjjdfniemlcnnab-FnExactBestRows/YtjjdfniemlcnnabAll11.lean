/- What the program's functions of chapter 2 answer: values, order, tables. -/
import Derived.Test.YtjjdfniemlcnnabAll1
import Derived.Test.YtjjdfniemlcnnabAll10
/- What the program's functions of chapter 1 answer: sizes, goodness. -/
namespace Go.Proofs.Ytjjdfniemlcnnab
open Go.RowKit

set_option maxHeartbeats 400000 in
theorem i_sizeOf (l : Int) (w : World) (h0 : 0 ≤ l) (h1 : l ≤ 32) :
    Calls Try.prog 75 #[.int .i64 l] w fun e w' => e = .returned (.int .i64 (pw l)) ∧ w' = w := by
  go_enter Try.func75, Try.ntmps75
  go_wp2
  go_ret
  exact ⟨ret_int (pw_wrap l h0), rfl⟩

set_option maxHeartbeats 400000 in
theorem i_isAddr (n : Int) (w : World) :
    Calls Try.prog 65 #[.int .i64 n] w fun e w' => e = .returned (.bool (inB n 0 4294967295)) ∧ w' = w := by
  by_cases h1 : 0 ≤ n
  · by_cases h2 : n ≤ 4294967295
    · rw [inB_t h1 h2]
      go_enter Try.func65, Try.ntmps65
      go_wp2
      go_ret
      exact ⟨rfl, rfl⟩
    · rw [inB_f2 h2]
      go_enter Try.func65, Try.ntmps65
      go_wp2
      go_ret
      exact ⟨rfl, rfl⟩
  · rw [inB_f1 h1]
    go_enter Try.func65, Try.ntmps65
    go_wp2
    go_ret
    exact ⟨rfl, rfl⟩

set_option maxHeartbeats 400000 in
theorem i_around (a l : Int) (w : World) (h0 : 0 ≤ l) (h1 : l ≤ 32) (h2 : 0 ≤ a) (h3 : a ≤ 4294967295) :
    Calls Try.prog 66 #[.int .i64 a, .int .i64 l] w fun e w' => e = .returned (.agg #[.int .i64 (a - a % pw l), .int .i64 l]) ∧ Below w.heap.size w w' := by
  have p1 := pw_pos l
  have p2 := pw_le l h0
  have p3 : 0 ≤ a % pw l := Int.emod_nonneg _ (by omega)
  have p4 : a % pw l < pw l := Int.emod_lt_of_pos _ (by omega)
  go_enter Try.func66, Try.ntmps66
  go_wp2_with (go_at_call 75; refine (i_sizeOf _ _ (by omega) (by omega)).mono ?_; rintro e w' ⟨rfl, rfl⟩)
  exact bodyPost_ret (v := .agg #[.int .i64 (a - a % pw l), .int .i64 l]) (by simp [results, Try.results66, go_sem]) rfl ⟨rfl, (Below.refl _ _).alloc (Nat.le_refl _) _⟩

set_option maxRecDepth 100000 in
set_option maxHeartbeats 800000 in
theorem i_good_in (a l : Int) (w : World) (hl0 : 0 ≤ l) (hl1 : l ≤ 32) (ha0 : 0 ≤ a) (ha1 : a ≤ 4294967295) :
    Calls Try.prog 55 #[.agg #[.int .i64 a, .int .i64 l]] w fun e w' => e = .returned (.bool (a % pw l == 0)) ∧ Below w.heap.size w w' := by
  have i2 := inB_t ha0 ha1
  have t1 : decide (l < 0) = false := by simp; omega
  have t2 : decide (32 < l) = false := by simp; omega
  have he := eqPrefix_run
  have hg := eqPrefix_guard
  go_enter Try.func55, Try.ntmps55
  go_wp2_with (go_at_call 65; refine (i_isAddr _ _).mono ?_; rintro e w' ⟨rfl, rfl⟩)
  go_region_with (go_at_call 66; refine (i_around _ _ _ hl0 hl1 ha0 ha1).mono ?_; rintro e w' ⟨rfl, hb⟩; obtain ⟨hc, hf⟩ := bcell hb)
  all_goals
    go_wp2
    go_ret
    exact ⟨ret_bool (sub_is a (a % pw l)), ((Below.refl _ _).alloc (Nat.le_refl _) _).drew.trans (hb.mono (by simp))⟩

set_option maxRecDepth 100000 in
set_option maxHeartbeats 800000 in
theorem i_good_a (a l : Int) (w : World) (hl0 : 0 ≤ l) (hl1 : l ≤ 32) (ha : ¬ (0 ≤ a ∧ a ≤ 4294967295)) :
    Calls Try.prog 55 #[.agg #[.int .i64 a, .int .i64 l]] w fun e w' => e = .returned (.bool false) ∧ Below w.heap.size w w' := by
  have i2 : inB a 0 4294967295 = false := inB_n ha
  have t1 : decide (l < 0) = false := by simp; omega
  have t2 : decide (32 < l) = false := by simp; omega
  clear ha
  go_enter Try.func55, Try.ntmps55
  go_wp2_with (go_at_call 65; refine (i_isAddr _ _).mono ?_; rintro e w' ⟨rfl, rfl⟩)
  go_ret
  exact ⟨rfl, (Below.refl _ _).alloc (Nat.le_refl _) _⟩

set_option maxRecDepth 100000 in
set_option maxHeartbeats 800000 in
theorem i_good_l (a l : Int) (w : World) (hl : ¬ (0 ≤ l ∧ l ≤ 32)) :
    Calls Try.prog 55 #[.agg #[.int .i64 a, .int .i64 l]] w fun e w' => e = .returned (.bool false) ∧ Below w.heap.size w w' := by
  by_cases t0 : l < 0
  · go_enter Try.func55, Try.ntmps55
    go_wp2_with fail
    go_ret
    exact ⟨rfl, (Below.refl _ _).alloc (Nat.le_refl _) _⟩
  · have t3 : 32 < l := by omega
    clear hl
    go_enter Try.func55, Try.ntmps55
    go_wp2_with fail
    go_ret
    exact ⟨rfl, (Below.refl _ _).alloc (Nat.le_refl _) _⟩

theorem i_good (a l : Int) (w : World) :
    Calls Try.prog 55 #[.agg #[.int .i64 a, .int .i64 l]] w fun e w' => e = .returned (.bool (goodB a l)) ∧ Below w.heap.size w w' := by
  by_cases hl : 0 ≤ l ∧ l ≤ 32
  · by_cases ha : 0 ≤ a ∧ a ≤ 4294967295
    · rw [goodB_in hl.1 hl.2 ha.1 ha.2]
      exact i_good_in a l w hl.1 hl.2 ha.1 ha.2
    · rw [goodB_a ha]
      exact i_good_a a l w hl.1 hl.2 ha
  · rw [goodB_l hl]
    exact i_good_l a l w hl

end Go.Proofs.Ytjjdfniemlcnnab

/- What the program's functions of chapter 1 answer: order, parents, halves, siblings. -/
namespace Go.Proofs.Ytjjdfniemlcnnab
open Go.RowKit

theorem c_isNaN (x : Int) (w : World) :
    Calls Try.prog 88 #[.int .i64 x] w fun e w' => e = .returned (.bool false) ∧ w' = w := by
  go_enter Try.func88, Try.ntmps88
  go_wp2
  go_ret
  exact ⟨ret_bool (by simp), rfl⟩

set_option maxHeartbeats 800000 in
theorem c_compare (x y : Int) (w : World) :
    Calls Try.prog 79 #[.int .i64 x, .int .i64 y] w fun e w' => e = .returned (.int .i64 (cmpI x y)) ∧ w' = w := by
  by_cases h1 : x < y
  · have e1 : cmpI x y = -1 := by unfold cmpI; rw [if_pos h1]
    rw [e1]
    clear e1
    go_enter Try.func79, Try.ntmps79
    go_wp2_with (go_at_call 88; refine (c_isNaN _ _).mono ?_; rintro e w' ⟨rfl, rfl⟩)
    go_ret
    exact ⟨rfl, rfl⟩
  · by_cases h2 : y < x
    · have e1 : cmpI x y = 1 := by unfold cmpI; rw [if_neg h1, if_pos h2]
      rw [e1]
      clear e1
      go_enter Try.func79, Try.ntmps79
      go_wp2_with (go_at_call 88; refine (c_isNaN _ _).mono ?_; rintro e w' ⟨rfl, rfl⟩)
      go_ret
      exact ⟨rfl, rfl⟩
    · have e1 : cmpI x y = 0 := by unfold cmpI; rw [if_neg h1, if_neg h2]
      rw [e1]
      clear e1
      go_enter Try.func79, Try.ntmps79
      go_wp2_with (go_at_call 88; refine (c_isNaN _ _).mono ?_; rintro e w' ⟨rfl, rfl⟩)
      go_ret
      exact ⟨rfl, rfl⟩

set_option maxHeartbeats 800000 in
theorem i_compare (a l b m : Int) (w : World) :
    Calls Try.prog 69 #[.agg #[.int .i64 a, .int .i64 l], .agg #[.int .i64 b, .int .i64 m]] w fun e w' =>
      e = .returned (.tuple #[.int .i64 (if goodB a l && goodB b m then cmpP a l b m else 0), .bool (goodB a l && goodB b m)]) ∧ Below w.heap.size w w' := by
  have s1 := hide (fun w => i_good a l w)
  have s2 := hide (fun w => i_good b m w)
  generalize goodB a l = g1 at s1 ⊢
  generalize goodB b m = g2 at s2 ⊢
  cases g1
  · go_enter Try.func69, Try.ntmps69
    go_wp2_with fail
    refine (s1.out _).mono ?_
    rintro e w1 ⟨rfl, hb1⟩
    go_wp2_with fail
    go_ret2
    exact ⟨rfl, below_box2 hb1⟩
  · cases g2
    · go_enter Try.func69, Try.ntmps69
      go_wp2_with fail
      refine (s1.out _).mono ?_
      rintro e w1 ⟨rfl, hb1⟩
      obtain ⟨hc, hf⟩ := bcell hb1
      go_wp2_with fail
      clear hc hf
      refine (s2.out _).mono ?_
      rintro e w2 ⟨rfl, hb2⟩
      go_wp2_with fail
      go_ret2
      exact ⟨rfl, below_box2 (below_step hb1 hb2)⟩
    · by_cases h : a = b
      · have e1 : (if (true && true) = true then cmpP a l b m else 0) = cmpI l m := by simp [cmpP, h]
        rw [e1]
        have z0 : (a != b) = false := by simp [h]
        clear e1 h
        have s3 := hide (fun w => c_compare l m w)
        generalize cmpI l m = r at s3 ⊢
        go_enter Try.func69, Try.ntmps69
        go_wp2_with fail
        refine (s1.out _).mono ?_
        rintro e w1 ⟨rfl, hb1⟩
        obtain ⟨hc, hf⟩ := bcell hb1
        go_wp2_with fail
        clear hc hf
        refine (s2.out _).mono ?_
        rintro e w2 ⟨rfl, hb2⟩
        have hb := below_step hb1 hb2
        clear hb1 hb2
        obtain ⟨hc, hf⟩ := bcell hb
        go_wp2_with fail
        refine (s3.out _).mono ?_
        rintro e w3 ⟨rfl, rfl⟩
        go_wp2_with fail
        go_ret2
        exact ⟨rfl, below_box2 hb⟩
      · have e1 : (if (true && true) = true then cmpP a l b m else 0) = cmpI a b := by simp [cmpP, h]
        rw [e1]
        have z0 : (a != b) = true := by simp [h]
        clear e1 h
        have s3 := hide (fun w => c_compare a b w)
        generalize cmpI a b = r at s3 ⊢
        go_enter Try.func69, Try.ntmps69
        go_wp2_with fail
        refine (s1.out _).mono ?_
        rintro e w1 ⟨rfl, hb1⟩
        obtain ⟨hc, hf⟩ := bcell hb1
        go_wp2_with fail
        clear hc hf
        refine (s2.out _).mono ?_
        rintro e w2 ⟨rfl, hb2⟩
        have hb := below_step hb1 hb2
        clear hb1 hb2
        obtain ⟨hc, hf⟩ := bcell hb
        go_wp2_with fail
        refine (s3.out _).mono ?_
        rintro e w3 ⟨rfl, rfl⟩
        go_wp2_with fail
        go_ret2
        exact ⟨rfl, below_box2 hb⟩

end Go.Proofs.Ytjjdfniemlcnnab

namespace Go.Proofs.Ytjjdfniemlcnnab
open Go.RowKit

set_option maxHeartbeats 400000 in
theorem i_value (n : Int) (w : World) :
    Calls Try.prog 76 #[.int .i64 n] w fun e w' => e = .returned (.bool (inB n 0 1000000)) ∧ w' = w := by
  by_cases h1 : 0 ≤ n
  · by_cases h2 : n ≤ 1000000
    · rw [inB_t h1 h2]
      go_enter Try.func76, Try.ntmps76
      go_wp2
      go_ret
      exact ⟨rfl, rfl⟩
    · rw [inB_f2 h2]
      go_enter Try.func76, Try.ntmps76
      go_wp2
      go_ret
      exact ⟨rfl, rfl⟩
  · rw [inB_f1 h1]
    go_enter Try.func76, Try.ntmps76
    go_wp2
    go_ret
    exact ⟨rfl, rfl⟩

set_option maxHeartbeats 800000 in
theorem i_before (a l b m : Int) (w : World) (hg1 : goodB a l = true) (hg2 : goodB b m = true) :
    Calls Try.prog 57 #[.agg #[.int .i64 a, .int .i64 l], .agg #[.int .i64 b, .int .i64 m]] w fun e w' =>
      e = .returned (.bool (decide (cmpP a l b m < 0))) ∧ Below w.heap.size w w' := by
  have s1 := hide (fun w => i_compare a l b m w)
  rw [hg1, hg2] at s1
  simp only [Bool.and_self, if_true] at s1
  clear hg1 hg2
  generalize cmpP a l b m = r at s1 ⊢
  go_enter Try.func57, Try.ntmps57
  go_wp2_with fail
  refine (s1.out _).mono ?_
  rintro e w1 ⟨rfl, hb1⟩
  go_wp2_with fail
  go_ret
  exact ⟨rfl, below_box2 hb1⟩

theorem all_good {f0 f1 f2 : Nat → Int} {m : Nat} (h : (List.range (m + 1)).all (entOk f0 f1 f2) = true) : goodB (f0 m) (f1 m) = true := by
  rw [List.all_eq_true] at h
  have h1 := h m (List.mem_range.2 (by omega))
  unfold entOk at h1
  rw [Bool.and_eq_true, Bool.and_eq_true] at h1
  exact h1.1.1
theorem tabB_over {f0 f1 f2 : Nat → Int} {n : Nat} (h : ¬ n ≤ 30) : tabB f0 f1 f2 n = false := by
  unfold tabB
  rw [show decide (n ≤ 30) = false by simpa using h, Bool.and_false]
theorem tabB_all {f0 f1 f2 : Nat → Int} {n : Nat} (h : n ≤ 30) (ha : (List.range n).all (entOk f0 f1 f2) = true) : tabB f0 f1 f2 n = true := by
  unfold tabB
  rw [show decide (n ≤ 30) = true by simpa using h, ha]; rfl
end Go.Proofs.Ytjjdfniemlcnnab
