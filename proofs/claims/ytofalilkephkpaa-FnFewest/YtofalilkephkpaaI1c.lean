/- What the program's functions of chapter 1 answer: order, parents, halves, siblings. -/
import Derived.Test.YtofalilkephkpaaI1
namespace Go.Proofs.Ytofalilkephkpaa
open Go.RowKit

theorem c_isNaN (x : Int) (w : World) :
    Calls Try.prog 220 #[.int .i64 x] w fun e w' => e = .returned (.bool false) ∧ w' = w := by
  go_enter Try.func220, Try.ntmps220
  go_wp2
  go_ret
  exact ⟨ret_bool (by simp), rfl⟩

set_option maxHeartbeats 800000 in
theorem c_compare (x y : Int) (w : World) :
    Calls Try.prog 206 #[.int .i64 x, .int .i64 y] w fun e w' => e = .returned (.int .i64 (cmpI x y)) ∧ w' = w := by
  by_cases h1 : x < y
  · have e1 : cmpI x y = -1 := by unfold cmpI; rw [if_pos h1]
    rw [e1]
    clear e1
    go_enter Try.func206, Try.ntmps206
    go_wp2_with (go_at_call 220; refine (c_isNaN _ _).mono ?_; rintro e w' ⟨rfl, rfl⟩)
    go_ret
    exact ⟨rfl, rfl⟩
  · by_cases h2 : y < x
    · have e1 : cmpI x y = 1 := by unfold cmpI; rw [if_neg h1, if_pos h2]
      rw [e1]
      clear e1
      go_enter Try.func206, Try.ntmps206
      go_wp2_with (go_at_call 220; refine (c_isNaN _ _).mono ?_; rintro e w' ⟨rfl, rfl⟩)
      go_ret
      exact ⟨rfl, rfl⟩
    · have e1 : cmpI x y = 0 := by unfold cmpI; rw [if_neg h1, if_neg h2]
      rw [e1]
      clear e1
      go_enter Try.func206, Try.ntmps206
      go_wp2_with (go_at_call 220; refine (c_isNaN _ _).mono ?_; rintro e w' ⟨rfl, rfl⟩)
      go_ret
      exact ⟨rfl, rfl⟩

set_option maxHeartbeats 800000 in
theorem i_compare (a l b m : Int) (w : World) :
    Calls Try.prog 183 #[.agg #[.int .i64 a, .int .i64 l], .agg #[.int .i64 b, .int .i64 m]] w fun e w' =>
      e = .returned (.tuple #[.int .i64 (if goodB a l && goodB b m then cmpP a l b m else 0), .bool (goodB a l && goodB b m)]) ∧ Below w.heap.size w w' := by
  have s1 := hide (fun w => i_good a l w)
  have s2 := hide (fun w => i_good b m w)
  generalize goodB a l = g1 at s1 ⊢
  generalize goodB b m = g2 at s2 ⊢
  cases g1
  · go_enter Try.func183, Try.ntmps183
    go_wp2_with fail
    refine (s1.out _).mono ?_
    rintro e w1 ⟨rfl, hb1⟩
    go_wp2_with fail
    go_ret2
    exact ⟨rfl, below_box2 hb1⟩
  · cases g2
    · go_enter Try.func183, Try.ntmps183
      go_wp2_with fail
      refine (s1.out _).mono ?_
      rintro e w1 ⟨rfl, hb1⟩
      obtain ⟨hc, hf⟩ := bcell hb1
      go_wp2_with fail
      clear hc hf
      refine (s2.out _).mono ?_
      rintro e w2 ⟨rfl, hb2⟩
      go_wp2_with fail
      go_ret2
      exact ⟨rfl, below_box2 (below_step hb1 hb2)⟩
    · by_cases h : a = b
      · have e1 : (if (true && true) = true then cmpP a l b m else 0) = cmpI l m := by simp [cmpP, h]
        rw [e1]
        have z0 : (a != b) = false := by simp [h]
        clear e1 h
        have s3 := hide (fun w => c_compare l m w)
        generalize cmpI l m = r at s3 ⊢
        go_enter Try.func183, Try.ntmps183
        go_wp2_with fail
        refine (s1.out _).mono ?_
        rintro e w1 ⟨rfl, hb1⟩
        obtain ⟨hc, hf⟩ := bcell hb1
        go_wp2_with fail
        clear hc hf
        refine (s2.out _).mono ?_
        rintro e w2 ⟨rfl, hb2⟩
        have hb := below_step hb1 hb2
        clear hb1 hb2
        obtain ⟨hc, hf⟩ := bcell hb
        go_wp2_with fail
        refine (s3.out _).mono ?_
        rintro e w3 ⟨rfl, rfl⟩
        go_wp2_with fail
        go_ret2
        exact ⟨rfl, below_box2 hb⟩
      · have e1 : (if (true && true) = true then cmpP a l b m else 0) = cmpI a b := by simp [cmpP, h]
        rw [e1]
        have z0 : (a != b) = true := by simp [h]
        clear e1 h
        have s3 := hide (fun w => c_compare a b w)
        generalize cmpI a b = r at s3 ⊢
        go_enter Try.func183, Try.ntmps183
        go_wp2_with fail
        refine (s1.out _).mono ?_
        rintro e w1 ⟨rfl, hb1⟩
        obtain ⟨hc, hf⟩ := bcell hb1
        go_wp2_with fail
        clear hc hf
        refine (s2.out _).mono ?_
        rintro e w2 ⟨rfl, hb2⟩
        have hb := below_step hb1 hb2
        clear hb1 hb2
        obtain ⟨hc, hf⟩ := bcell hb
        go_wp2_with fail
        refine (s3.out _).mono ?_
        rintro e w3 ⟨rfl, rfl⟩
        go_wp2_with fail
        go_ret2
        exact ⟨rfl, below_box2 hb⟩

set_option maxRecDepth 100000 in
set_option maxHeartbeats 800000 in
theorem i_parent_yes (a l : Int) (w : World) (hg : goodB a l = true) (h0 : 1 ≤ l) :
    Calls Try.prog 219 #[.agg #[.int .i64 a, .int .i64 l]] w fun e w' =>
      e = .returned (.tuple #[.agg #[.int .i64 (a - a % pw (l - 1)), .int .i64 (l - 1)], .bool true]) ∧ Below w.heap.size w w' := by
  have s1 := hide (fun w => i_good a l w)
  obtain ⟨hl, ha, _⟩ := goodB_iff.1 hg
  rw [hg] at s1
  have s2 := hide (fun w => i_around a (l - 1) w (by omega) (by omega) ha.1 ha.2)
  generalize a - a % pw (l - 1) = r at s2 ⊢
  have z0 : (l == 0) = false := by rw [beq_eq_false_iff_ne]; omega
  clear hg ha
  go_enter Try.func219, Try.ntmps219
  go_wp2_with fail
  refine (s1.out _).mono ?_
  rintro e w1 ⟨rfl, hb1⟩
  obtain ⟨hc, hf⟩ := bcell hb1
  go_wp2_with fail
  refine (s2.out _).mono ?_
  rintro e w2 ⟨rfl, hb2⟩
  have hb := below_step hb1 hb2
  clear hb1 hb2 hc hf
  obtain ⟨hc, hf⟩ := bcell hb
  obtain ⟨_, _, d0, d1, _⟩ := box2_of hb
  go_wp2_with fail
  exact bodyPost_ret (v := .tuple #[.agg #[.int .i64 r, .int .i64 (l - 1)], .bool true]) (by simp [results, Try.results219, go_sem, d0, d1]) rfl ⟨rfl, (((below_box2 hb).setCell (by simp) _).setCell (by simp) _)⟩

set_option maxRecDepth 100000 in
set_option maxHeartbeats 800000 in
theorem i_parent_no (a l : Int) (w : World) (hg : goodB a l = false ∨ l = 0) :
    Calls Try.prog 219 #[.agg #[.int .i64 a, .int .i64 l]] w fun e w' =>
      e = .returned (.tuple #[.agg #[.int .i64 0, .int .i64 0], .bool false]) ∧ Below w.heap.size w w' := by
  have s1 := hide (fun w => i_good a l w)
  by_cases hh : goodB a l = true
  · have z0 : (l == 0) = true := by rw [beq_iff_eq]; rcases hg with h | h; simp [hh] at h; exact h
    rw [hh] at s1
    clear hg hh
    go_enter Try.func219, Try.ntmps219
    go_wp2_with fail
    refine (s1.out _).mono ?_
    rintro e w1 ⟨rfl, hb⟩
    obtain ⟨hc, hf⟩ := bcell hb
    obtain ⟨_, _, d0, d1, _⟩ := box2_of hb
    go_wp2_with fail
    exact bodyPost_ret (v := .tuple #[.agg #[.int .i64 0, .int .i64 0], .bool false]) (by simp [results, Try.results219, go_sem, d0, d1]) rfl ⟨rfl, (((below_box2 hb).setCell (by simp) _).setCell (by simp) _)⟩
  · have hg' : goodB a l = false := by simpa using hh
    rw [hg'] at s1
    clear hg hh hg'
    go_enter Try.func219, Try.ntmps219
    go_wp2_with fail
    refine (s1.out _).mono ?_
    rintro e w1 ⟨rfl, hb⟩
    obtain ⟨hc, hf⟩ := bcell hb
    obtain ⟨_, _, d0, d1, _⟩ := box2_of hb
    go_wp2_with fail
    exact bodyPost_ret (v := .tuple #[.agg #[.int .i64 0, .int .i64 0], .bool false]) (by simp [results, Try.results219, go_sem, d0, d1]) rfl ⟨rfl, (((below_box2 hb).setCell (by simp) _).setCell (by simp) _)⟩

set_option maxRecDepth 100000 in
set_option maxHeartbeats 800000 in
theorem i_halves_yes (a l : Int) (w : World) (hg : goodB a l = true) (h0 : l < 32) :
    Calls Try.prog 184 #[.agg #[.int .i64 a, .int .i64 l]] w fun e w' =>
      e = .returned (.tuple #[.agg #[.int .i64 a, .int .i64 (l + 1)], .agg #[.int .i64 (a + pw (l + 1)), .int .i64 (l + 1)], .bool true]) ∧ Below w.heap.size w w' := by
  have s1 := hide (fun w => i_good a l w)
  obtain ⟨hl, ha, _⟩ := goodB_iff.1 hg
  rw [hg] at s1
  have p1 := pw_pos (l + 1)
  have p2 := pw_le (l + 1) (by omega)
  have p7 : IntKind.i64.wrap (a + pw (l + 1)) = a + pw (l + 1) := wrapk_in _ (by omega)
  have s2 := hide (fun w => i_sizeOf (l + 1) w (by omega) (by omega))
  have z0 : (l == 32) = false := by rw [beq_eq_false_iff_ne]; omega
  clear hg
  go_enter Try.func184, Try.ntmps184
  go_wp2_with fail
  refine (s1.out _).mono ?_
  rintro e w1 ⟨rfl, hb⟩
  obtain ⟨hc, hf⟩ := bcell hb
  have hz : w.heap.size + 3 ≤ w1.heap.size := by have := hb.size; simp at this; omega
  have n0 : ¬ w.heap.size = w1.heap.size := by omega
  have n1 : ¬ w.heap.size + 1 = w1.heap.size := by omega
  have n2 : ¬ w.heap.size + 1 + 1 = w1.heap.size := by omega
  have z1 : w.heap.size < w1.heap.size := by omega
  obtain ⟨q0, q0'⟩ := old2 (show w.heap.size < w1.heap.size by omega)
  obtain ⟨q1, q1'⟩ := old2 (show w.heap.size + 1 < w1.heap.size by omega)
  obtain ⟨q2, q2'⟩ := old2 (show w.heap.size + 1 + 1 < w1.heap.size by omega)
  clear hz
  go_wp2_with fail
  go_region_held (fun w' => w'.cell? ⟨w.heap.size, 0, none⟩ = some (.int .i64 a)) (first | (simp [go_sem, z1, hc]; done) | (simp [go_sem, q0, hc]; done) | (go_keep; done)) ((go_at_call 94; refine (s2.out _).mono ?_; rintro e w' ⟨rfl, rfl⟩))
  all_goals
    clear z1 q0 q0'
    go_wp2_with fail
    go_region_held (fun w' => w'.cell? ⟨w1.heap.size, 0, none⟩ = some (.int .i64 a) ∧ w'.cell? ⟨w1.heap.size, 1, none⟩ = some (.int .i64 (l + 1)) ∧ w'.cell? ⟨w1.heap.size + 1, 0, none⟩ = some (.int .i64 (a + pw (l + 1))) ∧ w'.cell? ⟨w1.heap.size + 1, 1, none⟩ = some (.int .i64 (l + 1))) (first | (simp [go_sem]; done) | (go_keep; done)) (fail)
    all_goals
      go_wp2_with fail
      refine bodyPost_ret (v := .tuple #[.agg #[.int .i64 a, .int .i64 (l + 1)], .agg #[.int .i64 (a + pw (l + 1)), .int .i64 (l + 1)], .bool true]) (by simp [results, Try.results184, go_sem, hc, q1, q2]) rfl ⟨rfl, ?_⟩
      have hw := below_box3 hb
      exact ((((((hw.alloc hw.size _).alloc (by have := hw.size; simp; omega) _).setCell (by simp) _).setCell (by simp) _).setCell (by simp; omega) _).setCell (by simp; omega) _).drew.drew

set_option maxRecDepth 100000 in
set_option maxHeartbeats 800000 in
theorem i_halves_no (a l : Int) (w : World) (hg : goodB a l = false ∨ l = 32) :
    Calls Try.prog 184 #[.agg #[.int .i64 a, .int .i64 l]] w fun e w' =>
      e = .returned (.tuple #[.agg #[.int .i64 0, .int .i64 0], .agg #[.int .i64 0, .int .i64 0], .bool false]) ∧ Below w.heap.size w w' := by
  have s1 := hide (fun w => i_good a l w)
  by_cases hh : goodB a l = true
  · have z0 : (l == 32) = true := by rw [beq_iff_eq]; rcases hg with h | h; simp [hh] at h; exact h
    rw [hh] at s1
    clear hg hh
    go_enter Try.func184, Try.ntmps184
    go_wp2_with fail
    refine (s1.out _).mono ?_
    rintro e w1 ⟨rfl, hb⟩
    obtain ⟨hc, hf⟩ := bcell hb
    go_wp2_with fail
    exact bodyPost_ret (v := .tuple #[.agg #[.int .i64 0, .int .i64 0], .agg #[.int .i64 0, .int .i64 0], .bool false]) (by simp [results, Try.results184, go_sem, hc]) rfl ⟨rfl, (((((below_box3 hb).setCell (by simp) _).setCell (by simp) _).setCell (by simp; omega) _).setCell (by simp; omega) _)⟩
  · have hg' : goodB a l = false := by simpa using hh
    rw [hg'] at s1
    clear hg hh hg'
    go_enter Try.func184, Try.ntmps184
    go_wp2_with fail
    refine (s1.out _).mono ?_
    rintro e w1 ⟨rfl, hb⟩
    obtain ⟨hc, hf⟩ := bcell hb
    go_wp2_with fail
    exact bodyPost_ret (v := .tuple #[.agg #[.int .i64 0, .int .i64 0], .agg #[.int .i64 0, .int .i64 0], .bool false]) (by simp [results, Try.results184, go_sem, hc]) rfl ⟨rfl, (((((below_box3 hb).setCell (by simp) _).setCell (by simp) _).setCell (by simp; omega) _).setCell (by simp; omega) _)⟩

end Go.Proofs.Ytofalilkephkpaa
