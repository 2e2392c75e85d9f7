/- What the specification's functions of chapter 1 answer: order, parents, halves, siblings. -/
import Derived.Test.YtofalilkephkpaaS1
namespace Go.Proofs.Ytofalilkephkpaa
open Go.RowKit

set_option maxRecDepth 100000 in
set_option maxHeartbeats 800000 in
theorem s_compare1 (a l b m : Int) (w : World) :
    Calls Try.prog 104 #[.agg #[.int .i64 a, .int .i64 l], .agg #[.int .i64 b, .int .i64 m]] w fun e w' =>
      e = .returned (.int .i64 (cmpP a l b m)) ∧ Below w.heap.size w w' := by
  have he := eqPrefix_run
  have hgu := eqPrefix_guard
  have hend := fun (o o' : Obj) => below_box2 (Below.refl ((w.alloc o).alloc o').heap.size ((w.alloc o).alloc o'))
  by_cases h1 : a < b
  · have e1 : cmpP a l b m = -1 := by unfold cmpP cmpI; rw [if_pos (by omega), if_pos h1]
    rw [e1]
    have d1 : decide (a < b) = true := by simpa using h1
    clear e1
    go_enter Try.func104, Try.ntmps104
    go_wp2_with fail
    go_ret
    exact ⟨rfl, hend _ _⟩
  · by_cases h2 : a = b
    · subst h2
      have d1 : decide (a < a) = false := by simp
      have d2 : (a == a) = true := by simp
      by_cases h3 : l < m
      · have e1 : cmpP a l a m = -1 := by unfold cmpP cmpI; rw [if_neg (by omega), if_pos h3]
        rw [e1]
        have d3 : decide (l < m) = true := by simpa using h3
        clear e1 h1
        go_enter Try.func104, Try.ntmps104
        go_wp2_with fail
        go_ret
        exact ⟨rfl, hend _ _⟩
      · have d3 : decide (l < m) = false := by simpa using h3
        by_cases h4 : l = m
        · subst h4
          have e1 : cmpP a l a l = 0 := by unfold cmpP cmpI; rw [if_neg (by omega), if_neg h3, if_neg h3]
          rw [e1]
          clear e1 h1
          go_enter Try.func104, Try.ntmps104
          go_wp2_with fail
          go_ret
          exact ⟨rfl, hend _ _⟩
        · have e1 : cmpP a l a m = 1 := by unfold cmpP cmpI; rw [if_neg (by omega), if_neg h3, if_pos (by omega)]
          rw [e1]
          have d4 : (l == m) = false := by simpa using h4
          clear e1 h1
          go_enter Try.func104, Try.ntmps104
          go_wp2_with fail
          go_ret
          exact ⟨rfl, hend _ _⟩
    · have e1 : cmpP a l b m = 1 := by unfold cmpP cmpI; rw [if_pos h2, if_neg h1, if_pos (by omega)]
      rw [e1]
      have d1 : decide (a < b) = false := by simpa using h1
      have d2 : (a == b) = false := by simpa using h2
      clear e1
      go_enter Try.func104, Try.ntmps104
      go_wp2_with fail
      go_ret
      exact ⟨rfl, hend _ _⟩

set_option maxRecDepth 100000 in
set_option maxHeartbeats 800000 in
theorem s_parent1 (a l : Int) (w : World) (hl0 : 1 ≤ l) (hl1 : l ≤ 32) (ha0 : 0 ≤ a) (ha1 : a ≤ 4294967295) :
    Calls Try.prog 177 #[.agg #[.int .i64 a, .int .i64 l]] w fun e w' =>
      e = .returned (.agg #[.int .i64 (a - a % pw (l - 1)), .int .i64 (l - 1)]) ∧ Below w.heap.size w w' := by
  rw [pw_pred l hl0 hl1]
  have p1 := pw_pos l
  have p2 := pw_le l (by omega)
  have p3 : 0 ≤ a % (2 * pw l) := Int.emod_nonneg _ (by omega)
  have p4 : a % (2 * pw l) < 2 * pw l := Int.emod_lt_of_pos _ (by omega)
  have p5 : ¬ 2 * pw l = 0 := by omega
  have p6 : a.tmod (2 * pw l) = a % (2 * pw l) := Int.tmod_eq_emod_of_nonneg ha0
  have p7 : IntKind.i64.wrap (a - a % (2 * pw l)) = a - a % (2 * pw l) := wrapk_in _ (by omega)
  have p8 : IntKind.i64.wrap (l - 1) = l - 1 := wrapk_in _ (by omega)
  go_enter Try.func177, Try.ntmps177
  go_wp2_with fail
  refine (s_size _ _ _ (by omega) (by omega)).mono ?_
  rintro e w1 ⟨rfl, hb1⟩
  obtain ⟨hc, hf⟩ := bcell hb1
  have c0 : w1.cell? ⟨w.heap.size, 0, none⟩ = some (.int .i64 a) := by rw [hc _ _ (by simp; omega)]; simp [go_sem]
  have c1 : w1.cell? ⟨w.heap.size, 1, none⟩ = some (.int .i64 l) := by rw [hc _ _ (by simp; omega)]; simp [go_sem]
  have d0 : w1.cell? ⟨w.heap.size + 1, 0, none⟩ = some (.int .i64 0) := by rw [hc _ _ (by simp)]; simp [go_sem]
  have d1 : w1.cell? ⟨w.heap.size + 1, 1, none⟩ = some (.int .i64 0) := by rw [hc _ _ (by simp)]; simp [go_sem]
  go_wp2_with fail
  go_region_held (fun w' => w'.cell? ⟨w.heap.size, 0, none⟩ = some (.int .i64 a) ∧ w'.cell? ⟨w.heap.size, 1, none⟩ = some (.int .i64 l)) (go_keep) (fail)
  all_goals
    go_wp2_with fail
    exact bodyPost_ret (v := .agg #[.int .i64 (a - a % (2 * pw l)), .int .i64 (l - 1)]) (by simp [results, Try.results177, go_sem, d0, d1]) rfl ⟨rfl, (((below_box2 hb1).setCell (by simp) _).setCell (by simp) _).drew⟩

set_option maxRecDepth 100000 in
set_option maxHeartbeats 800000 in
theorem s_halves1 (a l : Int) (w : World) (hl0 : 0 ≤ l) (hl1 : l < 32) (ha0 : 0 ≤ a) (ha1 : a ≤ 4294967295) :
    Calls Try.prog 169 #[.agg #[.int .i64 a, .int .i64 l]] w fun e w' =>
      e = .returned (.tuple #[.agg #[.int .i64 a, .int .i64 (l + 1)], .agg #[.int .i64 (a + pw (l + 1)), .int .i64 (l + 1)]]) ∧ Below w.heap.size w w' := by
  have p1 := pw_pos (l + 1)
  have p2 := pw_le (l + 1) (by omega)
  have p7 : IntKind.i64.wrap (a + pw (l + 1)) = a + pw (l + 1) := wrapk_in _ (by omega)
  have p8 : IntKind.i64.wrap (l + 1) = l + 1 := wrapk_in _ (by omega)
  have s1 := hide (fun w => s_size a (l + 1) w (by omega) (by omega))
  go_enter Try.func169, Try.ntmps169
  go_wp2_with fail
  go_region_held (fun w' => w'.cell? ⟨w.heap.size, 0, none⟩ = some (.int .i64 a) ∧ w'.cell? ⟨w.heap.size, 1, none⟩ = some (.int .i64 l) ∧ w'.cell? ⟨w.heap.size + 1 + 1 + 1, 0, none⟩ = some (.int .i64 a) ∧ w'.cell? ⟨w.heap.size + 1 + 1 + 1, 1, none⟩ = some (.int .i64 (l + 1))) (first | (simp [go_sem]; done) | (simp [hc, go_sem]; done) | (go_keep; done)) ((go_at_call 95; refine (s1.out _).mono ?_; rintro e w' ⟨rfl, hb0⟩; obtain ⟨hc, hf⟩ := bcell hb0))
  all_goals
    go_wp2_with fail
    exact bodyPost_ret (v := .tuple #[.agg #[.int .i64 a, .int .i64 (l + 1)], .agg #[.int .i64 (a + pw (l + 1)), .int .i64 (l + 1)]]) (by simp [results, Try.results169, go_sem, hc]) rfl ⟨rfl, ((((below_box4 (below_drew0 hb0)).setCell (by simp) _).setCell (by simp) _).setCell (by simp; omega) _).setCell (by simp; omega) _⟩

set_option maxRecDepth 100000 in
set_option maxHeartbeats 800000 in
theorem s_halves_yes (a l : Int) (w : World) (hg : goodB a l = true) (h0 : l < 32) :
    Calls Try.prog 88 #[.agg #[.int .i64 a, .int .i64 l]] w fun e w' =>
      e = .returned (.tuple #[.agg #[.int .i64 a, .int .i64 (l + 1)], .agg #[.int .i64 (a + pw (l + 1)), .int .i64 (l + 1)], .bool true]) ∧ Below w.heap.size w w' := by
  have s1 := hide (fun w => s_good a l w)
  obtain ⟨hl, ha, _⟩ := goodB_iff.1 hg
  rw [hg] at s1
  have s2 := hide (fun w => s_halves1 a l w hl.1 h0 ha.1 ha.2)
  generalize a + pw (l + 1) = r at s2 ⊢
  have z0 : (l == 32) = false := by rw [beq_eq_false_iff_ne]; omega
  clear hg ha
  go_enter Try.func88, Try.ntmps88
  go_wp2_with fail
  refine (s1.out _).mono ?_
  rintro e w1 ⟨rfl, hb1⟩
  obtain ⟨hc, hf⟩ := bcell hb1
  go_wp2_with fail
  refine (s2.out _).mono ?_
  rintro e w2 ⟨rfl, hb2⟩
  have hb := below_step hb1 hb2
  clear hb1 hb2 hc hf
  obtain ⟨hc, hf⟩ := bcell hb
  have hz : w.heap.size + 3 ≤ w2.heap.size := by have := hb.size; simp at this; omega
  have n0 : ¬ w.heap.size = w2.heap.size := by omega
  have n1 : ¬ w.heap.size + 1 = w2.heap.size := by omega
  have n2 : ¬ w.heap.size + 1 + 1 = w2.heap.size := by omega
  obtain ⟨q1, q1'⟩ := old2 (show w.heap.size + 1 < w2.heap.size by omega)
  obtain ⟨q2, q2'⟩ := old2 (show w.heap.size + 1 + 1 < w2.heap.size by omega)
  clear hz
  go_wp2_with fail
  go_region_held (fun w' => w'.cell? ⟨w2.heap.size, 0, none⟩ = some (.int .i64 a) ∧ w'.cell? ⟨w2.heap.size, 1, none⟩ = some (.int .i64 (l + 1)) ∧ w'.cell? ⟨w2.heap.size + 1, 0, none⟩ = some (.int .i64 r) ∧ w'.cell? ⟨w2.heap.size + 1, 1, none⟩ = some (.int .i64 (l + 1))) (first | (simp [go_sem]; done) | (go_keep; done)) (fail)
  all_goals
    go_wp2_with fail
    refine bodyPost_ret (v := .tuple #[.agg #[.int .i64 a, .int .i64 (l + 1)], .agg #[.int .i64 r, .int .i64 (l + 1)], .bool true]) (by simp [results, Try.results88, go_sem, hc, q1, q2]) rfl ⟨rfl, ?_⟩
    have hw := below_box3 hb
    exact ((((((hw.alloc hw.size _).alloc (by have := hw.size; simp; omega) _).setCell (by simp) _).setCell (by simp) _).setCell (by simp; omega) _).setCell (by simp; omega) _).drew

set_option maxRecDepth 100000 in
set_option maxHeartbeats 800000 in
theorem s_halves_no (a l : Int) (w : World) (hg : goodB a l = false ∨ l = 32) :
    Calls Try.prog 88 #[.agg #[.int .i64 a, .int .i64 l]] w fun e w' =>
      e = .returned (.tuple #[.agg #[.int .i64 0, .int .i64 0], .agg #[.int .i64 0, .int .i64 0], .bool false]) ∧ Below w.heap.size w w' := by
  have s1 := hide (fun w => s_good a l w)
  by_cases hh : goodB a l = true
  · have z0 : (l == 32) = true := by rw [beq_iff_eq]; rcases hg with h | h; simp [hh] at h; exact h
    rw [hh] at s1
    clear hg hh
    go_enter Try.func88, Try.ntmps88
    go_wp2_with fail
    refine (s1.out _).mono ?_
    rintro e w1 ⟨rfl, hb⟩
    obtain ⟨hc, hf⟩ := bcell hb
    go_wp2_with fail
    exact bodyPost_ret (v := .tuple #[.agg #[.int .i64 0, .int .i64 0], .agg #[.int .i64 0, .int .i64 0], .bool false]) (by simp [results, Try.results88, go_sem, hc]) rfl ⟨rfl, (((((below_box3 hb).setCell (by simp) _).setCell (by simp) _).setCell (by simp; omega) _).setCell (by simp; omega) _)⟩
  · have hg' : goodB a l = false := by simpa using hh
    rw [hg'] at s1
    clear hg hh hg'
    go_enter Try.func88, Try.ntmps88
    go_wp2_with fail
    refine (s1.out _).mono ?_
    rintro e w1 ⟨rfl, hb⟩
    obtain ⟨hc, hf⟩ := bcell hb
    go_wp2_with fail
    exact bodyPost_ret (v := .tuple #[.agg #[.int .i64 0, .int .i64 0], .agg #[.int .i64 0, .int .i64 0], .bool false]) (by simp [results, Try.results88, go_sem, hc]) rfl ⟨rfl, (((((below_box3 hb).setCell (by simp) _).setCell (by simp) _).setCell (by simp; omega) _).setCell (by simp; omega) _)⟩

theorem sib_len (l : Int) : l - 1 + 1 = l := by omega

set_option maxRecDepth 100000 in
set_option maxHeartbeats 800000 in
theorem s_sibling1 (a l : Int) (w : World) (hl0 : 1 ≤ l) (hl1 : l ≤ 32) (ha0 : 0 ≤ a) (ha1 : a ≤ 4294967295) :
    Calls Try.prog 103 #[.agg #[.int .i64 a, .int .i64 l]] w fun e w' =>
      e = .returned (.agg #[.int .i64 (sibA a l), .int .i64 l]) ∧ Below w.heap.size w w' := by
  have p1 := pw_pos (l - 1)
  have p3 : 0 ≤ a % pw (l - 1) := Int.emod_nonneg _ (by omega)
  have p4 : a % pw (l - 1) ≤ a := by
    have := Int.mul_ediv_add_emod a (pw (l - 1))
    have h5 : 0 ≤ pw (l - 1) * (a / pw (l - 1)) := Int.mul_nonneg (by omega) (Int.ediv_nonneg ha0 (by omega))
    omega
  have s1 := hide (fun w => s_parent1 a l w hl0 hl1 ha0 ha1)
  have s2 := hide (fun w => s_halves1 (a - a % pw (l - 1)) (l - 1) w (by omega) (by omega) (by omega) (by omega))
  rw [sib_len] at s2
  have he := eqPrefix_run
  have hgu := eqPrefix_guard
  have e1 : sibA a l = if a - a % pw (l - 1) = a then a - a % pw (l - 1) + pw l else a - a % pw (l - 1) := rfl
  rw [e1]
  clear e1 p3 p4
  generalize a - a % pw (l - 1) = r at s1 s2 ⊢
  by_cases h : r = a
  · subst h
    rw [if_pos rfl]
    generalize r + pw l = r' at s2 ⊢
    go_enter Try.func103, Try.ntmps103
    go_wp2_with fail
    refine (s1.out _).mono ?_
    rintro e w1 ⟨rfl, hb1⟩
    go_wp2_with fail
    refine (s2.out _).mono ?_
    rintro e w2 ⟨rfl, hb2⟩
    have hb := below_step hb1 hb2
    clear hb1 hb2
    obtain ⟨hc, hf⟩ := bcell hb
    have hz : w.heap.size + 2 ≤ w2.heap.size := by have := hb.size; simp at this; omega
    have n0 : ¬ w.heap.size = w2.heap.size := by omega
    have n1 : ¬ w.heap.size + 1 = w2.heap.size := by omega
    obtain ⟨q0, q0'⟩ := old2 (show w.heap.size < w2.heap.size by omega)
    obtain ⟨q1, q1'⟩ := old2 (show w.heap.size + 1 < w2.heap.size by omega)
    go_wp2_with fail
    refine bodyPost_ret (v := .agg #[.int .i64 r', .int .i64 l]) (by simp [results, Try.results103, go_sem, hc, q1]) rfl ⟨rfl, ?_⟩
    have hw := below_box2 hb
    exact (((hw.alloc hw.size _).alloc (by have := hw.size; simp; omega) _).setCell (by simp) _).setCell (by simp) _
  · rw [if_neg h]
    have z0 : (r == a) = false := by rw [beq_eq_false_iff_ne]; exact h
    generalize r + pw l = r' at s2
    clear h
    go_enter Try.func103, Try.ntmps103
    go_wp2_with fail
    refine (s1.out _).mono ?_
    rintro e w1 ⟨rfl, hb1⟩
    go_wp2_with fail
    refine (s2.out _).mono ?_
    rintro e w2 ⟨rfl, hb2⟩
    have hb := below_step hb1 hb2
    clear hb1 hb2
    obtain ⟨hc, hf⟩ := bcell hb
    have hz : w.heap.size + 2 ≤ w2.heap.size := by have := hb.size; simp at this; omega
    have n0 : ¬ w.heap.size = w2.heap.size := by omega
    have n1 : ¬ w.heap.size + 1 = w2.heap.size := by omega
    obtain ⟨q0, q0'⟩ := old2 (show w.heap.size < w2.heap.size by omega)
    obtain ⟨q1, q1'⟩ := old2 (show w.heap.size + 1 < w2.heap.size by omega)
    go_wp2_with fail
    refine bodyPost_ret (v := .agg #[.int .i64 r, .int .i64 l]) (by simp [results, Try.results103, go_sem, hc, q1]) rfl ⟨rfl, ?_⟩
    have hw := below_box2 hb
    exact (((hw.alloc hw.size _).alloc (by have := hw.size; simp; omega) _).setCell (by simp) _).setCell (by simp) _

end Go.Proofs.Ytofalilkephkpaa
