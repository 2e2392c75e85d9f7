/- What the specification's functions of chapter 1 answer: addresses, covers. -/
import Derived.Test.YtjmflkheaioboaaS1
namespace Go.Proofs.Ytjmflkheaioboaa
open Go.RowKit

set_option maxHeartbeats 800000 in
theorem s_hasAddr1 (a l x : Int) (w : World) (hl0 : 0 ≤ l) (hl1 : l ≤ 32) (hx0 : 0 ≤ x) (hx1 : x ≤ 4294967295) :
    Calls Try.prog 76 #[.agg #[.int .i64 a, .int .i64 l], .int .i64 x] w fun e w' => e = .returned (.bool (hasB a l x)) ∧ Below w.heap.size w w' := by
  have p1 := pw_pos l
  have p2 := pw_le l hl0
  have p3 : 0 ≤ x % pw l := Int.emod_nonneg _ (by omega)
  have p4 : x % pw l < pw l := Int.emod_lt_of_pos _ (by omega)
  have p5 : ¬ pw l = 0 := by omega
  have p6 : x.tmod (pw l) = x % pw l := Int.tmod_eq_emod_of_nonneg hx0
  have p7 : IntKind.i64.wrap (x - x % pw l) = x - x % pw l := wrapk_in _ (by omega)
  go_enter Try.func76, Try.ntmps76
  go_wp2_with fail
  go_region_with (go_at_call 74; refine (s_size _ _ _ hl0 hl1).mono ?_; rintro e w' ⟨rfl, hb⟩; obtain ⟨hc, hf⟩ := bcell hb)
  all_goals
    go_wp2
    go_ret
    exact ⟨rfl, ((Below.refl _ _).alloc (Nat.le_refl _) _).drew.trans (hb.mono (by simp))⟩

set_option maxHeartbeats 800000 in
theorem s_hasAddr (a l x : Int) (w : World) :
    Calls Try.prog 39 #[.agg #[.int .i64 a, .int .i64 l], .int .i64 x] w fun e w' =>
      e = .returned (.tuple #[.bool (goodB a l && inB x 0 4294967295 && hasB a l x), .bool (goodB a l && inB x 0 4294967295)]) ∧ Below w.heap.size w w' := by
  have s1 := hide (fun w => s_good a l w)
  have s2 := hide (fun w => s_addr x w)
  by_cases hg : goodB a l = true
  · by_cases hx : 0 ≤ x ∧ x ≤ 4294967295
    · have hx' := inB_t hx.1 hx.2
      obtain ⟨hl, ha, _⟩ := goodB_iff.1 hg
      rw [hg] at s1 ⊢
      rw [hx'] at s2 ⊢
      simp only [Bool.true_and]
      have s3 := hide (fun w => s_hasAddr1 a l x w hl.1 hl.2 hx.1 hx.2)
      clear hg hx hl ha hx'
      generalize hasB a l x = r at s3 ⊢
      go_enter Try.func39, Try.ntmps39
      go_wp2_with fail
      refine (s1.out _).mono ?_
      rintro e w1 ⟨rfl, hb1⟩
      go_wp2_with fail
      refine (s2.out _).mono ?_
      rintro e w2 ⟨rfl, rfl⟩
      obtain ⟨hc, hf⟩ := bcell hb1
      go_wp2_with fail
      refine (s3.out _).mono ?_
      rintro e w3 ⟨rfl, hb3⟩
      go_wp2_with fail
      go_ret2
      exact ⟨rfl, below_box (below_step hb1 hb3)⟩
    · have hx' := inB_n hx
      rw [hg] at s1 ⊢
      rw [hx'] at s2 ⊢
      clear hg hx hx'
      go_enter Try.func39, Try.ntmps39
      go_wp2_with fail
      refine (s1.out _).mono ?_
      rintro e w1 ⟨rfl, hb1⟩
      go_wp2_with fail
      refine (s2.out _).mono ?_
      rintro e w2 ⟨rfl, rfl⟩
      go_wp2_with fail
      go_ret2
      exact ⟨rfl, below_box hb1⟩
  · have hg' : goodB a l = false := by simpa using hg
    rw [hg'] at s1 ⊢
    clear hg hg'
    go_enter Try.func39, Try.ntmps39
    go_wp2_with fail
    refine (s1.out _).mono ?_
    rintro e w1 ⟨rfl, hb1⟩
    go_wp2_with fail
    go_ret2
    exact ⟨rfl, below_box hb1⟩

set_option maxHeartbeats 800000 in
theorem s_covers (a l b m : Int) (w : World) (hl0 : 0 ≤ l) (hl1 : l ≤ 32) (hb0 : 0 ≤ b) (hb1 : b ≤ 4294967295) :
    Calls Try.prog 75 #[.agg #[.int .i64 a, .int .i64 l], .agg #[.int .i64 b, .int .i64 m]] w fun e w' =>
      e = .returned (.bool (decide (l ≤ m) && hasB a l b)) ∧ Below w.heap.size w w' := by
  have s3 := hide (fun w => s_hasAddr1 a l b w hl0 hl1 hb0 hb1)
  clear hl0 hl1 hb0 hb1
  generalize hasB a l b = r at s3 ⊢
  by_cases h : l ≤ m
  · have ht : decide (l ≤ m) = true := by simpa using h
    rw [ht]
    go_enter Try.func75, Try.ntmps75
    go_wp2_with fail
    refine (s3.out _).mono ?_
    rintro e w3 ⟨rfl, hb3⟩
    go_wp2_with fail
    go_ret
    exact ⟨by simp, below_box2 hb3⟩
  · have ht : decide (l ≤ m) = false := by simpa using h
    rw [ht]
    go_enter Try.func75, Try.ntmps75
    go_wp2_with fail
    go_ret
    exact ⟨by simp, below_box2 (Below.refl _ _)⟩

set_option maxHeartbeats 800000 in
theorem s_prefixHas (a l b m : Int) (w : World) :
    Calls Try.prog 37 #[.agg #[.int .i64 a, .int .i64 l], .agg #[.int .i64 b, .int .i64 m]] w fun e w' =>
      e = .returned (.tuple #[.bool (goodB a l && goodB b m && (decide (l ≤ m) && hasB a l b)), .bool (goodB a l && goodB b m)]) ∧ Below w.heap.size w w' := by
  have s1 := hide (fun w => s_good a l w)
  have s2 := hide (fun w => s_good b m w)
  by_cases hg : goodB a l = true
  · by_cases hx : goodB b m = true
    · obtain ⟨hl, ha, _⟩ := goodB_iff.1 hg
      obtain ⟨hm, hb, _⟩ := goodB_iff.1 hx
      rw [hg] at s1 ⊢
      rw [hx] at s2 ⊢
      simp only [Bool.true_and]
      have s3 := hide (fun w => s_covers a l b m w hl.1 hl.2 hb.1 hb.2)
      clear hg hx hl ha hm hb
      generalize (decide (l ≤ m) && hasB a l b) = r at s3 ⊢
      go_enter Try.func37, Try.ntmps37
      go_wp2_with fail
      refine (s1.out _).mono ?_
      rintro e w1 ⟨rfl, hb1⟩
      obtain ⟨hc, hf⟩ := bcell hb1
      go_wp2_with fail
      clear hc hf
      refine (s2.out _).mono ?_
      rintro e w2 ⟨rfl, hb2⟩
      have hb := below_step hb1 hb2
      clear hb1 hb2
      obtain ⟨hc, hf⟩ := bcell hb
      go_wp2_with fail
      refine (s3.out _).mono ?_
      rintro e w3 ⟨rfl, hb3⟩
      go_wp2_with fail
      go_ret2
      exact ⟨rfl, below_box2 (below_step hb hb3)⟩
    · have hx' : goodB b m = false := by simpa using hx
      rw [hg] at s1 ⊢
      rw [hx'] at s2 ⊢
      clear hg hx hx'
      go_enter Try.func37, Try.ntmps37
      go_wp2_with fail
      refine (s1.out _).mono ?_
      rintro e w1 ⟨rfl, hb1⟩
      obtain ⟨hc, hf⟩ := bcell hb1
      go_wp2_with fail
      clear hc hf
      refine (s2.out _).mono ?_
      rintro e w2 ⟨rfl, hb2⟩
      go_wp2_with fail
      go_ret2
      exact ⟨rfl, below_box2 (below_step hb1 hb2)⟩
  · have hg' : goodB a l = false := by simpa using hg
    rw [hg'] at s1 ⊢
    clear hg hg'
    go_enter Try.func37, Try.ntmps37
    go_wp2_with fail
    refine (s1.out _).mono ?_
    rintro e w1 ⟨rfl, hb1⟩
    go_wp2_with fail
    go_ret2
    exact ⟨rfl, below_box2 hb1⟩

end Go.Proofs.Ytjmflkheaioboaa
