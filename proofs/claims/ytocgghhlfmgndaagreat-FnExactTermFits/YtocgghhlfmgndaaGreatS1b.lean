/- What the specification's functions of chapter 1 answer: addresses, covers. -/
import Derived.Test.YtocgghhlfmgndaaGreatS1
namespace Go.Proofs.YtocgghhlfmgndaaGreat
open Go.RowKit

set_option maxHeartbeats 800000 in
theorem s_hasAddr1 (a l x : Int) (w : World) (hl0 : 0 ≤ l) (hl1 : l ≤ 32) (hx0 : 0 ≤ x) (hx1 : x ≤ 4294967295) :
    Calls Tryz.prog 156 #[.agg #[.int .i64 a, .int .i64 l], .int .i64 x] w fun e w' => e = .returned (.bool (hasB a l x)) ∧ Below w.heap.size w w' := by
  have p1 := pw_pos l
  have p2 := pw_le l hl0
  have p3 : 0 ≤ x % pw l := Int.emod_nonneg _ (by omega)
  have p4 : x % pw l < pw l := Int.emod_lt_of_pos _ (by omega)
  have p5 : ¬ pw l = 0 := by omega
  have p6 : x.tmod (pw l) = x % pw l := Int.tmod_eq_emod_of_nonneg hx0
  have p7 : IntKind.i64.wrap (x - x % pw l) = x - x % pw l := wrapk_in _ (by omega)
  go_enter Tryz.func156, Tryz.ntmps156
  go_wp2_with fail
  go_region_with (go_at_call 152; refine (s_size _ _ _ hl0 hl1).mono ?_; rintro e w' ⟨rfl, hb⟩; obtain ⟨hc, hf⟩ := bcell hb)
  all_goals
    go_wp2
    go_ret
    exact ⟨rfl, ((Below.refl _ _).alloc (Nat.le_refl _) _).drew.trans (hb.mono (by simp))⟩

set_option maxHeartbeats 800000 in
theorem s_covers (a l b m : Int) (w : World) (hl0 : 0 ≤ l) (hl1 : l ≤ 32) (hb0 : 0 ≤ b) (hb1 : b ≤ 4294967295) :
    Calls Tryz.prog 102 #[.agg #[.int .i64 a, .int .i64 l], .agg #[.int .i64 b, .int .i64 m]] w fun e w' =>
      e = .returned (.bool (decide (l ≤ m) && hasB a l b)) ∧ Below w.heap.size w w' := by
  have s3 := hide (fun w => s_hasAddr1 a l b w hl0 hl1 hb0 hb1)
  clear hl0 hl1 hb0 hb1
  generalize hasB a l b = r at s3 ⊢
  by_cases h : l ≤ m
  · have ht : decide (l ≤ m) = true := by simpa using h
    rw [ht]
    go_enter Tryz.func102, Tryz.ntmps102
    go_wp2_with fail
    refine (s3.out _).mono ?_
    rintro e w3 ⟨rfl, hb3⟩
    go_wp2_with fail
    go_ret
    exact ⟨by simp, below_box2 hb3⟩
  · have ht : decide (l ≤ m) = false := by simpa using h
    rw [ht]
    go_enter Tryz.func102, Tryz.ntmps102
    go_wp2_with fail
    go_ret
    exact ⟨by simp, below_box2 (Below.refl _ _)⟩

end Go.Proofs.YtocgghhlfmgndaaGreat
