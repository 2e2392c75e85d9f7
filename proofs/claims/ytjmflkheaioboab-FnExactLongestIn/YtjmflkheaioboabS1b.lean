/- What the specification's functions of chapter 1 answer: addresses, covers. -/
import Derived.Test.YtjmflkheaioboabS1
namespace Go.Proofs.Ytjmflkheaioboab
open Go.RowKit

set_option maxHeartbeats 800000 in
theorem s_hasAddr1 (a l x : Int) (w : World) (hl0 : 0 ≤ l) (hl1 : l ≤ 32) (hx0 : 0 ≤ x) (hx1 : x ≤ 4294967295) :
    Calls Try.prog 67 #[.agg #[.int .i64 a, .int .i64 l], .int .i64 x] w fun e w' => e = .returned (.bool (hasB a l x)) ∧ Below w.heap.size w w' := by
  have p1 := pw_pos l
  have p2 := pw_le l hl0
  have p3 : 0 ≤ x % pw l := Int.emod_nonneg _ (by omega)
  have p4 : x % pw l < pw l := Int.emod_lt_of_pos _ (by omega)
  have p5 : ¬ pw l = 0 := by omega
  have p6 : x.tmod (pw l) = x % pw l := Int.tmod_eq_emod_of_nonneg hx0
  have p7 : IntKind.i64.wrap (x - x % pw l) = x - x % pw l := wrapk_in _ (by omega)
  go_enter Try.func67, Try.ntmps67
  go_wp2_with fail
  go_region_with (go_at_call 64; refine (s_size _ _ _ hl0 hl1).mono ?_; rintro e w' ⟨rfl, hb⟩; obtain ⟨hc, hf⟩ := bcell hb)
  all_goals
    go_wp2
    go_ret
    exact ⟨rfl, ((Below.refl _ _).alloc (Nat.le_refl _) _).drew.trans (hb.mono (by simp))⟩

end Go.Proofs.Ytjmflkheaioboab
