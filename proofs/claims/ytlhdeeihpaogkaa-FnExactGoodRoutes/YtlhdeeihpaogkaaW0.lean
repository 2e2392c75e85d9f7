/- The laws' own small functions: a prefix handed over, two prefixes compared. -/
import Derived.Test.YtlhdeeihpaogkaaKit
import Derived.Test.YtlhdeeihpaogkaaPlain1
namespace Go.Proofs.Ytlhdeeihpaogkaa
open Go.RowKit

set_option maxHeartbeats 400000 in
theorem w_toPrefix (a l : Int) (w : World) :
    Calls Try.prog 64 #[.agg #[.int .i64 a, .int .i64 l]] w fun e w' => e = .returned (.agg #[.int .i64 a, .int .i64 l]) ∧ Below w.heap.size w w' := by
  go_enter Try.func64, Try.ntmps64
  go_wp2
  exact bodyPost_ret (v := .agg #[.int .i64 a, .int .i64 l]) (by simp [results, Try.results64, go_sem]) rfl ⟨rfl, (((Below.refl _ _).alloc (Nat.le_refl _) _).alloc (by simp) _).alloc (by simp; omega) _⟩

set_option maxHeartbeats 400000 in
theorem w_eqPrefix (x y : Int) (w : World) :
    Calls Try.prog 69 #[.agg #[.int .i64 x, .int .i64 y], .agg #[.int .i64 x, .int .i64 y]] w fun e w' => e = .returned (.bool true) ∧ Below w.heap.size w w' := by
  go_enter Try.func69, Try.ntmps69
  go_wp2_with fail
  go_ret
  exact ⟨rfl, below_box2 (Below.refl _ _)⟩

end Go.Proofs.Ytlhdeeihpaogkaa
