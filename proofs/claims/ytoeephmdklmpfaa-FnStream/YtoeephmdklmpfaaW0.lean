/- The laws' own small functions: a prefix handed over, two prefixes compared. -/
import Derived.Test.YtoeephmdklmpfaaKit
import Derived.Test.YtoeephmdklmpfaaPlain1
namespace Go.Proofs.Ytoeephmdklmpfaa
open Go.RowKit

set_option maxHeartbeats 400000 in
theorem w_eqPrefix (x y : Int) (w : World) :
    Calls Try.prog 111 #[.agg #[.int .i64 x, .int .i64 y], .agg #[.int .i64 x, .int .i64 y]] w fun e w' => e = .returned (.bool true) ∧ Below w.heap.size w w' := by
  go_enter Try.func111, Try.ntmps111
  go_wp2_with fail
  go_ret
  exact ⟨rfl, below_box2 (Below.refl _ _)⟩

end Go.Proofs.Ytoeephmdklmpfaa
