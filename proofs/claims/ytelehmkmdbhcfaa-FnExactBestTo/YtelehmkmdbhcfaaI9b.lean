/- IsMonotone and IsIsotone of the program. -/
import Derived.Test.YtelehmkmdbhcfaaLab9
namespace Go.Proofs.Ytelehmkmdbhcfaa
open Go.RowKit

set_option maxRecDepth 100000 in
set_option maxHeartbeats 400000 in
theorem i_noWay (g : Int) (a : Option Addr) (n c : Nat) (w : World) (_hg : 2 ≤ g) (_hg' : g ≤ 12) :
    Calls Try.prog 45 #[.agg #[.int .i64 g, .slice a n c]] w fun e w' => e = .returned (.int .i64 (g - 1)) ∧ Below w.heap.size w w' := by
  have d0 : Below w.heap.size w (w.alloc (.cells #[.int .i64 g, .slice a n c] 31)) := below_box (Below.refl _ _)
  go_enter Try.func45, Try.ntmps45
  go_wp2_with fail
  go_ret
  exact ⟨rfl, d0⟩
end Go.Proofs.Ytelehmkmdbhcfaa
