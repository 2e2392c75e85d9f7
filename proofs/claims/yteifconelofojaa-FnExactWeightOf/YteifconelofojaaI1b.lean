/- What the program's functions of chapter 1 answer: addresses, covers. -/
import Derived.Test.YteifconelofojaaI1
namespace Go.Proofs.Yteifconelofojaa
open Go.RowKit

theorem eq_has (a l x : Int) : (a == x - x % pw l) = hasB a l x := by rw [hasB, beq_swap]
end Go.Proofs.Yteifconelofojaa
