/- What the program's functions of chapter 1 answer: addresses, covers. -/
import Derived.Test.YtgkjokobbeahfaaI1
namespace Go.Proofs.Ytgkjokobbeahfaa
open Go.RowKit

theorem eq_has (a l x : Int) : (a == x - x % pw l) = hasB a l x := by rw [hasB, beq_swap]
end Go.Proofs.Ytgkjokobbeahfaa
