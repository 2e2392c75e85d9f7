/- What the program's functions of chapter 1 answer: addresses, covers. -/
import Derived.Test.YtcnlabedlcmilaaI1
namespace Go.Proofs.Ytcnlabedlcmilaa
open Go.RowKit

theorem eq_has (a l x : Int) : (a == x - x % pw l) = hasB a l x := by rw [hasB, beq_swap]
end Go.Proofs.Ytcnlabedlcmilaa
