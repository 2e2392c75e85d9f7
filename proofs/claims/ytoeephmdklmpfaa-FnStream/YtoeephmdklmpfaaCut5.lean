/- What is said of cutting: the answers, in memory of their own. -/
import Derived.Test.YtoeephmdklmpfaaMemM
namespace Go.Proofs.Ytoeephmdklmpfaa
open Go.RowKit

def strSz : Value → Nat
  | .string b => b.size
  | _ => 0
/-- What cutting answers. -/
def CutP (s : ByteArray) (w : World) (e : Ending) (w' : World) : Prop := ∃ v, e = .returned (.tuple #[v, .string (cut s).2.1, .int .i64 (cut s).2.2]) ∧ OwnM w.heap.size v (cut s).1 w' ∧ Below w.heap.size w w'
/-- What CutAll answers, part by part. -/
def caL (s : ByteArray) : List Ms := if s.size ≤ 300 then (cut s).1 else []
def caR (s : ByteArray) : ByteArray := if s.size ≤ 300 then (cut s).2.1 else ByteArray.empty
def caC (s : ByteArray) : Int := if s.size ≤ 300 then (cut s).2.2 else 0
def caF (s : ByteArray) : Bool := decide (s.size ≤ 300)
def CutA (s : ByteArray) (w : World) (e : Ending) (w' : World) : Prop := ∃ v, e = .returned (.tuple #[v, .string (caR s), .int .i64 (caC s), .bool (caF s)]) ∧ OwnM w.heap.size v (caL s) w' ∧ Below w.heap.size w w'
theorem caL_len (s : ByteArray) : (caL s).length ≤ 300 := by
  unfold caL
  split
  · have := (cut_len s _ (Nat.le_refl _)).1
    omega
  · simp
end Go.Proofs.Ytoeephmdklmpfaa
