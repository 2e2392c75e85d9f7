/- What the specification's functions of chapter 2 answer: tables. -/
import Derived.Test.YtlhdeeihpaogkaaFlatEntry
import Derived.Test.YtlhdeeihpaogkaaS1c
namespace Go.Proofs.Ytlhdeeihpaogkaa
open Go.RowKit

def entOk (f0 f1 f2 : Nat → Int) (k : Nat) : Bool :=
  goodB (f0 k) (f1 k) && inB (f2 k) 0 1000000 && (k == 0 || decide (cmpP (f0 (k - 1)) (f1 (k - 1)) (f0 k) (f1 k) < 0))
def tabB (f0 f1 f2 : Nat → Int) (n : Nat) : Bool := (List.range n).all (entOk f0 f1 f2) && decide (n ≤ 30)

theorem all_next {f0 f1 f2 : Nat → Int} {k : Nat} (h : (List.range k).all (entOk f0 f1 f2) = true) (h1 : entOk f0 f1 f2 k = true) : (List.range (k + 1)).all (entOk f0 f1 f2) = true := by
  rw [List.range_succ, List.all_append, h, Bool.true_and]
  simp [h1]
theorem tabB_no {f0 f1 f2 : Nat → Int} {n k : Nat} (hk : k < n) (h : entOk f0 f1 f2 k = false) : tabB f0 f1 f2 n = false := by
  unfold tabB
  have h2 : (List.range n).all (entOk f0 f1 f2) = false := by
    rw [List.all_eq_false]
    exact ⟨k, List.mem_range.2 hk, by simp [h]⟩
  rw [h2]; rfl

end Go.Proofs.Ytlhdeeihpaogkaa
