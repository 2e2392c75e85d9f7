/- What the specification's TakePrefix answers. -/
import Derived.Test.YtoeephmdklmpfaaS4s
namespace Go.Proofs.Ytoeephmdklmpfaa
open Go.RowKit

/-- A prefix can be taken at a place. -/
def tkB (s : ByteArray) (x : Int) : Bool := decide (s.size ≤ 1000 ∧ 0 ≤ x ∧ x ≤ s.size) && rdCode ((sbs s).drop x.toNat) == 0 && goodB (rdA ((sbs s).drop x.toNat)) (rdL ((sbs s).drop x.toNat))
/-- What is answered. -/
def tkV (s : ByteArray) (x : Int) : Value :=
  if tkB s x then .tuple #[.agg #[.int .i64 (rdA ((sbs s).drop x.toNat)), .int .i64 (rdL ((sbs s).drop x.toNat))], .int .i64 (x + rdN ((sbs s).drop x.toNat)), .bool true]
  else .tuple #[.agg #[.int .i64 0, .int .i64 0], .int .i64 0, .bool false]
def tkNo : Value := .tuple #[.agg #[.int .i64 0, .int .i64 0], .int .i64 0, .bool false]
theorem tkV_no {s : ByteArray} {x : Int} (h : tkB s x = false) : tkV s x = tkNo := by unfold tkV; rw [h]; rfl
theorem tkB_out {s : ByteArray} {x : Int} (h : ¬ (s.size ≤ 1000 ∧ 0 ≤ x ∧ x ≤ s.size)) : tkB s x = false := by unfold tkB; rw [decide_eq_false h]; simp
theorem tkB_code {s : ByteArray} {x : Int} (h : rdCode ((sbs s).drop x.toNat) ≠ 0) : tkB s x = false := by
  unfold tkB
  rw [show (rdCode ((sbs s).drop x.toNat) == 0) = false by simpa using h]
  simp
theorem rd_yes {l : Int} {D : List Int} (h1 : l ≤ 32) (h2 : need l ≤ D.length) : rdCode (l :: D) = 0 := by show (if l > 32 then (3 : Int) else if D.length < need l then 1 else 0) = 0; rw [if_neg (by omega), if_neg (by omega)]
theorem rd_short {l : Int} {D : List Int} (h1 : l ≤ 32) (h2 : D.length < need l) : rdCode (l :: D) = 1 := by show (if l > 32 then (3 : Int) else if D.length < need l then 1 else 0) = 1; rw [if_neg (by omega), if_pos h2]
theorem rd_big {l : Int} {D : List Int} (h1 : l > 32) : rdCode (l :: D) = 3 := by show (if l > 32 then (3 : Int) else if D.length < need l then 1 else 0) = 3; rw [if_pos h1]

end Go.Proofs.Ytoeephmdklmpfaa
