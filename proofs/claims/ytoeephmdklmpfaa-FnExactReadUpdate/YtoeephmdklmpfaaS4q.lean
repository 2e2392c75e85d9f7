/- What the specification's PrependPath answers. -/
import Derived.Test.YtoeephmdklmpfaaS4p
namespace Go.Proofs.Ytoeephmdklmpfaa
open Go.RowKit

theorem src1 (w : World) (asn : Int) (t : TypeId) : SrcN .i64 (some ⟨w.heap.size, 0, none⟩) [asn] 1 (w.alloc (.cells #[.int .i64 asn] t)) := by
  refine ⟨fun i hi => ?_, .inr ⟨_, _, rfl⟩⟩
  have : i = 0 := by simpa using hi
  subst this
  exact ⟨w.heap.size, 0, rfl, by simp, by simp [go_sem]⟩
theorem map_get {n : Nat} (g : Nat → Int) : ∀ i, i < n → ((List.range n).map g).getD i 0 = g i := by
  intro i hi
  simp [List.getD_eq_getElem?_getD, hi]
theorem only_of_grown {w w' : World} {v : Value} {c : Nat} (h : w.grownBy w' v.ownBlock) (hv : v.ownBlock = some c) : Only c w w' :=
  ⟨h.os, h.tape, h.output, h.size, fun k hk hne => h.block k hk (by rw [hv]; simpa using hne)⟩
end Go.Proofs.Ytoeephmdklmpfaa
