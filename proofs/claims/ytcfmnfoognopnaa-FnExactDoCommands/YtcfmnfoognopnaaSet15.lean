/- How great the list is that SetAt answers. -/
import Derived.Test.YtcfmnfoognopnaaOrd15
namespace Go.Proofs.Ytcfmnfoognopnaa
open Go.RowKit

theorem sumF_put (z : Lf) (L : List Lf) : sumF (putF z L) = z.n + sumF L := by
  unfold putF
  have h : sumF L = sumF (L.take (aheadF z L)) + sumF (L.drop (aheadF z L)) := by rw [← sumF_app, List.take_append_drop]
  rw [sumF_app, h]
  simp only [sumF]
  omega
theorem setA_small {N : Nat} {T : Nat → Lf} (h : LowF N T) {n : Nat} {p : Nat → ByteArray} {v : ByteArray} (hz : OkF ⟨n, p, v⟩ 1048576) : (setA N T n p v).1.length ≤ 30 ∧ sumF (setA N T n p v).1 ≤ n + totF T N ∧ ∀ t, t ∈ (setA N T n p v).1 → OkF t 1048576 := by
  unfold setA
  by_cases e : GC N T ∧ Pw n p ∧ Wd v ∧ GC (putF ⟨n, p, v⟩ (keepF T n p N)).length (TF (putF ⟨n, p, v⟩ (keepF T n p N)))
  · rw [if_pos (tB_t e)]
    refine ⟨e.2.2.2.2, ?_, fun t ht => ?_⟩
    · show sumF (putF ⟨n, p, v⟩ (keepF T n p N)) ≤ _
      rw [sumF_put]
      have h1 : sumF (keepF T n p N) ≤ totF T N := flt15_sum (fun _ => Nat.le_refl _) _
      show n + _ ≤ _
      omega
    · have h2 := (putF_perm _ _).subset ht
      rcases List.mem_cons.1 h2 with rfl | h2
      · exact hz
      · obtain ⟨i, hi, _, rfl⟩ := flt15_mem h2
        exact h i hi
  · rw [if_neg (by simp [tB_f e])]
    exact ⟨Nat.zero_le _, Nat.zero_le _, fun t ht => by simp at ht⟩
end Go.Proofs.Ytcfmnfoognopnaa
