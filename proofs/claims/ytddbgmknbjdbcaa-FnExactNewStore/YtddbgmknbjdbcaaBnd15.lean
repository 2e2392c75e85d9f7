/- How great lists of leaves are that are answered. -/
import Derived.Test.YtddbgmknbjdbcaaFlt15
namespace Go.Proofs.Ytddbgmknbjdbcaa
open Go.RowKit

theorem lowF_TF {L : List Lf} (h : ∀ t, t ∈ L → OkF t 1048576) : LowF L.length (TF L) := by
  intro i hi
  rw [TF_eq hi]
  exact h _ (List.getElem_mem hi)
/-- A list of leaves out of n leaves of T: short, and with no more words. -/
def SmallF (N : Nat) (T : Nat → Lf) (L : List Lf) : Prop := L.length ≤ N ∧ sumF L ≤ totF T N ∧ ∀ t, t ∈ L → OkF t 1048576
theorem SmallF.nil (N : Nat) (T : Nat → Lf) : SmallF N T [] := ⟨Nat.zero_le _, Nat.zero_le _, fun t h => by simp at h⟩
theorem SmallF.flt {N : Nat} {T U : Nat → Lf} {P : Nat → Prop} (h : ∀ i, i < N → OkF (U i) 1048576) (hU : ∀ i, (U i).n ≤ (T i).n) : SmallF N T (flt15 P U N) :=
  ⟨flt15_len _ _ _, flt15_sum hU _, fun t ht => by
    obtain ⟨i, hi, _, rfl⟩ := flt15_mem ht
    exact h i hi⟩
theorem delA_small {N : Nat} {T : Nat → Lf} (h : LowF N T) (n : Nat) (p : Nat → ByteArray) : SmallF N T (delA N T n p).1 := by
  unfold delA
  split
  · exact SmallF.flt h (fun _ => Nat.le_refl _)
  · exact SmallF.nil _ _
theorem undA_small {N : Nat} {T : Nat → Lf} (h : LowF N T) (n : Nat) (p : Nat → ByteArray) : SmallF N T (undA N T n p).1 := by
  unfold undA
  split
  · refine SmallF.flt (fun i hi => ?_) (fun i => Nat.sub_le _ _)
    obtain ⟨h1, h2, h3⟩ := h i hi
    exact ⟨Nat.le_trans (Nat.sub_le _ _) h1, fun j hj => h2 (n + j) (by have : (cutF n (T i)).n = (T i).n - n := rfl; omega), h3⟩
  · exact SmallF.nil _ _
end Go.Proofs.Ytddbgmknbjdbcaa
