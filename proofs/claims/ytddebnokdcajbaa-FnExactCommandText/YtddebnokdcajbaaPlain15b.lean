/- What is got of a configuration, in plain words. -/
import Derived.Test.YtddebnokdcajbaaLeaf15
namespace Go.Proofs.Ytddebnokdcajbaa
open Go.RowKit

/-- The first of n numbers of which P holds. -/
noncomputable def fst15 (P : Nat → Prop) : Nat → Option Nat
  | 0 => none
  | n + 1 => match fst15 P n with
    | some i => some i
    | none => if tB (P n) then some n else none
theorem fst15_none {P : Nat → Prop} : ∀ {n : Nat}, (∀ i, i < n → ¬ P i) → fst15 P n = none
  | 0, _ => rfl
  | n + 1, h => by
    have ih := fst15_none (n := n) (fun i hi => h i (by omega))
    show (match fst15 P n with | some i => some i | none => if tB (P n) then some n else none) = none
    rw [ih]
    simp [tB_f (h n (by omega))]
theorem fst15_some {P : Nat → Prop} {j : Nat} : ∀ {n : Nat}, j < n → P j → (∀ i, i < j → ¬ P i) → fst15 P n = some j
  | 0, h, _, _ => absurd h (Nat.not_lt_zero _)
  | n + 1, h, hP, hn => by
    show (match fst15 P n with | some i => some i | none => if tB (P n) then some n else none) = some j
    by_cases e : j = n
    · subst e
      rw [fst15_none hn]
      simp [tB_t hP]
    · rw [fst15_some (by omega) hP hn]
/-- Leaf t has this path. -/
def SameP (t : Lf) (n : Nat) (p : Nat → ByteArray) : Prop := t.n = n ∧ Bg t.n t.p n p
/-- The value of a path. -/
noncomputable def valA (N : Nat) (T : Nat → Lf) (n : Nat) (p : Nat → ByteArray) : ByteArray × Bool := match fst15 (fun i => SameP (T i) n p) N with
  | some i => ((T i).v, true)
  | none => (⟨#[]⟩, false)
theorem valA_none {N : Nat} {T : Nat → Lf} {n : Nat} {p : Nat → ByteArray} (h : ∀ i, i < N → ¬ SameP (T i) n p) : valA N T n p = (⟨#[]⟩, false) := by
  unfold valA
  rw [fst15_none h]
theorem valA_some {N : Nat} {T : Nat → Lf} {n : Nat} {p : Nat → ByteArray} {j : Nat} (hj : j < N) (h : SameP (T j) n p) (hn : ∀ i, i < j → ¬ SameP (T i) n p) : valA N T n p = ((T j).v, true) := by
  unfold valA
  rw [fst15_some hj h hn]
theorem valA_size {N : Nat} {T : Nat → Lf} {n m : Nat} {p : Nat → ByteArray} (h : ∀ i, i < N → (T i).v.size ≤ m) : (valA N T n p).1.size ≤ m := by
  unfold valA
  by_cases hx : ∃ j, j < N ∧ SameP (T j) n p
  · cases e : fst15 (fun i => SameP (T i) n p) N with
    | none => exact Nat.zero_le _
    | some i =>
      have hi : ∀ {M : Nat} {k : Nat}, fst15 (fun i => SameP (T i) n p) M = some k → k < M := by
        intro M
        induction M with
        | zero => intro k h; cases h
        | succ M ih =>
          intro k h
          have h' : (match fst15 (fun i => SameP (T i) n p) M with | some i => some i | none => if tB (SameP (T M) n p) then some M else none) = some k := h
          cases e2 : fst15 (fun i => SameP (T i) n p) M with
          | some j =>
            rw [e2] at h'
            simp at h'
            subst h'
            have := ih e2
            omega
          | none =>
            rw [e2] at h'
            dsimp only at h'
            by_cases hb : tB (SameP (T M) n p) = true
            · rw [if_pos hb] at h'
              simp at h'
              omega
            · rw [if_neg hb] at h'
              cases h'
      exact h i (hi e)
  · rw [fst15_none (fun i hi k => hx ⟨i, hi, k⟩)]
    exact Nat.zero_le _
/-- What GetAt answers. -/
noncomputable def getA (N : Nat) (T : Nat → Lf) (n : Nat) (p : Nat → ByteArray) : ByteArray × Bool := if tB (GC N T ∧ Pw n p) then valA N T n p else (⟨#[]⟩, false)
end Go.Proofs.Ytddebnokdcajbaa
