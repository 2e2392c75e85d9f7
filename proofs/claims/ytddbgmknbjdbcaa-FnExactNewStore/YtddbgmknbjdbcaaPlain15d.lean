/- What leads from one configuration to another, in plain words. -/
import Derived.Test.YtddbgmknbjdbcaaFlt15
import Derived.Test.YtddbgmknbjdbcaaAnsC15
namespace Go.Proofs.Ytddbgmknbjdbcaa
open Go.RowKit

theorem valA_no {N : Nat} {T : Nat → Lf} {n : Nat} {p : Nat → ByteArray} (h : (valA N T n p).2 = false) : (valA N T n p).1 = ⟨#[]⟩ := by
  unfold valA at h ⊢
  cases e : fst15 (fun i => SameP (T i) n p) N with
  | none => rfl
  | some i => rw [e] at h; cases h
theorem fst15_lt {P : Nat → Prop} : ∀ {n i : Nat}, fst15 P n = some i → i < n
  | 0, i, h => by cases h
  | n + 1, i, h => by
    have h' : (match fst15 P n with | some i => some i | none => if tB (P n) then some n else none) = some i := h
    cases e : fst15 P n with
    | some j =>
      rw [e] at h'
      simp at h'
      subst h'
      have := fst15_lt e
      omega
    | none =>
      rw [e] at h'
      dsimp only at h'
      by_cases hb : tB (P n) = true
      · rw [if_pos hb] at h'
        simp at h'
        omega
      · rw [if_neg hb] at h'
        cases h'
theorem valA_yes {N : Nat} {T : Nat → Lf} {n : Nat} {p : Nat → ByteArray} (hv : ∀ i, i < N → (T i).v ≠ ⟨#[]⟩) (h : (valA N T n p).2 = true) : (valA N T n p).1 ≠ ⟨#[]⟩ := by
  unfold valA at h ⊢
  cases e : fst15 (fun i => SameP (T i) n p) N with
  | none => rw [e] at h; cases h
  | some i => exact hv i (fst15_lt e)
theorem wd_ne {s : ByteArray} (h : Wd s) : s ≠ ⟨#[]⟩ := by
  intro e
  have h1 := h.1
  rw [e] at h1
  simp [ByteArray.size] at h1
/-- A deletion of a leaf's path. -/
def dlC (t : Lf) : Cm15 := ⟨false, ⟨t.n, t.p, ⟨#[]⟩⟩⟩
noncomputable def dif1 (A : Nat → Lf) (M : Nat) (B : Nat → Lf) (k : Nat) : List Cm15 := flt15 (fun i => (valA M B (A i).n (A i).p).1 = ⟨#[]⟩) (fun i => dlC (A i)) k
noncomputable def dif2 (N : Nat) (A : Nat → Lf) (B : Nat → Lf) (k : Nat) : List Cm15 := flt15 (fun i => (valA N A (B i).n (B i).p).1 ≠ (B i).v) (fun i => ⟨true, B i⟩) k
/-- What DiffOf answers. -/
noncomputable def difA (N : Nat) (A : Nat → Lf) (M : Nat) (B : Nat → Lf) : List Cm15 × Bool := if tB (GC N A ∧ GC M B) then (dif1 A M B N ++ dif2 N A B M, true) else ([], false)
theorem wp1 {M : Nat} {B : Nat → Lf} {n : Nat} {p : Nat → ByteArray} (hB : GC M B) : (valA M B n p).1 = ⟨#[]⟩ ↔ (valA M B n p).2 = false := by
  constructor
  · intro h
    cases e : (valA M B n p).2 with
    | false => rfl
    | true => exact absurd h (valA_yes (fun i hi => wd_ne (hB.1 i hi).2.1) e)
  · exact valA_no
theorem wp2 {N : Nat} {A : Nat → Lf} {n : Nat} {p : Nat → ByteArray} {v : ByteArray} (hv : Wd v) : (valA N A n p).1 ≠ v ↔ ¬ ((valA N A n p).2 = true ∧ (valA N A n p).1 = v) := by
  constructor
  · rintro h ⟨_, g⟩
    exact h g
  · intro h g
    cases e : (valA N A n p).2 with
    | true => exact h ⟨e, g⟩
    | false =>
      rw [valA_no e] at g
      exact wd_ne hv g.symm
/-- How many words a list of commands has. -/
def sumC : List Cm15 → Nat
  | [] => 0
  | t :: L => t.t.n + sumC L
theorem sumC_app : ∀ (L M : List Cm15), sumC (L ++ M) = sumC L + sumC M
  | [], M => by simp [sumC]
  | t :: L, M => by simp [sumC, sumC_app L M]; omega
theorem flt15_sumC {P : Nat → Prop} {U : Nat → Cm15} {T : Nat → Lf} (h : ∀ i, (U i).t.n ≤ (T i).n) : ∀ k, sumC (flt15 P U k) ≤ totF T k
  | 0 => Nat.le_refl _
  | k + 1 => by
    have ih := flt15_sumC (P := P) h k
    have h2 : totF T (k + 1) = totF T k + (T k).n := rfl
    by_cases hp : P k
    · rw [flt15_yes hp, sumC_app]
      have := h k
      simp only [sumC]
      omega
    · rw [flt15_no hp]; omega
theorem totC_app : ∀ (L M : List Cm15) (k : Nat), k ≤ L.length → totC (TC (L ++ M)) k = totC (TC L) k
  | _, _, 0, _ => rfl
  | L, M, k + 1, h => by
    show totC (TC (L ++ M)) k + (TC (L ++ M) k).t.n = totC (TC L) k + (TC L k).t.n
    rw [totC_app L M k (by omega), TC_eq (by simp; omega), TC_eq (by omega)]
    simp [List.getElem_append_left (show k < L.length by omega)]
theorem totC_sum_rev : ∀ (L : List Cm15), totC (TC L.reverse) L.length = sumC L.reverse
  | [] => rfl
  | t :: L => by
    have ih := totC_sum_rev L
    rw [List.reverse_cons, sumC_app]
    show totC (TC (L.reverse ++ [t])) L.length + (TC (L.reverse ++ [t]) L.length).t.n = _
    rw [totC_app _ _ _ (by simp), ih, TC_eq (by simp)]
    simp [sumC]
theorem totC_sum (L : List Cm15) : totC (TC L) L.length = sumC L := by
  have := totC_sum_rev L.reverse
  simpa using this
theorem lowC_TC {L : List Cm15} (h : ∀ t, t ∈ L → t.t.n ≤ 1048576) : ∀ i, i < L.length → (TC L i).t.n ≤ 1048576 := by
  intro i hi
  rw [TC_eq hi]
  exact h _ (List.getElem_mem hi)
theorem difA_len (N : Nat) (A : Nat → Lf) (M : Nat) (B : Nat → Lf) : (difA N A M B).1.length ≤ N + M ∧ sumC (difA N A M B).1 ≤ totF A N + totF B M := by
  unfold difA
  split
  · have h1 : (dif1 A M B N).length ≤ N := flt15_len _ _ _
    have h2 : (dif2 N A B M).length ≤ M := flt15_len _ _ _
    have h3 : sumC (dif1 A M B N) ≤ totF A N := flt15_sumC (U := fun i => dlC (A i)) (T := A) (fun _ => Nat.le_refl _) _
    have h4 : sumC (dif2 N A B M) ≤ totF B M := flt15_sumC (U := fun i => ⟨true, B i⟩) (T := B) (fun _ => Nat.le_refl _) _
    simp only [List.length_append, sumC_app]
    omega
  · simp [sumC]
theorem difA_low {N : Nat} {A : Nat → Lf} {M : Nat} {B : Nat → Lf} (hA : ∀ i, i < N → (A i).n ≤ 1048576) (hB : ∀ i, i < M → (B i).n ≤ 1048576) : ∀ t, t ∈ (difA N A M B).1 → t.t.n ≤ 1048576 := by
  intro t ht
  unfold difA at ht
  split at ht
  · rcases List.mem_append.1 ht with ht | ht
    · obtain ⟨i, hi, _, rfl⟩ := flt15_mem ht
      exact hA i hi
    · obtain ⟨i, hi, _, rfl⟩ := flt15_mem ht
      exact hB i hi
  · simp at ht
end Go.Proofs.Ytddbgmknbjdbcaa
