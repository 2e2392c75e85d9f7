/- Leaves chosen out of others, in plain words and in memory. -/
import Derived.Test.YtddebnokdcajbaaPlain15b
import Derived.Test.YtddebnokdcajbaaLst15
namespace Go.Proofs.Ytddebnokdcajbaa
open Go.RowKit

/-- Of the first k those of which P holds. -/
noncomputable def flt15 {A : Type} (P : Nat → Prop) (U : Nat → A) : Nat → List A
  | 0 => []
  | k + 1 => if tB (P k) then flt15 P U k ++ [U k] else flt15 P U k
theorem flt15_yes {A : Type} {P : Nat → Prop} {U : Nat → A} {k : Nat} (h : P k) : flt15 P U (k + 1) = flt15 P U k ++ [U k] := if_pos (tB_t h)
theorem flt15_no {A : Type} {P : Nat → Prop} {U : Nat → A} {k : Nat} (h : ¬ P k) : flt15 P U (k + 1) = flt15 P U k := if_neg (by simp [tB_f h])
theorem flt15_len {A : Type} (P : Nat → Prop) (U : Nat → A) : ∀ k, (flt15 P U k).length ≤ k
  | 0 => Nat.le_refl _
  | k + 1 => by
    have ih := flt15_len P U k
    by_cases h : P k
    · rw [flt15_yes h, List.length_append, List.length_singleton]; omega
    · rw [flt15_no h]; omega
theorem flt15_mem {A : Type} {P : Nat → Prop} {U : Nat → A} {x : A} : ∀ {k : Nat}, x ∈ flt15 P U k → ∃ i, i < k ∧ P i ∧ x = U i
  | 0, h => by simp [flt15] at h
  | k + 1, h => by
    by_cases hp : P k
    · rw [flt15_yes hp] at h
      rcases List.mem_append.1 h with h | h
      · obtain ⟨i, h1, h2⟩ := flt15_mem h
        exact ⟨i, by omega, h2⟩
      · exact ⟨k, by omega, hp, by simpa using h⟩
    · rw [flt15_no hp] at h
      obtain ⟨i, h1, h2⟩ := flt15_mem h
      exact ⟨i, by omega, h2⟩
/-- How many words a list of leaves has. -/
def sumF : List Lf → Nat
  | [] => 0
  | t :: L => t.n + sumF L
theorem sumF_app : ∀ (L M : List Lf), sumF (L ++ M) = sumF L + sumF M
  | [], M => by simp [sumF]
  | t :: L, M => by simp [sumF, sumF_app L M]; omega
theorem flt15_sum {P : Nat → Prop} {U T : Nat → Lf} (h : ∀ i, (U i).n ≤ (T i).n) : ∀ k, sumF (flt15 P U k) ≤ totF T k
  | 0 => Nat.le_refl _
  | k + 1 => by
    have ih := flt15_sum (P := P) h k
    have h2 : totF T (k + 1) = totF T k + (T k).n := rfl
    by_cases hp : P k
    · rw [flt15_yes hp, sumF_app]
      have := h k
      simp only [sumF]
      omega
    · rw [flt15_no hp]; omega
theorem totF_app : ∀ (L M : List Lf) (k : Nat), k ≤ L.length → totF (TF (L ++ M)) k = totF (TF L) k
  | _, _, 0, _ => rfl
  | L, M, k + 1, h => by
    show totF (TF (L ++ M)) k + (TF (L ++ M) k).n = totF (TF L) k + (TF L k).n
    rw [totF_app L M k (by omega), TF_eq (by simp; omega), TF_eq (by omega)]
    simp [List.getElem_append_left (show k < L.length by omega)]
theorem totF_sum_rev : ∀ (L : List Lf), totF (TF L.reverse) L.length = sumF L.reverse
  | [] => rfl
  | t :: L => by
    have ih := totF_sum_rev L
    rw [List.reverse_cons, sumF_app]
    show totF (TF (L.reverse ++ [t])) L.length + (TF (L.reverse ++ [t]) L.length).n = _
    rw [totF_app _ _ _ (by simp), ih, TF_eq (by simp)]
    simp [sumF]
theorem totF_sum (L : List Lf) : totF (TF L) L.length = sumF L := by
  have := totF_sum_rev L.reverse
  simpa using this
/-- What DeleteAt answers. -/
noncomputable def delL (N : Nat) (T : Nat → Lf) (n : Nat) (p : Nat → ByteArray) : List Lf := flt15 (fun i => ¬ Bg n p (T i).n (T i).p) T N
noncomputable def delA (N : Nat) (T : Nat → Lf) (n : Nat) (p : Nat → ByteArray) : List Lf × Bool := if tB (GC N T ∧ Pw n p ∧ (delL N T n p).length ≠ N) then (delL N T n p, true) else ([], false)
/-- A leaf without its first n words. -/
def cutF (n : Nat) (t : Lf) : Lf := ⟨t.n - n, fun i => t.p (n + i), t.v⟩
noncomputable def undL (N : Nat) (T : Nat → Lf) (n : Nat) (p : Nat → ByteArray) : List Lf := flt15 (fun i => n < (T i).n ∧ Bg n p (T i).n (T i).p) (fun i => cutF n (T i)) N
/-- What Under answers. -/
noncomputable def undA (N : Nat) (T : Nat → Lf) (n : Nat) (p : Nat → ByteArray) : List Lf × Bool := if tB (GC N T ∧ Pw n p) then (undL N T n p, decide (0 < (undL N T n p).length)) else ([], false)

/-- A leaf whose path lies anywhere. -/
structure Al15 where
  t : Lf
  a : Option Addr
  k : Nat
def alf (e : Al15) : List Value := [.slice e.a e.t.n e.k, .string e.t.v]
def afs : List Al15 → List Value
  | [] => []
  | e :: L => alf e ++ afs L
theorem afs_app : ∀ (L : List Al15) (e : Al15), afs (L ++ [e]) = afs L ++ alf e
  | [], e => by simp [afs]
  | x :: L, e => by simp [afs, afs_app L e]
theorem afs_at : ∀ {L : List Al15} {i : Nat} (h : i < L.length), (afs L)[i * 2]? = some (.slice (L[i]).a (L[i]).t.n (L[i]).k) ∧ (afs L)[i * 2 + 1]? = some (.string (L[i]).t.v)
  | [], i, h => absurd h (Nat.not_lt_zero _)
  | x :: L, 0, _ => ⟨rfl, rfl⟩
  | x :: L, i + 1, h => by
    have hi : i < L.length := by simpa using h
    obtain ⟨h1, h2⟩ := afs_at hi
    have e : afs (x :: L) = .slice x.a x.t.n x.k :: .string x.t.v :: afs L := rfl
    rw [e]
    exact ⟨by rw [show (i + 1) * 2 = i * 2 + 1 + 1 by omega]; simpa using h1, by rw [show (i + 1) * 2 + 1 = i * 2 + 1 + 1 + 1 by omega]; simpa using h2⟩
theorem alf_one (e : Al15) : ∀ u ∈ alf e, u.oneCell' = true := by
  intro u hu
  simp only [alf, List.mem_cons, List.not_mem_nil, or_false] at hu
  rcases hu with rfl | rfl <;> rfl
end Go.Proofs.Ytddebnokdcajbaa
