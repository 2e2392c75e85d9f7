/- The order of paths; a leaf put to its place. -/
import Derived.Test.YtcfmnfoognopnaaBnd15
namespace Go.Proofs.Ytcfmnfoognopnaa
open Go.RowKit

theorem ltP_trans {n m o : Nat} {p q r : Nat → ByteArray} (h : LtP n p m q) (g : LtP m q o r) : LtP n p o r := by
  obtain ⟨k, k1, k2, k3, k4⟩ := h
  obtain ⟨j, j1, j2, j3, j4⟩ := g
  rcases Nat.lt_trichotomy k j with e | e | e
  · refine ⟨k, k1, by omega, fun i hi => (k3 i hi).trans (j3 i (by omega)), ?_⟩
    rcases k4 with k4 | ⟨k5, k4⟩
    · exact Or.inl k4
    · exact Or.inr ⟨k5, by rw [← j3 k e]; exact k4⟩
  · subst e
    refine ⟨k, k1, j2, fun i hi => (k3 i hi).trans (j3 i hi), ?_⟩
    rcases k4 with k4 | ⟨k5, k4⟩
    · exact Or.inl k4
    · rcases j4 with j4 | ⟨_, j4⟩
      · omega
      · exact Or.inr ⟨k5, sLt_trans k4 j4⟩
  · rcases j4 with j4 | ⟨j5, j4⟩
    · omega
    · exact ⟨j, by omega, j2, fun i hi => (k3 i (by omega)).trans (j3 i hi), Or.inr ⟨by omega, by rw [k3 j e]; exact j4⟩⟩
theorem ltP_irrefl (n : Nat) (p : Nat → ByteArray) : ¬ LtP n p n p := ltP_over (Nat.le_refl _) (fun _ _ => rfl)
theorem ltP_asymm {n m : Nat} {p q : Nat → ByteArray} (h : LtP n p m q) : ¬ LtP m q n p := fun g => ltP_irrefl n p (ltP_trans h g)
theorem ltP_tri (n : Nat) (p : Nat → ByteArray) (m : Nat) (q : Nat → ByteArray) : LtP n p m q ∨ LtP m q n p ∨ (n = m ∧ ∀ i, i < n → p i = q i) := by
  have key : ∀ j, j ≤ n → j ≤ m → (∀ i, i < j → p i = q i) ∨ LtP n p m q ∨ LtP m q n p := by
    intro j
    induction j with
    | zero => exact fun _ _ => Or.inl (fun i hi => absurd hi (Nat.not_lt_zero _))
    | succ j ih =>
      intro hn hm
      rcases ih (by omega) (by omega) with h | h
      · by_cases e : p j = q j
        · refine Or.inl (fun i hi => ?_)
          by_cases e2 : i = j
          · subst e2; exact e
          · exact h i (by omega)
        · right
          cases hl : sLt (p j) (q j) with
          | true => exact Or.inl ((ltP_at h (by omega) (by omega) e).2 hl)
          | false => exact Or.inr ((ltP_at (fun i hi => (h i hi).symm) (by omega) (by omega) (fun x => e x.symm)).2 (sLt_total hl e))
      · exact Or.inr h
  by_cases hnm : n ≤ m
  · rcases key n (Nat.le_refl _) hnm with h | h | h
    · by_cases e : n < m
      · exact Or.inl ((ltP_end h).2 e)
      · exact Or.inr (Or.inr ⟨by omega, h⟩)
    · exact Or.inl h
    · exact Or.inr (Or.inl h)
  · rcases key m (by omega) (Nat.le_refl _) with h | h | h
    · exact Or.inr (Or.inl ((ltP_end (fun i hi => (h i hi).symm)).2 (by omega)))
    · exact Or.inl h
    · exact Or.inr (Or.inl h)
theorem ltP_co {n m o : Nat} {p q r : Nat → ByteArray} (h : LtP n p o r) : LtP n p m q ∨ LtP m q o r := by
  rcases ltP_tri n p m q with g | g | ⟨g1, g2⟩
  · exact Or.inl g
  · exact Or.inr (ltP_trans g h)
  · subst g1
    obtain ⟨k, k1, k2, k3, k4⟩ := h
    refine Or.inr ⟨k, k1, k2, fun i hi => (g2 i (by omega)).symm.trans (k3 i hi), ?_⟩
    rcases k4 with k4 | ⟨k5, k4⟩
    · exact Or.inl k4
    · exact Or.inr ⟨k5, by rw [← g2 k k5]; exact k4⟩
/-- One leaf's path is less than another one's. -/
def LtL (s t : Lf) : Prop := LtP s.n s.p t.n t.p
theorem sorted_unique {α : Type} {R : α → α → Prop} (asym : ∀ a b, R a b → ¬ R b a) : ∀ {S L : List α}, S.Perm L → S.Pairwise R → L.Pairwise R → S = L
  | [], L, h, _, _ => (List.Perm.nil_eq h)
  | a :: S, [], h, _, _ => absurd h.length_eq (by simp)
  | a :: S, b :: L, h, h1, h2 => by
    have ha : a ∈ b :: L := h.subset (List.mem_cons_self ..)
    have hb : b ∈ a :: S := h.symm.subset (List.mem_cons_self ..)
    have e : a = b := by
      rcases List.mem_cons.1 ha with e | ha
      · exact e
      · rcases List.mem_cons.1 hb with e | hb
        · exact e.symm
        · exact absurd ((List.pairwise_cons.1 h2).1 a ha) (asym _ _ ((List.pairwise_cons.1 h1).1 b hb))
    subst e
    rw [sorted_unique asym (h.cons_inv) (List.pairwise_cons.1 h1).2 (List.pairwise_cons.1 h2).2]
/-- How many leaves come ahead of z. -/
noncomputable def aheadF (z : Lf) : List Lf → Nat
  | [] => 0
  | t :: L => if tB (LtL t z) then aheadF z L + 1 else 0
theorem aheadF_le (z : Lf) : ∀ L, aheadF z L ≤ L.length
  | [] => Nat.le_refl _
  | t :: L => by
    have := aheadF_le z L
    unfold aheadF
    split <;> simp <;> omega
theorem aheadF_lt {z : Lf} : ∀ {L : List Lf} {i : Nat} (h : i < L.length), i < aheadF z L → LtL (L[i]) z
  | [], i, h, _ => absurd h (Nat.not_lt_zero _)
  | t :: L, i, h, g => by
    unfold aheadF at g
    by_cases ht : LtL t z
    · rw [if_pos (tB_t ht)] at g
      match i, h, g with
      | 0, _, _ => exact ht
      | i + 1, h, g => exact aheadF_lt (L := L) (by simpa using h) (by omega)
    · rw [if_neg (by simp [tB_f ht])] at g
      omega
theorem aheadF_at {z : Lf} : ∀ {L : List Lf} (h : aheadF z L < L.length), ¬ LtL (L[aheadF z L]) z
  | [], h => absurd h (Nat.not_lt_zero _)
  | t :: L, h => by
    by_cases ht : LtL t z
    · have e : aheadF z (t :: L) = aheadF z L + 1 := if_pos (tB_t ht)
      have h2 : aheadF z L < L.length := by rw [e] at h; simpa using h
      have := aheadF_at h2
      simpa [e] using this
    · have e : aheadF z (t :: L) = 0 := if_neg (by simp [tB_f ht])
      simpa [e] using ht
/-- z put to its place. -/
noncomputable def putF (z : Lf) (L : List Lf) : List Lf := L.take (aheadF z L) ++ z :: L.drop (aheadF z L)
theorem putF_perm (z : Lf) (L : List Lf) : (putF z L).Perm (z :: L) := by
  unfold putF
  have := List.perm_middle (a := z) (l₁ := L.take (aheadF z L)) (l₂ := L.drop (aheadF z L))
  rwa [List.take_append_drop] at this
theorem putF_sorted {z : Lf} {L : List Lf} (hs : L.Pairwise LtL) (hd : ∀ t, t ∈ L → LtL t z ∨ LtL z t) : (putF z L).Pairwise LtL := by
  unfold putF
  have hget := List.pairwise_iff_getElem.1 hs
  have hgt : ∀ t, t ∈ L.drop (aheadF z L) → LtL z t := by
    intro t ht
    obtain ⟨i, hi, rfl⟩ := List.mem_iff_getElem.1 ht
    have hlen : aheadF z L < L.length := by simp at hi; omega
    have h0 : LtL z (L[aheadF z L]) := by
      rcases hd _ (List.getElem_mem hlen) with h | h
      · exact absurd h (aheadF_at hlen)
      · exact h
    rw [List.getElem_drop]
    by_cases e : i = 0
    · subst e; simpa using h0
    · exact ltP_trans h0 (hget (aheadF z L) (aheadF z L + i) hlen (by simp at hi; omega) (by omega))
  have hlt : ∀ t, t ∈ L.take (aheadF z L) → LtL t z := by
    intro t ht
    obtain ⟨i, hi, rfl⟩ := List.mem_iff_getElem.1 ht
    rw [List.getElem_take]
    exact aheadF_lt _ (by simp at hi; omega)
  rw [List.pairwise_append]
  refine ⟨hs.sublist (List.take_sublist _ _), ?_, ?_⟩
  · rw [List.pairwise_cons]
    exact ⟨hgt, hs.sublist (List.drop_sublist _ _)⟩
  · intro a ha b hb
    rcases List.mem_cons.1 hb with rfl | hb
    · exact hlt a ha
    · exact ltP_trans (hlt a ha) (hgt b hb)
/-- What is kept beside a path. -/
noncomputable def keepF (T : Nat → Lf) (n : Nat) (p : Nat → ByteArray) (k : Nat) : List Lf := flt15 (fun i => ¬ Bg n p (T i).n (T i).p ∧ ¬ Bg (T i).n (T i).p n p) T k
theorem keepF_sorted {N : Nat} {T : Nat → Lf} (h : GC N T) (n : Nat) (p : Nat → ByteArray) : ∀ k, k ≤ N → (keepF T n p k).Pairwise LtL ∧ ∀ t, t ∈ keepF T n p k → ∃ i, i < k ∧ t = T i
  | 0, _ => ⟨List.Pairwise.nil, fun t ht => by simp [keepF, flt15] at ht⟩
  | k + 1, hk => by
    obtain ⟨h1, h2⟩ := keepF_sorted h n p k (by omega)
    have up : ∀ i j, i < j → j < N → LtL (T i) (T j) := by
      intro i j
      induction j with
      | zero => intro hij _; omega
      | succ j ih =>
        intro hij hj
        have h3 : LtL (T j) (T (j + 1)) := ((h.1 (j + 1) hj).2.2 (by omega)).1
        by_cases e : i = j
        · subst e; exact h3
        · exact ltP_trans (ih (by omega) (by omega)) h3
    by_cases hP : ¬ Bg n p (T k).n (T k).p ∧ ¬ Bg (T k).n (T k).p n p
    · have e : keepF T n p (k + 1) = keepF T n p k ++ [T k] := flt15_yes (P := fun i => ¬ Bg n p (T i).n (T i).p ∧ ¬ Bg (T i).n (T i).p n p) hP
      rw [e]
      refine ⟨?_, fun t ht => ?_⟩
      · rw [List.pairwise_append]
        refine ⟨h1, List.pairwise_singleton _ _, fun a ha b hb => ?_⟩
        obtain rfl : b = T k := by simpa using hb
        obtain ⟨i, hi, rfl⟩ := h2 a ha
        exact up i k hi (by omega)
      · rcases List.mem_append.1 ht with ht | ht
        · obtain ⟨i, hi, rfl⟩ := h2 t ht
          exact ⟨i, by omega, rfl⟩
        · exact ⟨k, by omega, by simpa using ht⟩
    · have e : keepF T n p (k + 1) = keepF T n p k := flt15_no (P := fun i => ¬ Bg n p (T i).n (T i).p ∧ ¬ Bg (T i).n (T i).p n p) hP
      rw [e]
      exact ⟨h1, fun t ht => by
        obtain ⟨i, hi, rfl⟩ := h2 t ht
        exact ⟨i, by omega, rfl⟩⟩
theorem keepF_apart {N : Nat} {T : Nat → Lf} {n : Nat} {p : Nat → ByteArray} {v : ByteArray} {t : Lf} (ht : t ∈ keepF T n p N) : LtL t ⟨n, p, v⟩ ∨ LtL ⟨n, p, v⟩ t := by
  obtain ⟨i, hi, hP, rfl⟩ := flt15_mem ht
  rcases ltP_tri (T i).n (T i).p n p with h | h | ⟨h1, h2⟩
  · exact Or.inl h
  · exact Or.inr h
  · exact absurd ⟨by omega, fun j hj => h2 j hj⟩ hP.2
/-- What is sorted is what was put to its place. -/
theorem sort_put {N : Nat} {T : Nat → Lf} (h : GC N T) {n : Nat} {p : Nat → ByteArray} {v : ByteArray} {S : List Lf} (hp : S.Perm (⟨n, p, v⟩ :: keepF T n p N)) (hs : S.Pairwise (fun a b => ¬ LtL b a)) : S = putF ⟨n, p, v⟩ (keepF T n p N) := by
  have h1 := keepF_sorted h n p N (Nat.le_refl _)
  have h2 := putF_sorted (z := ⟨n, p, v⟩) h1.1 (fun t ht => keepF_apart ht)
  have hp2 := hp.trans (putF_perm ⟨n, p, v⟩ (keepF T n p N)).symm
  have hdist : (putF ⟨n, p, v⟩ (keepF T n p N)).Pairwise (fun a b => LtL a b ∨ LtL b a) := h2.imp Or.inl
  have hS : S.Pairwise (fun a b => LtL a b ∨ LtL b a) := (List.Perm.pairwise_iff (fun {a b} hab => hab.symm) hp2).2 hdist
  refine sorted_unique (R := LtL) (fun a b hab => ltP_asymm hab) hp2 ?_ h2
  exact hS.imp₂ (fun a b hab hn => hab.resolve_right hn) hs
/-- What SetAt answers. -/
noncomputable def setA (N : Nat) (T : Nat → Lf) (n : Nat) (p : Nat → ByteArray) (v : ByteArray) : List Lf × Bool :=
  if tB (GC N T ∧ Pw n p ∧ Wd v ∧ GC (putF ⟨n, p, v⟩ (keepF T n p N)).length (TF (putF ⟨n, p, v⟩ (keepF T n p N)))) then (putF ⟨n, p, v⟩ (keepF T n p N), true) else ([], false)
end Go.Proofs.Ytcfmnfoognopnaa
