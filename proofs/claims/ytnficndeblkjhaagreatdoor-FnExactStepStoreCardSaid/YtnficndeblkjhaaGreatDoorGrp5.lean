/- An op is refused: a fault of its own. -/
import Derived.Test.YtnficndeblkjhaaGreatDoorArr6
import Derived.Test.YtnficndeblkjhaaGreatDoorGrp4
import Derived.Test.YtnficndeblkjhaaGreatDoorGrp3
import Derived.Test.YtnficndeblkjhaaGreatDoorAns15
import Derived.Deep.RegionHeld3
/- A whole struct is stored, as an operation of a region. -/
namespace Go.Proofs.YtnficndeblkjhaaGreatDoor
open Go.RowKit

theorem wp_storeM {P : Program} {o : Oper} {a : Act} {w : World} {K : Act → World → Prop} {Q : Exit → Act → World → Prop} {t : TypeId} {x y : Operand} (ho : o.op = .store t x y) {b : Nat} {vs us : List Value}
    (hx : a.eval x = .pointer (some ⟨b, 0, none⟩)) (hy : a.eval y = .agg us.toArray) (hM : Mut w b vs) (hl : us.length = vs.length) (h1 : ∀ v ∈ us, v.oneCell' = true) (hi : (P.info? t).map (·.size) = some us.length)
    (h : ∀ w', Mut w' b us → Only b w w' → K (a.put o.dst undef) w') : o.wp P a w K Q := by
  have hr : (execOp a.eval o).run P w = .ok .skip (w.setCells b 0 us) := by
    unfold execOp
    rw [ho]
    simp [hx, hy, store_mut hM hl h1 hi]
  unfold Oper.wp
  rw [hr, Oper.upon_skip]
  exact h _ (hM.fill hl) (only_cells b us 0 w)
end Go.Proofs.YtnficndeblkjhaaGreatDoor

/- What a copy of a store is. -/
namespace Go.Proofs.YtnficndeblkjhaaGreatDoor
open Go.RowKit

/-- Leaves that can be copied. -/
def OwnC (c : Cf) : Prop := c.n ≤ 1048576 ∧ ∀ i, i < c.n → 1 ≤ (c.T i).n ∧ (c.T i).n ≤ 1048576
/-- A store that can be copied. -/
def OwnSt (s : Sto) : Prop := OwnC s.C ∧ OwnC s.R ∧ s.h ≤ 1048576 ∧ ∀ i, i < s.h → OwnC (s.H i)
theorem GC.own {n : Nat} {T : Nat → Lf} (h : GC n T) : OwnC ⟨n, T⟩ := ⟨Nat.le_trans h.2 (by omega), fun i hi => ⟨(h.1 i hi).1.1, Nat.le_trans (h.1 i hi).1.2.1 (by omega)⟩⟩
theorem GS.own {s : Sto} (h : GS s) : OwnSt s := ⟨GC.own h.1, GC.own h.2.1, by have := h.2.2.2.1; omega, fun i hi => GC.own (h.2.2.2.2.1 i hi)⟩
/-- Behind the first part: the box of the copy, and its first two lists. -/
def OwB (w0 : World) (s : Sto) (p : Value) (X : World) : Prop := ∃ (kb : Nat) (ca : Option Addr) (kc : Nat) (ra : Option Addr) (kr m1 m2 : Nat), p = .pointer (some ⟨kb, 0, none⟩) ∧ w0.heap.size ≤ kb ∧ Mut X kb [.slice ca s.C.n kc, .slice ra s.R.n kr, .slice none 0 0, .int .i64 s.l] ∧ w0.heap.size ≤ m1 ∧ m1 ≤ m2 ∧ m2 ≤ X.heap.size ∧ AnsF ca s.C.n s.C.T (fun k => (w0.heap.size ≤ k ∧ k < m1) ∧ k ≠ kb) X ∧ AnsF ra s.R.n s.R.T (fun k => (m1 ≤ k ∧ k < m2) ∧ k ≠ kb) X ∧ Below w0.heap.size w0 X
theorem TX_map {L : List Xl} {H : Nat → Cf} {h : Nat} (hm : L.map (·.c) = (List.range h).map H) (hl : L.length = h) {i : Nat} (hi : i < h) : TX L i = H i := by
  rw [TX_eq (by omega)]
  have e1 : (L.map (·.c))[i]? = some (L[i]'(by omega)).c := by rw [List.getElem?_map, List.getElem?_eq_getElem (by omega)]; rfl
  rw [hm, List.getElem?_map, List.getElem?_range hi] at e1
  simpa using e1.symm
theorem AnsX.congr {a : Option Addr} {h : Nat} {H H' : Nat → Cf} {lo hi : Nat} {w : World} (A : AnsX a h H lo hi w) (e : ∀ i, i < h → H i = H' i) : AnsX a h H' lo hi w := by
  obtain ⟨h0, h1, h5⟩ := A
  refine ⟨h0, h1, ?_⟩
  rcases h5 with q | ⟨B, E, g, h2, h3, ha, hg, hj, l1, l2, h6⟩
  · exact .inl q
  · refine .inr ⟨B, E, g, h2, h3, ha, hg, hj, l1, l2, fun i hi => ?_⟩
    obtain ⟨a0, c0, q, hA⟩ := h6 i hi
    rw [e i hi] at q hA
    exact ⟨a0, c0, q, hA⟩
theorem OnlyP.after {P : Nat → Prop} {w0 w1 w2 : World} (h : OnlyP P w0 w1) (b : Below w0.heap.size w1 w2) : OnlyP P w0 w2 := by
  obtain ⟨h1, h2, h3, h4, h5⟩ := h
  exact ⟨b.os.trans h1, b.tape.trans h2, b.output.trans h3, Nat.le_trans h4 b.size, fun k hk hn => (b.block k hk).trans (h5 k hk hn)⟩
theorem sizeSto : (Tryz.prog.info? 34).map (·.size) = some 4 := by kernel_rfl
end Go.Proofs.YtnficndeblkjhaaGreatDoor

/- How great lists of leaves are that are answered. -/
namespace Go.Proofs.YtnficndeblkjhaaGreatDoor
open Go.RowKit

theorem lowF_TF {L : List Lf} (h : ∀ t, t ∈ L → OkF t 1048576) : LowF L.length (TF L) := by
  intro i hi
  rw [TF_eq hi]
  exact h _ (List.getElem_mem hi)
/-- A list of leaves out of n leaves of T: short, and with no more words. -/
def SmallF (N : Nat) (T : Nat → Lf) (L : List Lf) : Prop := L.length ≤ N ∧ sumF L ≤ totF T N ∧ ∀ t, t ∈ L → OkF t 1048576
theorem SmallF.nil (N : Nat) (T : Nat → Lf) : SmallF N T [] := ⟨Nat.zero_le _, Nat.zero_le _, fun t h => by simp at h⟩
theorem SmallF.flt {N : Nat} {T U : Nat → Lf} {P : Nat → Prop} (h : ∀ i, i < N → OkF (U i) 1048576) (hU : ∀ i, (U i).n ≤ (T i).n) : SmallF N T (flt15 P U N) :=
  ⟨flt15_len _ _ _, flt15_sum hU _, fun t ht => by
    obtain ⟨i, hi, _, rfl⟩ := flt15_mem ht
    exact h i hi⟩
theorem delA_small {N : Nat} {T : Nat → Lf} (h : LowF N T) (n : Nat) (p : Nat → ByteArray) : SmallF N T (delA N T n p).1 := by
  unfold delA
  split
  · exact SmallF.flt h (fun _ => Nat.le_refl _)
  · exact SmallF.nil _ _
theorem undA_small {N : Nat} {T : Nat → Lf} (h : LowF N T) (n : Nat) (p : Nat → ByteArray) : SmallF N T (undA N T n p).1 := by
  unfold undA
  split
  · refine SmallF.flt (fun i hi => ?_) (fun i => Nat.sub_le _ _)
    obtain ⟨h1, h2, h3⟩ := h i hi
    exact ⟨Nat.le_trans (Nat.sub_le _ _) h1, fun j hj => h2 (n + j) (by have : (cutF n (T i)).n = (T i).n - n := rfl; omega), h3⟩
  · exact SmallF.nil _ _
end Go.Proofs.YtnficndeblkjhaaGreatDoor

/- The order of paths; a leaf put to its place. -/
namespace Go.Proofs.YtnficndeblkjhaaGreatDoor
open Go.RowKit

theorem ltP_trans {n m o : Nat} {p q r : Nat → ByteArray} (h : LtP n p m q) (g : LtP m q o r) : LtP n p o r := by
  obtain ⟨k, k1, k2, k3, k4⟩ := h
  obtain ⟨j, j1, j2, j3, j4⟩ := g
  rcases Nat.lt_trichotomy k j with e | e | e
  · refine ⟨k, k1, by omega, fun i hi => (k3 i hi).trans (j3 i (by omega)), ?_⟩
    rcases k4 with k4 | ⟨k5, k4⟩
    · exact Or.inl k4
    · exact Or.inr ⟨k5, by rw [← j3 k e]; exact k4⟩
  · subst e
    refine ⟨k, k1, j2, fun i hi => (k3 i hi).trans (j3 i hi), ?_⟩
    rcases k4 with k4 | ⟨k5, k4⟩
    · exact Or.inl k4
    · rcases j4 with j4 | ⟨_, j4⟩
      · omega
      · exact Or.inr ⟨k5, sLt_trans k4 j4⟩
  · rcases j4 with j4 | ⟨j5, j4⟩
    · omega
    · exact ⟨j, by omega, j2, fun i hi => (k3 i (by omega)).trans (j3 i hi), Or.inr ⟨by omega, by rw [k3 j e]; exact j4⟩⟩
theorem ltP_irrefl (n : Nat) (p : Nat → ByteArray) : ¬ LtP n p n p := ltP_over (Nat.le_refl _) (fun _ _ => rfl)
theorem ltP_asymm {n m : Nat} {p q : Nat → ByteArray} (h : LtP n p m q) : ¬ LtP m q n p := fun g => ltP_irrefl n p (ltP_trans h g)
theorem ltP_tri (n : Nat) (p : Nat → ByteArray) (m : Nat) (q : Nat → ByteArray) : LtP n p m q ∨ LtP m q n p ∨ (n = m ∧ ∀ i, i < n → p i = q i) := by
  have key : ∀ j, j ≤ n → j ≤ m → (∀ i, i < j → p i = q i) ∨ LtP n p m q ∨ LtP m q n p := by
    intro j
    induction j with
    | zero => exact fun _ _ => Or.inl (fun i hi => absurd hi (Nat.not_lt_zero _))
    | succ j ih =>
      intro hn hm
      rcases ih (by omega) (by omega) with h | h
      · by_cases e : p j = q j
        · refine Or.inl (fun i hi => ?_)
          by_cases e2 : i = j
          · subst e2; exact e
          · exact h i (by omega)
        · right
          cases hl : sLt (p j) (q j) with
          | true => exact Or.inl ((ltP_at h (by omega) (by omega) e).2 hl)
          | false => exact Or.inr ((ltP_at (fun i hi => (h i hi).symm) (by omega) (by omega) (fun x => e x.symm)).2 (sLt_total hl e))
      · exact Or.inr h
  by_cases hnm : n ≤ m
  · rcases key n (Nat.le_refl _) hnm with h | h | h
    · by_cases e : n < m
      · exact Or.inl ((ltP_end h).2 e)
      · exact Or.inr (Or.inr ⟨by omega, h⟩)
    · exact Or.inl h
    · exact Or.inr (Or.inl h)
  · rcases key m (by omega) (Nat.le_refl _) with h | h | h
    · exact Or.inr (Or.inl ((ltP_end (fun i hi => (h i hi).symm)).2 (by omega)))
    · exact Or.inl h
    · exact Or.inr (Or.inl h)
theorem ltP_co {n m o : Nat} {p q r : Nat → ByteArray} (h : LtP n p o r) : LtP n p m q ∨ LtP m q o r := by
  rcases ltP_tri n p m q with g | g | ⟨g1, g2⟩
  · exact Or.inl g
  · exact Or.inr (ltP_trans g h)
  · subst g1
    obtain ⟨k, k1, k2, k3, k4⟩ := h
    refine Or.inr ⟨k, k1, k2, fun i hi => (g2 i (by omega)).symm.trans (k3 i hi), ?_⟩
    rcases k4 with k4 | ⟨k5, k4⟩
    · exact Or.inl k4
    · exact Or.inr ⟨k5, by rw [← g2 k k5]; exact k4⟩
/-- One leaf's path is less than another one's. -/
def LtL (s t : Lf) : Prop := LtP s.n s.p t.n t.p
theorem sorted_unique {α : Type} {R : α → α → Prop} (asym : ∀ a b, R a b → ¬ R b a) : ∀ {S L : List α}, S.Perm L → S.Pairwise R → L.Pairwise R → S = L
  | [], L, h, _, _ => (List.Perm.nil_eq h)
  | a :: S, [], h, _, _ => absurd h.length_eq (by simp)
  | a :: S, b :: L, h, h1, h2 => by
    have ha : a ∈ b :: L := h.subset (List.mem_cons_self ..)
    have hb : b ∈ a :: S := h.symm.subset (List.mem_cons_self ..)
    have e : a = b := by
      rcases List.mem_cons.1 ha with e | ha
      · exact e
      · rcases List.mem_cons.1 hb with e | hb
        · exact e.symm
        · exact absurd ((List.pairwise_cons.1 h2).1 a ha) (asym _ _ ((List.pairwise_cons.1 h1).1 b hb))
    subst e
    rw [sorted_unique asym (h.cons_inv) (List.pairwise_cons.1 h1).2 (List.pairwise_cons.1 h2).2]
/-- How many leaves come ahead of z. -/
noncomputable def aheadF (z : Lf) : List Lf → Nat
  | [] => 0
  | t :: L => if tB (LtL t z) then aheadF z L + 1 else 0
theorem aheadF_le (z : Lf) : ∀ L, aheadF z L ≤ L.length
  | [] => Nat.le_refl _
  | t :: L => by
    have := aheadF_le z L
    unfold aheadF
    split <;> simp <;> omega
theorem aheadF_lt {z : Lf} : ∀ {L : List Lf} {i : Nat} (h : i < L.length), i < aheadF z L → LtL (L[i]) z
  | [], i, h, _ => absurd h (Nat.not_lt_zero _)
  | t :: L, i, h, g => by
    unfold aheadF at g
    by_cases ht : LtL t z
    · rw [if_pos (tB_t ht)] at g
      match i, h, g with
      | 0, _, _ => exact ht
      | i + 1, h, g => exact aheadF_lt (L := L) (by simpa using h) (by omega)
    · rw [if_neg (by simp [tB_f ht])] at g
      omega
theorem aheadF_at {z : Lf} : ∀ {L : List Lf} (h : aheadF z L < L.length), ¬ LtL (L[aheadF z L]) z
  | [], h => absurd h (Nat.not_lt_zero _)
  | t :: L, h => by
    by_cases ht : LtL t z
    · have e : aheadF z (t :: L) = aheadF z L + 1 := if_pos (tB_t ht)
      have h2 : aheadF z L < L.length := by rw [e] at h; simpa using h
      have := aheadF_at h2
      simpa [e] using this
    · have e : aheadF z (t :: L) = 0 := if_neg (by simp [tB_f ht])
      simpa [e] using ht
/-- z put to its place. -/
noncomputable def putF (z : Lf) (L : List Lf) : List Lf := L.take (aheadF z L) ++ z :: L.drop (aheadF z L)
theorem putF_perm (z : Lf) (L : List Lf) : (putF z L).Perm (z :: L) := by
  unfold putF
  have := List.perm_middle (a := z) (l₁ := L.take (aheadF z L)) (l₂ := L.drop (aheadF z L))
  rwa [List.take_append_drop] at this
theorem putF_sorted {z : Lf} {L : List Lf} (hs : L.Pairwise LtL) (hd : ∀ t, t ∈ L → LtL t z ∨ LtL z t) : (putF z L).Pairwise LtL := by
  unfold putF
  have hget := List.pairwise_iff_getElem.1 hs
  have hgt : ∀ t, t ∈ L.drop (aheadF z L) → LtL z t := by
    intro t ht
    obtain ⟨i, hi, rfl⟩ := List.mem_iff_getElem.1 ht
    have hlen : aheadF z L < L.length := by simp at hi; omega
    have h0 : LtL z (L[aheadF z L]) := by
      rcases hd _ (List.getElem_mem hlen) with h | h
      · exact absurd h (aheadF_at hlen)
      · exact h
    rw [List.getElem_drop]
    by_cases e : i = 0
    · subst e; simpa using h0
    · exact ltP_trans h0 (hget (aheadF z L) (aheadF z L + i) hlen (by simp at hi; omega) (by omega))
  have hlt : ∀ t, t ∈ L.take (aheadF z L) → LtL t z := by
    intro t ht
    obtain ⟨i, hi, rfl⟩ := List.mem_iff_getElem.1 ht
    rw [List.getElem_take]
    exact aheadF_lt _ (by simp at hi; omega)
  rw [List.pairwise_append]
  refine ⟨hs.sublist (List.take_sublist _ _), ?_, ?_⟩
  · rw [List.pairwise_cons]
    exact ⟨hgt, hs.sublist (List.drop_sublist _ _)⟩
  · intro a ha b hb
    rcases List.mem_cons.1 hb with rfl | hb
    · exact hlt a ha
    · exact ltP_trans (hlt a ha) (hgt b hb)
/-- What is kept beside a path. -/
noncomputable def keepF (T : Nat → Lf) (n : Nat) (p : Nat → ByteArray) (k : Nat) : List Lf := flt15 (fun i => ¬ Bg n p (T i).n (T i).p ∧ ¬ Bg (T i).n (T i).p n p) T k
theorem keepF_sorted {N : Nat} {T : Nat → Lf} (h : GC N T) (n : Nat) (p : Nat → ByteArray) : ∀ k, k ≤ N → (keepF T n p k).Pairwise LtL ∧ ∀ t, t ∈ keepF T n p k → ∃ i, i < k ∧ t = T i
  | 0, _ => ⟨List.Pairwise.nil, fun t ht => by simp [keepF, flt15] at ht⟩
  | k + 1, hk => by
    obtain ⟨h1, h2⟩ := keepF_sorted h n p k (by omega)
    have up : ∀ i j, i < j → j < N → LtL (T i) (T j) := by
      intro i j
      induction j with
      | zero => intro hij _; omega
      | succ j ih =>
        intro hij hj
        have h3 : LtL (T j) (T (j + 1)) := ((h.1 (j + 1) hj).2.2 (by omega)).1
        by_cases e : i = j
        · subst e; exact h3
        · exact ltP_trans (ih (by omega) (by omega)) h3
    by_cases hP : ¬ Bg n p (T k).n (T k).p ∧ ¬ Bg (T k).n (T k).p n p
    · have e : keepF T n p (k + 1) = keepF T n p k ++ [T k] := flt15_yes (P := fun i => ¬ Bg n p (T i).n (T i).p ∧ ¬ Bg (T i).n (T i).p n p) hP
      rw [e]
      refine ⟨?_, fun t ht => ?_⟩
      · rw [List.pairwise_append]
        refine ⟨h1, List.pairwise_singleton _ _, fun a ha b hb => ?_⟩
        obtain rfl : b = T k := by simpa using hb
        obtain ⟨i, hi, rfl⟩ := h2 a ha
        exact up i k hi (by omega)
      · rcases List.mem_append.1 ht with ht | ht
        · obtain ⟨i, hi, rfl⟩ := h2 t ht
          exact ⟨i, by omega, rfl⟩
        · exact ⟨k, by omega, by simpa using ht⟩
    · have e : keepF T n p (k + 1) = keepF T n p k := flt15_no (P := fun i => ¬ Bg n p (T i).n (T i).p ∧ ¬ Bg (T i).n (T i).p n p) hP
      rw [e]
      exact ⟨h1, fun t ht => by
        obtain ⟨i, hi, rfl⟩ := h2 t ht
        exact ⟨i, by omega, rfl⟩⟩
theorem keepF_apart {N : Nat} {T : Nat → Lf} {n : Nat} {p : Nat → ByteArray} {v : ByteArray} {t : Lf} (ht : t ∈ keepF T n p N) : LtL t ⟨n, p, v⟩ ∨ LtL ⟨n, p, v⟩ t := by
  obtain ⟨i, hi, hP, rfl⟩ := flt15_mem ht
  rcases ltP_tri (T i).n (T i).p n p with h | h | ⟨h1, h2⟩
  · exact Or.inl h
  · exact Or.inr h
  · exact absurd ⟨by omega, fun j hj => h2 j hj⟩ hP.2
/-- What is sorted is what was put to its place. -/
theorem sort_put {N : Nat} {T : Nat → Lf} (h : GC N T) {n : Nat} {p : Nat → ByteArray} {v : ByteArray} {S : List Lf} (hp : S.Perm (⟨n, p, v⟩ :: keepF T n p N)) (hs : S.Pairwise (fun a b => ¬ LtL b a)) : S = putF ⟨n, p, v⟩ (keepF T n p N) := by
  have h1 := keepF_sorted h n p N (Nat.le_refl _)
  have h2 := putF_sorted (z := ⟨n, p, v⟩) h1.1 (fun t ht => keepF_apart ht)
  have hp2 := hp.trans (putF_perm ⟨n, p, v⟩ (keepF T n p N)).symm
  have hdist : (putF ⟨n, p, v⟩ (keepF T n p N)).Pairwise (fun a b => LtL a b ∨ LtL b a) := h2.imp Or.inl
  have hS : S.Pairwise (fun a b => LtL a b ∨ LtL b a) := (List.Perm.pairwise_iff (fun {a b} hab => hab.symm) hp2).2 hdist
  refine sorted_unique (R := LtL) (fun a b hab => ltP_asymm hab) hp2 ?_ h2
  exact hS.imp₂ (fun a b hab hn => hab.resolve_right hn) hs
/-- What SetAt answers. -/
noncomputable def setA (N : Nat) (T : Nat → Lf) (n : Nat) (p : Nat → ByteArray) (v : ByteArray) : List Lf × Bool :=
  if tB (GC N T ∧ Pw n p ∧ Wd v ∧ GC (putF ⟨n, p, v⟩ (keepF T n p N)).length (TF (putF ⟨n, p, v⟩ (keepF T n p N)))) then (putF ⟨n, p, v⟩ (keepF T n p N), true) else ([], false)
end Go.Proofs.YtnficndeblkjhaaGreatDoor

/- How great the list is that SetAt answers. -/
namespace Go.Proofs.YtnficndeblkjhaaGreatDoor
open Go.RowKit

theorem sumF_put (z : Lf) (L : List Lf) : sumF (putF z L) = z.n + sumF L := by
  unfold putF
  have h : sumF L = sumF (L.take (aheadF z L)) + sumF (L.drop (aheadF z L)) := by rw [← sumF_app, List.take_append_drop]
  rw [sumF_app, h]
  simp only [sumF]
  omega
theorem setA_small {N : Nat} {T : Nat → Lf} (h : LowF N T) {n : Nat} {p : Nat → ByteArray} {v : ByteArray} (hz : OkF ⟨n, p, v⟩ 1048576) : (setA N T n p v).1.length ≤ 30 ∧ sumF (setA N T n p v).1 ≤ n + totF T N ∧ ∀ t, t ∈ (setA N T n p v).1 → OkF t 1048576 := by
  unfold setA
  by_cases e : GC N T ∧ Pw n p ∧ Wd v ∧ GC (putF ⟨n, p, v⟩ (keepF T n p N)).length (TF (putF ⟨n, p, v⟩ (keepF T n p N)))
  · rw [if_pos (tB_t e)]
    refine ⟨e.2.2.2.2, ?_, fun t ht => ?_⟩
    · show sumF (putF ⟨n, p, v⟩ (keepF T n p N)) ≤ _
      rw [sumF_put]
      have h1 : sumF (keepF T n p N) ≤ totF T N := flt15_sum (fun _ => Nat.le_refl _) _
      show n + _ ≤ _
      omega
    · have h2 := (putF_perm _ _).subset ht
      rcases List.mem_cons.1 h2 with rfl | h2
      · exact hz
      · obtain ⟨i, hi, _, rfl⟩ := flt15_mem h2
        exact h i hi
  · rw [if_neg (by simp [tB_f e])]
    exact ⟨Nat.zero_le _, Nat.zero_le _, fun t ht => by simp at ht⟩
end Go.Proofs.YtnficndeblkjhaaGreatDoor

/- Commands in memory: compared; lists of one's own. -/
namespace Go.Proofs.YtnficndeblkjhaaGreatDoor
open Go.RowKit

/-- A command: whether it sets, its path and its value. -/
structure Cm15 where
  s : Bool
  t : Lf
def cm0 : Cm15 := ⟨false, lf0⟩
/-- N commands at a. -/
def RowC (a : Option Addr) (N : Nat) (U : Nat → Cm15) (w : World) : Prop := ∀ i, i < N → ∃ (b off : Nat) (a0 : Option Addr) (c0 : Nat), a = some ⟨b, off, none⟩ ∧ b < w.heap.size ∧
  w.cell? ⟨b, off + i * 3, none⟩ = some (.bool (U i).s) ∧ w.cell? ⟨b, off + i * 3 + 1, none⟩ = some (.slice a0 (U i).t.n c0) ∧ w.cell? ⟨b, off + i * 3 + 2, none⟩ = some (.string (U i).t.v) ∧ (U i).t.n ≤ c0 ∧ RowStr a0 (U i).t.n (U i).t.p w
theorem RowC.below {a : Option Addr} {N : Nat} {U : Nat → Cm15} {w w' : World} (h : RowC a N U w) (k : Below w.heap.size w w') : RowC a N U w' := by
  intro i hi
  obtain ⟨b, off, a0, c0, ha, hb, h0, h1, h2, hK, ht⟩ := h i hi
  obtain ⟨hc, _⟩ := bcell k
  exact ⟨b, off, a0, c0, ha, Nat.lt_of_lt_of_le hb k.size, (hc _ _ hb).trans h0, (hc _ _ hb).trans h1, (hc _ _ hb).trans h2, hK, ht.below k⟩
/-- The command at a place. -/
def TC (L : List Cm15) (i : Nat) : Cm15 := L.getD i cm0
theorem TC_eq {L : List Cm15} {i : Nat} (h : i < L.length) : TC L i = L[i] := by
  unfold TC
  rw [List.getD_eq_getElem?_getD, List.getElem?_eq_getElem h]
  rfl
/-- A command, the block of its path, and the room in it. -/
structure EC15 where
  s : Bool
  t : Lf
  x : Nat
  k : Nat
def EC15.c (e : EC15) : Cm15 := ⟨e.s, e.t⟩
def ecf (e : EC15) : List Value := [.bool e.s, .slice (some ⟨e.x, 0, none⟩) e.t.n e.k, .string e.t.v]
def ecs : List EC15 → List Value
  | [] => []
  | e :: L => ecf e ++ ecs L
theorem ecs_app : ∀ (L : List EC15) (e : EC15), ecs (L ++ [e]) = ecs L ++ ecf e
  | [], e => by simp [ecs]
  | x :: L, e => by simp [ecs, ecs_app L e]
theorem ecs_at : ∀ {L : List EC15} {i : Nat} (h : i < L.length), (ecs L)[i * 3]? = some (.bool (L[i]).s) ∧ (ecs L)[i * 3 + 1]? = some (.slice (some ⟨(L[i]).x, 0, none⟩) (L[i]).t.n (L[i]).k) ∧ (ecs L)[i * 3 + 2]? = some (.string (L[i]).t.v)
  | [], i, h => absurd h (Nat.not_lt_zero _)
  | x :: L, 0, _ => ⟨rfl, rfl, rfl⟩
  | x :: L, i + 1, h => by
    have hi : i < L.length := by simpa using h
    obtain ⟨h1, h2, h3⟩ := ecs_at hi
    have e : ecs (x :: L) = .bool x.s :: .slice (some ⟨x.x, 0, none⟩) x.t.n x.k :: .string x.t.v :: ecs L := rfl
    rw [e]
    exact ⟨by rw [show (i + 1) * 3 = i * 3 + 1 + 1 + 1 by omega]; simpa using h1, by rw [show (i + 1) * 3 + 1 = i * 3 + 1 + 1 + 1 + 1 by omega]; simpa using h2, by rw [show (i + 1) * 3 + 2 = i * 3 + 2 + 1 + 1 + 1 by omega]; simpa using h3⟩
theorem ecf_one (e : EC15) : ∀ u ∈ ecf e, u.oneCell' = true := by
  intro u hu
  simp only [ecf, List.mem_cons, List.not_mem_nil, or_false] at hu
  rcases hu with rfl | rfl | rfl <;> rfl
end Go.Proofs.YtnficndeblkjhaaGreatDoor

/- DoCommands in plain words: one command behind the other. -/
namespace Go.Proofs.YtnficndeblkjhaaGreatDoor
open Go.RowKit

/-- Great enough for nothing: at most 30 leaves, each of few words. -/
def OkD (D : List Lf) : Prop := D.length ≤ 30 ∧ ∀ t, t ∈ D → 1 ≤ t.n ∧ t.n ≤ 5 ∧ OkF t 1048576
theorem OkD.nil : OkD [] := ⟨Nat.zero_le _, fun t h => by simp at h⟩
theorem okD_leaf {t : Lf} (hp : Pw t.n t.p) (hv : Wd t.v) : 1 ≤ t.n ∧ t.n ≤ 5 ∧ OkF t 1048576 :=
  ⟨hp.1, hp.2.1, by have := hp.2.1; omega, fun i hi => Nat.le_trans (hp.2.2 i hi).2.1 (by omega), Nat.le_trans hv.2.1 (by omega)⟩
theorem OkD.low {D : List Lf} (h : OkD D) : LowF D.length (TF D) := lowF_TF (fun t ht => (h.2 t ht).2.2)
theorem OkD.sum {D : List Lf} (h : ∀ t, t ∈ D → 1 ≤ t.n ∧ t.n ≤ 5 ∧ OkF t 1048576) : sumF D ≤ 5 * D.length := by
  induction D with
  | nil => exact Nat.zero_le _
  | cons t D ih =>
    have h1 := (h t (List.mem_cons_self ..)).2.1
    have h2 := ih (fun z hz => h z (List.mem_cons_of_mem _ hz))
    simp only [sumF, List.length_cons]
    omega
theorem okD_set (N : Nat) (T : Nat → Lf) (n : Nat) (p : Nat → ByteArray) (v : ByteArray) : OkD (setA N T n p v).1 := by
  unfold setA
  by_cases e : GC N T ∧ Pw n p ∧ Wd v ∧ GC (putF ⟨n, p, v⟩ (keepF T n p N)).length (TF (putF ⟨n, p, v⟩ (keepF T n p N)))
  · rw [if_pos (tB_t e)]
    refine ⟨e.2.2.2.2, fun t ht => ?_⟩
    obtain ⟨i, hi, he⟩ := List.getElem_of_mem ht
    have h1 := e.2.2.2.1 i hi
    rw [OkL, TF_eq hi, he] at h1
    exact okD_leaf h1.1 h1.2.1
  · rw [if_neg (by simp [tB_f e])]
    exact OkD.nil
theorem okD_del (N : Nat) (T : Nat → Lf) (n : Nat) (p : Nat → ByteArray) : OkD (delA N T n p).1 := by
  unfold delA
  by_cases e : GC N T ∧ Pw n p ∧ (delL N T n p).length ≠ N
  · rw [if_pos (tB_t e)]
    have hlen : (delL N T n p).length ≤ N := by
      have h0 : SmallF N (fun i => T i) (delL N T n p) := SmallF.flt (fun i hi => (okD_leaf (e.1.1 i hi).1 (e.1.1 i hi).2.1).2.2) (fun _ => Nat.le_refl _)
      exact h0.1
    refine ⟨Nat.le_trans hlen e.1.2, fun t ht => ?_⟩
    obtain ⟨i, hi, _, rfl⟩ := flt15_mem ht
    exact okD_leaf (e.1.1 i hi).1 (e.1.1 i hi).2.1
  · rw [if_neg (by simp [tB_f e])]
    exact OkD.nil
theorem okD_lsF {N : Nat} {T : Nat → Lf} (h : GC N T) : OkD (lsF N T) := by
  refine ⟨by rw [lsF_len]; exact h.2, fun t ht => ?_⟩
  simp only [lsF, List.mem_map, List.mem_range] at ht
  obtain ⟨i, hi, rfl⟩ := ht
  exact okD_leaf (h.1 i hi).1 (h.1 i hi).2.1
theorem setA_no {N : Nat} {T : Nat → Lf} {n : Nat} {p : Nat → ByteArray} {v : ByteArray} (h : (setA N T n p v).2 = false) : (setA N T n p v).1 = [] := by
  unfold setA at h ⊢
  split at h <;> simp_all
theorem delA_no {N : Nat} {T : Nat → Lf} {n : Nat} {p : Nat → ByteArray} (h : (delA N T n p).2 = false) : (delA N T n p).1 = [] := by
  unfold delA at h ⊢
  split at h <;> simp_all
/-- One command done to leaves. -/
noncomputable def stepC (u : Cm15) (D : List Lf) : List Lf × Bool :=
  if u.s = true then setA D.length (TF D) u.t.n u.t.p u.t.v else if u.t.v.toList = [] then delA D.length (TF D) u.t.n u.t.p else ([], false)
theorem stepC_ok (u : Cm15) (D : List Lf) : OkD (stepC u D).1 := by
  unfold stepC
  split
  · exact okD_set _ _ _ _ _
  · split
    · exact okD_del _ _ _ _
    · exact OkD.nil
theorem stepC_no {u : Cm15} {D : List Lf} (h : (stepC u D).2 = false) : (stepC u D).1 = [] := by
  unfold stepC at h ⊢
  split at h
  · rename_i e; rw [if_pos e]; exact setA_no h
  · rename_i e
    rw [if_neg e]
    split at h
    · rename_i e; rw [if_pos e]; exact delA_no h
    · rename_i e; rw [if_neg e]
/-- The first k commands done. -/
noncomputable def runC (C : Nat → Cm15) (D : List Lf) : Nat → List Lf × Bool
  | 0 => (D, true)
  | k + 1 => if (runC C D k).2 = true then stepC (C k) (runC C D k).1 else ([], false)
theorem runC_ok (C : Nat → Cm15) {D : List Lf} (h : OkD D) : ∀ k, OkD (runC C D k).1
  | 0 => h
  | k + 1 => by
    unfold runC
    split
    · exact stepC_ok _ _
    · exact OkD.nil
theorem runC_no {C : Nat → Cm15} {D : List Lf} {k : Nat} (h : (runC C D k).2 = false) : (runC C D k).1 = [] := by
  cases k with
  | zero => simp [runC] at h
  | succ k =>
    unfold runC at h ⊢
    split at h
    · rename_i e; rw [if_pos e]; exact stepC_no h
    · rename_i e; rw [if_neg e]
theorem runC_stop {C : Nat → Cm15} {D : List Lf} {k : Nat} (h : (runC C D k).2 = false) : ∀ j, runC C D (k + j) = ([], false)
  | 0 => Prod.ext (runC_no h) h
  | j + 1 => by
    rw [show k + (j + 1) = (k + j) + 1 by omega]
    unfold runC
    rw [runC_stop h j]
    rfl
theorem runC_next {C : Nat → Cm15} {D : List Lf} {k : Nat} (h : (runC C D k).2 = true) : runC C D (k + 1) = stepC (C k) (runC C D k).1 := by
  show (if (runC C D k).2 = true then _ else _) = _
  rw [if_pos h]
/-- What DoCommands answers. -/
noncomputable def docA (N : Nat) (T : Nat → Lf) (m : Nat) (C : Nat → Cm15) : List Lf × Bool := if tB (GC N T ∧ m ≤ 80) then runC C (lsF N T) m else ([], false)
theorem docA_ok (N : Nat) (T : Nat → Lf) (m : Nat) (C : Nat → Cm15) : OkD (docA N T m C).1 := by
  unfold docA
  by_cases e : GC N T ∧ m ≤ 80
  · rw [if_pos (tB_t e)]
    exact runC_ok C (okD_lsF e.1) m
  · rw [if_neg (by simp [tB_f e])]
    exact OkD.nil
theorem docA_small (N : Nat) (T : Nat → Lf) (m : Nat) (C : Nat → Cm15) : (docA N T m C).1.length ≤ 30 ∧ sumF (docA N T m C).1 ≤ 150 ∧ ∀ t, t ∈ (docA N T m C).1 → OkF t 1048576 := by
  have h := docA_ok N T m C
  exact ⟨h.1, by have := OkD.sum h.2; have := h.1; omega, fun t ht => (h.2 t ht).2.2⟩
end Go.Proofs.YtnficndeblkjhaaGreatDoor

/- One op of a store, in plain words. -/
namespace Go.Proofs.YtnficndeblkjhaaGreatDoor
open Go.RowKit

/-- An op: its kind, its path, its value, its number. -/
structure OpX where
  k : Int
  n : Nat
  p : Nat → ByteArray
  v : ByteArray
  N : Int
/-- A list of leaves as a configuration. -/
def cfL (L : List Lf) : Cf := ⟨L.length, TF L⟩
/-- What runs is confirmed. -/
noncomputable def conS (s : Sto) : Sto := if tB (SameC s.R (s.H 0)) then ⟨s.C, s.R, s.h, s.H, 0⟩ else ⟨s.C, s.R, min (s.h + 1) 10, fun i => if i = 0 then s.R else s.H (i - 1), 0⟩
/-- Nothing is told beside the kind and the number. -/
def BareX (o : OpX) : Prop := o.n = 0 ∧ o.v.toList = []
/-- What an op has no use for is set. -/
def NeedX (o : OpX) : Prop := (o.k = 1 ∧ o.N = 0) ∨ (o.k = 2 ∧ o.v.toList = [] ∧ o.N = 0) ∨ (o.k ≠ 1 ∧ o.k ≠ 2 ∧ BareX o ∧ (o.k = 4 ∨ o.k = 6 ∨ o.N = 0))
/-- One op done, by kinds. -/
noncomputable def opX (s : Sto) (o : OpX) : Sto × Bool :=
  if o.k = 1 then (if (setA s.C.n s.C.T o.n o.p o.v).2 = true then (⟨cfL (setA s.C.n s.C.T o.n o.p o.v).1, s.R, s.h, s.H, s.l⟩, true) else (s, false))
  else if o.k = 2 then (if (delA s.C.n s.C.T o.n o.p).2 = true then (⟨cfL (delA s.C.n s.C.T o.n o.p).1, s.R, s.h, s.H, s.l⟩, true) else (s, false))
  else if o.k = 3 then (conS ⟨s.C, s.C, s.h, s.H, s.l⟩, true)
  else if o.k = 4 then (if 1 ≤ o.N ∧ o.N ≤ 100 then (⟨s.C, s.C, s.h, s.H, if tB (SameC s.C (s.H 0)) then 0 else o.N⟩, true) else (s, false))
  else if o.k = 5 then (if s.l = 0 then (s, false) else (conS s, true))
  else if o.k = 6 then (if 0 ≤ o.N ∧ o.N < s.h then (⟨s.H o.N.toNat, s.R, s.h, s.H, s.l⟩, true) else (s, false))
  else if o.k = 7 then (⟨s.R, s.R, s.h, s.H, s.l⟩, true)
  else if o.k = 8 then (if s.l = 0 then (s, false) else if s.l - 1 = 0 then (⟨s.C, s.H 0, s.h, s.H, 0⟩, true) else (⟨s.C, s.R, s.h, s.H, s.l - 1⟩, true))
  else (s, false)
/-- One op done. -/
noncomputable def stepX (s : Sto) (o : OpX) : Sto × Bool := if tB (NeedX o) then opX s o else (s, false)
theorem stepX_no {s : Sto} {o : OpX} (h : ¬ NeedX o) : stepX s o = (s, false) := if_neg (by simp [tB_f h])
theorem stepX_yes {s : Sto} {o : OpX} (h : NeedX o) : stepX s o = opX s o := if_pos (tB_t h)
theorem opX_1 {s : Sto} {o : OpX} (h : o.k = 1) : opX s o = if (setA s.C.n s.C.T o.n o.p o.v).2 = true then (⟨cfL (setA s.C.n s.C.T o.n o.p o.v).1, s.R, s.h, s.H, s.l⟩, true) else (s, false) := by unfold opX; rw [if_pos h]
theorem opX_2 {s : Sto} {o : OpX} (h : o.k = 2) : opX s o = if (delA s.C.n s.C.T o.n o.p).2 = true then (⟨cfL (delA s.C.n s.C.T o.n o.p).1, s.R, s.h, s.H, s.l⟩, true) else (s, false) := by unfold opX; rw [if_neg (by omega), if_pos h]
theorem opX_3 {s : Sto} {o : OpX} (h : o.k = 3) : opX s o = (conS ⟨s.C, s.C, s.h, s.H, s.l⟩, true) := by unfold opX; rw [if_neg (by omega), if_neg (by omega), if_pos h]
theorem opX_4 {s : Sto} {o : OpX} (h : o.k = 4) : opX s o = if 1 ≤ o.N ∧ o.N ≤ 100 then (⟨s.C, s.C, s.h, s.H, if tB (SameC s.C (s.H 0)) then 0 else o.N⟩, true) else (s, false) := by unfold opX; rw [if_neg (by omega), if_neg (by omega), if_neg (by omega), if_pos h]
theorem opX_5 {s : Sto} {o : OpX} (h : o.k = 5) : opX s o = if s.l = 0 then (s, false) else (conS s, true) := by unfold opX; rw [if_neg (by omega), if_neg (by omega), if_neg (by omega), if_neg (by omega), if_pos h]
theorem opX_6 {s : Sto} {o : OpX} (h : o.k = 6) : opX s o = if 0 ≤ o.N ∧ o.N < s.h then (⟨s.H o.N.toNat, s.R, s.h, s.H, s.l⟩, true) else (s, false) := by unfold opX; rw [if_neg (by omega), if_neg (by omega), if_neg (by omega), if_neg (by omega), if_neg (by omega), if_pos h]
theorem opX_7 {s : Sto} {o : OpX} (h : o.k = 7) : opX s o = (⟨s.R, s.R, s.h, s.H, s.l⟩, true) := by unfold opX; rw [if_neg (by omega), if_neg (by omega), if_neg (by omega), if_neg (by omega), if_neg (by omega), if_neg (by omega), if_pos h]
theorem opX_8 {s : Sto} {o : OpX} (h : o.k = 8) : opX s o = if s.l = 0 then (s, false) else if s.l - 1 = 0 then (⟨s.C, s.H 0, s.h, s.H, 0⟩, true) else (⟨s.C, s.R, s.h, s.H, s.l - 1⟩, true) := by unfold opX; rw [if_neg (by omega), if_neg (by omega), if_neg (by omega), if_neg (by omega), if_neg (by omega), if_neg (by omega), if_neg (by omega), if_pos h]
theorem opX_9 {s : Sto} {o : OpX} (h : ¬ (1 ≤ o.k ∧ o.k ≤ 8)) : opX s o = (s, false) := by unfold opX; rw [if_neg (by omega), if_neg (by omega), if_neg (by omega), if_neg (by omega), if_neg (by omega), if_neg (by omega), if_neg (by omega), if_neg (by omega)]
/-- A configuration of at most 30 leaves, each of few words. -/
def OkC (c : Cf) : Prop := c.n ≤ 30 ∧ ∀ i, i < c.n → 1 ≤ (c.T i).n ∧ (c.T i).n ≤ 5 ∧ OkF (c.T i) 1048576
theorem OkC.of {L : List Lf} (h : OkD L) : OkC (cfL L) := ⟨h.1, fun i hi => by
  have e : (cfL L).T i = L[i] := TF_eq hi
  rw [e]
  exact h.2 _ (List.getElem_mem hi)⟩
theorem GC.ok {n : Nat} {T : Nat → Lf} (h : GC n T) : OkC ⟨n, T⟩ := ⟨h.2, fun i hi => okD_leaf (h.1 i hi).1 (h.1 i hi).2.1⟩
theorem OkC.own {c : Cf} (h : OkC c) : OwnC c := ⟨Nat.le_trans h.1 (by omega), fun i hi => ⟨(h.2 i hi).1, Nat.le_trans (h.2 i hi).2.1 (by omega)⟩⟩
theorem OkC.low {c : Cf} (h : OkC c) : c.n ≤ 1048576 ∧ LowF c.n c.T := ⟨Nat.le_trans h.1 (by omega), fun i hi => (h.2 i hi).2.2⟩
/-- A store of such configurations. -/
def OkS (s : Sto) : Prop := OkC s.C ∧ OkC s.R ∧ 1 ≤ s.h ∧ s.h ≤ 10 ∧ (∀ i, i < s.h → OkC (s.H i)) ∧ 0 ≤ s.l ∧ s.l ≤ 100
theorem GS.ok {s : Sto} (h : GS s) : OkS s := ⟨GC.ok h.1, GC.ok h.2.1, h.2.2.1, h.2.2.2.1, fun i hi => GC.ok (h.2.2.2.2.1 i hi), by rcases h.2.2.2.2.2 with q | q <;> omega, by rcases h.2.2.2.2.2 with q | q <;> omega⟩
theorem OkS.own {s : Sto} (h : OkS s) : OwnSt s := ⟨h.1.own, h.2.1.own, by have := h.2.2.2.1; omega, fun i hi => (h.2.2.2.2.1 i hi).own⟩
theorem conS_ok {s : Sto} (h : OkS s) : OkS (conS s) := by
  obtain ⟨h1, h2, h3, h4, h5, h6, h7⟩ := h
  unfold conS
  split
  · exact ⟨h1, h2, h3, h4, h5, by show (0 : Int) ≤ 0; omega, by show (0 : Int) ≤ 100; omega⟩
  · refine ⟨h1, h2, ?_, ?_, fun i hi => ?_, by show (0 : Int) ≤ 0; omega, by show (0 : Int) ≤ 100; omega⟩
    · show 1 ≤ min (s.h + 1) 10; omega
    · show min (s.h + 1) 10 ≤ 10; omega
    · have hi : i < min (s.h + 1) 10 := hi
      show OkC (if i = 0 then s.R else s.H (i - 1))
      split
      · exact h2
      · exact h5 _ (by omega)
theorem opX_ok {s : Sto} {o : OpX} (h : OkS s) : OkS (opX s o).1 := by
  have hs := h
  obtain ⟨h1, h2, h3, h4, h5, h6, h7⟩ := h
  unfold opX
  repeat' split
  all_goals first
    | exact hs
    | exact ⟨OkC.of (okD_set _ _ _ _ _), h2, h3, h4, h5, h6, h7⟩
    | exact ⟨OkC.of (okD_del _ _ _ _), h2, h3, h4, h5, h6, h7⟩
    | exact conS_ok ⟨h1, h1, h3, h4, h5, h6, h7⟩
    | exact conS_ok hs
    | exact ⟨h2, h2, h3, h4, h5, h6, h7⟩
    | exact ⟨h5 _ (by omega), h2, h3, h4, h5, h6, h7⟩
    | exact ⟨h1, h5 0 (by omega), h3, h4, h5, by show (0 : Int) ≤ 0; omega, by show (0 : Int) ≤ 100; omega⟩
    | exact ⟨h1, h2, h3, h4, h5, by show 0 ≤ s.l - 1; omega, by show s.l - 1 ≤ 100; omega⟩
    | skip
  all_goals (refine ⟨h1, h1, h3, h4, h5, ?_, ?_⟩ <;> (dsimp only; omega))
theorem stepX_ok {s : Sto} {o : OpX} (h : OkS s) : OkS (stepX s o).1 := by
  unfold stepX
  split
  · exact opX_ok h
  · exact h
end Go.Proofs.YtnficndeblkjhaaGreatDoor

/- Commands as an answer: marked, looked at again. -/
namespace Go.Proofs.YtnficndeblkjhaaGreatDoor
open Go.RowKit

/-- N leaves in block g, that may be written; path i lies in block X i, with room K i. -/
def OneCA (g : Nat) (X K : Nat → Nat) (T : Nat → Cm15) (w : World) (i : Nat) : Prop := MutF w g (i * 3) [.bool (T i).s, .slice (some ⟨X i, 0, none⟩) (T i).t.n (K i), .string (T i).t.v] ∧ (T i).t.n ≤ K i ∧ OutStr (X i) (T i).t.n (T i).t.n (T i).t.p w
def RowCA (g N : Nat) (X K : Nat → Nat) (T : Nat → Cm15) (w : World) : Prop := ∀ i, i < N → OneCA g X K T w i
theorem RowCA.below {g N : Nat} {X K : Nat → Nat} {T : Nat → Cm15} {w w' : World} (h : RowCA g N X K T w) (b : Below w.heap.size w w') : RowCA g N X K T w' := fun i hi => ⟨(h i hi).1.below b, (h i hi).2.1, (h i hi).2.2.below b⟩
theorem RowCA.onlyP {P : Nat → Prop} {g N : Nat} {X K : Nat → Nat} {T : Nat → Cm15} {w w' : World} (h : RowCA g N X K T w) (b : OnlyP P w w') (hP : ∀ k, BlkF g N X k → ¬ P k) : RowCA g N X K T w' :=
  fun i hi => ⟨(h i hi).1.onlyP b (hP _ (Or.inl rfl)), (h i hi).2.1, (h i hi).2.2.onlyP b (hP _ (Or.inr ⟨i, hi, rfl⟩))⟩
theorem RowCA.row {g N : Nat} {X K : Nat → Nat} {T : Nat → Cm15} {w : World} (h : RowCA g N X K T w) : RowC (some ⟨g, 0, none⟩) N T w := by
  intro i hi
  obtain ⟨M, h2, o⟩ := h i hi
  exact ⟨g, 0, _, _, rfl, M.1, by rw [Nat.zero_add]; exact M.2.1 0 _ rfl, by rw [Nat.zero_add]; exact M.2.1 1 _ rfl, by rw [Nat.zero_add]; exact M.2.1 2 _ rfl, h2, o.row⟩
/-- How many words the first k commands have. -/
def totC (T : Nat → Cm15) : Nat → Nat
  | 0 => 0
  | k + 1 => totC T k + (T k).t.n
theorem totC_mono (T : Nat → Cm15) {k n : Nat} (h : k ≤ n) : totC T k ≤ totC T n := by
  induction n with
  | zero => have : k = 0 := by omega
            subst this; exact Nat.le_refl _
  | succ n ih =>
    by_cases e : k = n + 1
    · subst e; exact Nat.le_refl _
    · exact Nat.le_trans (ih (by omega)) (Nat.le_add_right _ _)
/-- A marked command, from k on. -/
def mkCm (k : Nat) (t : Cm15) : Cm15 := ⟨((k : Int) % 3 == 0), ⟨t.t.n, fun j => mt (k + 1 + j), mt (k + 1 + t.t.n)⟩⟩
/-- The first mark of command i. -/
def kmC (k0 : Nat) (T : Nat → Cm15) (i : Nat) : Nat := k0 + 2 * i + totC T i
theorem kmC_succ (k0 : Nat) (T : Nat → Cm15) (i : Nat) : ((kmC k0 T (i + 1) : Nat) : Int) = (kmC k0 T i : Int) + 1 + ((T i).t.n : Int) + 1 := by
  unfold kmC
  have h2 : totC T (i + 1) = totC T i + (T i).t.n := rfl
  omega
theorem kmC_le (k0 : Nat) (T : Nat → Cm15) {k n : Nat} (h : k ≤ n) (hn : n ≤ 2097152) (ht : totC T n ≤ 2097152) (h0 : k0 ≤ 10000000) : kmC k0 T k ≤ 20000000 := by
  unfold kmC
  have := totC_mono T h
  omega
def halfC (k0 : Nat) (T : Nat → Cm15) (k : Nat) (i : Nat) : Cm15 := if i < k then mkCm (kmC k0 T i) (T i) else T i
theorem halfC_lt {k0 : Nat} {T : Nat → Cm15} {k i : Nat} (h : i < k) : halfC k0 T k i = mkCm (kmC k0 T i) (T i) := if_pos h
theorem halfC_ge {k0 : Nat} {T : Nat → Cm15} {k i : Nat} (h : ¬ i < k) : halfC k0 T k i = T i := if_neg h
theorem halfC_zero (k0 : Nat) (T : Nat → Cm15) : halfC k0 T 0 = T := by
  funext i
  exact halfC_ge (by omega)
theorem halfC_other {k0 : Nat} {T : Nat → Cm15} {k i : Nat} (h : i ≠ k) : halfC k0 T (k + 1) i = halfC k0 T k i := by
  unfold halfC
  by_cases e : i < k
  · rw [if_pos e, if_pos (by omega)]
  · rw [if_neg e, if_neg (by omega)]
/-- All but leaf k. -/
def OthC (g N : Nat) (X K : Nat → Nat) (T : Nat → Cm15) (k : Nat) (w : World) : Prop := ∀ i, i < N → i ≠ k → OneCA g X K T w i
theorem OthC.onlyP {P : Nat → Prop} {g N : Nat} {X K : Nat → Nat} {T : Nat → Cm15} {k : Nat} {w w' : World} (h : OthC g N X K T k w) (b : OnlyP P w w') (hg : ¬ P g) (hP : ∀ i, i < N → i ≠ k → ¬ P (X i)) : OthC g N X K T k w' :=
  fun i hi hne => ⟨(h i hi hne).1.onlyP b hg, (h i hi hne).2.1, (h i hi hne).2.2.onlyP b (hP i hi hne)⟩
theorem OthC.below {g N : Nat} {X K : Nat → Nat} {T : Nat → Cm15} {k : Nat} {w w' : World} (h : OthC g N X K T k w) (b : Below w.heap.size w w') : OthC g N X K T k w' :=
  fun i hi hne => ⟨(h i hi hne).1.below b, (h i hi hne).2.1, (h i hi hne).2.2.below b⟩
theorem OthC.set {g N : Nat} {X K : Nat → Nat} {T : Nat → Cm15} {k : Nat} {w : World} (h : OthC g N X K T k w) (hs : SepF g N X) (j : Nat) (hj : j < 3) (v : Value) : OthC g N X K T k (w.setCell ⟨g, k * 3 + j, none⟩ v) := by
  intro i hi hne
  obtain ⟨M, h2, o⟩ := h i hi hne
  refine ⟨M.far ?_ v, h2, o.other (hs i hi).1 _ _⟩
  show k * 3 + j < i * 3 ∨ i * 3 + 3 ≤ k * 3 + j
  omega
theorem RowCA.step {g N : Nat} {X K : Nat → Nat} {T : Nat → Cm15} {k0 k : Nat} {w : World} (h : OthC g N X K (halfC k0 T k) k w) (M : OneCA g X K (fun _ => mkCm (kmC k0 T k) (T k)) w k) : RowCA g N X K (halfC k0 T (k + 1)) w := by
  intro i hi
  unfold OneCA
  by_cases e : i = k
  · subst e
    rw [halfC_lt (Nat.lt_succ_self i)]
    exact M
  · rw [halfC_other e]
    exact h i hi e
/-- N leaves at va; their blocks are P's. -/
def AnsC (va : Option Addr) (N : Nat) (T : Nat → Cm15) (P : Nat → Prop) (w : World) : Prop := RowC va N T w ∧ (N = 0 ∨ ∃ g X K, va = some ⟨g, 0, none⟩ ∧ RowCA g N X K T w ∧ SepF g N X ∧ ∀ k, BlkF g N X k → P k)
theorem AnsC.below {va : Option Addr} {N : Nat} {T : Nat → Cm15} {P : Nat → Prop} {w w' : World} (h : AnsC va N T P w) (b : Below w.heap.size w w') : AnsC va N T P w' := by
  refine ⟨h.1.below b, ?_⟩
  rcases h.2 with h | ⟨g, X, K, h1, h2, h3, h4⟩
  · exact .inl h
  · exact .inr ⟨g, X, K, h1, h2.below b, h3, h4⟩
theorem AnsC.onlyP {S : Nat → Prop} {va : Option Addr} {N : Nat} {T : Nat → Cm15} {P : Nat → Prop} {w w' : World} (h : AnsC va N T P w) (b : OnlyP S w w') (hS : ∀ k, P k → ¬ S k) : AnsC va N T P w' := by
  rcases h.2 with rfl | ⟨g, X, K, rfl, h2, h3, h4⟩
  · exact ⟨fun _ hi => absurd hi (Nat.not_lt_zero _), .inl rfl⟩
  · have q := h2.onlyP b (fun k hk => hS k (h4 k hk))
    exact ⟨q.row, .inr ⟨g, X, K, rfl, q, h3, h4⟩⟩
end Go.Proofs.YtnficndeblkjhaaGreatDoor

/- What leads from one configuration to another, in plain words. -/
namespace Go.Proofs.YtnficndeblkjhaaGreatDoor
open Go.RowKit

theorem valA_no {N : Nat} {T : Nat → Lf} {n : Nat} {p : Nat → ByteArray} (h : (valA N T n p).2 = false) : (valA N T n p).1 = ⟨#[]⟩ := by
  unfold valA at h ⊢
  cases e : fst15 (fun i => SameP (T i) n p) N with
  | none => rfl
  | some i => rw [e] at h; cases h
theorem fst15_lt {P : Nat → Prop} : ∀ {n i : Nat}, fst15 P n = some i → i < n
  | 0, i, h => by cases h
  | n + 1, i, h => by
    have h' : (match fst15 P n with | some i => some i | none => if tB (P n) then some n else none) = some i := h
    cases e : fst15 P n with
    | some j =>
      rw [e] at h'
      simp at h'
      subst h'
      have := fst15_lt e
      omega
    | none =>
      rw [e] at h'
      dsimp only at h'
      by_cases hb : tB (P n) = true
      · rw [if_pos hb] at h'
        simp at h'
        omega
      · rw [if_neg hb] at h'
        cases h'
theorem valA_yes {N : Nat} {T : Nat → Lf} {n : Nat} {p : Nat → ByteArray} (hv : ∀ i, i < N → (T i).v ≠ ⟨#[]⟩) (h : (valA N T n p).2 = true) : (valA N T n p).1 ≠ ⟨#[]⟩ := by
  unfold valA at h ⊢
  cases e : fst15 (fun i => SameP (T i) n p) N with
  | none => rw [e] at h; cases h
  | some i => exact hv i (fst15_lt e)
theorem wd_ne {s : ByteArray} (h : Wd s) : s ≠ ⟨#[]⟩ := by
  intro e
  have h1 := h.1
  rw [e] at h1
  simp [ByteArray.size] at h1
/-- A deletion of a leaf's path. -/
def dlC (t : Lf) : Cm15 := ⟨false, ⟨t.n, t.p, ⟨#[]⟩⟩⟩
noncomputable def dif1 (A : Nat → Lf) (M : Nat) (B : Nat → Lf) (k : Nat) : List Cm15 := flt15 (fun i => (valA M B (A i).n (A i).p).1 = ⟨#[]⟩) (fun i => dlC (A i)) k
noncomputable def dif2 (N : Nat) (A : Nat → Lf) (B : Nat → Lf) (k : Nat) : List Cm15 := flt15 (fun i => (valA N A (B i).n (B i).p).1 ≠ (B i).v) (fun i => ⟨true, B i⟩) k
/-- What DiffOf answers. -/
noncomputable def difA (N : Nat) (A : Nat → Lf) (M : Nat) (B : Nat → Lf) : List Cm15 × Bool := if tB (GC N A ∧ GC M B) then (dif1 A M B N ++ dif2 N A B M, true) else ([], false)
theorem wp1 {M : Nat} {B : Nat → Lf} {n : Nat} {p : Nat → ByteArray} (hB : GC M B) : (valA M B n p).1 = ⟨#[]⟩ ↔ (valA M B n p).2 = false := by
  constructor
  · intro h
    cases e : (valA M B n p).2 with
    | false => rfl
    | true => exact absurd h (valA_yes (fun i hi => wd_ne (hB.1 i hi).2.1) e)
  · exact valA_no
theorem wp2 {N : Nat} {A : Nat → Lf} {n : Nat} {p : Nat → ByteArray} {v : ByteArray} (hv : Wd v) : (valA N A n p).1 ≠ v ↔ ¬ ((valA N A n p).2 = true ∧ (valA N A n p).1 = v) := by
  constructor
  · rintro h ⟨_, g⟩
    exact h g
  · intro h g
    cases e : (valA N A n p).2 with
    | true => exact h ⟨e, g⟩
    | false =>
      rw [valA_no e] at g
      exact wd_ne hv g.symm
/-- How many words a list of commands has. -/
def sumC : List Cm15 → Nat
  | [] => 0
  | t :: L => t.t.n + sumC L
theorem sumC_app : ∀ (L M : List Cm15), sumC (L ++ M) = sumC L + sumC M
  | [], M => by simp [sumC]
  | t :: L, M => by simp [sumC, sumC_app L M]; omega
theorem flt15_sumC {P : Nat → Prop} {U : Nat → Cm15} {T : Nat → Lf} (h : ∀ i, (U i).t.n ≤ (T i).n) : ∀ k, sumC (flt15 P U k) ≤ totF T k
  | 0 => Nat.le_refl _
  | k + 1 => by
    have ih := flt15_sumC (P := P) h k
    have h2 : totF T (k + 1) = totF T k + (T k).n := rfl
    by_cases hp : P k
    · rw [flt15_yes hp, sumC_app]
      have := h k
      simp only [sumC]
      omega
    · rw [flt15_no hp]; omega
theorem totC_app : ∀ (L M : List Cm15) (k : Nat), k ≤ L.length → totC (TC (L ++ M)) k = totC (TC L) k
  | _, _, 0, _ => rfl
  | L, M, k + 1, h => by
    show totC (TC (L ++ M)) k + (TC (L ++ M) k).t.n = totC (TC L) k + (TC L k).t.n
    rw [totC_app L M k (by omega), TC_eq (by simp; omega), TC_eq (by omega)]
    simp [List.getElem_append_left (show k < L.length by omega)]
theorem totC_sum_rev : ∀ (L : List Cm15), totC (TC L.reverse) L.length = sumC L.reverse
  | [] => rfl
  | t :: L => by
    have ih := totC_sum_rev L
    rw [List.reverse_cons, sumC_app]
    show totC (TC (L.reverse ++ [t])) L.length + (TC (L.reverse ++ [t]) L.length).t.n = _
    rw [totC_app _ _ _ (by simp), ih, TC_eq (by simp)]
    simp [sumC]
theorem totC_sum (L : List Cm15) : totC (TC L) L.length = sumC L := by
  have := totC_sum_rev L.reverse
  simpa using this
theorem lowC_TC {L : List Cm15} (h : ∀ t, t ∈ L → t.t.n ≤ 1048576) : ∀ i, i < L.length → (TC L i).t.n ≤ 1048576 := by
  intro i hi
  rw [TC_eq hi]
  exact h _ (List.getElem_mem hi)
theorem difA_len (N : Nat) (A : Nat → Lf) (M : Nat) (B : Nat → Lf) : (difA N A M B).1.length ≤ N + M ∧ sumC (difA N A M B).1 ≤ totF A N + totF B M := by
  unfold difA
  split
  · have h1 : (dif1 A M B N).length ≤ N := flt15_len _ _ _
    have h2 : (dif2 N A B M).length ≤ M := flt15_len _ _ _
    have h3 : sumC (dif1 A M B N) ≤ totF A N := flt15_sumC (U := fun i => dlC (A i)) (T := A) (fun _ => Nat.le_refl _) _
    have h4 : sumC (dif2 N A B M) ≤ totF B M := flt15_sumC (U := fun i => ⟨true, B i⟩) (T := B) (fun _ => Nat.le_refl _) _
    simp only [List.length_append, sumC_app]
    omega
  · simp [sumC]
theorem difA_low {N : Nat} {A : Nat → Lf} {M : Nat} {B : Nat → Lf} (hA : ∀ i, i < N → (A i).n ≤ 1048576) (hB : ∀ i, i < M → (B i).n ≤ 1048576) : ∀ t, t ∈ (difA N A M B).1 → t.t.n ≤ 1048576 := by
  intro t ht
  unfold difA at ht
  split at ht
  · rcases List.mem_append.1 ht with ht | ht
    · obtain ⟨i, hi, _, rfl⟩ := flt15_mem ht
      exact hA i hi
    · obtain ⟨i, hi, _, rfl⟩ := flt15_mem ht
      exact hB i hi
  · simp at ht
end Go.Proofs.YtnficndeblkjhaaGreatDoor

/- What stores tell, in plain words. -/
namespace Go.Proofs.YtnficndeblkjhaaGreatDoor
open Go.RowKit

/-- The ticks that are left. -/
noncomputable def tiA (s : Sto) : Int × Bool := if tB (GS s) then (s.l, true) else (0, false)
theorem tiA_yes {s : Sto} (h : GS s) : tiA s = (s.l, true) := if_pos (tB_t h)
theorem tiA_no {s : Sto} (h : ¬ GS s) : tiA s = (0, false) := if_neg (by simp [tB_f h])
/-- What is confirmed. -/
noncomputable def cofA (s : Sto) : List Lf × Bool := if tB (GS s) then (lsF (s.H 0).n (s.H 0).T, true) else ([], false)
theorem cofA_yes {s : Sto} (h : GS s) : cofA s = (lsF (s.H 0).n (s.H 0).T, true) := if_pos (tB_t h)
theorem cofA_no {s : Sto} (h : ¬ GS s) : cofA s = ([], false) := if_neg (by simp [tB_f h])
/-- What is pending. -/
noncomputable def penA (s : Sto) : List Cm15 × Bool := if tB (GS s) then difA s.R.n s.R.T s.C.n s.C.T else ([], false)
theorem penA_yes {s : Sto} (h : GS s) : penA s = difA s.R.n s.R.T s.C.n s.C.T := if_pos (tB_t h)
theorem penA_no {s : Sto} (h : ¬ GS s) : penA s = ([], false) := if_neg (by simp [tB_f h])
end Go.Proofs.YtnficndeblkjhaaGreatDoor

/- The form of a store's value; bounds of what stores tell. -/
namespace Go.Proofs.YtnficndeblkjhaaGreatDoor
open Go.RowKit

theorem RowSt.form {K : Bool} {v : Value} {s : Sto} {w : World} (h : RowSt K v s w) : ∃ ca kc ra kr ha kh, v = .agg #[.slice ca s.C.n kc, .slice ra s.R.n kr, .slice ha s.h kh, .int .i64 s.l] := by
  obtain ⟨ca, kc, ra, kr, ha, kh, e, _⟩ := h
  exact ⟨ca, kc, ra, kr, ha, kh, e⟩
theorem AnsSt.form {v : Value} {s : Sto} {lo hi : Nat} {w : World} (h : AnsSt v s lo hi w) : ∃ ca kc ra kr ha kh, v = .agg #[.slice ca s.C.n kc, .slice ra s.R.n kr, .slice ha s.h kh, .int .i64 s.l] := h.row.form
theorem totF_le {T : Nat → Lf} {m : Nat} : ∀ {n : Nat}, (∀ i, i < n → (T i).n ≤ m) → totF T n ≤ n * m
  | 0, _ => Nat.zero_le _
  | n + 1, h => by
    have h1 := totF_le (n := n) (fun i hi => h i (by omega))
    have h2 := h n (by omega)
    show totF T n + (T n).n ≤ (n + 1) * m
    rw [Nat.succ_mul]
    omega
theorem totF_gc {n : Nat} {T : Nat → Lf} (h : GC n T) : totF T n ≤ 150 := by
  have h1 := totF_le (T := T) (m := 5) (n := n) (fun i hi => (h.1 i hi).1.2.1)
  have h2 := h.2
  omega
theorem sumF_lsF (n : Nat) (T : Nat → Lf) : sumF (lsF n T) = totF T n := by
  induction n with
  | zero => rfl
  | succ n ih => rw [lsF_succ, sumF_app, ih]; rfl
theorem cofA_small {s : Sto} (h : LowSt s) : (cofA s).1.length ≤ 1048576 ∧ sumF (cofA s).1 ≤ 1048576 ∧ ∀ t, t ∈ (cofA s).1 → OkF t 1048576 := by
  by_cases g : GS s
  · rw [cofA_yes g]
    have h0 := h.2.2.2.1 0 (by have := g.2.2.1; omega)
    refine ⟨by rw [lsF_len]; exact h0.n, by rw [sumF_lsF]; exact Nat.le_trans (Nat.le_add_left _ _) h0.1, fun t ht => ?_⟩
    unfold lsF at ht
    rw [List.mem_map] at ht
    obtain ⟨i, hi, rfl⟩ := ht
    exact h0.2 i (List.mem_range.1 hi)
  · rw [cofA_no g]
    exact ⟨Nat.zero_le _, Nat.zero_le _, fun t ht => by simp at ht⟩
theorem penA_small {s : Sto} (h : LowSt s) : (penA s).1.length ≤ 1048576 ∧ sumC (penA s).1 ≤ 1048576 ∧ ∀ t, t ∈ (penA s).1 → t.t.n ≤ 1048576 := by
  by_cases g : GS s
  · rw [penA_yes g]
    have h1 := difA_len s.R.n s.R.T s.C.n s.C.T
    have h2 := g.1.2
    have h3 := g.2.1.2
    refine ⟨by omega, ?_, difA_low (fun i hi => (h.2.1.2 i hi).1) (fun i hi => (h.1.2 i hi).1)⟩
    have h4 : totF s.R.T s.R.n ≤ 150 := totF_gc g.2.1
    have h5 : totF s.C.T s.C.n ≤ 150 := totF_gc g.1
    omega
  · rw [penA_no g]
    exact ⟨Nat.zero_le _, Nat.zero_le _, fun t ht => by simp at ht⟩
end Go.Proofs.YtnficndeblkjhaaGreatDoor

/- Faults in memory, and what the package's variables hold. -/
namespace Go.Proofs.YtnficndeblkjhaaGreatDoor
open Go.RowKit

/-- What the variables hold: two kinds of faults that differ, and the type of errors. -/
def GW (gl gr : Addr) (w : World) : Prop := w.cell? ⟨0, 0, none⟩ = some (.iface 173 (.pointer (some gl))) ∧ w.cell? ⟨1, 0, none⟩ = some (.iface 129 (.agg #[.pointer (some ⟨3, 67, none⟩)])) ∧ w.cell? ⟨2, 0, none⟩ = some (.iface 173 (.pointer (some gr))) ∧ gl ≠ gr ∧ (∃ c t, w.heap[gl.block]? = some (.cells c t (0, 0))) ∧ (∃ c t, w.heap[gr.block]? = some (.cells c t (0, 0))) ∧ 2 < w.heap.size
theorem heap_lt {w : World} {b : Nat} {o : Obj} (h : w.heap[b]? = some o) : b < w.heap.size := (Array.getElem?_eq_some_iff.1 h).1
theorem GW.below {gl gr : Addr} {w w' : World} (h : GW gl gr w) (k : Below w.heap.size w w') : GW gl gr w' := by
  obtain ⟨h1, h2, h3, h4, ⟨c1, t1, h5⟩, ⟨c2, t2, h6⟩, h7⟩ := h
  refine ⟨((bcell k).1 _ _ (by omega)).trans h1, ((bcell k).1 _ _ (by omega)).trans h2, ((bcell k).1 _ _ (by omega)).trans h3, h4, ⟨c1, t1, (k.block _ (heap_lt h5)).trans h5⟩, ⟨c2, t2, (k.block _ (heap_lt h6)).trans h6⟩, Nat.lt_of_lt_of_le h7 k.size⟩
/-- A fault of kind kd in block b, the store s behind it. -/
def FaultAt (b : Nat) (kd : Value) (s : Sto) (w : World) : Prop := ∃ ca kc ra kr ha kh, Mut w b [kd, .slice ca s.C.n kc, .slice ra s.R.n kr, .slice ha s.h kh, .int .i64 s.l] ∧ RowF true ca s.C.n s.C.T w ∧ RowF true ra s.R.n s.R.T w ∧ RowX true ha s.h s.H w ∧ s.h ≤ kh
theorem FaultAt.below {b : Nat} {kd : Value} {s : Sto} {w w' : World} (h : FaultAt b kd s w) (k : Below w.heap.size w w') : FaultAt b kd s w' := by
  obtain ⟨ca, kc, ra, kr, ha, kh, h0, h1, h2, h3, h4⟩ := h
  exact ⟨ca, kc, ra, kr, ha, kh, h0.below k, h1.below k, h2.below k, h3.below k, h4⟩
theorem FaultAt.row {b : Nat} {kd : Value} {s : Sto} {w : World} (h : FaultAt b kd s w) : ∃ ca kc ra kr ha kh, Mut w b [kd, .slice ca s.C.n kc, .slice ra s.R.n kr, .slice ha s.h kh, .int .i64 s.l] ∧ RowSt true (stV s ca kc ra kr ha kh) s w := by
  obtain ⟨ca, kc, ra, kr, ha, kh, h0, h1, h2, h3, h4⟩ := h
  exact ⟨ca, kc, ra, kr, ha, kh, h0, ca, kc, ra, kr, ha, kh, rfl, h1, h2, h3, h4⟩
/-- A store's value that holds nothing. -/
def zSt : Value := .agg #[.slice none 0 0, .slice none 0 0, .slice none 0 0, .int .i64 0]
/-- What an op answers: the store, or a fault: refused, or lapsed. -/
def StepP (gl gr : Addr) (s : Sto) (o : OpX) (w : World) (e : Ending) (w' : World) : Prop := Below w.heap.size w w' ∧
  ((∃ v, e = .returned (.tuple #[v, .nilIface]) ∧ (opX s o).2 = true ∧ RowSt true v (opX s o).1 w') ∨
   (∃ b, e = .returned (.tuple #[zSt, .iface 91 (.pointer (some ⟨b, 0, none⟩))]) ∧ opX s o = (s, false) ∧ FaultAt b (.iface 173 (.pointer (some gr))) s w') ∨
   (∃ b s', e = .returned (.tuple #[zSt, .iface 91 (.pointer (some ⟨b, 0, none⟩))]) ∧ opX s o = (s', true) ∧ FaultAt b (.iface 173 (.pointer (some gl))) s' w'))
end Go.Proofs.YtnficndeblkjhaaGreatDoor

/- What holds of memory also behind writes into boxes that came before it. -/
namespace Go.Proofs.YtnficndeblkjhaaGreatDoor
open Go.RowKit

/-- It holds of each world that differs from w in blocks from lo on and ahead of base alone. -/
def Stb (lo base : Nat) (R : World → Prop) (w : World) : Prop := ∀ X, OnlyP (fun k => lo ≤ k ∧ k < base) w X → R X
theorem Stb.here {lo base : Nat} {R : World → Prop} {w : World} (h : Stb lo base R w) : R w := h w (OnlyP.refl _ _)
theorem Stb.only {lo base : Nat} {R : World → Prop} {w w' : World} (h : Stb lo base R w) (on : OnlyP (fun k => lo ≤ k ∧ k < base) w w') : Stb lo base R w' := fun X q => h X (on.trans q)
theorem Stb.below {lo base : Nat} {R : World → Prop} {w w' : World} (h : Stb lo base R w) (b : Below w.heap.size w w') : Stb lo base R w' := h.only (OnlyP.of_below b)
theorem Stb.less {lo lo' base base' : Nat} {R : World → Prop} {w : World} (h : Stb lo base R w) (h1 : lo ≤ lo') (h2 : base' ≤ base) : Stb lo' base' R w := fun X q => h X (q.mono (fun k _ hk => ⟨by omega, by omega⟩))
theorem only_below {lo base : Nat} {w X : World} (on : OnlyP (fun k => lo ≤ k ∧ k < base) w X) (h : lo ≤ w.heap.size) : Below lo w X := on.below (fun _ _ hk => hk.1) h
/-- What holds of old memory stays. -/
theorem Stb.old {base : Nat} {R : World → Prop} {w0 w : World} (hR : ∀ w', Below w0.heap.size w0 w' → R w') (b : Below w0.heap.size w0 w) : Stb w0.heap.size base R w := fun X on => hR X (b.trans (only_below on b.size))
theorem Stb.both {lo base : Nat} {R Q : World → Prop} {w : World} (h : Stb lo base R w) (k : Stb lo base Q w) : Stb lo base (fun X => R X ∧ Q X) w := fun X on => ⟨h X on, k X on⟩
theorem Stb.mono {lo base : Nat} {R Q : World → Prop} {w : World} (h : Stb lo base R w) (k : ∀ X, R X → Q X) : Stb lo base Q w := fun X on => k X (h X on)
/-- A fault of kind kd in block b, the store s behind it, whose lists lay in w0 already. -/
def FltAt (b : Nat) (kd : Value) (s : Sto) (w0 w : World) : Prop := ∃ ca kc ra kr ha kh, Mut w b [kd, .slice ca s.C.n kc, .slice ra s.R.n kr, .slice ha s.h kh, .int .i64 s.l] ∧ RowSt true (stV s ca kc ra kr ha kh) s w0
theorem FltAt.below {b : Nat} {kd : Value} {s : Sto} {w0 w w' : World} (h : FltAt b kd s w0 w) (k : Below w.heap.size w w') : FltAt b kd s w0 w' := by
  obtain ⟨ca, kc, ra, kr, ha, kh, h0, h1⟩ := h
  exact ⟨ca, kc, ra, kr, ha, kh, h0.below k, h1⟩
theorem FltAt.onlyP {P : Nat → Prop} {b : Nat} {kd : Value} {s : Sto} {w0 w w' : World} (h : FltAt b kd s w0 w) (k : OnlyP P w w') (hb : ¬ P b) : FltAt b kd s w0 w' := by
  obtain ⟨ca, kc, ra, kr, ha, kh, h0, h1⟩ := h
  exact ⟨ca, kc, ra, kr, ha, kh, h0.onlyP k hb, h1⟩
theorem FltAt.from {b : Nat} {kd : Value} {s : Sto} {w0 w1 w : World} (h : FltAt b kd s w0 w) (k : Below w0.heap.size w0 w1) : FltAt b kd s w1 w := by
  obtain ⟨ca, kc, ra, kr, ha, kh, h0, h1⟩ := h
  exact ⟨ca, kc, ra, kr, ha, kh, h0, h1.below k⟩
theorem FltAt.at {b : Nat} {kd : Value} {s : Sto} {w0 w : World} (h : FltAt b kd s w0 w) (k : Below w0.heap.size w0 w) : FaultAt b kd s w := by
  obtain ⟨ca, kc, ra, kr, ha, kh, h0, h1⟩ := h
  obtain ⟨ca', kc', ra', kr', ha', kh', e, r1, r2, r3, r4⟩ := h1.below k
  unfold stV at e
  simp only [Value.agg.injEq, Array.mk.injEq, List.cons.injEq, Value.slice.injEq, and_true, true_and] at e
  obtain ⟨⟨rfl, rfl⟩, ⟨rfl, rfl⟩, rfl, rfl⟩ := e
  exact ⟨ca, kc, ra, kr, ha, kh, h0, r1, r2, r3, r4⟩
end Go.Proofs.YtnficndeblkjhaaGreatDoor

namespace Go.Proofs.YtnficndeblkjhaaGreatDoor
open Go.RowKit

set_option maxRecDepth 100000 in
set_option maxHeartbeats 1600000 in
theorem i_refused (v : Value) (s : Sto) (gl gr : Addr) (w0 w : World) (hG : GW gl gr w) (hR : RowSt true v s w0) :
    Calls Tryz.prog 65 #[v] w fun e w' => ∃ b, e = .returned (.tuple #[zSt, .iface 91 (.pointer (some ⟨b, 0, none⟩))]) ∧ w.heap.size ≤ b ∧ FltAt b (.iface 173 (.pointer (some gr))) s w0 w' ∧ Below w.heap.size w w' := by
  obtain ⟨ca, kc, ra, kr, ha, kh, rfl, R1, R2, R3, R4⟩ := hR
  unfold stV
  have M1 := (Mut.new w #[.slice ca s.C.n kc, .slice ra s.R.n kr, .slice ha s.h kh, .int .i64 s.l] 34).alloc (.cells #[.slice none 0 0, .slice none 0 0, .slice none 0 0, .int .i64 0] 34)
  have M2 := Mut.new (w.alloc (.cells #[.slice ca s.C.n kc, .slice ra s.R.n kr, .slice ha s.h kh, .int .i64 s.l] 34)) #[.slice none 0 0, .slice none 0 0, .slice none 0 0, .int .i64 0] 34
  have d1 : Below w.heap.size w ((w.alloc (.cells #[.slice ca s.C.n kc, .slice ra s.R.n kr, .slice ha s.h kh, .int .i64 s.l] 34)).alloc (.cells #[.slice none 0 0, .slice none 0 0, .slice none 0 0, .int .i64 0] 34)) := below_box2 (Below.refl _ _)
  simp only [World.size_alloc] at M2
  go_enter Tryz.func65, Tryz.ntmps65
  go_wp2_with fail
  generalize (w.alloc (.cells #[.slice ca s.C.n kc, .slice ra s.R.n kr, .slice ha s.h kh, .int .i64 s.l] 34)).alloc (.cells #[.slice none 0 0, .slice none 0 0, .slice none 0 0, .int .i64 0] 34) = w1 at *
  have G1 := hG.below d1
  have hw1 : w.heap.size + 1 < w1.heap.size := M2.1

  have hS : ∀ w' : World, Below w1.heap.size w1 w' → w'.cell? ⟨w.heap.size, 0, none⟩ = some (.slice ca s.C.n kc) ∧ w'.cell? ⟨w.heap.size, 1, none⟩ = some (.slice ra s.R.n kr) ∧ w'.cell? ⟨w.heap.size, 2, none⟩ = some (.slice ha s.h kh) ∧ w'.cell? ⟨w.heap.size, 3, none⟩ = some (.int .i64 s.l) ∧ w'.cell? ⟨2, 0, none⟩ = some (.iface 173 (.pointer (some gr))) := fun w' b => ⟨(M1.below b).2.1 0 _ rfl, (M1.below b).2.1 1 _ rfl, (M1.below b).2.1 2 _ rfl, (M1.below b).2.1 3 _ rfl, (G1.below b).2.2.1⟩
  refine wp_region_held_drew (S := fun w' => w'.cell? ⟨w.heap.size, 0, none⟩ = some (.slice ca s.C.n kc) ∧ w'.cell? ⟨w.heap.size, 1, none⟩ = some (.slice ra s.R.n kr) ∧ w'.cell? ⟨w.heap.size, 2, none⟩ = some (.slice ha s.h kh) ∧ w'.cell? ⟨w.heap.size, 3, none⟩ = some (.int .i64 s.l) ∧ w'.cell? ⟨2, 0, none⟩ = some (.iface 173 (.pointer (some gr)))) (by kernel_rfl) (hS _ (Below.refl _ _).drew) (fun hHeld => ?_)
  refine wpAnyH_take (i := 0) (v := .agg #[.slice none 0 0, .slice none 0 0, .slice none 0 0, .int .i64 0]) rfl (by kernel_rfl) (by kernel_rfl) (by kernel_rfl) (fun _ _ _ h => h) (Or.inl ⟨by rfl, fun w' hSw => by go_simp⟩) hHeld ?_
  simp only [List.getElem_toArray, List.getElem_cons_zero, Act.put, List.setIfInBounds_toArray, List.set_cons_zero, List.set_cons_succ]
  refine wpAnyH_take (i := 1) (v := .iface 173 (.pointer (some gr))) rfl (by kernel_rfl) (by kernel_rfl) (by kernel_rfl) (fun _ _ _ h => h) (Or.inl ⟨by rfl, fun w' hSw => by go_simp⟩) hHeld ?_
  simp only [List.getElem_toArray, List.getElem_cons_succ, List.getElem_cons_zero, Act.put, List.setIfInBounds_toArray, List.set_cons_zero, List.set_cons_succ]
  refine wpAnyH_take (i := 2) (v := .agg #[.slice ca s.C.n kc, .slice ra s.R.n kr, .slice ha s.h kh, .int .i64 s.l]) rfl (by kernel_rfl) (by kernel_rfl) (by kernel_rfl) (fun _ _ _ h => h) (Or.inl ⟨by rfl, fun w' hSw => by go_simp⟩) hHeld ?_
  simp only [List.getElem_toArray, List.getElem_cons_succ, List.getElem_cons_zero, Act.put, List.setIfInBounds_toArray, List.set_cons_zero, List.set_cons_succ]
  refine wpAnyH_take (i := 3) (v := .agg #[.iface 173 (.pointer (some gr)), .slice ca s.C.n kc, .slice ra s.R.n kr, .slice ha s.h kh, .int .i64 s.l]) rfl (by kernel_rfl) (by kernel_rfl) (by kernel_rfl) (fun _ _ _ h => h) (Or.inl ⟨by rfl, fun w' hSw => by go_simp⟩) hHeld ?_
  simp only [List.getElem_toArray, List.getElem_cons_succ, List.getElem_cons_zero, Act.put, List.setIfInBounds_toArray, List.set_cons_zero, List.set_cons_succ]
  refine wpAnyH_ready (rs := [4, 6]) (by kernel_rfl) (by simp) (AllReadyH.cons rfl (fun K hK => ?_) (AllReadyH.cons rfl (fun K hK => ?_) AllReadyH.nil))
  · skip
    go_simp
    have bA : Below w1.heap.size w1 (w1.drew.alloc (.cells #[.iface 173 (.pointer (some gr)), .slice ca s.C.n kc, .slice ra s.R.n kr, .slice ha s.h kh, .int .i64 s.l] 95)) := (Below.refl _ _).drew.alloc (Nat.le_refl _) _
    have N := Mut.new w1.drew #[.iface 173 (.pointer (some gr)), .slice ca s.C.n kc, .slice ra s.R.n kr, .slice ha s.h kh, .int .i64 s.l] 95
    refine hK.out _ _ (hS _ bA) (fun hHeld => ?_)
    clear hK K
    refine wpAnyH_take (i := 5) (v := .iface 91 (.pointer (some ⟨w1.heap.size, 0, none⟩))) rfl (by kernel_rfl) (by kernel_rfl) (by kernel_rfl) (fun _ _ _ h => h) (Or.inl ⟨by rfl, fun w' hSw => by go_simp⟩) hHeld ?_
    simp only [List.getElem_toArray, List.getElem_cons_succ, List.getElem_cons_zero, Act.put, List.setIfInBounds_toArray, List.set_cons_zero, List.set_cons_succ]
    refine wpAnyH_ready (rs := [6]) (by kernel_rfl) (by simp) (AllReadyH.cons rfl (fun K hK => ?_) AllReadyH.nil)
    rw [if_pos (by rfl)]
    refine wp_storeM (us := [.slice none 0 0, .slice none 0 0, .slice none 0 0, .int .i64 0]) rfl rfl rfl (M2.below bA) rfl (by intro v hv; simp only [List.mem_cons, List.not_mem_nil, or_false] at hv; rcases hv with rfl | rfl | rfl | rfl <;> rfl) sizeSto ?_
    intro w9 M9 o9
    have on := OnlyP.of_only (P := fun x => x = w.heap.size + 1) o9 rfl
    have e9 : Below w.heap.size w w9 := (d1.trans (bA.mono d1.size)).trans (on.below (base := w.heap.size) (fun x _ hx => by have h : x = w.heap.size + 1 := hx; omega) (d1.trans (bA.mono d1.size)).size)
    have M9b := (M1.below bA).onlyP on (fun h => by have h : w.heap.size = w.heap.size + 1 := h; omega)
    have g9 := (on.cell (b := 2) (o := 0) (Nat.lt_of_lt_of_le (by have := G1.2.2.2.2.2.2; omega) bA.size) (fun h => by have h : 2 = w.heap.size + 1 := h; have := hG.2.2.2.2.2.2; omega)).trans ((G1.below bA).2.2.1)
    have q9 := on.2.2.2.1
    have q8 := (bA).size
    refine hK.out _ _ (⟨M9b.2.1 0 _ rfl, M9b.2.1 1 _ rfl, M9b.2.1 2 _ rfl, M9b.2.1 3 _ rfl, g9⟩) (fun hHeld => ?_)
    clear hK K
    refine wpAnyH_take (i := 7) (v := .iface 91 (.pointer (some ⟨w1.heap.size, 0, none⟩))) rfl (by kernel_rfl) (by kernel_rfl) (by kernel_rfl) (fun _ _ _ h => h) (Or.inl ⟨by rfl, fun w' hSw => by go_simp⟩) hHeld ?_
    simp only [List.getElem_toArray, List.getElem_cons_succ, List.getElem_cons_zero, Act.put, List.setIfInBounds_toArray, List.set_cons_zero, List.set_cons_succ]
    replace N := N.onlyP on (fun h => by have h : w1.drew.heap.size = w.heap.size + 1 := h; have h0 : w1.drew.heap.size = w1.heap.size := rfl; omega)
    have r0 := M9.2.1 0 _ rfl
    have r1 := M9.2.1 1 _ rfl
    have r2 := M9.2.1 2 _ rfl
    have r3 := M9.2.1 3 _ rfl
    refine wpAnyH_done (by kernel_rfl) ?_ _
    clear hHeld
    go_wp2_with fail
    exact bodyPost_ret (v := .tuple #[zSt, .iface 91 (.pointer (some ⟨w1.heap.size, 0, none⟩))]) (by simp [results, Tryz.results65, go_sem, zSt, r0, r1, r2, r3]) rfl ⟨_, rfl, by omega, ⟨ca, kc, ra, kr, ha, kh, N, ca, kc, ra, kr, ha, kh, rfl, R1, R2, R3, R4⟩, e9⟩
  · skip
    have bD : Below w1.heap.size w1 w1.drew := (Below.refl _ _).drew
    rw [if_pos (by rfl)]
    refine wp_storeM (us := [.slice none 0 0, .slice none 0 0, .slice none 0 0, .int .i64 0]) rfl rfl rfl (M2.below bD) rfl (by intro v hv; simp only [List.mem_cons, List.not_mem_nil, or_false] at hv; rcases hv with rfl | rfl | rfl | rfl <;> rfl) sizeSto ?_
    intro w9 M9 o9
    have on := OnlyP.of_only (P := fun x => x = w.heap.size + 1) o9 rfl
    have e9 : Below w.heap.size w w9 := (d1.trans (bD.mono d1.size)).trans (on.below (base := w.heap.size) (fun x _ hx => by have h : x = w.heap.size + 1 := hx; omega) (d1.trans (bD.mono d1.size)).size)
    have M9b := (M1.below bD).onlyP on (fun h => by have h : w.heap.size = w.heap.size + 1 := h; omega)
    have g9 := (on.cell (b := 2) (o := 0) (Nat.lt_of_lt_of_le (by have := G1.2.2.2.2.2.2; omega) bD.size) (fun h => by have h : 2 = w.heap.size + 1 := h; have := hG.2.2.2.2.2.2; omega)).trans ((G1.below bD).2.2.1)
    have q9 := on.2.2.2.1
    have q8 := (bD).size
    refine hK.out _ _ (⟨M9b.2.1 0 _ rfl, M9b.2.1 1 _ rfl, M9b.2.1 2 _ rfl, M9b.2.1 3 _ rfl, g9⟩) (fun hHeld => ?_)
    clear hK K
    refine wpAnyH_ready (rs := [4]) (by kernel_rfl) (by simp) (AllReadyH.cons rfl (fun K hK => ?_) AllReadyH.nil)
    go_simp
    have bA : Below w9.heap.size w9 (w9.alloc (.cells #[.iface 173 (.pointer (some gr)), .slice ca s.C.n kc, .slice ra s.R.n kr, .slice ha s.h kh, .int .i64 s.l] 95)) := below_box (Below.refl _ _)
    have N := Mut.new w9 #[.iface 173 (.pointer (some gr)), .slice ca s.C.n kc, .slice ra s.R.n kr, .slice ha s.h kh, .int .i64 s.l] 95
    replace M9 := M9.below bA
    have e10 := e9.trans (bA.mono e9.size)
    refine hK.out _ _ (⟨(M9b.below bA).2.1 0 _ rfl, (M9b.below bA).2.1 1 _ rfl, (M9b.below bA).2.1 2 _ rfl, (M9b.below bA).2.1 3 _ rfl, ((bcell bA).1 _ _ (World.block_lt_of_cell? w9 _ g9)).trans g9⟩) (fun hHeld => ?_)
    clear hK K
    refine wpAnyH_take (i := 5) (v := .iface 91 (.pointer (some ⟨w9.heap.size, 0, none⟩))) rfl (by kernel_rfl) (by kernel_rfl) (by kernel_rfl) (fun _ _ _ h => h) (Or.inl ⟨by rfl, fun w' hSw => by go_simp⟩) hHeld ?_
    simp only [List.getElem_toArray, List.getElem_cons_succ, List.getElem_cons_zero, Act.put, List.setIfInBounds_toArray, List.set_cons_zero, List.set_cons_succ]
    refine wpAnyH_take (i := 7) (v := .iface 91 (.pointer (some ⟨w9.heap.size, 0, none⟩))) rfl (by kernel_rfl) (by kernel_rfl) (by kernel_rfl) (fun _ _ _ h => h) (Or.inl ⟨by rfl, fun w' hSw => by go_simp⟩) hHeld ?_
    simp only [List.getElem_toArray, List.getElem_cons_succ, List.getElem_cons_zero, Act.put, List.setIfInBounds_toArray, List.set_cons_zero, List.set_cons_succ]
    have r0 := M9.2.1 0 _ rfl
    have r1 := M9.2.1 1 _ rfl
    have r2 := M9.2.1 2 _ rfl
    have r3 := M9.2.1 3 _ rfl
    refine wpAnyH_done (by kernel_rfl) ?_ _
    clear hHeld
    go_wp2_with fail
    exact bodyPost_ret (v := .tuple #[zSt, .iface 91 (.pointer (some ⟨w9.heap.size, 0, none⟩))]) (by simp [results, Tryz.results65, go_sem, zSt, r0, r1, r2, r3]) rfl ⟨_, rfl, by omega, ⟨ca, kc, ra, kr, ha, kh, N, ca, kc, ra, kr, ha, kh, rfl, R1, R2, R3, R4⟩, e10⟩
end Go.Proofs.YtnficndeblkjhaaGreatDoor
