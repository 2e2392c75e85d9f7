/- The plain mathematics of the entries of a trie, as a list: they rise, they are good, and there are no more than nodes that have one. -/
import Derived.Test.YtjmflkheaioboabPlain2
import Derived.Test.YtjmflkheaioboabPlain1b
namespace Go.Proofs.Ytjmflkheaioboab
open Go.RowKit

/-- An entry: address, length, value. -/
abbrev En := Int × Int × Int
def entsFrom (T : Nat → Nd) : Nat → Nat → Int → Int → List En
  | 0, _, _, _ => []
  | f + 1, q, a, l => (if (T q).h then [(a, l, (T q).v)] else []) ++ ((if (T q).z ≠ 0 then entsFrom T f (T q).z.toNat a (l + 1) else []) ++ (if (T q).o ≠ 0 then entsFrom T f (T q).o.toNat (a + pw (l + 1)) (l + 1) else []))
theorem ents_len (T : Nat → Nd) (f q : Nat) (a l : Int) : (entsFrom T f q a l).length + 1 ≤ 2 ^ f := by
  induction f generalizing q a l with
  | zero => simp [entsFrom]
  | succ f ih =>
    have h1 := ih (T q).z.toNat a (l + 1)
    have h2 := ih (T q).o.toNat (a + pw (l + 1)) (l + 1)
    have hp : 2 ^ (f + 1) = 2 * 2 ^ f := by rw [Nat.pow_succ]; omega
    have h0 : ((if (T q).h then [(a, l, (T q).v)] else []) : List En).length ≤ 1 := by split <;> simp
    have h3 : ((if (T q).z ≠ 0 then entsFrom T f (T q).z.toNat a (l + 1) else []) : List En).length + 1 ≤ 2 ^ f := by split; exact h1; simp only [List.length_nil]; omega
    have h4 : ((if (T q).o ≠ 0 then entsFrom T f (T q).o.toNat (a + pw (l + 1)) (l + 1) else []) : List En).length + 1 ≤ 2 ^ f := by split; exact h2; simp only [List.length_nil]; omega
    simp only [entsFrom, List.length_append]
    omega

/-- Depths: what is told stays told. -/
theorem putD_pres {n k : Nat} {x : Int} {d d' : Nat → Int} (h : putD n k x d = some d') : (∀ i, d i ≠ 0 → d' i = d i) ∧ (∀ i, i ≤ k → d' i = d i) := by
  rcases putD_some h with ⟨_, rfl⟩ | ⟨h1, h2, h3, _, rfl⟩
  · exact ⟨fun _ _ => rfl, fun _ _ => rfl⟩
  · refine ⟨fun i hi => ?_, fun i hi => ?_⟩
    · dsimp only
      rw [if_neg]
      rintro rfl
      exact hi h3
    · dsimp only
      rw [if_neg]
      intro e
      omega
theorem tStep_pres {n : Nat} {T : Nat → Nd} {k : Nat} {d d' : Nat → Int} (h : tStep n T k d = some d') : (∀ i, d i ≠ 0 → d' i = d i) ∧ (∀ i, i ≤ k → d' i = d i) := by
  unfold tStep at h
  split at h
  · simp at h
  · obtain ⟨d1, e1, e2⟩ := Option.bind_eq_some_iff.1 h
    have p1 := putD_pres e1
    have p2 := putD_pres e2
    exact ⟨fun i hi => (p2.1 i (by rw [p1.1 i hi]; exact hi)).trans (p1.1 i hi), fun i hi => (p2.2 i hi).trans (p1.2 i hi)⟩
theorem treeTo_pres {n : Nat} {T : Nat → Nd} {k m : Nat} (hk : k ≤ m) {d d' : Nat → Int} (h : treeTo n T k = some d) (h' : treeTo n T m = some d') : (∀ i, d i ≠ 0 → d' i = d i) ∧ (∀ i, i ≤ k → d' i = d i) := by
  induction m generalizing d' with
  | zero =>
    obtain rfl : k = 0 := by omega
    rw [h] at h'
    simp only [Option.some.injEq] at h'
    subst h'
    exact ⟨fun _ _ => rfl, fun _ _ => rfl⟩
  | succ m ih =>
    by_cases e : k = m + 1
    · subst e
      rw [h] at h'
      simp only [Option.some.injEq] at h'
      subst h'
      exact ⟨fun _ _ => rfl, fun _ _ => rfl⟩
    · obtain ⟨d1, e1, e2⟩ := Option.bind_eq_some_iff.1 h'
      have p1 := ih (by omega) e1
      have p2 := tStep_pres e2
      exact ⟨fun i hi => (p2.1 i (by rw [p1.1 i hi]; exact hi)).trans (p1.1 i hi), fun i hi => (p2.2 i (by omega)).trans (p1.2 i hi)⟩

/-- The depths of a tree. -/
structure Deep (n : Nat) (T : Nat → Nd) (d : Nat → Int) : Prop where
  root : d 0 = 0
  bd : ∀ i, 0 ≤ d i ∧ d i ≤ 32
  zero : ∀ k, k < n → (T k).z ≠ 0 → d (T k).z.toNat = d k + 1 ∧ (T k).z.toNat < n
  one : ∀ k, k < n → (T k).o ≠ 0 → d (T k).o.toNat = d k + 1 ∧ (T k).o.toNat < n

theorem deep_of {n : Nat} {T : Nat → Nd} (h : treeB n T = true) : ∃ d, Deep n T d := by
  obtain ⟨d, hd⟩ := Option.isSome_iff_exists.1 h
  have hr := treeTo_pres (Nat.zero_le n) (show treeTo n T 0 = some (fun _ => 0) from rfl) hd
  have key : ∀ k, k < n → ((T k).z ≠ 0 → d (T k).z.toNat = d k + 1) ∧ ((T k).o ≠ 0 → d (T k).o.toNat = d k + 1) := by
    intro k hk
    have h1 : (treeTo n T (k + 1)).isSome = true := by
      cases ht : treeTo n T (k + 1) with
      | some d => rfl
      | none => rw [treeB_no (by omega) ht] at h; simp at h
    obtain ⟨d2, hd2⟩ := Option.isSome_iff_exists.1 h1
    obtain ⟨d0, hd0, e2⟩ := Option.bind_eq_some_iff.1 hd2
    have hb := treeTo_bd n T k hd0
    unfold tStep at e2
    split at e2
    · simp at e2
    · obtain ⟨d1, e3, e4⟩ := Option.bind_eq_some_iff.1 e2
      have q := treeTo_pres (show k + 1 ≤ n from hk) hd2 hd
      have q0 := treeTo_pres (show k ≤ n by omega) hd0 hd
      have hk0 : d k = d0 k := q0.2 k (Nat.le_refl _)
      have p3 := putD_pres e3
      have p4 := putD_pres e4
      have hbk := hb k
      constructor
      · intro hz
        rcases putD_some e3 with ⟨h0, _⟩ | ⟨a1, a2, a3, a4, rfl⟩
        · exact absurd h0 hz
        · have e1 : (if (T k).z.toNat = (T k).z.toNat then d0 k + 1 else d0 (T k).z.toNat) = d0 k + 1 := if_pos rfl
          have e5 : d2 (T k).z.toNat = d0 k + 1 := (p4.1 _ (by dsimp only; rw [e1]; omega)).trans e1
          rw [q.1 _ (by rw [e5]; omega), e5, hk0]
      · intro hz
        have hk1 : d1 k = d0 k := p3.2 k (Nat.le_refl _)
        rcases putD_some e4 with ⟨h0, _⟩ | ⟨a1, a2, a3, a4, rfl⟩
        · exact absurd h0 hz
        · have e1 : (if (T k).o.toNat = (T k).o.toNat then d1 k + 1 else d1 (T k).o.toNat) = d1 k + 1 := if_pos rfl
          rw [q.1 _ (by dsimp only; rw [e1]; omega)]
          dsimp only
          rw [e1, hk1, hk0]
  refine ⟨d, ⟨hr.2 0 (Nat.le_refl _), treeTo_bd n T n hd, fun k hk hz => ⟨(key k hk).1 hz, ?_⟩, fun k hk hz => ⟨(key k hk).2 hz, ?_⟩⟩⟩
  · obtain ⟨h1, _⟩ := tree_half h hk
    omega
  · obtain ⟨_, h1⟩ := tree_half h hk
    omega

/-- Below the deepest depth there is nothing. -/
theorem Deep.leaf {n : Nat} {T : Nat → Nd} {d : Nat → Int} (h : Deep n T d) {k : Nat} (hk : k < n) (h32 : d k = 32) : (T k).z = 0 ∧ (T k).o = 0 := by
  constructor
  · refine Classical.byContradiction fun hz => ?_
    have h1 := (h.zero k hk hz).1
    have h2 := h.bd (T k).z.toNat
    omega
  · refine Classical.byContradiction fun hz => ?_
    have h1 := (h.one k hk hz).1
    have h2 := h.bd (T k).o.toNat
    omega
/-- From each node but the root something is told. -/
theorem ents_ne {n : Nat} {T : Nat → Nd} {d : Nat → Int} (h : Deep n T d) (he : ∀ k, k < n → ndOk T k = true) (f q : Nat) (a l : Int) (hq : q < n) (hq0 : d q ≠ 0) (hl : d q = l) (hf : l + f = 33) : entsFrom T f q a l ≠ [] := by
  induction f generalizing q a l with
  | zero => have := h.bd q; omega
  | succ f ih =>
    have hok := he q hq
    have hqn : q ≠ 0 := by rintro rfl; exact hq0 h.root
    unfold ndOk at hok
    simp only [Bool.and_eq_true, Bool.or_eq_true, beq_iff_eq, Bool.not_eq_true', beq_eq_false_iff_ne] at hok
    intro hE
    simp only [entsFrom, List.append_eq_nil_iff] at hE
    obtain ⟨e1, e2, e3⟩ := hE
    have hb := h.bd q
    rcases hok.2 with ((h1 | h1) | h1) | h1
    · exact hqn h1
    · rw [if_pos h1] at e2
      obtain ⟨z1, z2⟩ := h.zero q hq h1
      exact ih _ _ _ z2 (by omega) (by omega) (by omega) e2
    · rw [if_pos h1] at e3
      obtain ⟨z1, z2⟩ := h.one q hq h1
      exact ih _ _ _ z2 (by omega) (by omega) (by omega) e3
    · rw [if_pos h1] at e1
      simp at e1


/-- Node k is the upper one of x. -/
def Kid (n : Nat) (T : Nat → Nd) (k x : Nat) : Prop := k < n ∧ (((T k).z ≠ 0 ∧ (T k).z.toNat = x) ∨ ((T k).o ≠ 0 ∧ (T k).o.toNat = x))

theorem kid_step {n : Nat} {T : Nat → Nd} {k x : Nat} {d0 d2 : Nat → Int} (hd0 : treeTo n T k = some d0) (hd2 : treeTo n T (k + 1) = some d2) (h : Kid n T k x) : d0 x = 0 ∧ d2 x ≠ 0 := by
  have hb := treeTo_bd n T k hd0 k
  have e2 := (tree_next hd0).symm.trans hd2
  unfold tStep at e2
  split at e2
  · simp at e2
  · obtain ⟨d1, e3, e4⟩ := Option.bind_eq_some_iff.1 e2
    have p4 := putD_pres e4
    obtain ⟨_, ⟨hz, rfl⟩ | ⟨ho, rfl⟩⟩ := h
    · rcases putD_some e3 with ⟨h0, _⟩ | ⟨_, _, a3, _, rfl⟩
      · exact absurd h0 hz
      · refine ⟨a3, ?_⟩
        have e5 : (if (T k).z.toNat = (T k).z.toNat then d0 k + 1 else d0 (T k).z.toNat) = d0 k + 1 := if_pos rfl
        rw [p4.1 _ (by dsimp only; rw [e5]; omega)]
        dsimp only
        rw [e5]
        omega
    · have hk1 : d1 k = d0 k := (putD_pres e3).2 k (Nat.le_refl _)
      rcases putD_some e4 with ⟨h0, _⟩ | ⟨_, _, a3, _, rfl⟩
      · exact absurd h0 ho
      · refine ⟨?_, ?_⟩
        · refine Classical.byContradiction fun hn => ?_
          rw [(putD_pres e3).1 _ hn] at a3
          exact hn a3
        · dsimp only
          rw [if_pos rfl]
          omega
theorem tree_some {n : Nat} {T : Nat → Nd} (h : treeB n T = true) {k : Nat} (hk : k ≤ n) : ∃ d, treeTo n T k = some d := by
  cases ht : treeTo n T k with
  | some d => exact ⟨d, rfl⟩
  | none =>
    cases k with
    | zero => simp [treeTo] at ht
    | succ k => rw [treeB_no hk ht] at h; simp at h
theorem kid_lt {n : Nat} {T : Nat → Nd} (h : treeB n T = true) {k k' x : Nat} (h1 : Kid n T k x) (h2 : Kid n T k' x) : ¬ k < k' := by
  intro hlt
  have hk' := h2.1
  obtain ⟨d0, hd0⟩ := tree_some h (k := k) (by omega)
  obtain ⟨d1, hd1⟩ := tree_some h (k := k + 1) (by omega)
  obtain ⟨d2, hd2⟩ := tree_some h (k := k') (by omega)
  obtain ⟨d3, hd3⟩ := tree_some h (k := k' + 1) (by omega)
  have a := (kid_step hd0 hd1 h1).2
  have b := (kid_step hd2 hd3 h2).1
  rw [(treeTo_pres (by omega) hd1 hd2).1 _ a] at b
  exact a b
theorem kid_one {n : Nat} {T : Nat → Nd} (h : treeB n T = true) {k k' x : Nat} (h1 : Kid n T k x) (h2 : Kid n T k' x) : k = k' := by
  have a := kid_lt h h1 h2
  have b := kid_lt h h2 h1
  omega
theorem kid_two {n : Nat} {T : Nat → Nd} (h : treeB n T = true) {k : Nat} (hk : k < n) (hz : (T k).z ≠ 0) (ho : (T k).o ≠ 0) : (T k).z.toNat ≠ (T k).o.toNat := by
  obtain ⟨d0, hd0⟩ := tree_some h (k := k) (by omega)
  obtain ⟨d2, hd2⟩ := tree_some h (k := k + 1) (by omega)
  have e2 := (tree_next hd0).symm.trans hd2
  have hb := treeTo_bd n T k hd0 k
  unfold tStep at e2
  split at e2
  · simp at e2
  · obtain ⟨d1, e3, e4⟩ := Option.bind_eq_some_iff.1 e2
    rcases putD_some e3 with ⟨h0, _⟩ | ⟨_, _, _, _, rfl⟩
    · exact absurd h0 hz
    · rcases putD_some e4 with ⟨h0, _⟩ | ⟨_, _, a3, _, _⟩
      · exact absurd h0 ho
      · intro e
        rw [if_pos e.symm] at a3
        omega

/-- The nodes from one on. -/
def nodesFrom (T : Nat → Nd) : Nat → Nat → List Nat
  | 0, _ => []
  | f + 1, q => q :: ((if (T q).z ≠ 0 then nodesFrom T f (T q).z.toNat else []) ++ (if (T q).o ≠ 0 then nodesFrom T f (T q).o.toNat else []))
theorem ents_nodes (T : Nat → Nd) (f q : Nat) (a l : Int) : (entsFrom T f q a l).length = ((nodesFrom T f q).filter fun i => (T i).h).length := by
  induction f generalizing q a l with
  | zero => rfl
  | succ f ih =>
    simp only [entsFrom, nodesFrom, List.length_append, List.filter_cons, List.filter_append]
    have e1 : ((if (T q).z ≠ 0 then entsFrom T f (T q).z.toNat a (l + 1) else []) : List En).length = ((if (T q).z ≠ 0 then nodesFrom T f (T q).z.toNat else []).filter fun i => (T i).h).length := by
      split
      · exact ih _ _ _
      · rfl
    have e2 : ((if (T q).o ≠ 0 then entsFrom T f (T q).o.toNat (a + pw (l + 1)) (l + 1) else []) : List En).length = ((if (T q).o ≠ 0 then nodesFrom T f (T q).o.toNat else []).filter fun i => (T i).h).length := by
      split
      · exact ih _ _ _
      · rfl
    rw [e1, e2]
    cases (T q).h with
    | true => simp only [if_true, List.length_cons, List.length_nil, List.length_append]; omega
    | false => simp

/-- q is j steps above x. -/
def Anc (n : Nat) (T : Nat → Nd) : Nat → Nat → Nat → Prop
  | 0, q, x => q = x
  | j + 1, q, x => ∃ y, Kid n T y x ∧ Anc n T j q y
theorem anc_up {n : Nat} {T : Nat → Nd} {j q y x : Nat} (hk : Kid n T q y) (h : Anc n T j y x) : Anc n T (j + 1) q x := by
  induction j generalizing x with
  | zero => obtain rfl : y = x := h; exact ⟨q, hk, rfl⟩
  | succ j ih =>
    obtain ⟨u, h1, h2⟩ := h
    exact ⟨u, h1, ih h2⟩
theorem anc_one {n : Nat} {T : Nat → Nd} (ht : treeB n T = true) {j q q' x : Nat} (h : Anc n T j q x) (h' : Anc n T j q' x) : q = q' := by
  induction j generalizing x with
  | zero => exact (show q = x from h).trans (show q' = x from h').symm
  | succ j ih =>
    obtain ⟨u, h1, h2⟩ := h
    obtain ⟨u', h1', h2'⟩ := h'
    obtain rfl := kid_one ht h1 h1'
    exact ih h2 h2'
theorem nodes_in {n : Nat} {T : Nat → Nd} {d : Nat → Int} (hD : Deep n T d) (f q : Nat) (hq : q < n) {x : Nat} (hx : x ∈ nodesFrom T f q) : x < n ∧ ∃ j : Nat, Anc n T j q x ∧ d x = d q + j := by
  induction f generalizing q with
  | zero => simp [nodesFrom] at hx
  | succ f ih =>
    simp only [nodesFrom, List.mem_cons, List.mem_append] at hx
    rcases hx with rfl | hx | hx
    · exact ⟨hq, 0, rfl, by simp⟩
    · by_cases hz : (T q).z ≠ 0
      · rw [if_pos hz] at hx
        obtain ⟨h1, h2⟩ := hD.zero q hq hz
        obtain ⟨h3, j, h4, h5⟩ := ih _ h2 hx
        exact ⟨h3, j + 1, anc_up ⟨hq, .inl ⟨hz, rfl⟩⟩ h4, by omega⟩
      · rw [if_neg hz] at hx; simp at hx
    · by_cases hz : (T q).o ≠ 0
      · rw [if_pos hz] at hx
        obtain ⟨h1, h2⟩ := hD.one q hq hz
        obtain ⟨h3, j, h4, h5⟩ := ih _ h2 hx
        exact ⟨h3, j + 1, anc_up ⟨hq, .inr ⟨hz, rfl⟩⟩ h4, by omega⟩
      · rw [if_neg hz] at hx; simp at hx
theorem nodes_nodup {n : Nat} {T : Nat → Nd} {d : Nat → Int} (ht : treeB n T = true) (hD : Deep n T d) (f q : Nat) (hq : q < n) : (nodesFrom T f q).Nodup := by
  induction f generalizing q with
  | zero => simp [nodesFrom]
  | succ f ih =>
    have hZ : ∀ x, x ∈ (if (T q).z ≠ 0 then nodesFrom T f (T q).z.toNat else []) → (T q).z ≠ 0 ∧ ∃ j : Nat, Anc n T j (T q).z.toNat x ∧ d x = d q + 1 + j := by
      intro x hx
      by_cases hz : (T q).z ≠ 0
      · rw [if_pos hz] at hx
        obtain ⟨h1, h2⟩ := hD.zero q hq hz
        obtain ⟨_, j, h4, h5⟩ := nodes_in hD f _ h2 hx
        exact ⟨hz, j, h4, by omega⟩
      · rw [if_neg hz] at hx; simp at hx
    have hO : ∀ x, x ∈ (if (T q).o ≠ 0 then nodesFrom T f (T q).o.toNat else []) → (T q).o ≠ 0 ∧ ∃ j : Nat, Anc n T j (T q).o.toNat x ∧ d x = d q + 1 + j := by
      intro x hx
      by_cases hz : (T q).o ≠ 0
      · rw [if_pos hz] at hx
        obtain ⟨h1, h2⟩ := hD.one q hq hz
        obtain ⟨_, j, h4, h5⟩ := nodes_in hD f _ h2 hx
        exact ⟨hz, j, h4, by omega⟩
      · rw [if_neg hz] at hx; simp at hx
    simp only [nodesFrom, List.nodup_cons, List.nodup_append, List.mem_append]
    refine ⟨?_, ?_, ?_, ?_⟩
    · rintro (h | h)
      · obtain ⟨_, j, _, h5⟩ := hZ q h; omega
      · obtain ⟨_, j, _, h5⟩ := hO q h; omega
    · split
      · rename_i hz; exact ih _ (hD.zero q hq hz).2
      · simp
    · split
      · rename_i hz; exact ih _ (hD.one q hq hz).2
      · simp
    · rintro x hx y hy rfl
      obtain ⟨hz, j, h4, h5⟩ := hZ x hx
      obtain ⟨ho, j', h4', h5'⟩ := hO x hy
      obtain rfl : j = j' := by omega
      exact kid_two ht hq hz ho (anc_one ht h4 h4')
theorem nodup_le {l l' : List Nat} (h : l.Nodup) (hs : ∀ x, x ∈ l → x ∈ l') : l.length ≤ l'.length := by
  induction l generalizing l' with
  | nil => simp
  | cons x l ih =>
    obtain ⟨h1, h2⟩ := List.nodup_cons.1 h
    have hx := hs x (by simp)
    have := ih (l' := l'.erase x) h2 (fun y hy => by
      have hne : y ≠ x := by rintro rfl; exact h1 hy
      exact (List.mem_erase_of_ne hne).2 (hs y (by simp [hy])))
    rw [List.length_erase_of_mem hx] at this
    have hp := List.length_pos_of_mem hx
    simp only [List.length_cons]
    omega
theorem many_filter (T : Nat → Nd) (n : Nat) : ((List.range n).filter fun i => (T i).h).length = manyTo T n := by
  induction n with
  | zero => rfl
  | succ n ih =>
    rw [List.range_succ, List.filter_append, List.length_append, ih, manyTo]
    cases hh : (T n).h <;> simp [hh]
theorem ents_many {n : Nat} {T : Nat → Nd} {d : Nat → Int} (ht : treeB n T = true) (hD : Deep n T d) (f q : Nat) (a l : Int) (hq : q < n) : (entsFrom T f q a l).length ≤ manyTo T n := by
  rw [ents_nodes, ← many_filter]
  refine nodup_le ((nodes_nodup ht hD f q hq).filter _) fun x hx => ?_
  rw [List.mem_filter] at hx ⊢
  exact ⟨List.mem_range.2 (nodes_in hD f q hq hx.1).1, hx.2⟩

/-- One entry comes ahead of another one. -/
def ltE (e e' : En) : Prop := cmpP e.1 e.2.1 e'.1 e'.2.1 < 0
theorem ltE_of {e e' : En} (h : e.1 < e'.1 ∨ (e.1 = e'.1 ∧ e.2.1 < e'.2.1)) : ltE e e' := by
  unfold ltE cmpP
  rcases h with h | ⟨h, h'⟩
  · rw [if_pos (by omega)]; unfold cmpI; simp [h]
  · rw [if_neg (by simp [h])]; unfold cmpI; simp [h']
def okE (e : En) : Prop := goodB e.1 e.2.1 = true ∧ inB e.2.2 0 1000000 = true
theorem ents_rise {n : Nat} {T : Nat → Nd} {d : Nat → Int} (hD : Deep n T d) (he : ∀ k, k < n → ndOk T k = true) (f q : Nat) (a l : Int) (hq : q < n) (hl : d q = l) (hg : goodB a l = true) :
    (entsFrom T f q a l).Pairwise ltE ∧ ∀ e, e ∈ entsFrom T f q a l → okE e ∧ a ≤ e.1 ∧ e.1 < a + pw l ∧ l ≤ e.2.1 := by
  induction f generalizing q a l with
  | zero => simp [entsFrom]
  | succ f ih =>
    have hp := pw_pos l
    have hv : inB (T q).v 0 1000000 = true := by
      have := he q hq
      unfold ndOk at this
      simp only [Bool.and_eq_true] at this
      exact this.1.2
    have hb := hD.bd q
    by_cases h32 : l < 32
    · have hs := pw_succ l h32
      have hp1 := pw_pos (l + 1)
      have hf := half_facts hg h32
      have hZ : (if (T q).z ≠ 0 then entsFrom T f (T q).z.toNat a (l + 1) else []).Pairwise ltE ∧ ∀ e, e ∈ (if (T q).z ≠ 0 then entsFrom T f (T q).z.toNat a (l + 1) else []) → okE e ∧ a ≤ e.1 ∧ e.1 < a + pw (l + 1) ∧ l + 1 ≤ e.2.1 := by
        by_cases hz : (T q).z ≠ 0
        · rw [if_pos hz]
          obtain ⟨h1, h2⟩ := hD.zero q hq hz
          exact ih _ _ _ h2 (by omega) hf.lo
        · rw [if_neg hz]; simp
      have hO : (if (T q).o ≠ 0 then entsFrom T f (T q).o.toNat (a + pw (l + 1)) (l + 1) else []).Pairwise ltE ∧ ∀ e, e ∈ (if (T q).o ≠ 0 then entsFrom T f (T q).o.toNat (a + pw (l + 1)) (l + 1) else []) → okE e ∧ a + pw (l + 1) ≤ e.1 ∧ e.1 < a + pw (l + 1) + pw (l + 1) ∧ l + 1 ≤ e.2.1 := by
        by_cases hz : (T q).o ≠ 0
        · rw [if_pos hz]
          obtain ⟨h1, h2⟩ := hD.one q hq hz
          exact ih _ _ _ h2 (by omega) hf.hi
        · rw [if_neg hz]; simp
      simp only [entsFrom]
      refine ⟨?_, ?_⟩
      · rw [List.pairwise_append, List.pairwise_append]
        refine ⟨by split <;> simp, ⟨hZ.1, hO.1, ?_⟩, ?_⟩
        · intro e h1 e' h2
          have a1 := (hZ.2 e h1).2
          have a2 := (hO.2 e' h2).2
          exact ltE_of (.inl (by omega))
        · intro e h1 e' h2
          have e1 : e = (a, l, (T q).v) := by
            cases hh : (T q).h with
            | true => rw [hh] at h1; simpa using h1
            | false => rw [hh] at h1; simp at h1
          subst e1
          rw [List.mem_append] at h2
          rcases h2 with h2 | h2
          · have a1 := (hZ.2 e' h2).2
            refine ltE_of ?_
            dsimp only
            omega
          · have a2 := (hO.2 e' h2).2
            refine ltE_of (.inl ?_)
            dsimp only
            omega
      · intro e h
        rw [List.mem_append, List.mem_append] at h
        rcases h with h | h | h
        · have e1 : e = (a, l, (T q).v) := by
            cases hh : (T q).h with
            | true => rw [hh] at h; simpa using h
            | false => rw [hh] at h; simp at h
          subst e1
          exact ⟨⟨hg, hv⟩, Int.le_refl _, by dsimp only; omega, Int.le_refl _⟩
        · have a1 := hZ.2 e h
          exact ⟨a1.1, by omega, by omega, by omega⟩
        · have a1 := hO.2 e h
          exact ⟨a1.1, by omega, by omega, by omega⟩
    · obtain ⟨h1, h2⟩ := hD.leaf hq (show d q = 32 by omega)
      simp only [entsFrom, h1, h2, ne_eq, not_true_eq_false, if_false, List.append_nil]
      cases hh : (T q).h with
      | true =>
        simp only [if_true, List.pairwise_cons, List.mem_singleton]
        refine ⟨by simp, ?_⟩
        rintro e rfl
        exact ⟨⟨hg, hv⟩, Int.le_refl _, by dsimp only; omega, Int.le_refl _⟩
      | false => simp

/-- What is left where a prefix goes. -/
def isE (a l : Int) (e : En) : Bool := e.1 == a && e.2.1 == l
def restE (a l : Int) (es : List En) : List En := es.filter fun e => !isE a l e
/-- All entries of a trie. -/
def allE (T : Nat → Nd) : List En := entsFrom T 33 0 0 0
theorem good00 : goodB 0 0 = true := by decide
theorem all_facts {n : Nat} {T : Nat → Nd} (h : trieB n T = true) : (allE T).Pairwise ltE ∧ (∀ e, e ∈ allE T → okE e) ∧ (allE T).length ≤ 30 := by
  obtain ⟨⟨hn1, hn2⟩, htr, hen⟩ := trieB_parts h
  obtain ⟨d, hD⟩ := deep_of htr
  unfold entsB at hen
  simp only [Bool.and_eq_true, List.all_eq_true, List.mem_range, decide_eq_true_eq] at hen
  obtain ⟨h1, h2⟩ := ents_rise hD hen.1 33 0 0 0 hn1 hD.root good00
  exact ⟨h1, fun e he => (h2 e he).1, Nat.le_trans (ents_many htr hD 33 0 0 0 hn1) hen.2⟩
def eAt (es : List En) (i : Nat) : En := es.getD i (0, 0, 0)
theorem eAt_get {es : List En} {i : Nat} (hi : i < es.length) : eAt es i = es[i] := by
  unfold eAt
  rw [List.getD_eq_getElem?_getD, List.getElem?_eq_getElem hi]
  rfl
def foundTo (a l : Int) (es : List En) (k : Nat) : Bool := (es.take k).any (isE a l)
theorem rest_y {a l : Int} {es : List En} {k : Nat} (hk : k < es.length) (h : isE a l (eAt es k) = true) : restE a l (es.take (k + 1)) = restE a l (es.take k) := by
  rw [List.take_succ_eq_append_getElem hk]
  unfold restE
  rw [List.filter_append, ← eAt_get hk]
  simp [h]
theorem rest_n {a l : Int} {es : List En} {k : Nat} (hk : k < es.length) (h : isE a l (eAt es k) = false) : restE a l (es.take (k + 1)) = restE a l (es.take k) ++ [eAt es k] := by
  rw [List.take_succ_eq_append_getElem hk]
  unfold restE
  rw [List.filter_append, ← eAt_get hk]
  simp [h]
theorem found_y {a l : Int} {es : List En} {k : Nat} (hk : k < es.length) (h : isE a l (eAt es k) = true) : foundTo a l es (k + 1) = true := by
  unfold foundTo
  rw [List.take_succ_eq_append_getElem hk, List.any_append, ← eAt_get hk]
  simp [h]
theorem found_n {a l : Int} {es : List En} {k : Nat} (hk : k < es.length) (h : isE a l (eAt es k) = false) : foundTo a l es (k + 1) = foundTo a l es k := by
  unfold foundTo
  rw [List.take_succ_eq_append_getElem hk, List.any_append, ← eAt_get hk]
  simp [h]
theorem rest_len (a l : Int) (es : List En) : (restE a l es).length ≤ es.length := List.length_filter_le _ _
theorem found_len {a l : Int} {es : List En} : (restE a l es).length = es.length ↔ foundTo a l es es.length = false := by
  unfold foundTo restE
  rw [List.take_length, List.length_filter_eq_length_iff, List.any_eq_false]
  constructor
  · intro h e he
    have := h e he
    simpa using this
  · intro h e he
    have := h e he
    simpa using this
theorem rest_facts {a l : Int} {es : List En} (h1 : es.Pairwise ltE) (h2 : ∀ e, e ∈ es → okE e) (h3 : es.length ≤ 30) : (restE a l es).Pairwise ltE ∧ (∀ e, e ∈ restE a l es → okE e) ∧ (restE a l es).length ≤ 30 := by
  refine ⟨h1.filter _, fun e he => h2 e ?_, Nat.le_trans (rest_len a l es) h3⟩
  exact (List.mem_filter.1 he).1
theorem found_bad {a l : Int} {es : List En} (h2 : ∀ e, e ∈ es → okE e) (hg : goodB a l = false) : foundTo a l es es.length = false := by
  unfold foundTo
  rw [List.take_length, List.any_eq_false]
  intro e he h
  unfold isE at h
  simp only [Bool.and_eq_true, beq_iff_eq] at h
  have := (h2 e he).1
  rw [h.1, h.2, hg] at this
  simp at this
end Go.Proofs.Ytjmflkheaioboab
