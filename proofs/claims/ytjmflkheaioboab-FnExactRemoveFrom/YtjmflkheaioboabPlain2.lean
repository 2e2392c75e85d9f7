/- The plain mathematics of tries: when nodes are a tree, which entries are good, and the way down by bits; no program is named here. -/
import Derived.Test.YtjmflkheaioboabPlain1
namespace Go.Proofs.Ytjmflkheaioboab
open Go.RowKit

/-- A node. -/
structure Nd where
  z : Int
  o : Int
  h : Bool
  v : Int

def nd0 : Nd := ⟨0, 0, false, 0⟩

/-- One half of node k is given its depth. -/
def putD (n k : Nat) (x : Int) (d : Nat → Int) : Option (Nat → Int) :=
  if x = 0 then some d
  else if x ≤ k ∨ (n : Int) ≤ x ∨ d x.toNat ≠ 0 ∨ d k = 32 then none
  else some (fun i => if i = x.toNat then d k + 1 else d i)

/-- The same, where too great a depth is seen later. -/
def putS (n k : Nat) (x : Int) (d : Nat → Int) : Option (Nat → Int) :=
  if x = 0 then some d
  else if x ≤ k ∨ (n : Int) ≤ x ∨ d x.toNat ≠ 0 then none
  else some (fun i => if i = x.toNat then d k + 1 else d i)

def tStep (n : Nat) (T : Nat → Nd) (k : Nat) (d : Nat → Int) : Option (Nat → Int) :=
  if k ≠ 0 ∧ d k = 0 then none else (putD n k (T k).z d).bind (putD n k (T k).o)
def tStepS (n : Nat) (T : Nat → Nd) (k : Nat) (d : Nat → Int) : Option (Nat → Int) :=
  if (k ≠ 0 ∧ d k = 0) ∨ 32 < d k then none else (putS n k (T k).z d).bind (putS n k (T k).o)

def treeTo (n : Nat) (T : Nat → Nd) : Nat → Option (Nat → Int)
  | 0 => some (fun _ => 0)
  | k + 1 => (treeTo n T k).bind (tStep n T k)
def treeToS (n : Nat) (T : Nat → Nd) : Nat → Option (Nat → Int)
  | 0 => some (fun _ => 0)
  | k + 1 => (treeToS n T k).bind (tStepS n T k)

def treeB (n : Nat) (T : Nat → Nd) : Bool := (treeTo n T n).isSome

def ndOk (T : Nat → Nd) (k : Nat) : Bool :=
  ((T k).h || (T k).v == 0) && inB (T k).v 0 1000000 && (k == 0 || !((T k).z == 0) || !((T k).o == 0) || (T k).h)
def manyTo (T : Nat → Nd) : Nat → Nat
  | 0 => 0
  | k + 1 => manyTo T k + (if (T k).h then 1 else 0)
def entsB (n : Nat) (T : Nat → Nd) : Bool := (List.range n).all (ndOk T) && decide (manyTo T n ≤ 30)
def trieB (n : Nat) (T : Nat → Nd) : Bool := decide (1 ≤ n ∧ n ≤ 2000) && (treeB n T && entsB n T)

theorem manyTo_le (T : Nat → Nd) (k : Nat) : manyTo T k ≤ k := by
  induction k with
  | zero => simp [manyTo]
  | succ k ih => unfold manyTo; split <;> omega

/-- What depths are. -/
def DepOk (d : Nat → Int) : Prop := ∀ i, 0 ≤ d i ∧ d i ≤ 33

theorem putD_some {n k : Nat} {x : Int} {d d' : Nat → Int} (h : putD n k x d = some d') :
    (x = 0 ∧ d' = d) ∨ ((k : Int) < x ∧ x < n ∧ d x.toNat = 0 ∧ d k ≠ 32 ∧ d' = fun i => if i = x.toNat then d k + 1 else d i) := by
  unfold putD at h
  split at h
  · rename_i hx
    exact .inl ⟨hx, by simpa using h.symm⟩
  · split at h
    · simp at h
    · rename_i h1 h2
      refine .inr ⟨by omega, by omega, ?_, ?_, by simpa using h.symm⟩
      · exact Classical.byContradiction fun hn => h2 (.inr (.inr (.inl hn)))
      · intro hn; exact h2 (.inr (.inr (.inr hn)))
theorem putS_some {n k : Nat} {x : Int} {d d' : Nat → Int} (h : putS n k x d = some d') :
    (x = 0 ∧ d' = d) ∨ ((k : Int) < x ∧ x < n ∧ d x.toNat = 0 ∧ d' = fun i => if i = x.toNat then d k + 1 else d i) := by
  unfold putS at h
  split at h
  · rename_i hx
    exact .inl ⟨hx, by simpa using h.symm⟩
  · split at h
    · simp at h
    · rename_i h1 h2
      refine .inr ⟨by omega, by omega, ?_, by simpa using h.symm⟩
      exact Classical.byContradiction fun hn => h2 (.inr (.inr hn))

theorem putD_keep {n k : Nat} {x : Int} {d d' : Nat → Int} (h : putD n k x d = some d') : d' k = d k := by
  rcases putD_some h with ⟨_, rfl⟩ | ⟨h1, h2, _, _, rfl⟩
  · rfl
  · simp; intro hk; omega
theorem putS_keep {n k : Nat} {x : Int} {d d' : Nat → Int} (h : putS n k x d = some d') : d' k = d k := by
  rcases putS_some h with ⟨_, rfl⟩ | ⟨h1, h2, _, rfl⟩
  · rfl
  · simp; intro hk; omega

/-- Depth 33 stays. -/
theorem putS_33 {n k : Nat} {x : Int} {d d' : Nat → Int} (h : putS n k x d = some d') {y : Nat} (hy : d y = 33) : d' y = 33 := by
  rcases putS_some h with ⟨_, rfl⟩ | ⟨h1, h2, h3, rfl⟩
  · exact hy
  · simp only
    split
    · rename_i e; rw [e, h3] at hy; simp at hy
    · exact hy

theorem putD_S {n k : Nat} {x : Int} {d d' : Nat → Int} (h : putD n k x d = some d') : putS n k x d = some d' := by
  rcases putD_some h with ⟨rfl, rfl⟩ | ⟨h1, h2, h3, h4, rfl⟩
  · simp [putS]
  · unfold putS
    rw [if_neg (by omega), if_neg]
    rintro (h | h | h)
    · omega
    · omega
    · exact h h3
theorem putD_none {n k : Nat} {x : Int} {d : Nat → Int} (h : putD n k x d = none) : putS n k x d = none ∨ ∃ d', putS n k x d = some d' ∧ ∃ y, k < y ∧ y < n ∧ d' y = 33 := by
  unfold putD at h
  split at h
  · simp at h
  · split at h
    · rename_i h1 h2
      by_cases h3 : x ≤ k ∨ (n : Int) ≤ x ∨ d x.toNat ≠ 0
      · exact .inl (by unfold putS; rw [if_neg h1, if_pos h3])
      · have h4 : d k = 32 := by
          rcases h2 with h | h | h | h
          · exact absurd (.inl h) h3
          · exact absurd (.inr (.inl h)) h3
          · exact absurd (.inr (.inr h)) h3
          · exact h
        refine .inr ⟨_, by unfold putS; rw [if_neg h1, if_neg h3], x.toNat, ?_, ?_, ?_⟩
        · have : ¬ x ≤ k := fun h => h3 (.inl h)
          omega
        · have : ¬ (n : Int) ≤ x := fun h => h3 (.inr (.inl h))
          have : ¬ x ≤ k := fun h => h3 (.inl h)
          omega
        · simp [h4]
    · simp at h

theorem tStep_S {n : Nat} {T : Nat → Nd} {k : Nat} {d d' : Nat → Int} (hd : d k ≤ 32) (h : tStep n T k d = some d') : tStepS n T k d = some d' := by
  unfold tStep at h
  split at h
  · simp at h
  · rename_i h1
    obtain ⟨d1, e1, e2⟩ := Option.bind_eq_some_iff.1 h
    unfold tStepS
    rw [if_neg (by rintro (h | h); exact h1 h; omega), putD_S e1, Option.bind_some, putD_S e2]
theorem tStep_none {n : Nat} {T : Nat → Nd} {k : Nat} {d : Nat → Int} (h : tStep n T k d = none) : tStepS n T k d = none ∨ ∃ d', tStepS n T k d = some d' ∧ ∃ y, k < y ∧ y < n ∧ d' y = 33 := by
  unfold tStep at h
  split at h
  · rename_i h1
    exact .inl (by unfold tStepS; rw [if_pos (.inl h1)])
  · rename_i h1
    by_cases h2 : (k ≠ 0 ∧ d k = 0) ∨ 32 < d k
    · exact .inl (by unfold tStepS; rw [if_pos h2])
    · have e : tStepS n T k d = (putS n k (T k).z d).bind (putS n k (T k).o) := by unfold tStepS; rw [if_neg h2]
      rw [e]
      cases hz : putD n k (T k).z d with
      | none =>
        rcases putD_none hz with hs | ⟨d', hs, y, hy1, hy2, hy3⟩
        · exact .inl (by rw [hs]; rfl)
        · rw [hs, Option.bind_some]
          cases ho : putS n k (T k).o d' with
          | none => exact .inl rfl
          | some d2 => exact .inr ⟨d2, rfl, y, hy1, hy2, putS_33 ho hy3⟩
      | some d1 =>
        rw [hz, Option.bind_some] at h
        rw [putD_S hz, Option.bind_some]
        exact putD_none h

theorem tStepS_33 {n : Nat} {T : Nat → Nd} {k : Nat} {d d' : Nat → Int} (h : tStepS n T k d = some d') {y : Nat} (hy : d y = 33) : d' y = 33 ∧ y ≠ k := by
  unfold tStepS at h
  split at h
  · simp at h
  · rename_i h1
    obtain ⟨d1, e1, e2⟩ := Option.bind_eq_some_iff.1 h
    refine ⟨putS_33 e2 (putS_33 e1 hy), ?_⟩
    rintro rfl
    exact h1 (.inr (by omega))

theorem putD_bd {n k : Nat} {x : Int} {d d' : Nat → Int} (h : putD n k x d = some d') (hd : ∀ i, 0 ≤ d i ∧ d i ≤ 32) : ∀ i, 0 ≤ d' i ∧ d' i ≤ 32 := by
  intro i
  rcases putD_some h with ⟨_, rfl⟩ | ⟨_, _, _, h4, rfl⟩
  · exact hd i
  · have := hd i
    have := hd k
    simp only
    split <;> omega
theorem putS_bd {n k : Nat} {x : Int} {d d' : Nat → Int} (h : putS n k x d = some d') (hk : d k ≤ 32) (hd : DepOk d) : DepOk d' := by
  intro i
  rcases putS_some h with ⟨_, rfl⟩ | ⟨_, _, _, rfl⟩
  · exact hd i
  · have := hd i
    have := hd k
    simp only
    split <;> omega
theorem tStep_bd {n : Nat} {T : Nat → Nd} {k : Nat} {d d' : Nat → Int} (h : tStep n T k d = some d') (hd : ∀ i, 0 ≤ d i ∧ d i ≤ 32) : ∀ i, 0 ≤ d' i ∧ d' i ≤ 32 := by
  unfold tStep at h
  split at h
  · simp at h
  · obtain ⟨d1, e1, e2⟩ := Option.bind_eq_some_iff.1 h
    exact putD_bd e2 (putD_bd e1 hd)
theorem treeTo_bd (n : Nat) (T : Nat → Nd) (k : Nat) {d : Nat → Int} (h : treeTo n T k = some d) : ∀ i, 0 ≤ d i ∧ d i ≤ 32 := by
  induction k generalizing d with
  | zero => simp only [treeTo, Option.some.injEq] at h; subst h; intro i; simp
  | succ k ih =>
    obtain ⟨d1, e1, e2⟩ := Option.bind_eq_some_iff.1 h
    exact tStep_bd e2 (ih e1)
theorem tStepS_bd {n : Nat} {T : Nat → Nd} {k : Nat} {d d' : Nat → Int} (h : tStepS n T k d = some d') (hd : DepOk d) : DepOk d' := by
  unfold tStepS at h
  split at h
  · simp at h
  · rename_i h1
    have hk : d k ≤ 32 := Int.not_lt.1 fun h => h1 (.inr h)
    obtain ⟨d1, e1, e2⟩ := Option.bind_eq_some_iff.1 h
    exact putS_bd e2 (by rw [putS_keep e1]; exact hk) (putS_bd e1 hk hd)
theorem treeToS_bd (n : Nat) (T : Nat → Nd) (k : Nat) {d : Nat → Int} (h : treeToS n T k = some d) : DepOk d := by
  induction k generalizing d with
  | zero => simp only [treeToS, Option.some.injEq] at h; subst h; intro i; simp
  | succ k ih =>
    obtain ⟨d1, e1, e2⟩ := Option.bind_eq_some_iff.1 h
    exact tStepS_bd e2 (ih e1)

theorem treeS_both (n : Nat) (T : Nat → Nd) (k : Nat) : treeTo n T k = treeToS n T k ∨ (treeTo n T k = none ∧ ∃ d, treeToS n T k = some d ∧ ∃ y, k ≤ y ∧ y < n ∧ d y = 33) := by
  induction k with
  | zero => exact .inl rfl
  | succ k ih =>
    rcases ih with ih | ⟨h1, d, h2, y, hy1, hy2, hy3⟩
    · cases ht : treeTo n T k with
      | none =>
        rw [ht] at ih
        exact .inl (by simp only [treeTo, treeToS, ht, ← ih, Option.bind_none])
      | some d =>
        have hb := treeTo_bd n T k ht
        rw [ht] at ih
        simp only [treeTo, treeToS, ht, ← ih, Option.bind_some]
        cases hs : tStep n T k d with
        | some d' => exact .inl (tStep_S (hb k).2 hs).symm
        | none =>
          rcases tStep_none hs with h | ⟨d', h, y, hy1, hy2, hy3⟩
          · exact .inl h.symm
          · exact .inr ⟨rfl, d', h, y, hy1, hy2, hy3⟩
    · simp only [treeTo, treeToS, h1, h2, Option.bind_none, Option.bind_some]
      cases hs : tStepS n T k d with
      | none => exact .inl rfl
      | some d' =>
        obtain ⟨e1, e2⟩ := tStepS_33 hs hy3
        exact .inr ⟨by simp, d', by simp, y, by omega, hy2, e1⟩
theorem treeS_eq (n : Nat) (T : Nat → Nd) : (treeToS n T n).isSome = treeB n T := by
  rcases treeS_both n T n with h | ⟨_, d, _, y, h1, h2, _⟩
  · rw [treeB, h]
  · omega

theorem treeTo_none {n : Nat} {T : Nat → Nd} {k : Nat} (h : treeTo n T k = none) {m : Nat} (hm : k ≤ m) : treeTo n T m = none := by
  induction m with
  | zero => have : k = 0 := by omega
            subst this; exact h
  | succ m ih =>
    by_cases hk : k = m + 1
    · rw [← hk]; exact h
    · simp only [treeTo, ih (by omega), Option.bind_none]
theorem treeToS_none {n : Nat} {T : Nat → Nd} {k : Nat} (h : treeToS n T k = none) {m : Nat} (hm : k ≤ m) : treeToS n T m = none := by
  induction m with
  | zero => have : k = 0 := by omega
            subst this; exact h
  | succ m ih =>
    by_cases hk : k = m + 1
    · rw [← hk]; exact h
    · simp only [treeToS, ih (by omega), Option.bind_none]
theorem treeB_no {n : Nat} {T : Nat → Nd} {k : Nat} (hk : k ≤ n) (h : treeTo n T k = none) : treeB n T = false := by rw [treeB, treeTo_none h hk]; rfl
theorem treeB_noS {n : Nat} {T : Nat → Nd} {k : Nat} (hk : k ≤ n) (h : treeToS n T k = none) : treeB n T = false := by rw [← treeS_eq, treeToS_none h hk]; rfl
theorem entsB_no {n : Nat} {T : Nat → Nd} {k : Nat} (hk : k < n) (h : ndOk T k = false) : entsB n T = false := by
  unfold entsB
  have h2 : (List.range n).all (ndOk T) = false := by
    rw [List.all_eq_false]
    exact ⟨k, List.mem_range.2 hk, by simp [h]⟩
  rw [h2]; rfl
theorem ents_next {T : Nat → Nd} {k : Nat} (h : (List.range k).all (ndOk T) = true) (h1 : ndOk T k = true) : (List.range (k + 1)).all (ndOk T) = true := by
  rw [List.range_succ, List.all_append, h, Bool.true_and]
  simp [h1]

/-- In a tree each half lies behind its upper node and within the nodes, or is none. -/
theorem tree_half {n : Nat} {T : Nat → Nd} (h : treeB n T = true) {k : Nat} (hk : k < n) :
    ((T k).z = 0 ∨ ((k : Int) < (T k).z ∧ (T k).z < n)) ∧ ((T k).o = 0 ∨ ((k : Int) < (T k).o ∧ (T k).o < n)) := by
  have h1 : (treeTo n T (k + 1)).isSome = true := by
    cases ht : treeTo n T (k + 1) with
    | some d => rfl
    | none => rw [treeB_no (by omega) ht] at h; simp at h
  obtain ⟨d', hd'⟩ := Option.isSome_iff_exists.1 h1
  obtain ⟨d, _, e2⟩ := Option.bind_eq_some_iff.1 hd'
  unfold tStep at e2
  split at e2
  · simp at e2
  · obtain ⟨d1, e3, e4⟩ := Option.bind_eq_some_iff.1 e2
    constructor
    · rcases putD_some e3 with ⟨h, _⟩ | ⟨h1, h2, _⟩
      · exact .inl h
      · exact .inr ⟨h1, h2⟩
    · rcases putD_some e4 with ⟨h, _⟩ | ⟨h1, h2, _⟩
      · exact .inl h
      · exact .inr ⟨h1, h2⟩

theorem trieB_parts {n : Nat} {T : Nat → Nd} (h : trieB n T = true) : (1 ≤ n ∧ n ≤ 2000) ∧ treeB n T = true ∧ entsB n T = true := by
  unfold trieB at h
  rw [Bool.and_eq_true, Bool.and_eq_true] at h
  exact ⟨by simpa using h.1, h.2.1, h.2.2⟩
theorem trieB_n {n : Nat} {T : Nat → Nd} (h : ¬ (1 ≤ n ∧ n ≤ 2000)) : trieB n T = false := by
  unfold trieB
  rw [show decide (1 ≤ n ∧ n ≤ 2000) = false by simpa using h]
  rfl
theorem trieB_in {n : Nat} {T : Nat → Nd} (h0 : 1 ≤ n) (h1 : n ≤ 2000) : trieB n T = (treeB n T && entsB n T) := by
  unfold trieB
  rw [show decide (1 ≤ n ∧ n ≤ 2000) = true by simp [h0, h1], Bool.true_and]
theorem trieB_f1 {n : Nat} {T : Nat → Nd} (h : treeB n T = false) : trieB n T = false := by
  unfold trieB; rw [h]; simp
theorem trieB_f2 {n : Nat} {T : Nat → Nd} (h : entsB n T = false) : trieB n T = false := by
  unfold trieB; rw [h]; simp

theorem putD_z {n k : Nat} {x : Int} {d : Nat → Int} (h : x = 0) : putD n k x d = some d := by unfold putD; rw [if_pos h]
theorem putD_n {n k : Nat} {x : Int} {d : Nat → Int} (h : x ≠ 0) (h1 : x ≤ k ∨ (n : Int) ≤ x ∨ d x.toNat ≠ 0 ∨ d k = 32) : putD n k x d = none := by unfold putD; rw [if_neg h, if_pos h1]
theorem putD_y {n k x : Nat} {d : Nat → Int} (h1 : k < x) (h2 : x < n) (h3 : d x = 0) (h4 : d k ≠ 32) : putD n k (x : Int) d = some (fun i => if i = x then d k + 1 else d i) := by
  unfold putD
  rw [if_neg (by omega), if_neg, Int.toNat_natCast]
  rw [Int.toNat_natCast]
  rintro (h | h | h | h)
  · omega
  · omega
  · exact h h3
  · exact h4 h
theorem putS_z {n k : Nat} {x : Int} {d : Nat → Int} (h : x = 0) : putS n k x d = some d := by unfold putS; rw [if_pos h]
theorem putS_n {n k : Nat} {x : Int} {d : Nat → Int} (h : x ≠ 0) (h1 : x ≤ k ∨ (n : Int) ≤ x ∨ d x.toNat ≠ 0) : putS n k x d = none := by unfold putS; rw [if_neg h, if_pos h1]
theorem putS_y {n k x : Nat} {d : Nat → Int} (h1 : k < x) (h2 : x < n) (h3 : d x = 0) : putS n k (x : Int) d = some (fun i => if i = x then d k + 1 else d i) := by
  unfold putS
  rw [if_neg (by omega), if_neg, Int.toNat_natCast]
  rw [Int.toNat_natCast]
  rintro (h | h | h)
  · omega
  · omega
  · exact h h3
theorem tree_next {n : Nat} {T : Nat → Nd} {k : Nat} {d : Nat → Int} (h : treeTo n T k = some d) : treeTo n T (k + 1) = tStep n T k d := by simp only [treeTo, h, Option.bind_some]
theorem tree_nextS {n : Nat} {T : Nat → Nd} {k : Nat} {d : Nat → Int} (h : treeToS n T k = some d) : treeToS n T (k + 1) = tStepS n T k d := by simp only [treeToS, h, Option.bind_some]
theorem step_up {n : Nat} {T : Nat → Nd} {k : Nat} {d : Nat → Int} (h0 : k ≠ 0) (h1 : d k = 0) : tStep n T k d = none := by unfold tStep; rw [if_pos ⟨h0, h1⟩]
theorem step_zn {n : Nat} {T : Nat → Nd} {k : Nat} {d : Nat → Int} (h : putD n k (T k).z d = none) : tStep n T k d = none := by
  unfold tStep; rw [h]; split <;> rfl
theorem step_on {n : Nat} {T : Nat → Nd} {k : Nat} {d d1 : Nat → Int} (h : putD n k (T k).z d = some d1) (h1 : putD n k (T k).o d1 = none) : tStep n T k d = none := by
  unfold tStep; rw [h, Option.bind_some, h1]; split <;> rfl
theorem step_y {n : Nat} {T : Nat → Nd} {k : Nat} {d d1 d2 : Nat → Int} (h0 : ¬ (k ≠ 0 ∧ d k = 0)) (h : putD n k (T k).z d = some d1) (h1 : putD n k (T k).o d1 = some d2) : tStep n T k d = some d2 := by
  unfold tStep; rw [if_neg h0, h, Option.bind_some, h1]
theorem step_upS {n : Nat} {T : Nat → Nd} {k : Nat} {d : Nat → Int} (h : (k ≠ 0 ∧ d k = 0) ∨ 32 < d k) : tStepS n T k d = none := by unfold tStepS; rw [if_pos h]
theorem step_znS {n : Nat} {T : Nat → Nd} {k : Nat} {d : Nat → Int} (h : putS n k (T k).z d = none) : tStepS n T k d = none := by
  unfold tStepS; rw [h]; split <;> rfl
theorem step_onS {n : Nat} {T : Nat → Nd} {k : Nat} {d d1 : Nat → Int} (h : putS n k (T k).z d = some d1) (h1 : putS n k (T k).o d1 = none) : tStepS n T k d = none := by
  unfold tStepS; rw [h, Option.bind_some, h1]; split <;> rfl
theorem step_yS {n : Nat} {T : Nat → Nd} {k : Nat} {d d1 d2 : Nat → Int} (h0 : ¬ ((k ≠ 0 ∧ d k = 0) ∨ 32 < d k)) (h : putS n k (T k).z d = some d1) (h1 : putS n k (T k).o d1 = some d2) : tStepS n T k d = some d2 := by
  unfold tStepS; rw [if_neg h0, h, Option.bind_some, h1]
theorem treeB_no1 {n : Nat} {T : Nat → Nd} {k : Nat} {d : Nat → Int} (hk : k < n) (h : treeTo n T k = some d) (h1 : tStep n T k d = none) : treeB n T = false := treeB_no hk ((tree_next h).trans h1)
theorem treeB_no1S {n : Nat} {T : Nat → Nd} {k : Nat} {d : Nat → Int} (hk : k < n) (h : treeToS n T k = some d) (h1 : tStepS n T k d = none) : treeB n T = false := treeB_noS hk ((tree_nextS h).trans h1)
theorem treeB_y {n : Nat} {T : Nat → Nd} {d : Nat → Int} (h : treeTo n T n = some d) : treeB n T = true := by rw [treeB, h]; rfl
theorem treeB_yS {n : Nat} {T : Nat → Nd} {d : Nat → Int} (h : treeToS n T n = some d) : treeB n T = true := by rw [← treeS_eq, h]; rfl
end Go.Proofs.Ytjmflkheaioboab
