/- Algebras, arcs and labels, in plain words. -/
import Derived.Test.YtelehmkmdbhcfaaAl9
namespace Go.Proofs.Ytelehmkmdbhcfaa
open Go.RowKit

noncomputable def pB (p : Prop) : Bool := @decide p (Classical.propDecidable p)
theorem pB_t {p : Prop} (h : p) : pB p = true := @decide_eq_true p (Classical.propDecidable p) h
theorem pB_f {p : Prop} (h : ¬ p) : pB p = false := @decide_eq_false p (Classical.propDecidable p) h
theorem pB_iff {p : Prop} : pB p = true ↔ p := by
  constructor
  · intro e
    exact Classical.byContradiction fun h => by simp [pB_f h] at e
  · exact pB_t
theorem pB_not {p : Prop} : pB p = false ↔ ¬ p := by
  constructor
  · intro e h
    simp [pB_t h] at e
  · exact pB_f
theorem pB_congr {p q : Prop} (h : p ↔ q) : pB p = pB q := by
  have e : p = q := propext h
  rw [e]

/-- A label's row of an algebra with g weights. -/
def RowOk (g : Int) (t : Lc) : Prop := (t.n : Int) = g ∧ t.f (t.n - 1) = g - 1 ∧ ∀ i, i < t.n → 0 ≤ t.f i ∧ t.f i < g
/-- A good algebra. -/
def GA (g : Int) (m : Nat) (T : Nat → Lc) : Prop := 2 ≤ g ∧ g ≤ 12 ∧ 1 ≤ m ∧ m ≤ 4 ∧ ∀ k, k < m → RowOk g (T k)
/-- No label makes a weight better. -/
def MonoT (t : Lc) : Prop := ∀ i, i < t.n → (i : Int) ≤ t.f i
def MO (m : Nat) (T : Nat → Lc) : Prop := ∀ k, k < m → MonoT (T k)
/-- What is better stays so. -/
def IsoT (t : Lc) : Prop := ∀ i, i + 1 < t.n → t.f i ≤ t.f (i + 1)
def IS (m : Nat) (T : Nat → Lc) : Prop := ∀ k, k < m → IsoT (T k)
theorem GA.low {g : Int} {m : Nat} {T : Nat → Lc} (h : GA g m T) : ∀ k, k < m → (T k).n ≤ 12 := by
  intro k hk
  have h1 := (h.2.2.2.2 k hk).1
  have h2 := h.2.1
  omega

/-- A good arc. -/
def ArOk (m : Nat) (x y z : Int) : Prop := 0 ≤ x ∧ x ≤ 5 ∧ 0 ≤ y ∧ y ≤ 5 ∧ x ≠ y ∧ 0 ≤ z ∧ z < (m : Int)
/-- A good algebra with good arcs. -/
def NA (g : Int) (m : Nat) (T : Nat → Lc) (n : Nat) (f0 f1 f2 : Nat → Int) : Prop := GA g m T ∧ n ≤ 20 ∧ ∀ i, i < n → ArOk m (f0 i) (f1 i) (f2 i)

/-- Arc i leads from x to y. -/
def Hit (f0 f1 : Nat → Int) (x y : Int) (i : Nat) : Prop := f0 i = x ∧ f1 i = y
/-- The first of the first n arcs from x to y. -/
noncomputable def fst9 (f0 f1 : Nat → Int) (x y : Int) : Nat → Option Nat
  | 0 => none
  | n + 1 => match fst9 f0 f1 x y n with
    | some i => some i
    | none => if pB (Hit f0 f1 x y n) then some n else none
theorem fst9_succ (f0 f1 : Nat → Int) (x y : Int) (n : Nat) : fst9 f0 f1 x y (n + 1) = match fst9 f0 f1 x y n with
    | some i => some i
    | none => if pB (Hit f0 f1 x y n) then some n else none := rfl
theorem fst9_none {f0 f1 : Nat → Int} {x y : Int} : ∀ {n : Nat}, fst9 f0 f1 x y n = none ↔ ∀ i, i < n → ¬ Hit f0 f1 x y i
  | 0 => by simp [fst9]
  | n + 1 => by
    have ih := fst9_none (f0 := f0) (f1 := f1) (x := x) (y := y) (n := n)
    rw [fst9_succ]
    cases h : fst9 f0 f1 x y n with
    | some j =>
      rw [h] at ih
      simp only [reduceCtorEq, false_iff]
      intro hh
      exact absurd (ih.2 (fun i hi => hh i (by omega))) (by simp)
    | none =>
      have ih := ih.1 h
      by_cases hn : Hit f0 f1 x y n
      · simp [pB_t hn]
        exact ⟨n, by omega, hn⟩
      · simp [pB_f hn]
        intro i hi
        by_cases e : i = n
        · subst e; exact hn
        · exact ih i (by omega)
theorem fst9_some {f0 f1 : Nat → Int} {x y : Int} {j : Nat} : ∀ {n : Nat}, fst9 f0 f1 x y n = some j ↔ (j < n ∧ Hit f0 f1 x y j ∧ ∀ i, i < j → ¬ Hit f0 f1 x y i)
  | 0 => by simp [fst9]
  | n + 1 => by
    have ih := fun j => fst9_some (f0 := f0) (f1 := f1) (x := x) (y := y) (j := j) (n := n)
    rw [fst9_succ]
    cases h : fst9 f0 f1 x y n with
    | some k =>
      obtain ⟨h1, h2, h3⟩ := (ih k).1 h
      simp only [Option.some.injEq]
      constructor
      · rintro rfl
        exact ⟨by omega, h2, h3⟩
      · rintro ⟨g1, g2, g3⟩
        rcases Nat.lt_trichotomy k j with hlt | rfl | hlt
        · exact absurd h2 (g3 k hlt)
        · rfl
        · exact absurd g2 (h3 j hlt)
    | none =>
      have hno := fst9_none.1 h
      by_cases hn : Hit f0 f1 x y n
      · simp only [pB_t hn, if_true, Option.some.injEq]
        constructor
        · rintro rfl
          exact ⟨by omega, hn, hno⟩
        · rintro ⟨g1, g2, g3⟩
          by_cases e : j = n
          · exact e.symm
          · exact absurd g2 (hno j (by omega))
      · simp only [pB_f hn, Bool.false_eq_true, if_false, reduceCtorEq, false_iff]
        rintro ⟨g1, g2, g3⟩
        by_cases e : j = n
        · subst e; exact hn g2
        · exact hno j (by omega) g2
/-- Its label, -1 for none. -/
noncomputable def lab9 (f0 f1 f2 : Nat → Int) (x y : Int) (n : Nat) : Int := match fst9 f0 f1 x y n with
  | some i => f2 i
  | none => -1
/-- The arcs that count: none leads as one ahead of it does. -/
noncomputable def lk9 (f0 f1 : Nat → Int) : Nat → List Nat
  | 0 => []
  | n + 1 => if fst9 f0 f1 (f0 n) (f1 n) n = none then lk9 f0 f1 n ++ [n] else lk9 f0 f1 n
theorem lk9_succ (f0 f1 : Nat → Int) (n : Nat) : lk9 f0 f1 (n + 1) = if fst9 f0 f1 (f0 n) (f1 n) n = none then lk9 f0 f1 n ++ [n] else lk9 f0 f1 n := rfl
theorem lk9_find (f0 f1 : Nat → Int) (x y : Int) : ∀ n, (lk9 f0 f1 n).find? (fun i => pB (Hit f0 f1 x y i)) = fst9 f0 f1 x y n
  | 0 => rfl
  | n + 1 => by
    have ih := lk9_find f0 f1 x y n
    rw [fst9_succ, lk9_succ]
    by_cases h : fst9 f0 f1 (f0 n) (f1 n) n = none
    · rw [if_pos h, List.find?_append, ih]
      cases hx : fst9 f0 f1 x y n with
      | some i => rfl
      | none =>
        simp only [List.find?_cons, List.find?_nil, Option.none_or]
        cases pB (Hit f0 f1 x y n) <;> rfl
    · rw [if_neg h, ih]
      cases hx : fst9 f0 f1 x y n with
      | some i => rfl
      | none =>
        by_cases hn : Hit f0 f1 x y n
        · obtain ⟨rfl, rfl⟩ := hn
          exact absurd hx h
        · simp [pB_f hn]
theorem lk9_mem {f0 f1 : Nat → Int} {i : Nat} : ∀ {n : Nat}, i ∈ lk9 f0 f1 n ↔ (i < n ∧ fst9 f0 f1 (f0 i) (f1 i) n = some i)
  | 0 => by simp [lk9]
  | n + 1 => by
    have ih := lk9_mem (f0 := f0) (f1 := f1) (i := i) (n := n)
    have key : i < n → (fst9 f0 f1 (f0 i) (f1 i) (n + 1) = some i ↔ fst9 f0 f1 (f0 i) (f1 i) n = some i) := by
      intro hi
      rw [fst9_some, fst9_some]
      constructor
      · rintro ⟨_, h⟩; exact ⟨hi, h⟩
      · rintro ⟨_, h⟩; exact ⟨by omega, h⟩
    rw [lk9_succ]
    by_cases h : fst9 f0 f1 (f0 n) (f1 n) n = none
    · rw [if_pos h, List.mem_append, ih, List.mem_singleton]
      constructor
      · rintro (⟨h1, h2⟩ | rfl)
        · exact ⟨by omega, (key h1).2 h2⟩
        · exact ⟨by omega, fst9_some.2 ⟨by omega, ⟨rfl, rfl⟩, fst9_none.1 h⟩⟩
      · rintro ⟨h1, h2⟩
        by_cases e : i = n
        · exact .inr e
        · exact .inl ⟨by omega, (key (by omega)).1 h2⟩
    · rw [if_neg h, ih]
      constructor
      · rintro ⟨h1, h2⟩
        exact ⟨by omega, (key h1).2 h2⟩
      · rintro ⟨h1, h2⟩
        by_cases e : i = n
        · subst e
          exact absurd (fst9_none.2 (fst9_some.1 h2).2.2) h
        · exact ⟨by omega, (key (by omega)).1 h2⟩
theorem lk9_len (f0 f1 : Nat → Int) : ∀ n, (lk9 f0 f1 n).length ≤ n
  | 0 => Nat.le_refl _
  | n + 1 => by
    have := lk9_len f0 f1 n
    rw [lk9_succ]
    split
    · simp; omega
    · omega
/-- Of all that counts one alone leads from x to y. -/
theorem lk9_one {f0 f1 : Nat → Int} {n i j : Nat} (hi : i ∈ lk9 f0 f1 n) (hj : j ∈ lk9 f0 f1 n) (h0 : f0 i = f0 j) (h1 : f1 i = f1 j) : i = j := by
  have a := (lk9_mem.1 hi).2
  have b := (lk9_mem.1 hj).2
  rw [h0, h1] at a
  exact Option.some.inj (a.symm.trans b)
/-- What label k makes of a weight. -/
def ap9 (T : Nat → Lc) (k : Int) (x : Int) : Int := (T k.toNat).f x.toNat
theorem ap9_ok {g : Int} {m : Nat} {T : Nat → Lc} (h : GA g m T) {k x : Int} (hk : 0 ≤ k) (hk' : k < (m : Int)) (hx : 0 ≤ x) (hx' : x < g) : 0 ≤ ap9 T k x ∧ ap9 T k x < g := by
  have hr := h.2.2.2.2 k.toNat (by omega)
  exact hr.2.2 x.toNat (by have := hr.1; omega)

/-- The weight of the last k steps of a path. -/
def wt9 (L : Int → Int → Int) (T : Nat → Lc) (n : Nat) (f : Nat → Int) : Nat → Option Int
  | 0 => some 0
  | k + 1 => match wt9 L T n f k with
    | none => none
    | some x => if L (f (n - 2 - k)) (f (n - 1 - k)) < 0 then none else some (ap9 T (L (f (n - 2 - k)) (f (n - 1 - k))) x)
theorem wt9_succ (L : Int → Int → Int) (T : Nat → Lc) (n : Nat) (f : Nat → Int) (k : Nat) : wt9 L T n f (k + 1) = match wt9 L T n f k with
    | none => none
    | some x => if L (f (n - 2 - k)) (f (n - 1 - k)) < 0 then none else some (ap9 T (L (f (n - 2 - k)) (f (n - 1 - k))) x) := rfl
theorem wt9_none {L : Int → Int → Int} {T : Nat → Lc} {n : Nat} {f : Nat → Int} {k : Nat} (h : wt9 L T n f k = none) : ∀ j, k ≤ j → wt9 L T n f j = none := by
  intro j hj
  induction j with
  | zero => have : k = 0 := by omega
            subst this; exact h
  | succ j ih =>
    by_cases e : k = j + 1
    · subst e; exact h
    · rw [wt9_succ, ih (by omega)]
/-- A path of unlike speakers. -/
def PathOk (n : Nat) (f : Nat → Int) : Prop := 1 ≤ n ∧ n ≤ 6 ∧ (∀ i, i < n → 0 ≤ f i ∧ f i ≤ 5) ∧ ∀ i, i < n → ∀ j, j < i → f j ≠ f i

/-- What comes to v with weight y, going back from p with weight x along speakers that were not seen. -/
inductive Rch (L : Int → Int → Int) (T : Nat → Lc) : Nat → Int → (Nat → Bool) → Nat → Int → Prop
  | here (p : Nat) (x : Int) (s : Nat → Bool) : Rch L T p x s p x
  | step (p : Nat) (x : Int) (s : Nat → Bool) (q v : Nat) (y : Int) : q < 6 → 0 ≤ L q p → s q = false → Rch L T q (ap9 T (L q p) x) (fun i => if i = q then true else s i) v y → Rch L T p x s v y
/-- Of what was and of what P tells the least. -/
def Least (P : Nat → Int → Prop) (o r : Nat → Int) : Prop := ∀ v, v < 6 → r v ≤ o v ∧ (∀ y, P v y → r v ≤ y) ∧ (r v = o v ∨ P v (r v))
theorem Least.unique {P : Nat → Int → Prop} {o r r' : Nat → Int} (h : Least P o r) (h' : Least P o r') : ∀ v, v < 6 → r v = r' v := by
  intro v hv
  obtain ⟨a1, a2, a3⟩ := h v hv
  obtain ⟨b1, b2, b3⟩ := h' v hv
  have e1 : r v ≤ r' v := by
    rcases b3 with e | e
    · rw [e]; exact a1
    · exact a2 _ e
  have e2 : r' v ≤ r v := by
    rcases a3 with e | e
    · rw [e]; exact b1
    · exact b2 _ e
  omega
theorem Least.congr {P Q : Nat → Int → Prop} {o r : Nat → Int} (h : Least P o r) (e : ∀ v, v < 6 → ∀ y, P v y ↔ Q v y) : Least Q o r := by
  intro v hv
  obtain ⟨a1, a2, a3⟩ := h v hv
  exact ⟨a1, fun y hy => a2 y ((e v hv y).2 hy), a3.imp id (fun k => (e v hv _).1 k)⟩
theorem Least.trans {P Q : Nat → Int → Prop} {o r q : Nat → Int} (h : Least P o r) (k : Least Q r q) : Least (fun v y => P v y ∨ Q v y) o q := by
  intro v hv
  obtain ⟨a1, a2, a3⟩ := h v hv
  obtain ⟨b1, b2, b3⟩ := k v hv
  refine ⟨Int.le_trans b1 a1, ?_, ?_⟩
  · rintro y (hy | hy)
    · exact Int.le_trans b1 (a2 y hy)
    · exact b2 y hy
  · rcases b3 with e | e
    · rcases a3 with e' | e'
      · exact .inl (e.trans e')
      · exact .inr (.inl (by rw [e]; exact e'))
    · exact .inr (.inr e)
theorem Least.refl (o : Nat → Int) : Least (fun _ _ => False) o o := fun _ _ => ⟨Int.le_refl _, fun _ h => absurd h id, .inl rfl⟩
theorem Least.one (o : Nat → Int) (p : Nat) (x : Int) : Least (fun v y => v = p ∧ y = x) o (fun v => if v = p then min (o v) x else o v) := by
  intro v hv
  by_cases e : v = p
  · have e1 : (if v = p then min (o v) x else o v) = min (o v) x := if_pos e
    simp only [e1]
    refine ⟨by omega, ?_, ?_⟩
    · rintro y ⟨_, rfl⟩; omega
    · by_cases h : o v ≤ x
      · exact .inl (by omega)
      · exact .inr ⟨e, by omega⟩
  · have e1 : (if v = p then min (o v) x else o v) = o v := if_neg e
    simp only [e1]
    exact ⟨Int.le_refl _, fun y h => absurd h.1 e, by simp⟩
theorem Least.low {P : Nat → Int → Prop} {o r : Nat → Int} (h : Least P o r) {g : Int} (ho : ∀ v, v < 6 → 0 ≤ o v ∧ o v < g) (hP : ∀ v y, P v y → 0 ≤ y) : ∀ v, v < 6 → 0 ≤ r v ∧ r v < g := by
  intro v hv
  obtain ⟨a1, a2, a3⟩ := h v hv
  have := ho v hv
  refine ⟨?_, by omega⟩
  rcases a3 with e | e
  · omega
  · exact hP v _ e
/-- What comes from p on, by its next ones. -/
theorem rch_iff {L : Int → Int → Int} {T : Nat → Lc} {p : Nat} {x : Int} {s : Nat → Bool} {v : Nat} {y : Int} :
    Rch L T p x s v y ↔ (v = p ∧ y = x) ∨ ∃ q : Nat, q < 6 ∧ 0 ≤ L q p ∧ s q = false ∧ Rch L T q (ap9 T (L q p) x) (fun i => if i = q then true else s i) v y := by
  constructor
  · intro h
    cases h with
    | here => exact .inl ⟨rfl, rfl⟩
    | step _ _ _ q _ _ h1 h2 h3 h4 => exact .inr ⟨q, h1, h2, h3, h4⟩
  · rintro (⟨rfl, rfl⟩ | ⟨q, h1, h2, h3, h4⟩)
    · exact .here _ _ _
    · exact .step _ _ _ q _ _ h1 h2 h3 h4
theorem rch_ok {L : Int → Int → Int} {g : Int} {m : Nat} {T : Nat → Lc} (hG : GA g m T) (hL : ∀ a b, L a b < (m : Int)) {p : Nat} {x : Int} {s : Nat → Bool} {v : Nat} {y : Int} (h : Rch L T p x s v y) : 0 ≤ x → x < g → 0 ≤ y ∧ y < g := by
  induction h with
  | here => exact fun a b => ⟨a, b⟩
  | step p x s q v y h1 h2 h3 _ ih =>
    intro a b
    obtain ⟨c, d⟩ := ap9_ok hG h2 (hL _ _) a b
    exact ih c d
/-- How many of the six were not seen. -/
def left9 (s : Nat → Bool) : Nat := ((List.range 6).filter fun i => !s i).length
theorem left9_lt {s : Nat → Bool} {q : Nat} (hq : q < 6) (h : s q = false) : left9 (fun i => if i = q then true else s i) < left9 s := by
  have key : ∀ l : List Nat, (l.filter fun i => !(if i = q then true else s i)).length ≤ (l.filter fun i => !s i).length ∧ (q ∈ l → (l.filter fun i => !(if i = q then true else s i)).length < (l.filter fun i => !s i).length) := by
    intro l
    induction l with
    | nil => simp
    | cons a l ih =>
      obtain ⟨i1, i2⟩ := ih
      by_cases e : a = q
      · subst e
        rw [List.filter_cons_of_neg (by simp), List.filter_cons_of_pos (by simp [h])]
        simp only [List.length_cons]
        exact ⟨by omega, fun _ => by omega⟩
      · have hm : q ∈ a :: l → q ∈ l := by
          intro hh
          rcases List.mem_cons.1 hh with e' | e'
          · exact absurd e'.symm e
          · exact e'
        by_cases hs : s a = true
        · rw [List.filter_cons_of_neg (by simp [e, hs]), List.filter_cons_of_neg (by simp [hs])]
          exact ⟨i1, fun hh => i2 (hm hh)⟩
        · rw [List.filter_cons_of_pos (by simp [e, hs]), List.filter_cons_of_pos (by simp [hs])]
          simp only [List.length_cons]
          exact ⟨by omega, fun hh => by have := i2 (hm hh); omega⟩
  exact (key (List.range 6)).2 (List.mem_range.2 hq)
end Go.Proofs.Ytelehmkmdbhcfaa
