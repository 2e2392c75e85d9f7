/- Relations in plain words: which are good, and what one is to another one. -/
import Derived.Test.YtgjohkpicajhpaaPlain9
namespace Go.Proofs.Ytgjohkpicajhpaa
open Go.RowKit

/-- A good relation among nodes 0 to u. -/
def RlOk (u x y z : Int) : Prop := 0 ≤ x ∧ x < y ∧ y ≤ u ∧ 1 ≤ z ∧ z ≤ 3
/-- The first n are good ones, no two of the same two. -/
def RlsOk (u : Int) (n : Nat) (f0 f1 f2 : Nat → Int) : Prop := (∀ i, i < n → RlOk u (f0 i) (f1 i) (f2 i)) ∧ ∀ i, i < n → ∀ j, j < i → ¬ (f0 j = f0 i ∧ f1 j = f1 i)
/-- Good relations. -/
def GR (u : Int) (n : Nat) (f0 f1 f2 : Nat → Int) : Prop := 1 ≤ u ∧ u ≤ 5 ∧ n ≤ 15 ∧ RlsOk u n f0 f1 f2
noncomputable def grB (u : Int) (n : Nat) (f0 f1 f2 : Nat → Int) : Bool := pB (GR u n f0 f1 f2)

/-- What b is to a by relation i alone: 0 for nothing. -/
noncomputable def one11 (x y z a b : Int) : Int := if x = a ∧ y = b then z else if x = b ∧ y = a then 4 - z else 0
/-- What b is to a by the first n relations. -/
noncomputable def kd (f0 f1 f2 : Nat → Int) (a b : Int) : Nat → Int
  | 0 => 0
  | n + 1 => if kd f0 f1 f2 a b n = 0 then one11 (f0 n) (f1 n) (f2 n) a b else kd f0 f1 f2 a b n
theorem kd_succ (f0 f1 f2 : Nat → Int) (a b : Int) (n : Nat) : kd f0 f1 f2 a b (n + 1) = if kd f0 f1 f2 a b n = 0 then one11 (f0 n) (f1 n) (f2 n) a b else kd f0 f1 f2 a b n := rfl
theorem kd_new {f0 f1 f2 : Nat → Int} {a b : Int} {n : Nat} (h : kd f0 f1 f2 a b n = 0) : kd f0 f1 f2 a b (n + 1) = one11 (f0 n) (f1 n) (f2 n) a b := by rw [kd_succ, if_pos h]
theorem kd_old {f0 f1 f2 : Nat → Int} {a b : Int} {n : Nat} (h : kd f0 f1 f2 a b n ≠ 0) : kd f0 f1 f2 a b (n + 1) = kd f0 f1 f2 a b n := by rw [kd_succ, if_neg h]
theorem kd_stay {f0 f1 f2 : Nat → Int} {a b : Int} {k : Nat} (h : kd f0 f1 f2 a b k ≠ 0) : ∀ m, kd f0 f1 f2 a b (k + m) = kd f0 f1 f2 a b k
  | 0 => rfl
  | m + 1 => by
    have ih := kd_stay h m
    rw [← Nat.add_assoc, kd_old (by rw [ih]; exact h), ih]
theorem kd_end {f0 f1 f2 : Nat → Int} {a b : Int} {k n : Nat} (h : kd f0 f1 f2 a b k ≠ 0) (hk : k ≤ n) : kd f0 f1 f2 a b n = kd f0 f1 f2 a b k := by
  have e := kd_stay h (n - k)
  rw [show k + (n - k) = n by omega] at e
  exact e
theorem one11_hit {x y z a b : Int} (h : x = a ∧ y = b) : one11 x y z a b = z := if_pos h
theorem one11_back {x y z a b : Int} (h : ¬ (x = a ∧ y = b)) (h2 : x = b ∧ y = a) : one11 x y z a b = 4 - z := by rw [one11, if_neg h, if_pos h2]
theorem one11_not {x y z a b : Int} (h : ¬ (x = a ∧ y = b)) (h2 : ¬ (x = b ∧ y = a)) : one11 x y z a b = 0 := by rw [one11, if_neg h, if_neg h2]
/-- One relation, both ways round. -/
theorem one11_both {u x y z : Int} (h : RlOk u x y z) (a b : Int) : (one11 x y z a b = 0 ∧ one11 x y z b a = 0) ∨ (1 ≤ one11 x y z a b ∧ one11 x y z a b ≤ 3 ∧ one11 x y z b a = 4 - one11 x y z a b ∧ 0 ≤ a ∧ a ≤ u ∧ 0 ≤ b ∧ b ≤ u ∧ a ≠ b) := by
  obtain ⟨h0, h1, h2, h3, h4⟩ := h
  by_cases p : x = a ∧ y = b
  · obtain ⟨rfl, rfl⟩ := p
    rw [one11_hit ⟨rfl, rfl⟩, one11_back (by omega) ⟨rfl, rfl⟩]
    exact Or.inr ⟨h3, h4, rfl, h0, by omega, by omega, h2, by omega⟩
  · by_cases q : x = b ∧ y = a
    · obtain ⟨rfl, rfl⟩ := q
      rw [one11_back p ⟨rfl, rfl⟩, one11_hit ⟨rfl, rfl⟩]
      exact Or.inr ⟨by omega, by omega, by omega, by omega, h2, h0, by omega, by omega⟩
    · rw [one11_not p q, one11_not q p]
      exact Or.inl ⟨rfl, rfl⟩
/-- What two are to each other. -/
theorem kd_both {u : Int} {f0 f1 f2 : Nat → Int} (a b : Int) : ∀ n, (∀ i, i < n → RlOk u (f0 i) (f1 i) (f2 i)) →
    (kd f0 f1 f2 a b n = 0 ∧ kd f0 f1 f2 b a n = 0) ∨ (1 ≤ kd f0 f1 f2 a b n ∧ kd f0 f1 f2 a b n ≤ 3 ∧ kd f0 f1 f2 b a n = 4 - kd f0 f1 f2 a b n ∧ 0 ≤ a ∧ a ≤ u ∧ 0 ≤ b ∧ b ≤ u ∧ a ≠ b)
  | 0, _ => Or.inl ⟨rfl, rfl⟩
  | n + 1, h => by
    rcases kd_both a b n (fun i hi => h i (by omega)) with ⟨e1, e2⟩ | ⟨h1, h2, h3, h4⟩
    · rw [kd_new e1, kd_new e2]
      exact one11_both (h n (by omega)) a b
    · rw [kd_old (by omega), kd_old (a := b) (by omega)]
      exact Or.inr ⟨h1, h2, h3, h4⟩
theorem kd_zero {u : Int} {f0 f1 f2 : Nat → Int} {a b : Int} : ∀ {n : Nat}, (∀ i, i < n → RlOk u (f0 i) (f1 i) (f2 i)) → (kd f0 f1 f2 a b n = 0 ↔ ∀ i, i < n → ¬ (f0 i = a ∧ f1 i = b) ∧ ¬ (f0 i = b ∧ f1 i = a))
  | 0, _ => ⟨fun _ i hi => absurd hi (by omega), fun _ => rfl⟩
  | n + 1, h => by
    have ih := kd_zero (a := a) (b := b) (n := n) (fun i hi => h i (by omega))
    have hn := h n (by omega)
    obtain ⟨g0, g1, g2, g3, g4⟩ := hn
    constructor
    · intro e i hi
      by_cases z : kd f0 f1 f2 a b n = 0
      · by_cases q : i = n
        · subst q
          rw [kd_new z] at e
          constructor
          · intro p
            rw [one11_hit p] at e
            omega
          · intro p
            by_cases p' : f0 i = a ∧ f1 i = b
            · rw [one11_hit p'] at e
              omega
            · rw [one11_back p' p] at e
              omega
        · exact ih.1 z i (by omega)
      · rw [kd_old z] at e
        exact absurd e z
    · intro e
      rw [kd_new (ih.2 fun i hi => e i (by omega))]
      exact one11_not (e n (by omega)).1 (e n (by omega)).2
/-- A new relation of two that have none. -/
theorem kd_put {u : Int} {f0 f1 f2 : Nat → Int} {n : Nat} (h : ∀ i, i < n + 1 → RlOk u (f0 i) (f1 i) (f2 i)) (hz : kd f0 f1 f2 (f0 n) (f1 n) n = 0) (a b : Int) :
    kd f0 f1 f2 a b (n + 1) = if a = f1 n ∧ b = f0 n then 4 - f2 n else if a = f0 n ∧ b = f1 n then f2 n else kd f0 f1 f2 a b n := by
  have hb := kd_both (f0 n) (f1 n) n (fun i hi => h i (by omega))
  have hz2 : kd f0 f1 f2 (f1 n) (f0 n) n = 0 := by
    rcases hb with ⟨_, e⟩ | ⟨e, _⟩
    · exact e
    · omega
  obtain ⟨g0, g1, g2, g3, g4⟩ := h n (by omega)
  by_cases p : a = f1 n ∧ b = f0 n
  · rw [if_pos p, p.1, p.2, kd_new hz2]
    exact one11_back (by omega) ⟨rfl, rfl⟩
  · rw [if_neg p]
    by_cases q : a = f0 n ∧ b = f1 n
    · rw [if_pos q, q.1, q.2, kd_new hz]
      exact one11_hit ⟨rfl, rfl⟩
    · rw [if_neg q]
      by_cases z : kd f0 f1 f2 a b n = 0
      · rw [kd_new z, z]
        exact one11_not (fun e => q ⟨e.1.symm, e.2.symm⟩) (fun e => p ⟨e.2.symm, e.1.symm⟩)
      · exact kd_old z
/-- Two of the same two. -/
theorem kd_twice {u : Int} {f0 f1 f2 : Nat → Int} {n : Nat} (h : ∀ i, i < n → RlOk u (f0 i) (f1 i) (f2 i)) {x y : Int} (hxy : x < y) : kd f0 f1 f2 x y n = 0 ↔ ∀ j, j < n → ¬ (f0 j = x ∧ f1 j = y) := by
  rw [kd_zero h]
  refine ⟨fun e j hj => (e j hj).1, fun e j hj => ⟨e j hj, fun q => ?_⟩⟩
  have := (h j hj).2.1
  omega
theorem RlsOk.snoc {u : Int} {n : Nat} {f0 f1 f2 : Nat → Int} (h : RlsOk u n f0 f1 f2) (h1 : RlOk u (f0 n) (f1 n) (f2 n)) (h2 : ∀ j, j < n → ¬ (f0 j = f0 n ∧ f1 j = f1 n)) : RlsOk u (n + 1) f0 f1 f2 := by
  refine ⟨fun i hi => ?_, fun i hi => ?_⟩
  · by_cases e : i = n
    · subst e; exact h1
    · exact h.1 i (by omega)
  · by_cases e : i = n
    · subst e; exact h2
    · exact h.2 i (by omega)
theorem RlsOk.snocK {u : Int} {n : Nat} {f0 f1 f2 : Nat → Int} (h : RlsOk u n f0 f1 f2) (h1 : RlOk u (f0 n) (f1 n) (f2 n)) (h2 : kd f0 f1 f2 (f0 n) (f1 n) n = 0) : RlsOk u (n + 1) f0 f1 f2 :=
  h.snoc h1 ((kd_twice h.1 h1.2.1).1 h2)

/-- What b is to a: nothing where the relations are not good. -/
noncomputable def kk (u : Int) (n : Nat) (f0 f1 f2 : Nat → Int) (a b : Int) : Int := if grB u n f0 f1 f2 = true then kd f0 f1 f2 a b n else 0
theorem kk_good {u : Int} {n : Nat} {f0 f1 f2 : Nat → Int} (h : GR u n f0 f1 f2) (a b : Int) : kk u n f0 f1 f2 a b = kd f0 f1 f2 a b n := if_pos (pB_t h)
theorem kk_not {u : Int} {n : Nat} {f0 f1 f2 : Nat → Int} (h : ¬ GR u n f0 f1 f2) (a b : Int) : kk u n f0 f1 f2 a b = 0 := if_neg (by rw [grB, pB_f h]; simp)
theorem kk_both {u : Int} {n : Nat} {f0 f1 f2 : Nat → Int} (a b : Int) :
    (kk u n f0 f1 f2 a b = 0 ∧ kk u n f0 f1 f2 b a = 0) ∨ (1 ≤ kk u n f0 f1 f2 a b ∧ kk u n f0 f1 f2 a b ≤ 3 ∧ kk u n f0 f1 f2 b a = 4 - kk u n f0 f1 f2 a b ∧ 0 ≤ a ∧ a ≤ u ∧ 0 ≤ b ∧ b ≤ u ∧ a ≠ b) := by
  by_cases h : GR u n f0 f1 f2
  · rw [kk_good h, kk_good h]
    exact kd_both a b n h.2.2.2.1
  · rw [kk_not h, kk_not h]
    exact Or.inl ⟨rfl, rfl⟩
end Go.Proofs.Ytgjohkpicajhpaa
