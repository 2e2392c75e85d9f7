/- Words, paths and configurations, in plain words. -/
import Derived.Test.YtnpnhdaehddnmaaDoorFlatString
import Derived.Laws.RangeAny
namespace Go.Proofs.YtnpnhdaehddnmaaDoor
open Go.RowKit

noncomputable def tB (p : Prop) : Bool := @decide p (Classical.propDecidable p)
theorem tB_t {p : Prop} (h : p) : tB p = true := @decide_eq_true p (Classical.propDecidable p) h
theorem tB_f {p : Prop} (h : ¬ p) : tB p = false := @decide_eq_false p (Classical.propDecidable p) h
theorem tB_congr {p q : Prop} (h : p ↔ q) : tB p = tB q := by
  have e : p = q := propext h
  rw [e]
theorem tB_of {p : Prop} {b : Bool} (h1 : p → b = true) (h2 : ¬ p → b = false) : b = tB p := by
  by_cases h : p
  · rw [tB_t h, h1 h]
  · rw [tB_f h, h2 h]

/-- A byte of a word. -/
def WBy (x : Nat) : Prop := (97 ≤ x ∧ x ≤ 122) ∨ (48 ≤ x ∧ x ≤ 57) ∨ x = 45
instance (x : Nat) : Decidable (WBy x) := by unfold WBy; infer_instance
/-- The byte at i, 0 where there is none. -/
def byAt (s : ByteArray) (i : Nat) : Nat := if h : i < s.size then (s[i]'h).toNat else 0
theorem byAt_eq {s : ByteArray} {i : Nat} (h : i < s.size) : byAt s i = (s[i]'h).toNat := dif_pos h
/-- A word. -/
def Wd (s : ByteArray) : Prop := 1 ≤ s.size ∧ s.size ≤ 8 ∧ ∀ i, i < s.size → WBy (byAt s i)
/-- A path of n words. -/
def Pw (n : Nat) (p : Nat → ByteArray) : Prop := 1 ≤ n ∧ n ≤ 5 ∧ ∀ i, i < n → Wd (p i)
/-- One text is less than another one. -/
def sLt (a b : ByteArray) : Bool := Op.bytesLess a.toList b.toList
theorem bytesLess_irrefl : ∀ l : List UInt8, Op.bytesLess l l = false
  | [] => rfl
  | a :: l => by
    have h1 : ¬ a < a := UInt8.lt_irrefl a
    simp [Op.bytesLess, bytesLess_irrefl l, h1]
theorem bytesLess_asymm : ∀ {l m : List UInt8}, Op.bytesLess l m = true → Op.bytesLess m l = false
  | _, [], h => by simp [Op.bytesLess] at h
  | [], _ :: _, _ => rfl
  | a :: l, b :: m, h => by
    simp only [Op.bytesLess, Bool.or_eq_true, decide_eq_true_eq, Bool.and_eq_true, beq_iff_eq] at h
    rcases h with h | ⟨rfl, h⟩
    · have h1 : ¬ b < a := UInt8.lt_asymm h
      have h2 : b ≠ a := fun e => by subst e; exact UInt8.lt_irrefl _ h
      simp [Op.bytesLess, h1, h2]
    · have h1 : ¬ a < a := UInt8.lt_irrefl a
      simp [Op.bytesLess, bytesLess_asymm h, h1]
theorem bytesLess_total : ∀ {l m : List UInt8}, Op.bytesLess l m = false → l ≠ m → Op.bytesLess m l = true
  | [], [], _, h => absurd rfl h
  | _ :: _, [], _, _ => rfl
  | [], _ :: _, h, _ => by simp [Op.bytesLess] at h
  | a :: l, b :: m, h, hne => by
    simp only [Op.bytesLess, Bool.or_eq_false_iff, decide_eq_false_iff_not] at h
    obtain ⟨h1, h2⟩ := h
    by_cases e : a = b
    · subst e
      simp only [beq_self_eq_true, Bool.true_and] at h2
      have := bytesLess_total h2 (fun e => hne (by rw [e]))
      simp [Op.bytesLess, this]
    · have : b < a := by
        have h3 : b.toNat ≤ a.toNat := by
          have := UInt8.not_lt.1 h1
          exact UInt8.le_iff_toNat_le.1 this
        have h4 : a.toNat ≠ b.toNat := fun h => e (UInt8.toNat_inj.1 h)
        exact UInt8.lt_iff_toNat_lt.2 (by omega)
      simp [Op.bytesLess, this]
theorem bytesLess_trans : ∀ {l m k : List UInt8}, Op.bytesLess l m = true → Op.bytesLess m k = true → Op.bytesLess l k = true
  | _, [], _, h, _ => by simp [Op.bytesLess] at h
  | _, _ :: _, [], _, h => by simp [Op.bytesLess] at h
  | [], _ :: _, _ :: _, _, _ => rfl
  | a :: l, b :: m, c :: k, h, g => by
    simp only [Op.bytesLess, Bool.or_eq_true, decide_eq_true_eq, Bool.and_eq_true, beq_iff_eq] at h g ⊢
    rcases h with h | ⟨rfl, h⟩
    · rcases g with g | ⟨rfl, _⟩
      · exact Or.inl (UInt8.lt_trans h g)
      · exact Or.inl h
    · rcases g with g | ⟨rfl, g⟩
      · exact Or.inl g
      · exact Or.inr ⟨rfl, bytesLess_trans h g⟩
theorem toList_inj {a b : ByteArray} (h : a.toList = b.toList) : a = b := by
  rw [ByteArray.toList_eq, ByteArray.toList_eq] at h
  obtain ⟨⟨x⟩⟩ := a
  obtain ⟨⟨y⟩⟩ := b
  simp at h
  rw [h]
theorem sEq_iff {a b : ByteArray} : (a.toList == b.toList) = true ↔ a = b := by
  rw [beq_iff_eq]
  exact ⟨toList_inj, fun h => by rw [h]⟩
theorem sEq_t (a : ByteArray) : (a.toList == a.toList) = true := by simp
theorem sEq_f {a b : ByteArray} (h : a ≠ b) : (a.toList == b.toList) = false := by
  cases e : (a.toList == b.toList)
  · rfl
  · exact absurd (sEq_iff.1 e) h
theorem sLt_irrefl (a : ByteArray) : sLt a a = false := bytesLess_irrefl _
theorem sLt_asymm {a b : ByteArray} (h : sLt a b = true) : sLt b a = false := bytesLess_asymm h
theorem sLt_total {a b : ByteArray} (h : sLt a b = false) (hne : a ≠ b) : sLt b a = true := bytesLess_total h (fun e => hne (toList_inj e))
theorem sLt_trans {a b c : ByteArray} (h : sLt a b = true) (g : sLt b c = true) : sLt a c = true := bytesLess_trans h g

/-- Path p of n words is less than q of m words. -/
def LtP (n : Nat) (p : Nat → ByteArray) (m : Nat) (q : Nat → ByteArray) : Prop := ∃ k, k ≤ n ∧ k < m ∧ (∀ i, i < k → p i = q i) ∧ (k = n ∨ (k < n ∧ sLt (p k) (q k) = true))
/-- Path p is the beginning of q, or q. -/
def Bg (n : Nat) (p : Nat → ByteArray) (m : Nat) (q : Nat → ByteArray) : Prop := n ≤ m ∧ ∀ i, i < n → p i = q i
theorem ltP_at {n m k : Nat} {p q : Nat → ByteArray} (h : ∀ i, i < k → p i = q i) (hn : k < n) (hm : k < m) (hne : p k ≠ q k) : LtP n p m q ↔ sLt (p k) (q k) = true := by
  constructor
  · rintro ⟨j, j1, j2, j3, j4⟩
    rcases Nat.lt_trichotomy j k with g | g | g
    · rcases j4 with j4 | ⟨_, j4⟩
      · omega
      · rw [h j g, sLt_irrefl] at j4
        cases j4
    · subst g
      rcases j4 with j4 | ⟨_, j4⟩
      · omega
      · exact j4
    · exact absurd (j3 k g) hne
  · intro h1
    exact ⟨k, by omega, hm, h, Or.inr ⟨hn, h1⟩⟩
theorem ltP_end {n m : Nat} {p q : Nat → ByteArray} (h : ∀ i, i < n → p i = q i) : LtP n p m q ↔ n < m := by
  constructor
  · rintro ⟨j, j1, j2, j3, j4⟩
    rcases j4 with j4 | ⟨j5, j4⟩
    · omega
    · rw [h j j5, sLt_irrefl] at j4
      cases j4
  · intro h1
    exact ⟨n, Nat.le_refl _, h1, h, Or.inl rfl⟩
theorem ltP_over {n m : Nat} {p q : Nat → ByteArray} (hnm : m ≤ n) (h : ∀ i, i < m → p i = q i) : ¬ LtP n p m q := by
  rintro ⟨j, j1, j2, j3, j4⟩
  rcases j4 with j4 | ⟨j5, j4⟩
  · omega
  · rw [h j j2, sLt_irrefl] at j4
    cases j4
/-- How two paths compare. -/
noncomputable def cmpW (n : Nat) (p : Nat → ByteArray) (m : Nat) (q : Nat → ByteArray) : Int := if tB (LtP n p m q) then -1 else if tB (LtP m q n p) then 1 else 0
theorem cmpW_lt {n m : Nat} {p q : Nat → ByteArray} (h : LtP n p m q) : cmpW n p m q = -1 := by
  unfold cmpW
  rw [if_pos (tB_t h)]
theorem cmpW_gt {n m : Nat} {p q : Nat → ByteArray} (h : ¬ LtP n p m q) (g : LtP m q n p) : cmpW n p m q = 1 := by
  unfold cmpW
  rw [if_neg (by simp [tB_f h]), if_pos (tB_t g)]
theorem cmpW_eq {n m : Nat} {p q : Nat → ByteArray} (h : ¬ LtP n p m q) (g : ¬ LtP m q n p) : cmpW n p m q = 0 := by
  unfold cmpW
  rw [if_neg (by simp [tB_f h]), if_neg (by simp [tB_f g])]
theorem cmpW_at {n m k : Nat} {p q : Nat → ByteArray} (h : ∀ i, i < k → p i = q i) (hn : k < n) (hm : k < m) (hne : p k ≠ q k) : cmpW n p m q = if sLt (p k) (q k) then -1 else 1 := by
  have h1 := ltP_at h hn hm hne
  have h2 := ltP_at (fun i hi => (h i hi).symm) hm hn (fun e => hne e.symm)
  by_cases e : sLt (p k) (q k) = true
  · rw [cmpW_lt (h1.2 e), if_pos e]
  · rw [cmpW_gt (fun g => e (h1.1 g)) (h2.2 (sLt_total (by simpa using e) hne)), if_neg e]
theorem cmpW_end {n m : Nat} {p q : Nat → ByteArray} (hnm : n ≤ m) (h : ∀ i, i < n → p i = q i) : cmpW n p m q = if n < m then -1 else 0 := by
  by_cases e : n < m
  · rw [cmpW_lt ((ltP_end h).2 e), if_pos e]
  · rw [if_neg e]
    exact cmpW_eq (fun g => e ((ltP_end h).1 g)) (ltP_over hnm (fun i hi => (h i hi).symm))
theorem cmpW_over {n m : Nat} {p q : Nat → ByteArray} (hnm : m < n) (h : ∀ i, i < m → p i = q i) : cmpW n p m q = 1 :=
  cmpW_gt (ltP_over (Nat.le_of_lt hnm) h) ((ltP_end (fun i hi => (h i hi).symm)).2 hnm)
theorem cmpW_neg {n m : Nat} {p q : Nat → ByteArray} : cmpW n p m q < 0 ↔ LtP n p m q := by
  by_cases h : LtP n p m q
  · rw [cmpW_lt h]; exact ⟨fun _ => h, fun _ => by omega⟩
  · by_cases g : LtP m q n p
    · rw [cmpW_gt h g]; exact ⟨fun k => by omega, fun k => absurd k h⟩
    · rw [cmpW_eq h g]; exact ⟨fun k => by omega, fun k => absurd k h⟩

/-- A leaf: its words, and its value. -/
structure Lf where
  n : Nat
  p : Nat → ByteArray
  v : ByteArray
def lf0 : Lf := ⟨0, fun _ => ByteArray.empty, ByteArray.empty⟩
/-- Leaf k of a good configuration. -/
def OkL (T : Nat → Lf) (k : Nat) : Prop := Pw (T k).n (T k).p ∧ Wd (T k).v ∧ (0 < k → LtP (T (k - 1)).n (T (k - 1)).p (T k).n (T k).p ∧ ¬ Bg (T (k - 1)).n (T (k - 1)).p (T k).n (T k).p)
/-- A good configuration. -/
def GC (N : Nat) (T : Nat → Lf) : Prop := (∀ k, k < N → OkL T k) ∧ N ≤ 30
end Go.Proofs.YtnpnhdaehddnmaaDoor
