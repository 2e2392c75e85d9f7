/- Problems, choices and paths, in plain words. -/
import Derived.Test.YtelehmkmdbhcfaaPlain9
import Derived.Test.YtelehmkmdbhcfaaSp10
namespace Go.Proofs.Ytelehmkmdbhcfaa
open Go.RowKit

/-- Two lists with the same numbers. -/
def Same (p q : Lc) : Prop := p.n = q.n ∧ ∀ i, i < p.n → p.f i = q.f i
theorem Same.refl (p : Lc) : Same p p := ⟨rfl, fun _ _ => rfl⟩
/-- What is behind the first number. -/
def tl (p : Lc) : Lc := ⟨p.n - 1, fun i => p.f (1 + i)⟩
/-- The first of the first n of which P holds, -1 for none. -/
noncomputable def fI (P : Nat → Prop) : Nat → Int
  | 0 => -1
  | n + 1 => if 0 ≤ fI P n then fI P n else if pB (P n) = true then (n : Int) else -1
theorem fI_cases (P : Nat → Prop) (n : Nat) : (fI P n = -1 ∧ ∀ i, i < n → ¬ P i) ∨ ∃ k, k < n ∧ fI P n = (k : Int) ∧ P k ∧ ∀ j, j < k → ¬ P j := by
  induction n with
  | zero => exact .inl ⟨rfl, fun i hi => absurd hi (Nat.not_lt_zero _)⟩
  | succ n ih =>
    have e : fI P (n + 1) = if 0 ≤ fI P n then fI P n else if pB (P n) = true then (n : Int) else -1 := rfl
    rcases ih with ⟨h1, h2⟩ | ⟨k, h0, h1, h2, h3⟩
    · by_cases hp : P n
      · refine .inr ⟨n, by omega, ?_, hp, h2⟩
        rw [e, h1, if_neg (by omega), if_pos (pB_t hp)]
      · refine .inl ⟨?_, fun i hi => ?_⟩
        · rw [e, h1, if_neg (by omega), if_neg (by simp [pB_f hp])]
        · by_cases ei : i = n
          · subst ei; exact hp
          · exact h2 i (by omega)
    · refine .inr ⟨k, by omega, ?_, h2, h3⟩
      rw [e, h1, if_pos (by omega)]
theorem fI_none {P : Nat → Prop} {n : Nat} (h : ∀ i, i < n → ¬ P i) : fI P n = -1 := by
  rcases fI_cases P n with ⟨h1, _⟩ | ⟨k, h0, _, h2, _⟩
  · exact h1
  · exact absurd h2 (h k h0)
theorem fI_first {P : Nat → Prop} {n k : Nat} (hk : k < n) (hp : P k) (h : ∀ j, j < k → ¬ P j) : fI P n = (k : Int) := by
  rcases fI_cases P n with ⟨_, h1⟩ | ⟨q, h0, h1, h2, h3⟩
  · exact absurd hp (h1 k hk)
  · by_cases e1 : q < k
    · exact absurd h2 (h q e1)
    · by_cases e2 : k < q
      · exact absurd hp (h3 k e2)
      · have : q = k := by omega
        rw [h1, this]
theorem fI_low (P : Nat → Prop) (n : Nat) : -1 ≤ fI P n := by
  rcases fI_cases P n with ⟨h1, _⟩ | ⟨q, h0, h1, _⟩ <;> omega
theorem fI_high (P : Nat → Prop) (n : Nat) : fI P n < (n : Int) := by
  rcases fI_cases P n with ⟨h1, _⟩ | ⟨q, h0, h1, _⟩ <;> omega
theorem fI_nonneg {P : Nat → Prop} {n : Nat} : 0 ≤ fI P n ↔ ∃ i, i < n ∧ P i := by
  rcases fI_cases P n with ⟨h1, h2⟩ | ⟨q, h0, h1, h2, _⟩
  · exact ⟨fun h => by omega, fun ⟨i, hi, hp⟩ => absurd hp (h2 i hi)⟩
  · exact ⟨fun _ => ⟨q, h0, h2⟩, fun _ => by omega⟩
theorem fI_congr {P Q : Nat → Prop} {n : Nat} (h : ∀ i, i < n → (P i ↔ Q i)) : fI P n = fI Q n := by
  rcases fI_cases P n with ⟨h1, h2⟩ | ⟨q, h0, h1, h2, h3⟩
  · rw [h1, fI_none (fun i hi hq => h2 i hi ((h i hi).2 hq))]
  · rw [h1, fI_first h0 ((h q h0).1 h2) (fun j hj hq => h3 j hj ((h j (by omega)).2 hq))]
/-- A row of unlike nodes from v on to 0. -/
def Way (N : Nat) (v : Int) (p : Lc) : Prop := 2 ≤ p.n ∧ p.f 0 = v ∧ p.f (p.n - 1) = 0 ∧ (∀ i, i < p.n → 0 ≤ p.f i ∧ p.f i ≤ (N : Int)) ∧ ∀ i, i < p.n → ∀ j, j < i → p.f j ≠ p.f i
/-- The place of a path among node v's. -/
noncomputable def rk (U : Nat → Pl) (v : Nat) (p : Lc) : Int := fI (fun k => Same ((U v).T k) p) (U v).n
/-- The place of the next node. -/
def nx (p : Lc) : Nat := (p.f 1).toNat - 1
theorem Way.next {N : Nat} {v : Int} {p : Lc} (h : Way N v p) (h2 : 2 < p.n) : 1 ≤ p.f 1 ∧ p.f 1 ≤ (N : Int) ∧ nx p < N ∧ p.f 1 = ((nx p + 1 : Nat) : Int) := by
  obtain ⟨_, _, h3, h4, h5⟩ := h
  have h6 := h4 1 (by omega)
  have h7 := h5 (p.n - 1) (by omega) 1 (by omega)
  rw [h3] at h7
  unfold nx
  omega
def PthOk (N : Nat) (U : Nat → Pl) (v k : Nat) : Prop := Way N ((v : Int) + 1) ((U v).T k) ∧ rk U v ((U v).T k) = (k : Int) ∧ (2 < ((U v).T k).n → 0 ≤ rk U (nx ((U v).T k)) (tl ((U v).T k)))
def NodeOk (N : Nat) (U : Nat → Pl) (v : Nat) : Prop := (U v).n ≤ 6 ∧ ∀ k, k < (U v).n → PthOk N U v k
/-- A good problem. -/
def GS (N : Nat) (U : Nat → Pl) : Prop := 1 ≤ N ∧ N ≤ 5 ∧ ∀ v, v < N → NodeOk N U v
theorem pigeon : ∀ (K m : Nat) (f : Nat → Int), (∀ i, i < m → 0 ≤ f i ∧ f i < (K : Int)) → (∀ i, i < m → ∀ j, j < i → f j ≠ f i) → m ≤ K := by
  intro K
  induction K with
  | zero => intro m f h _
            rcases Nat.eq_zero_or_pos m with e | e
            · omega
            · have := h 0 e; omega
  | succ K ih =>
    intro m f h hu
    -- is K hit?
    by_cases hk : ∃ i, i < m ∧ f i = (K : Int)
    · obtain ⟨i, hi, hfi⟩ := hk
      -- skip i
      have := ih (m - 1) (fun j => if j < i then f j else f (j + 1)) (fun j hj => by
        by_cases hlt : j < i
        · have h1 := h j (by omega)
          have h2 := hu i hi j hlt
          simp only [hlt, if_true]
          omega
        · have h1 := h (j + 1) (by omega)
          have h2 := hu (j + 1) (by omega) i (by omega)
          simp only [hlt, if_false]
          omega) (fun j hj q hq => by
        by_cases h1 : j < i
        · have h2 : q < i := by omega
          simp only [h1, h2, if_true]
          exact hu j (by omega) q hq
        · by_cases h2 : q < i
          · simp only [h1, h2, if_true, if_false]
            exact hu (j + 1) (by omega) q (by omega)
          · simp only [h1, h2, if_false]
            exact hu (j + 1) (by omega) (q + 1) (by omega))
      omega
    · have := ih m f (fun i hi => by
        have h1 := h i hi
        have h2 : f i ≠ (K : Int) := fun e => hk ⟨i, hi, e⟩
        omega) hu
      omega
theorem Way.short {N : Nat} {v : Int} {p : Lc} (h : Way N v p) : p.n ≤ N + 1 := by
  obtain ⟨_, _, _, h4, h5⟩ := h
  exact pigeon (N + 1) p.n p.f (fun i hi => by have := h4 i hi; omega) h5
theorem GS.low {N : Nat} {U : Nat → Pl} (h : GS N U) : ∀ v, v < N → (U v).n ≤ 6 ∧ ∀ k, k < (U v).n → ((U v).T k).n ≤ 6 := by
  intro v hv
  refine ⟨(h.2.2 v hv).1, fun k hk => ?_⟩
  have h1 := ((h.2.2 v hv).2 k hk).1.short
  have h2 := h.2.1
  omega
noncomputable def gsB (N : Nat) (U : Nat → Pl) : Bool := pB (GS N U)
/-- What can be chosen. -/
def ChOk (N : Nat) (U : Nat → Pl) (c : Lc) : Prop := c.n = N ∧ ∀ i, i < N → -1 ≤ c.f i ∧ c.f i < ((U i).n : Int)
/-- A path can be had. -/
def Had (U : Nat → Pl) (f : Nat → Int) (p : Lc) : Prop := p.n = 2 ∨ (0 ≤ f (nx p) ∧ Same ((U (nx p)).T (f (nx p)).toNat) (tl p))
/-- The first path of node v that can be had. -/
noncomputable def bst (U : Nat → Pl) (f : Nat → Int) (v : Nat) : Int := fI (fun k => Had U f ((U v).T k)) (U v).n
theorem bst_ok (U : Nat → Pl) (f : Nat → Int) (v : Nat) : -1 ≤ bst U f v ∧ bst U f v < ((U v).n : Int) := ⟨fI_low _ _, fI_high _ _⟩
/-- All stay. -/
def Stb (N : Nat) (U : Nat → Pl) (f : Nat → Int) : Prop := ∀ i, i < N → bst U f i = f i
/-- Node v chooses. -/
noncomputable def upd (U : Nat → Pl) (f : Nat → Int) (v : Nat) : Nat → Int := fun j => if j = v then bst U f v else f j
/-- The first k nodes choose, one behind another. -/
noncomputable def actN (U : Nat → Pl) (f : Nat → Int) : Nat → Nat → Int
  | 0 => f
  | k + 1 => upd U (actN U f k) k
/-- What can be chosen of N nodes. -/
def Chs (N : Nat) (U : Nat → Pl) (f : Nat → Int) : Prop := ∀ i, i < N → -1 ≤ f i ∧ f i < ((U i).n : Int)
theorem Chs.upd {N : Nat} {U : Nat → Pl} {f : Nat → Int} (h : Chs N U f) (v : Nat) : Chs N U (upd U f v) := by
  intro i hi
  unfold Go.Proofs.Ytelehmkmdbhcfaa.upd
  by_cases e : i = v
  · rw [if_pos e, e]; exact bst_ok U f v
  · rw [if_neg e]; exact h i hi
theorem Chs.act {N : Nat} {U : Nat → Pl} {f : Nat → Int} (h : Chs N U f) : ∀ k, Chs N U (actN U f k)
  | 0 => h
  | k + 1 => (Chs.act h k).upd k
theorem Chs.none (N : Nat) (U : Nat → Pl) : Chs N U (fun _ => -1) := fun i _ => ⟨by simp, by simp; omega⟩
/-- Choices ahead of k alone tell what is chosen; the others stay. -/
theorem actN_ge (U : Nat → Pl) (f : Nat → Int) : ∀ k j, k ≤ j → actN U f k j = f j
  | 0, _, _ => rfl
  | k + 1, j, h => by
    show upd U (actN U f k) k j = f j
    unfold upd
    rw [if_neg (by omega)]
    exact actN_ge U f k j (by omega)
theorem actN_lt (U : Nat → Pl) (f : Nat → Int) : ∀ k j, j < k → actN U f k j = bst U (actN U f j) j
  | 0, _, h => absurd h (Nat.not_lt_zero _)
  | k + 1, j, h => by
    show upd U (actN U f k) k j = _
    unfold upd
    by_cases e : j = k
    · rw [if_pos e, e]
    · rw [if_neg e]
      exact actN_lt U f k j (by omega)
/-- Nothing changes just where all stay. -/
theorem act_same {N : Nat} {U : Nat → Pl} {f : Nat → Int} (hs : Stb N U f) : ∀ k, k ≤ N → actN U f k = f
  | 0, _ => rfl
  | k + 1, h => by
    show upd U (actN U f k) k = f
    rw [act_same hs k (by omega)]
    funext j
    unfold upd
    by_cases e : j = k
    · rw [if_pos e, e]; exact hs k (by omega)
    · rw [if_neg e]
theorem same_act {N : Nat} {U : Nat → Pl} {f : Nat → Int} (h : ∀ j, j < N → actN U f N j = f j) : Stb N U f := by
  have key : ∀ k, k ≤ N → actN U f k = f := by
    intro k
    induction k with
    | zero => intro _; rfl
    | succ k ih =>
      intro hk
      have e := ih (by omega)
      show upd U (actN U f k) k = f
      rw [e]
      funext j
      unfold upd
      by_cases ej : j = k
      · rw [if_pos ej, ej]
        have h1 := h k (by omega)
        rw [actN_lt U f N k (by omega), e] at h1
        exact h1
      · rw [if_neg ej]
  intro i hi
  have h1 := h i hi
  rw [actN_lt U f N i hi, key i (by omega)] at h1
  exact h1
/-- Rounds of all. -/
noncomputable def itr (N : Nat) (U : Nat → Pl) : Nat → Nat → Int
  | 0 => fun _ => -1
  | k + 1 => actN U (itr N U k) N
theorem itr_ok (N : Nat) (U : Nat → Pl) : ∀ k, Chs N U (itr N U k)
  | 0 => Chs.none N U
  | k + 1 => (itr_ok N U k).act N
/-- When all stay for the first time, within 40 rounds; -1 for never. -/
noncomputable def stl (N : Nat) (U : Nat → Pl) : Int := fI (fun k => Stb N U (itr N U k)) 41
theorem ChOk.chs {N : Nat} {U : Nat → Pl} {g : Lc} (h : ChOk N U g) : Chs N U g.f := h.2
noncomputable def chB (N : Nat) (U : Nat → Pl) (g : Lc) : Bool := pB (GS N U ∧ ChOk N U g)
def BfOk (N : Nat) (U : Nat → Pl) (g : Lc) (nd : Int) : Prop := (GS N U ∧ ChOk N U g) ∧ 1 ≤ nd ∧ nd ≤ (N : Int)
noncomputable def bfB (N : Nat) (U : Nat → Pl) (g : Lc) (nd : Int) : Bool := pB (BfOk N U g nd)
noncomputable def bfV (N : Nat) (U : Nat → Pl) (g : Lc) (nd : Int) : Int := if bfB N U g nd = true then bst U g.f (nd.toNat - 1) else 0
noncomputable def isV (N : Nat) (U : Nat → Pl) (g : Lc) : Bool := pB ((GS N U ∧ ChOk N U g) ∧ Stb N U g.f)
theorem GS.lowS {N : Nat} {U : Nat → Pl} (h : GS N U) : LowS N U := fun v hv => ⟨by have := (h.low v hv).1; omega, fun k hk => by have := (h.low v hv).2 k hk; omega⟩
theorem had_two {U : Nat → Pl} {f : Nat → Int} {p : Lc} (h : p.n = 2) : Had U f p := .inl h
theorem had_iff {U : Nat → Pl} {f : Nat → Int} {p : Lc} {x j : Nat} (h2 : 2 < p.n) (hx : nx p = x) (hj : f x = (j : Int)) : Had U f p ↔ Same ((U x).T j) (tl p) := by
  unfold Had
  rw [hx, hj]
  constructor
  · rintro (h | ⟨_, h⟩)
    · omega
    · exact h
  · intro h
    exact .inr ⟨by omega, h⟩
theorem had_not {U : Nat → Pl} {f : Nat → Int} {p : Lc} {x : Nat} (h2 : 2 < p.n) (hx : nx p = x) (hj : f x < 0) : ¬ Had U f p := by
  unfold Had
  rw [hx]
  rintro (h | ⟨h, _⟩) <;> omega
end Go.Proofs.Ytelehmkmdbhcfaa
