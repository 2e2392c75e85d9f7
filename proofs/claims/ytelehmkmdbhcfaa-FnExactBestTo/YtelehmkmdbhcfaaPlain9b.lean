/- Looking at the least first, in plain words. -/
import Derived.Test.YtelehmkmdbhcfaaAll5
namespace Go.Proofs.Ytelehmkmdbhcfaa
open Go.RowKit

/-- Of the first k speakers a is the first least one that was not looked at. -/
def LstK (k : Nat) (b : Nat → Int) (s : Nat → Bool) (a : Nat) : Prop := a < k ∧ s a = false ∧ ∀ j, j < k → s j = false → b a ≤ b j ∧ (j < a → b a < b j)
/-- What the search has come to behind k speakers. -/
def SeaK (k : Nat) (b : Nat → Int) (s : Nat → Bool) (x : Int) : Prop := (x = -1 ∧ ∀ j, j < k → s j = true) ∨ ∃ a : Nat, x = a ∧ LstK k b s a
theorem sea_zero (b : Nat → Int) (s : Nat → Bool) : SeaK 0 b s (-1) := Or.inl ⟨rfl, fun j hj => absurd hj (by omega)⟩
theorem sea_skip {k : Nat} {b : Nat → Int} {s : Nat → Bool} {x : Int} (h : SeaK k b s x) (hs : s k = true) : SeaK (k + 1) b s x := by
  rcases h with ⟨rfl, h⟩ | ⟨a, rfl, h1, h2, h3⟩
  · refine Or.inl ⟨rfl, fun j hj => ?_⟩
    by_cases e : j = k
    · subst e; exact hs
    · exact h j (by omega)
  · refine Or.inr ⟨a, rfl, by omega, h2, fun j hj hf => ?_⟩
    by_cases e : j = k
    · subst e; rw [hs] at hf; cases hf
    · exact h3 j (by omega) hf
theorem sea_first {k : Nat} {b : Nat → Int} {s : Nat → Bool} {x : Int} (h : SeaK k b s x) (hx : x < 0) (hs : s k = false) : SeaK (k + 1) b s k := by
  rcases h with ⟨rfl, h⟩ | ⟨a, rfl, _⟩
  · refine Or.inr ⟨k, rfl, by omega, hs, fun j hj hf => ?_⟩
    by_cases e : j = k
    · subst e; exact ⟨Int.le_refl _, fun q => absurd q (by omega)⟩
    · rw [h j (by omega)] at hf; cases hf
  · omega
theorem sea_less {k : Nat} {b : Nat → Int} {s : Nat → Bool} {a : Nat} (h : SeaK k b s a) (hs : s k = false) (hl : b k < b a) : SeaK (k + 1) b s k := by
  rcases h with ⟨h, _⟩ | ⟨a', e, h1, h2, h3⟩
  · omega
  · obtain rfl : a = a' := by omega
    refine Or.inr ⟨k, rfl, by omega, hs, fun j hj hf => ?_⟩
    by_cases e : j = k
    · subst e; exact ⟨Int.le_refl _, fun q => absurd q (by omega)⟩
    · have := (h3 j (by omega) hf).1
      exact ⟨by omega, fun _ => by omega⟩
theorem sea_stay {k : Nat} {b : Nat → Int} {s : Nat → Bool} {a : Nat} (h : SeaK k b s a) (hl : ¬ b k < b a) : SeaK (k + 1) b s a := by
  rcases h with ⟨h, _⟩ | ⟨a', e, h1, h2, h3⟩
  · omega
  · obtain rfl : a = a' := by omega
    refine Or.inr ⟨a, rfl, by omega, h2, fun j hj hf => ?_⟩
    by_cases e : j = k
    · subst e; exact ⟨by omega, fun q => absurd q (by omega)⟩
    · exact h3 j (by omega) hf
theorem LstK.one {k : Nat} {b : Nat → Int} {s : Nat → Bool} {a a' : Nat} (h : LstK k b s a) (h' : LstK k b s a') : a = a' := by
  have h1 := h.2.2 a' h'.1 h'.2.1
  have h2 := h'.2.2 a h.1 h.2.1
  by_cases p : a < a'
  · have := h2.2 p
    omega
  · by_cases q : a' < a
    · have := h1.2 q
      omega
    · omega
/-- How many of the first k were not looked at. -/
def cn9 (s : Nat → Bool) : Nat → Nat
  | 0 => 0
  | k + 1 => cn9 s k + (if s k = true then 0 else 1)
def mk9 (a : Nat) (s : Nat → Bool) : Nat → Bool := fun i => if i = a then true else s i
theorem cn9_same {s : Nat → Bool} {a : Nat} : ∀ k, k ≤ a → cn9 (mk9 a s) k = cn9 s k
  | 0, _ => rfl
  | k + 1, h => by
    have e : mk9 a s k = s k := by unfold mk9; rw [if_neg (by omega)]
    rw [cn9, cn9, cn9_same k (by omega), e]
theorem cn9_mk {s : Nat → Bool} {a : Nat} (hs : s a = false) : ∀ k, a < k → cn9 (mk9 a s) k + 1 = cn9 s k
  | 0, h => absurd h (by omega)
  | k + 1, h => by
    by_cases e : k = a
    · subst e
      have e1 : mk9 k s k = true := by unfold mk9; rw [if_pos rfl]
      rw [cn9, cn9, cn9_same k (Nat.le_refl _), e1, hs]
      simp
    · have e1 : mk9 a s k = s k := by unfold mk9; rw [if_neg e]
      have ih := cn9_mk hs k (by omega)
      rw [cn9, cn9, e1]
      omega
theorem cn9_pos {s : Nat → Bool} : ∀ k, 0 < cn9 s k → ∃ p, p < k ∧ s p = false
  | 0, h => absurd h (by simp [cn9])
  | k + 1, h => by
    cases hk : s k with
    | false => exact ⟨k, by omega, hk⟩
    | true =>
      rw [cn9, hk] at h
      obtain ⟨p, hp, hs⟩ := cn9_pos k (by simpa using h)
      exact ⟨p, by omega, hs⟩
theorem sea_found {b : Nat → Int} {s : Nat → Bool} {x : Int} (h : SeaK 6 b s x) (hc : 0 < cn9 s 6) : ∃ a : Nat, x = a ∧ LstK 6 b s a := by
  rcases h with ⟨_, h⟩ | h
  · obtain ⟨p, hp, hs⟩ := cn9_pos 6 hc
    rw [h p hp] at hs
    cases hs
  · exact h
noncomputable def at9 (b : Nat → Int) (s : Nat → Bool) : Nat := Classical.epsilon (fun a => LstK 6 b s a)
theorem at9_is {b : Nat → Int} {s : Nat → Bool} {a : Nat} (h : LstK 6 b s a) : at9 b s = a := by
  have h1 : ∃ a, LstK 6 b s a := ⟨a, h⟩
  exact (Classical.epsilon_spec h1 : LstK 6 b s (Classical.epsilon (fun a => LstK 6 b s a))).one h
/-- All others that were not looked at made less by way of a. -/
noncomputable def st9 (L : Int → Int → Int) (T : Nat → Lc) (a : Nat) (s : Nat → Bool) (b : Nat → Int) (v : Nat) : Int := if s v = false ∧ 0 ≤ L v a then min (b v) (ap9 T (L v a) (b a)) else b v
theorem st9_no {L : Int → Int → Int} {T : Nat → Lc} {a : Nat} {s : Nat → Bool} {b : Nat → Int} {v : Nat} (h : ¬ (s v = false ∧ 0 ≤ L v a)) : st9 L T a s b v = b v := if_neg h
theorem st9_yes {L : Int → Int → Int} {T : Nat → Lc} {a : Nat} {s : Nat → Bool} {b : Nat → Int} {v : Nat} (h : s v = false ∧ 0 ≤ L v a) : st9 L T a s b v = min (b v) (ap9 T (L v a) (b a)) := if_pos h
noncomputable def rs9 (L : Int → Int → Int) (T : Nat → Lc) (b0 : Nat → Int) : Nat → (Nat → Int) × (Nat → Bool)
  | 0 => (b0, fun _ => false)
  | k + 1 => (st9 L T (at9 (rs9 L T b0 k).1 (rs9 L T b0 k).2) (mk9 (at9 (rs9 L T b0 k).1 (rs9 L T b0 k).2) (rs9 L T b0 k).2) (rs9 L T b0 k).1, mk9 (at9 (rs9 L T b0 k).1 (rs9 L T b0 k).2) (rs9 L T b0 k).2)
theorem rs9_step {L : Int → Int → Int} {T : Nat → Lc} {b0 : Nat → Int} {k a : Nat} (h : LstK 6 (rs9 L T b0 k).1 (rs9 L T b0 k).2 a) : rs9 L T b0 (k + 1) = (st9 L T a (mk9 a (rs9 L T b0 k).2) (rs9 L T b0 k).1, mk9 a (rs9 L T b0 k).2) := by
  rw [rs9, at9_is h]
theorem exists_lst {b : Nat → Int} {s : Nat → Bool} : ∀ k, (∃ x, SeaK k b s x)
  | 0 => ⟨_, sea_zero b s⟩
  | k + 1 => by
    obtain ⟨x, h⟩ := exists_lst (b := b) (s := s) k
    cases hs : s k with
    | true => exact ⟨x, sea_skip h hs⟩
    | false =>
      by_cases hx : x < 0
      · exact ⟨k, sea_first h hx hs⟩
      · obtain ⟨a, rfl⟩ : ∃ a : Nat, x = a := ⟨x.toNat, by omega⟩
        by_cases hl : b k < b a
        · exact ⟨k, sea_less h hs hl⟩
        · exact ⟨a, sea_stay h hl⟩
/-- Behind k rounds: k were looked at, and all are weights. -/
theorem rs9_inv {g : Int} {m : Nat} {T : Nat → Lc} {n : Nat} {f0 f1 f2 : Nat → Int} (hN : NA g m T n f0 f1 f2) {b0 : Nat → Int} (hb : ∀ v, v < 6 → 0 ≤ b0 v ∧ b0 v < g) :
    ∀ k, k ≤ 6 → cn9 (rs9 (fun x y => lab9 f0 f1 f2 x y n) T b0 k).2 6 + k = 6 ∧ ∀ v, v < 6 → 0 ≤ (rs9 (fun x y => lab9 f0 f1 f2 x y n) T b0 k).1 v ∧ (rs9 (fun x y => lab9 f0 f1 f2 x y n) T b0 k).1 v < g
  | 0, _ => ⟨rfl, hb⟩
  | k + 1, hk => by
    obtain ⟨h1, h2⟩ := rs9_inv hN hb k (by omega)
    obtain ⟨x, hx⟩ := exists_lst (b := (rs9 (fun x y => lab9 f0 f1 f2 x y n) T b0 k).1) (s := (rs9 (fun x y => lab9 f0 f1 f2 x y n) T b0 k).2) 6
    obtain ⟨a, rfl, ha⟩ := sea_found hx (by omega)
    rw [rs9_step ha]
    refine ⟨?_, fun v hv => ?_⟩
    · have := cn9_mk ha.2.1 6 ha.1
      show cn9 (mk9 a _) 6 + (k + 1) = 6
      omega
    · dsimp only
      have hv2 := h2 v hv
      by_cases q : mk9 a (rs9 (fun x y => lab9 f0 f1 f2 x y n) T b0 k).2 v = false ∧ 0 ≤ (fun x y => lab9 f0 f1 f2 x y n) (v : Int) (a : Int)
      · rw [st9_yes q]
        have hl : lab9 f0 f1 f2 (v : Int) (a : Int) n < (m : Int) := by
          have q2 : 0 ≤ lab9 f0 f1 f2 (v : Int) (a : Int) n := q.2
          unfold lab9 at q2 ⊢
          cases hf : fst9 f0 f1 (v : Int) (a : Int) n with
          | none => simp only [hf] at q2; omega
          | some i =>
            simp only
            exact (hN.2.2 i (fst9_some.1 hf).1).2.2.2.2.2.2
        have ho := ap9_ok hN.1 (k := lab9 f0 f1 f2 (v : Int) (a : Int) n) (x := (rs9 (fun x y => lab9 f0 f1 f2 x y n) T b0 k).1 a) q.2 hl (h2 a ha.1).1 (h2 a ha.1).2
        exact ⟨by rw [Int.le_min]; exact ⟨hv2.1, ho.1⟩, by rw [Int.min_def]; split <;> omega⟩
      · rw [st9_no q]
        exact hv2
/-- What BestTo answers. -/
def b09 (g : Int) (t : Int) : Nat → Int := fun v => if v = t.toNat then 0 else g - 1
noncomputable def btR (g : Int) (m : Nat) (T : Nat → Lc) (n : Nat) (f0 f1 f2 : Nat → Int) (t : Int) : List Int := if ptB g m T n f0 f1 f2 t = true then lsI 6 (rs9 (fun x y => lab9 f0 f1 f2 x y n) T (b09 g t) 6).1 else []
theorem bt_no {g : Int} {m : Nat} {T : Nat → Lc} {n : Nat} {f0 f1 f2 : Nat → Int} {t : Int} (h : ¬ PtOk g m T n f0 f1 f2 t) : btR g m T n f0 f1 f2 t = [] ∧ ptB g m T n f0 f1 f2 t = false := by
  have e : ptB g m T n f0 f1 f2 t = false := pB_f h
  exact ⟨by rw [btR, e]; rfl, e⟩
theorem bt_yes {g : Int} {m : Nat} {T : Nat → Lc} {n : Nat} {f0 f1 f2 : Nat → Int} {t : Int} (h : PtOk g m T n f0 f1 f2 t) : btR g m T n f0 f1 f2 t = lsI 6 (rs9 (fun x y => lab9 f0 f1 f2 x y n) T (b09 g t) 6).1 ∧ ptB g m T n f0 f1 f2 t = true := by
  have e : ptB g m T n f0 f1 f2 t = true := pB_t h
  exact ⟨by rw [btR, e]; rfl, e⟩
theorem btR_len (g : Int) (m : Nat) (T : Nat → Lc) (n : Nat) (f0 f1 f2 : Nat → Int) (t : Int) : (btR g m T n f0 f1 f2 t).length ≤ 6 := by
  unfold btR
  split
  · simp [lsI]
  · simp
theorem b09_ok {g t : Int} (hg : 2 ≤ g) : ∀ v, v < 6 → 0 ≤ b09 g t v ∧ b09 g t v < g := fun v _ => by
  unfold b09
  split <;> omega
end Go.Proofs.Ytelehmkmdbhcfaa
