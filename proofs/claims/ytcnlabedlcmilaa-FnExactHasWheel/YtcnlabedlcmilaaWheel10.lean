/- Wheels, in plain words. -/
import Derived.Test.YtcnlabedlcmilaaPlain10
namespace Go.Proofs.Ytcnlabedlcmilaa
open Go.RowKit

/-- What is left of a path from place i on. -/
def drp (p : Lc) (i : Nat) : Lc := ⟨p.n - i, fun j => p.f (i + j)⟩
theorem drp_one (p : Lc) : drp p 1 = tl p := rfl
theorem Same.symm {p q : Lc} (h : Same p q) : Same q p := ⟨h.1.symm, fun i hi => (h.2 i (by rw [h.1]; exact hi)).symm⟩
theorem Same.trans {p q r : Lc} (h : Same p q) (k : Same q r) : Same p r := ⟨h.1.trans k.1, fun i hi => (h.2 i hi).trans (k.2 i (by rw [← h.1]; exact hi))⟩
theorem Same.drp {p q : Lc} (h : Same p q) (i : Nat) : Same (drp p i) (drp q i) := by
  refine ⟨by show p.n - i = q.n - i; rw [h.1], fun j hj => ?_⟩
  have hj' : j < p.n - i := hj
  exact h.2 (i + j) (by omega)
theorem drp_drp (p : Lc) (i j : Nat) : Same (drp (drp p i) j) (drp p (i + j)) := by
  refine ⟨by show p.n - i - j = p.n - (i + j); omega, fun k _ => ?_⟩
  show p.f (i + (j + k)) = p.f (i + j + k)
  rw [Nat.add_assoc]
theorem rk_congr {U : Nat → Pl} {v : Nat} {p q : Lc} (h : Same p q) : rk U v p = rk U v q := fI_congr (fun _ _ => ⟨fun k => k.trans h, fun k => k.trans h.symm⟩)
theorem rk_at {U : Nat → Pl} {v : Nat} {p : Lc} (h : 0 ≤ rk U v p) : ∃ m, m < (U v).n ∧ rk U v p = (m : Int) ∧ Same ((U v).T m) p := by
  rcases fI_cases (fun k => Same ((U v).T k) p) (U v).n with ⟨h1, _⟩ | ⟨k, h0, h1, h2, _⟩
  · have : rk U v p = -1 := h1
    omega
  · exact ⟨k, h0, h1, h2⟩
/-- A pair leads to another one. -/
def Edg (U : Nat → Pl) (x y : Nat × Nat) : Prop := ∃ k, k ≤ x.2 ∧ ∃ i, 1 ≤ i ∧ i + 1 < ((U x.1).T k).n ∧ ((U x.1).T k).f i = (y.1 : Int) + 1 ∧ rk U y.1 (drp ((U x.1).T k) i) = (y.2 : Int)
/-- A node with one of its paths. -/
def Pr (N : Nat) (U : Nat → Pl) (x : Nat × Nat) : Prop := x.1 < N ∧ x.2 < (U x.1).n
theorem suf_one {N : Nat} {U : Nat → Pl} (hG : GS N U) {v k : Nat} (hv : v < N) (hk : k < (U v).n) (h2 : 2 < ((U v).T k).n) : ∃ m, nx ((U v).T k) < N ∧ ((U v).T k).f 1 = (nx ((U v).T k) : Int) + 1 ∧ m < (U (nx ((U v).T k))).n ∧ rk U (nx ((U v).T k)) (tl ((U v).T k)) = (m : Int) ∧ Same ((U (nx ((U v).T k))).T m) (tl ((U v).T k)) := by
  have hp := (hG.2.2 v hv).2 k hk
  obtain ⟨n1, n2, n3, n4⟩ := hp.1.next h2
  obtain ⟨m, h1, h3, h4⟩ := rk_at (hp.2.2 h2)
  exact ⟨m, n3, by omega, h1, h3, h4⟩
theorem suf {N : Nat} {U : Nat → Pl} (hG : GS N U) {v k : Nat} (hv : v < N) (hk : k < (U v).n) : ∀ i, 1 ≤ i → i + 1 < ((U v).T k).n → ∃ u m, u < N ∧ ((U v).T k).f i = (u : Int) + 1 ∧ m < (U u).n ∧ rk U u (drp ((U v).T k) i) = (m : Int) ∧ Same ((U u).T m) (drp ((U v).T k) i) := by
  intro i
  induction i with
  | zero => intro h; omega
  | succ i ih =>
    intro _ hn
    by_cases hi : i = 0
    · subst hi
      obtain ⟨m, h1, h2, h3, h4, h5⟩ := suf_one hG hv hk (by omega)
      exact ⟨_, m, h1, h2, h3, h4, h5⟩
    · obtain ⟨u, m, h1, h2, h3, h4, h5⟩ := ih (by omega) (by omega)
      have hq : ((U u).T m).n = ((U v).T k).n - i := h5.1
      obtain ⟨m', g1, g2, g3, g4, g5⟩ := suf_one hG h1 h3 (by omega)
      have hs : Same (tl ((U u).T m)) (drp ((U v).T k) (i + 1)) := (h5.drp 1).trans (drp_drp _ i 1)
      refine ⟨_, m', g1, ?_, g3, ?_, g5.trans hs⟩
      · rw [← g2]
        exact (h5.2 1 (by omega)).symm
      · rw [← rk_congr hs]; exact g4
theorem Edg.pr {N : Nat} {U : Nat → Pl} (hG : GS N U) {x y : Nat × Nat} (hx : Pr N U x) (h : Edg U x y) : Pr N U y := by
  obtain ⟨k, hk, i, h1, h2, h3, h4⟩ := h
  obtain ⟨u, m, g1, g2, g3, g4, g5⟩ := suf hG hx.1 (show k < (U x.1).n by have := hx.2; omega) i h1 h2
  have hu : u = y.1 := by omega
  subst hu
  have hm : m = y.2 := by omega
  subst hm
  exact ⟨g1, g3⟩
/-- From one to another one by one step or more. -/
inductive Trn (E : Nat × Nat → Nat × Nat → Prop) : Nat × Nat → Nat × Nat → Prop
  | one {a b : Nat × Nat} : E a b → Trn E a b
  | step {a b c : Nat × Nat} : Trn E a b → E b c → Trn E a c
/-- A wheel turns. -/
def WH (N : Nat) (U : Nat → Pl) : Prop := ∃ x, Pr N U x ∧ Trn (Edg U) x x
noncomputable def whB (N : Nat) (U : Nat → Pl) : Bool := pB (GS N U ∧ WH N U)

/-- What was set free leads to what was set free earlier. -/
def FrInv (N : Nat) (U : Nat → Pl) (F : Nat → Nat) : Prop := (∀ v, v < N → F v ≤ (U v).n) ∧ ∃ (tm : Nat → Nat → Nat) (t : Nat), (∀ v, v < N → ∀ k, k < F v → tm v k < t) ∧
  ∀ v, v < N → ∀ k, k < F v → ∀ y, Edg U (v, k) y → y.2 < F y.1 ∧ tm y.1 y.2 < tm v k
theorem FrInv.zero (N : Nat) (U : Nat → Pl) : FrInv N U (fun _ => 0) := ⟨fun _ _ => Nat.zero_le _, fun _ _ => 0, 0, fun _ _ _ h => absurd h (Nat.not_lt_zero _), fun _ _ _ h => absurd h (Nat.not_lt_zero _)⟩
/-- A pair leads to free ones alone. -/
def Frees (U : Nat → Pl) (F : Nat → Nat) (i : Nat) : Prop := ((U i).T (F i)).n = 2 ∨ rk U (nx ((U i).T (F i))) (tl ((U i).T (F i))) < (F (nx ((U i).T (F i))) : Int)
def bump (F : Nat → Nat) (i : Nat) : Nat → Nat := fun v => if v = i then F v + 1 else F v
theorem bump_ge (F : Nat → Nat) (i v : Nat) : F v ≤ bump F i v := by unfold bump; split <;> omega
theorem FrInv.next {N : Nat} {U : Nat → Pl} (hG : GS N U) {F : Nat → Nat} (h : FrInv N U F) {i : Nat} (hi : i < N) (hl : F i < (U i).n) (hf : Frees U F i) : FrInv N U (bump F i) := by
  obtain ⟨h1, tm, t, h2, h3⟩ := h
  refine ⟨fun v hv => ?_, fun v k => if v = i ∧ k = F i then t else tm v k, t + 1, fun v hv k hk => ?_, fun v hv k hk y he => ?_⟩
  · unfold bump
    by_cases e : v = i
    · rw [if_pos e, e]; omega
    · rw [if_neg e]; exact h1 v hv
  · show (if v = i ∧ k = F i then t else tm v k) < t + 1
    by_cases e : v = i ∧ k = F i
    · rw [if_pos e]; omega
    · rw [if_neg e]
      have hk' : k < F v := by
        unfold bump at hk
        by_cases e1 : v = i
        · rw [if_pos e1] at hk
          have : ¬ k = F i := fun e2 => e ⟨e1, e2⟩
          rw [e1] at hk ⊢
          omega
        · rw [if_neg e1] at hk; exact hk
      have := h2 v hv k hk'
      omega
  · -- old targets stay as they are
    have key : ∀ y : Nat × Nat, y.2 < F y.1 → (if y.1 = i ∧ y.2 = F i then t else tm y.1 y.2) = tm y.1 y.2 := by
      intro y hy
      rw [if_neg]
      rintro ⟨e1, e2⟩
      rw [e1] at hy
      omega
    show y.2 < bump F i y.1 ∧ (if y.1 = i ∧ y.2 = F i then t else tm y.1 y.2) < (if v = i ∧ k = F i then t else tm v k)
    by_cases e : v = i ∧ k = F i
    · obtain ⟨e1, e2⟩ := e
      subst e1 e2
      have claim : y.2 < F y.1 ∧ tm y.1 y.2 < t := by
        have hy1 : y.1 < N := (he.pr hG (x := (v, F v)) ⟨hi, hl⟩).1
        obtain ⟨k', hk', j, j1, j2, j3, j4⟩ := he
        have hk'' : k' ≤ F v := hk'
        by_cases e3 : k' < F v
        · have ed : Edg U (v, F v - 1) y := ⟨k', by show k' ≤ F v - 1; omega, j, j1, j2, j3, j4⟩
          have h4 := h3 v hi (F v - 1) (by omega) y ed
          have h5 := h2 v hi (F v - 1) (by omega)
          exact ⟨h4.1, by omega⟩
        · have e4 : k' = F v := by omega
          subst e4
          have hj2 : j + 1 < ((U v).T (F v)).n := j2
          rcases hf with hf | hf
          · omega
          · obtain ⟨m, g1, g2, g3, g4, g5⟩ := suf_one hG hi hl (by omega)
            have hm : m < F (nx ((U v).T (F v))) := by omega
            by_cases e5 : j = 1
            · subst e5
              have hj3 : ((U v).T (F v)).f 1 = (y.1 : Int) + 1 := j3
              have hu : nx ((U v).T (F v)) = y.1 := by omega
              have hj4 : rk U y.1 (tl ((U v).T (F v))) = (y.2 : Int) := j4
              rw [hu] at g4 hm
              have hm2 : m = y.2 := by omega
              subst hm2
              exact ⟨hm, h2 y.1 hy1 y.2 hm⟩
            · have hq : ((U (nx ((U v).T (F v)))).T m).n = ((U v).T (F v)).n - 1 := g5.1
              have hs : Same (drp ((U (nx ((U v).T (F v)))).T m) (j - 1)) (drp ((U v).T (F v)) j) := by
                have := (g5.drp (j - 1)).trans (drp_drp ((U v).T (F v)) 1 (j - 1))
                rwa [show 1 + (j - 1) = j by omega] at this
              have ed : Edg U (nx ((U v).T (F v)), m) y := by
                refine ⟨m, Nat.le_refl _, j - 1, by omega, by show j - 1 + 1 < ((U (nx ((U v).T (F v)))).T m).n; omega, ?_, ?_⟩
                · show ((U (nx ((U v).T (F v)))).T m).f (j - 1) = _
                  rw [g5.2 (j - 1) (by omega)]
                  show ((U v).T (F v)).f (1 + (j - 1)) = _
                  rw [show 1 + (j - 1) = j by omega]
                  exact j3
                · show rk U y.1 (drp ((U (nx ((U v).T (F v)))).T m) (j - 1)) = _
                  rw [rk_congr hs]; exact j4
              have h4 := h3 _ g1 m hm y ed
              have h5 := h2 _ g1 m hm
              exact ⟨h4.1, by omega⟩
      rw [key y claim.1, if_pos ⟨rfl, rfl⟩]
      exact ⟨Nat.lt_of_lt_of_le claim.1 (bump_ge F v y.1), claim.2⟩
    · have hk' : k < F v := by
        unfold bump at hk
        by_cases e1 : v = i
        · rw [if_pos e1] at hk
          have : ¬ k = F i := fun e2 => e ⟨e1, e2⟩
          rw [e1] at hk ⊢
          omega
        · rw [if_neg e1] at hk; exact hk
      have h4 := h3 v hv k hk' y he
      rw [key y h4.1, if_neg e]
      exact ⟨Nat.lt_of_lt_of_le h4.1 (bump_ge F i y.1), h4.2⟩
/-- All are free: no wheel turns. -/
theorem FrInv.all {N : Nat} {U : Nat → Pl} (hG : GS N U) {F : Nat → Nat} (h : FrInv N U F) (ha : ∀ v, v < N → F v = (U v).n) : ¬ WH N U := by
  obtain ⟨_, tm, t, _, h3⟩ := h
  rintro ⟨x, hx, ht⟩
  have key : ∀ y z, Trn (Edg U) y z → Pr N U y → Pr N U z ∧ tm z.1 z.2 < tm y.1 y.2 := by
    intro y z ht
    induction ht with
    | one e => intro hy; exact ⟨e.pr hG hy, (h3 _ hy.1 _ (by rw [ha _ hy.1]; exact hy.2) _ e).2⟩
    | step _ e ih =>
      intro hy
      obtain ⟨h1, h2⟩ := ih hy
      have := (h3 _ h1.1 _ (by rw [ha _ h1.1]; exact h1.2) _ e).2
      exact ⟨e.pr hG h1, by omega⟩
  have := (key x x ht hx).2
  omega
/-- Nothing more can be set free, and something is bound: a wheel turns. -/
theorem FrInv.stuck {N : Nat} {U : Nat → Pl} (hG : GS N U) {F : Nat → Nat} (hs : ∀ v, v < N → F v < (U v).n → ¬ Frees U F v) (hb : ∃ v, v < N ∧ F v < (U v).n) : WH N U := by
  -- a bound pair leads to a bound one
  have next : ∀ x : Nat × Nat, (Pr N U x ∧ F x.1 ≤ x.2) → ∃ y : Nat × Nat, (Pr N U y ∧ F y.1 ≤ y.2) ∧ Edg U x y := by
    rintro ⟨v, k⟩ ⟨hx, hk⟩
    have hv : v < N := hx.1
    have hkn : k < (U v).n := hx.2
    have hk' : F v ≤ k := hk
    have hn := hs v hv (by omega)
    have h2 : 2 < ((U v).T (F v)).n := by
      have h1 := ((hG.2.2 v hv).2 (F v) (by omega)).1.1
      have h3 : ((U v).T (F v)).n ≠ 2 := fun e => hn (.inl e)
      omega
    obtain ⟨m, g1, g2, g3, g4, g5⟩ := suf_one hG hv (show F v < (U v).n by omega) h2
    refine ⟨(nx ((U v).T (F v)), m), ⟨⟨g1, g3⟩, ?_⟩, F v, hk', 1, Nat.le_refl _, by show 1 + 1 < ((U v).T (F v)).n; omega, g2, g4⟩
    show F (nx ((U v).T (F v))) ≤ m
    have h3 : ¬ rk U (nx ((U v).T (F v))) (tl ((U v).T (F v))) < (F (nx ((U v).T (F v))) : Int) := fun e => hn (.inr e)
    omega
  obtain ⟨v0, hv0, hb0⟩ := hb
  let S := { x : Nat × Nat // Pr N U x ∧ F x.1 ≤ x.2 }
  let g : S → S := fun x => ⟨Classical.choose (next x.1 x.2), (Classical.choose_spec (next x.1 x.2)).1⟩
  have hg : ∀ x : S, Edg U x.1 (g x).1 := fun x => (Classical.choose_spec (next x.1 x.2)).2
  let s : Nat → S := fun n => Nat.rec (⟨(v0, F v0), ⟨hv0, hb0⟩, Nat.le_refl _⟩ : S) (fun _ x => g x) n
  have hs1 : ∀ n, s (n + 1) = g (s n) := fun _ => rfl
  have tr : ∀ i d, Trn (Edg U) (s i).1 (s (i + 1 + d)).1 := by
    intro i d
    induction d with
    | zero => exact .one (by rw [Nat.add_zero, hs1]; exact hg _)
    | succ d ih => exact .step ih (by rw [show i + 1 + (d + 1) = i + 1 + d + 1 by omega, hs1]; exact hg _)
  -- two of the first 31 are the same
  have hex : ∃ i j, i < j ∧ (s i).1 = (s j).1 := by
    apply Classical.byContradiction
    intro hno
    have hle := pigeon 30 31 (fun i => ((s i).1.1 * 6 + (s i).1.2 : Nat)) (fun i _ => by
      have h1 := (s i).2.1.1
      have h2 := (s i).2.1.2
      have h3 := (hG.low _ h1).1
      have h4 := hG.2.1
      omega) (fun j hj i hi he => hno ⟨i, j, hi, by
        have h2 := (s i).2.1.2
        have h3 := (hG.low _ (s i).2.1.1).1
        have h4 := (s j).2.1.2
        have h5 := (hG.low _ (s j).2.1.1).1
        have he' : (s i).1.1 * 6 + (s i).1.2 = (s j).1.1 * 6 + (s j).1.2 := by
          have := he
          omega
        have e1 : (s i).1.1 = (s j).1.1 := by omega
        have e2 : (s i).1.2 = (s j).1.2 := by omega
        exact Prod.ext e1 e2⟩)
    omega
  obtain ⟨i, j, hij, he⟩ := hex
  refine ⟨(s i).1, (s i).2.1, ?_⟩
  have := tr i (j - i - 1)
  rw [show i + 1 + (j - i - 1) = j by omega, ← he] at this
  exact this
end Go.Proofs.Ytcnlabedlcmilaa
