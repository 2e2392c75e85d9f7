/- The plain mathematics of what is cut out, of ranges, of what two have in common, and of the look at a good set. -/
import Derived.Test.YtjjdfniemlcnnabPlain3c
namespace Go.Proofs.Ytjjdfniemlcnnab

/-- What q has and p has not. -/
def wout : Nat → Pf → Pf → List Pf
  | 0, _, _ => []
  | f + 1, q, p => if covP p q then [] else if covP q p then wout f (loP q) p ++ wout f (hiP q) p else [q]

structure Wout (W : List Pf) (q p : Pf) : Prop where
  gd : ∀ e, e ∈ W → gdP e
  inn : ∀ e, e ∈ W → q.1 ≤ e.1 ∧ e.1 + pw e.2 ≤ q.1 + pw q.2
  ch : W.Pairwise befP
  all : ∀ x, allP W x ↔ hasP q x ∧ ¬ hasP p x
  sib : ∀ e, e ∈ W → e = q ∨ (1 ≤ e.2 ∧ covP (sibP e) p = true)

theorem cov_len {p q : Pf} (h : covP p q = true) : p.2 ≤ q.2 := by unfold covP at h; rw [Bool.and_eq_true, decide_eq_true_eq] at h; exact h.1
theorem cov_strict {p q : Pf} (gp : gdP p) (gq : gdP q) (h1 : covP q p = true) (h2 : ¬ covP p q = true) : q.2 < p.2 := by
  have := cov_len h1
  rcases Int.lt_or_eq_of_le this with h | h
  · exact h
  · refine absurd ((covP_iff gp gq).2 ?_) h2
    rw [covP_iff gq gp, h] at h1
    rw [h]
    omega

theorem wout_facts : ∀ (f : Nat) (q p : Pf), gdP q → gdP p → 33 ≤ q.2 + f → Wout (wout f q p) q p
  | 0, q, p, gq, _, hf => by have := (gdP_parts gq).2.1; omega
  | f + 1, q, p, gq, gp, hf => by
    have pq := (gdP_parts gq).2.2.2.2.2.1
    have pp := (gdP_parts gp).2.2.2.2.2.1
    unfold wout
    by_cases h1 : covP p q = true
    · rw [if_pos h1]
      refine ⟨by simp, by simp, List.Pairwise.nil, fun x => ⟨fun h => (all_nil x h).elim, fun h => (h.2 (covP_has gp gq h1 h.1)).elim⟩, by simp⟩
    · rw [if_neg h1]
      by_cases h2 : covP q p = true
      · rw [if_pos h2]
        have hs := cov_strict gp gq h2 h1
        have hq : q.2 < 32 := by have := (gdP_parts gp).2.1; omega
        have H := half_of gq hq
        have hsz := H.sz
        have hps := pw_pos (q.2 + 1)
        have A := wout_facts f (loP q) p H.gl gp (by show 33 ≤ q.2 + 1 + (f : Int); omega)
        have B := wout_facts f (hiP q) p H.gh gp (by show 33 ≤ q.2 + 1 + (f : Int); omega)
        have eLo : (loP q).1 + pw (loP q).2 = q.1 + pw (q.2 + 1) := rfl
        have eHi : (hiP q).1 + pw (hiP q).2 = q.1 + pw (q.2 + 1) + pw (q.2 + 1) := rfl
        have e1 : (loP q).1 = q.1 := rfl
        have e2 : (hiP q).1 = q.1 + pw (q.2 + 1) := rfl
        rw [covP_iff gq gp] at h2
        refine ⟨?_, ?_, ?_, ?_, ?_⟩
        · intro e he
          rw [List.mem_append] at he
          exact he.elim (A.gd e) (B.gd e)
        · intro e he
          rw [List.mem_append] at he
          rcases he with he | he
          · have := A.inn e he; omega
          · have := B.inn e he; omega
        · rw [List.pairwise_append]
          refine ⟨A.ch, B.ch, fun a ha b hb => ?_⟩
          have := A.inn a ha
          have := B.inn b hb
          unfold befP
          omega
        · intro x
          rw [all_app, A.all, B.all, has_halves gq hq]
          constructor
          · rintro (h | h)
            · exact ⟨.inl h.1, h.2⟩
            · exact ⟨.inr h.1, h.2⟩
          · rintro ⟨h | h, k⟩
            · exact .inl ⟨h, k⟩
            · exact .inr ⟨h, k⟩
        · -- a half that is left whole stands beside the half that has p
          have inHalf : covP (loP q) p = true ∨ covP (hiP q) p = true := by
            rcases tri H.gl gp with h | h | h | h
            · refine .inr ((covP_iff H.gh gp).2 ?_)
              unfold befP at h
              omega
            · unfold befP at h; omega
            · exact .inl h
            · -- p has the lower half, and is longer than q: it is the lower half
              have hl := cov_len h
              have hl2 : (loP q).2 = q.2 + 1 := rfl
              rw [covP_iff gp H.gl] at h
              refine .inl ((covP_iff H.gl gp).2 ?_)
              have e5 : p.2 = (loP q).2 := by omega
              rw [e5] at h ⊢
              have hx := nest (x := (loP q).1) H.gl gp (by omega) ⟨Int.le_refl _, by rw [eLo, e1]; omega⟩ ⟨h.1, by rw [e5]; omega⟩
              rw [e5] at hx
              exact hx
          have away : ∀ e W r, Wout W r p → e ∈ W → covP e p = true → False := by
            intro e W r hW he hc
            have ge := hW.gd e he
            have hx : hasP p p.1 := ⟨Int.le_refl _, by omega⟩
            exact ((hW.all p.1).1 ⟨e, he, covP_has ge gp hc hx⟩).2 hx
          intro e he
          rw [List.mem_append] at he
          have h1e : ∀ r : Pf, r.2 = q.2 + 1 → 1 ≤ r.2 := by intro r hr; have := (gdP_parts gq).1; omega
          rcases he with he | he
          · rcases A.sib e he with rfl | h
            · refine .inr ⟨h1e _ rfl, ?_⟩
              rw [H.sl]
              rcases inHalf with h | h
              · exact (away _ _ _ A he h).elim
              · exact h
            · exact .inr h
          · rcases B.sib e he with rfl | h
            · refine .inr ⟨h1e _ rfl, ?_⟩
              rw [H.sh]
              rcases inHalf with h | h
              · exact h
              · exact (away _ _ _ B he h).elim
            · exact .inr h
      · rw [if_neg h2]
        refine ⟨by simp; exact gq, by simp, by simp, fun x => ?_, by simp⟩
        rw [all_cons]
        simp only [all_nil, or_false]
        constructor
        · intro h
          refine ⟨h, fun k => ?_⟩
          rcases tri gp gq with c | c | c | c
          · unfold befP at c; unfold hasP at h k; omega
          · unfold befP at c; unfold hasP at h k; omega
          · exact h1 c
          · exact h2 c
        · exact fun h => h.1

def woutP (q p : Pf) : List Pf := wout 33 q p
theorem woutP_facts {q p : Pf} (gq : gdP q) (gp : gdP p) : Wout (woutP q p) q p := wout_facts 33 q p gq gp (by have := (gdP_parts gq).1; show (33 : Int) ≤ q.2 + 33; omega)
/-- What is left of a good set is a good set. -/
theorem cut_good {L : List Pf} (G : Gs L) {p : Pf} (gp : gdP p) : Gs (L.flatMap fun q => woutP q p) ∧ (∀ x, allP (L.flatMap fun q => woutP q p) x ↔ allP L x ∧ ¬ hasP p x) := by
  have F : ∀ q, q ∈ L → Wout (woutP q p) q p := fun q hq => woutP_facts (G.gd q hq) gp
  have pp := (gdP_parts gp).2.2.2.2.2.1
  refine ⟨⟨?_, ?_, ?_⟩, ?_⟩
  · intro e he
    rw [List.mem_flatMap] at he
    obtain ⟨q, hq, he⟩ := he
    exact (F q hq).gd e he
  · have hc := G.ch
    clear G
    induction L with
    | nil => simp
    | cons a L ih =>
      rw [List.pairwise_cons] at hc
      rw [List.flatMap_cons, List.pairwise_append]
      refine ⟨(F a (by simp)).ch, ih (fun q hq => F q (by simp [hq])) hc.2, fun x hx y hy => ?_⟩
      rw [List.mem_flatMap] at hy
      obtain ⟨b, hb, hy⟩ := hy
      have h1 := (F a (by simp)).inn x hx
      have h2 := (F b (by simp [hb])).inn y hy
      have h3 := hc.1 b hb
      unfold befP at *
      omega
  · intro r gr hr h1 h2
    have H := half_of gr hr
    rw [List.mem_flatMap] at h1 h2
    obtain ⟨a, ha, h1⟩ := h1
    obtain ⟨b, hb, h2⟩ := h2
    have away : ∀ e q, q ∈ L → e ∈ woutP q p → covP e p = true → False := by
      intro e q hq he hc
      have hW := F q hq
      have hx : hasP p p.1 := ⟨Int.le_refl _, by omega⟩
      exact ((hW.all p.1).1 ⟨e, he, covP_has (hW.gd e he) gp hc hx⟩).2 hx
    rcases (F a ha).sib _ h1 with e1 | ⟨_, e1⟩
    · rcases (F b hb).sib _ h2 with e2 | ⟨_, e2⟩
      · exact G.nh r gr hr (e1 ▸ ha) (e2 ▸ hb)
      · rw [H.sh] at e2
        exact away _ _ ha h1 e2
    · rw [H.sl] at e1
      exact away _ _ hb h2 e1
  · intro x
    constructor
    · rintro ⟨e, he, hx⟩
      rw [List.mem_flatMap] at he
      obtain ⟨q, hq, he⟩ := he
      have := ((F q hq).all x).1 ⟨e, he, hx⟩
      exact ⟨⟨q, hq, this.1⟩, this.2⟩
    · rintro ⟨⟨q, hq, hx⟩, hp⟩
      obtain ⟨e, he, hx⟩ := ((F q hq).all x).2 ⟨hx, hp⟩
      exact ⟨e, List.mem_flatMap.2 ⟨q, hq, he⟩, hx⟩

/-- The specification cuts by putting each that is left. -/
def cutS (L : List Pf) (p : Pf) : List Pf := L.foldl (fun out q => (woutP q p).foldl putP out) []
/-- The program cuts by putting behind what is left of each. -/
def cutI (L : List Pf) (p : Pf) : List Pf := L.foldl (fun out q => putI out (woutP q p)) []
theorem fold_flat {α β γ : Type} (g : γ → β → γ) (h : α → List β) : ∀ (L : List α) (o : γ), L.foldl (fun out q => (h q).foldl g out) o = (L.flatMap h).foldl g o
  | [], _ => rfl
  | a :: L, o => by rw [List.foldl_cons, List.flatMap_cons, List.foldl_append, fold_flat g h L]
theorem cut_same {L : List Pf} (G : Gs L) {p : Pf} (gp : gdP p) : cutS L p = L.flatMap (fun q => woutP q p) ∧ cutI L p = L.flatMap (fun q => woutP q p) := by
  obtain ⟨h1, h2⟩ := cut_good G gp
  constructor
  · unfold cutS
    rw [fold_flat]
    obtain ⟨i1, i2, _⟩ := fold_put (L.flatMap fun q => woutP q p) [] gs_nil h1.gd
    refine i1.unique h1 (fun x => ?_)
    rw [i2]
    simp [all_nil]
  · unfold cutI
    have e := fold_flat incP (fun q => woutP q p) L []
    show L.foldl (fun out q => (woutP q p).foldl incP out) [] = _
    rw [e]
    have := putI_chain (L.flatMap fun q => woutP q p) [] (by simp) h1.gd (by simpa using h1.ch)
    simpa [putI] using this

/-- How many there can be in a chain. -/
theorem chain_len : ∀ (L : List Pf) (a : Int), (∀ p, p ∈ L → gdP p) → L.Pairwise befP → (∀ p, p ∈ L → a ≤ p.1) → a ≤ 4294967296 → (L.length : Int) ≤ 4294967296 - a
  | [], a, _, _, _, h => by simp; omega
  | p :: L, a, hg, hc, ha, h => by
    have gp := gdP_parts (hg p (by simp))
    rw [List.pairwise_cons] at hc
    have := chain_len L (p.1 + pw p.2) (fun q hq => hg q (by simp [hq])) hc.2 (fun q hq => hc.1 q hq) (by omega)
    have := ha p (by simp)
    simp only [List.length_cons]
    omega
theorem gs_len {L : List Pf} (G : Gs L) : L.length ≤ 4294967296 := by
  have := chain_len L 0 G.gd G.ch (fun p hp => (gdP_parts (G.gd p hp)).2.2.1) (by omega)
  omega

/-- What of p lies in a range. -/
def rngF : Nat → Pf → Int → Int → List Pf
  | 0, _, _, _ => []
  | f + 1, p, from', to => if p.1 + pw p.2 - 1 < from' ∨ to < p.1 then [] else if from' ≤ p.1 ∧ p.1 + pw p.2 - 1 ≤ to then [p] else rngF f (loP p) from' to ++ rngF f (hiP p) from' to

structure Rng (W : List Pf) (p : Pf) (a b : Int) : Prop where
  gd : ∀ e, e ∈ W → gdP e
  inn : ∀ e, e ∈ W → p.1 ≤ e.1 ∧ e.1 + pw e.2 ≤ p.1 + pw p.2
  ch : W.Pairwise befP
  all : ∀ x, allP W x ↔ hasP p x ∧ a ≤ x ∧ x ≤ b
  par : ∀ e, e ∈ W → e = p ∨ (1 ≤ e.2 ∧ ¬ (a ≤ (parP e).1 ∧ (parP e).1 + pw (parP e).2 - 1 ≤ b))

theorem rng_facts : ∀ (f : Nat) (p : Pf) (a b : Int), gdP p → 33 ≤ p.2 + f → a ≤ b → Rng (rngF f p a b) p a b
  | 0, p, a, b, gp, hf, _ => by have := (gdP_parts gp).2.1; omega
  | f + 1, p, a, b, gp, hf, hab => by
    have pp := (gdP_parts gp).2.2.2.2.2.1
    unfold rngF
    by_cases h1 : p.1 + pw p.2 - 1 < a ∨ b < p.1
    · rw [if_pos h1]
      refine ⟨by simp, by simp, List.Pairwise.nil, fun x => ⟨fun h => (all_nil x h).elim, fun h => ?_⟩, by simp⟩
      unfold hasP at h
      omega
    · rw [if_neg h1]
      by_cases h2 : a ≤ p.1 ∧ p.1 + pw p.2 - 1 ≤ b
      · rw [if_pos h2]
        refine ⟨by simp; exact gp, by simp, by simp, fun x => ?_, by simp⟩
        rw [all_cons]
        simp only [all_nil, or_false]
        unfold hasP
        omega
      · rw [if_neg h2]
        have hp : p.2 < 32 := by
          rcases Int.lt_or_le p.2 32 with h | h
          · exact h
          · have e : p.2 = 32 := by have := (gdP_parts gp).2.1; omega
            rw [e, pw_32] at h1 h2
            omega
        have H := half_of gp hp
        have hsz := H.sz
        have hps := pw_pos (p.2 + 1)
        have A := rng_facts f (loP p) a b H.gl (by show 33 ≤ p.2 + 1 + (f : Int); omega) hab
        have B := rng_facts f (hiP p) a b H.gh (by show 33 ≤ p.2 + 1 + (f : Int); omega) hab
        have eLo : (loP p).1 + pw (loP p).2 = p.1 + pw (p.2 + 1) := rfl
        have eHi : (hiP p).1 + pw (hiP p).2 = p.1 + pw (p.2 + 1) + pw (p.2 + 1) := rfl
        have e1 : (loP p).1 = p.1 := rfl
        have e2 : (hiP p).1 = p.1 + pw (p.2 + 1) := rfl
        refine ⟨?_, ?_, ?_, ?_, ?_⟩
        · intro e he
          rw [List.mem_append] at he
          exact he.elim (A.gd e) (B.gd e)
        · intro e he
          rw [List.mem_append] at he
          rcases he with he | he
          · have := A.inn e he; omega
          · have := B.inn e he; omega
        · rw [List.pairwise_append]
          refine ⟨A.ch, B.ch, fun x hx y hy => ?_⟩
          have := A.inn x hx
          have := B.inn y hy
          unfold befP
          omega
        · intro x
          rw [all_app, A.all, B.all, has_halves gp hp]
          constructor
          · rintro (h | h)
            · exact ⟨.inl h.1, h.2⟩
            · exact ⟨.inr h.1, h.2⟩
          · rintro ⟨h | h, k⟩
            · exact .inl ⟨h, k⟩
            · exact .inr ⟨h, k⟩
        · intro e he
          have h0 := (gdP_parts gp).1
          rw [List.mem_append] at he
          rcases he with he | he
          · rcases A.par e he with rfl | h
            · exact .inr ⟨by show 1 ≤ p.2 + 1; omega, by rw [H.pl]; exact h2⟩
            · exact .inr h
          · rcases B.par e he with rfl | h
            · exact .inr ⟨by show 1 ≤ p.2 + 1; omega, by rw [H.ph]; exact h2⟩
            · exact .inr h

def rngS (a b : Int) : List Pf := rngF 33 (0, 0) a b
theorem root_good : gdP (0, 0) := by unfold gdP; decide
theorem rngS_good {a b : Int} (ha : 0 ≤ a) (hb : b ≤ 4294967295) (hab : a ≤ b) : Gs (rngS a b) ∧ (∀ x, allP (rngS a b) x ↔ a ≤ x ∧ x ≤ b) := by
  have R := rng_facts 33 (0, 0) a b root_good (by decide) hab
  have e0 : pw (0 : Int) = 4294967296 := by decide
  refine ⟨⟨R.gd, R.ch, fun r gr hr h1 h2 => ?_⟩, fun x => ?_⟩
  · have H := half_of gr hr
    have hsz := H.sz
    have hps := pw_pos (r.2 + 1)
    have i1 : a ≤ r.1 := ((R.all r.1).1 ⟨_, h1, ⟨Int.le_refl _, by show r.1 < r.1 + pw (r.2 + 1); omega⟩⟩).2.1
    have i2 : r.1 + pw r.2 - 1 ≤ b := ((R.all (r.1 + pw r.2 - 1)).1 ⟨_, h2, ⟨by show r.1 + pw (r.2 + 1) ≤ _; omega, by show _ < r.1 + pw (r.2 + 1) + pw (r.2 + 1); omega⟩⟩).2.2
    have h0 := (gdP_parts gr).1
    rcases R.par _ h1 with e | ⟨_, e⟩
    · have : r.2 + 1 = 0 := congrArg Prod.snd e
      omega
    · rw [H.pl] at e
      exact e ⟨i1, i2⟩
  · have := R.all x
    unfold rngS
    rw [this]
    unfold hasP
    dsimp only
    rw [e0]
    omega

/-- Whether a prefix of length l begins at a, and does not go beyond b. -/
def fitsB (a b l : Int) : Bool := goodB a l && decide (a + pw l - 1 ≤ b)
def lenF (a b : Int) : Nat → Nat → Nat
  | 0, k => k
  | f + 1, k => if fitsB a b k then k else lenF a b f (k + 1)
def lenA (a b : Int) : Nat := lenF a b 32 0
theorem fits32 {a b : Int} (h0 : 0 ≤ a) (h1 : a ≤ 4294967295) (hab : a ≤ b) : fitsB a b 32 = true := by
  unfold fitsB
  rw [Bool.and_eq_true, decide_eq_true_eq, pw_32]
  refine ⟨goodB_iff.2 ⟨by omega, ⟨h0, h1⟩, ?_⟩, by omega⟩
  rw [pw_32, Int.emod_one]
theorem lenF_facts {a b : Int} (h0 : 0 ≤ a) (h1 : a ≤ 4294967295) (hab : a ≤ b) : ∀ (f k : Nat), k + f = 32 → fitsB a b (lenF a b f k) = true ∧ k ≤ lenF a b f k ∧ lenF a b f k ≤ 32 ∧ ∀ j : Nat, k ≤ j → j < lenF a b f k → fitsB a b j = false
  | 0, k, hk => by
    have : k = 32 := by omega
    subst this
    exact ⟨fits32 h0 h1 hab, Nat.le_refl _, Nat.le_refl _, fun j h1 h2 => by simp [lenF] at h2; omega⟩
  | f + 1, k, hk => by
    unfold lenF
    by_cases h : fitsB a b k = true
    · rw [if_pos h]
      exact ⟨h, Nat.le_refl _, by omega, fun j h1 h2 => by omega⟩
    · rw [if_neg h]
      obtain ⟨i1, i2, i3, i4⟩ := lenF_facts h0 h1 hab f (k + 1) (by omega)
      refine ⟨i1, by omega, i3, fun j h1 h2 => ?_⟩
      by_cases e : j = k
      · subst e; simpa using h
      · exact i4 j (by omega) h2
theorem lenA_facts {a b : Int} (h0 : 0 ≤ a) (h1 : a ≤ 4294967295) (hab : a ≤ b) : fitsB a b (lenA a b) = true ∧ lenA a b ≤ 32 ∧ ∀ j : Nat, j < lenA a b → fitsB a b j = false := by
  obtain ⟨h1, _, h2, h3⟩ := lenF_facts h0 h1 hab 32 0 rfl
  exact ⟨h1, h2, fun j hj => h3 j (Nat.zero_le _) hj⟩
/-- The greatest at the front, one after the other: so many rounds. -/
def grdF (b : Int) : Nat → Int → List Pf
  | 0, _ => []
  | f + 1, a => if a ≤ b then (a, (lenA a b : Int)) :: grdF b f (a + pw (lenA a b)) else []
structure Grd (W : List Pf) (a b : Int) : Prop where
  gd : ∀ e, e ∈ W → gdP e
  inn : ∀ e, e ∈ W → a ≤ e.1 ∧ e.1 + pw e.2 ≤ b + 1
  ch : W.Pairwise befP
  all : ∀ x, allP W x ↔ a ≤ x ∧ x ≤ b
  big : ∀ e, e ∈ W → e.2 = lenA e.1 b
theorem grd_facts {b : Int} (hb : b ≤ 4294967295) : ∀ (f : Nat) (a : Int), 0 ≤ a → b + 1 - a ≤ f → Grd (grdF b f a) a b
  | 0, a, _, hf => by
    refine ⟨by simp [grdF], by simp [grdF], by simp [grdF], fun x => ⟨fun h => (all_nil x h).elim, fun h => by omega⟩, by simp [grdF]⟩
  | f + 1, a, ha, hf => by
    unfold grdF
    by_cases h : a ≤ b
    · rw [if_pos h]
      obtain ⟨l1, l2, l3⟩ := lenA_facts ha (by omega) h
      unfold fitsB at l1
      rw [Bool.and_eq_true, decide_eq_true_eq] at l1
      have hp := pw_pos (lenA a b)
      have I := grd_facts hb f (a + pw (lenA a b)) (by omega) (by omega)
      have gh : gdP (a, (lenA a b : Int)) := l1.1
      refine ⟨?_, ?_, ?_, fun x => ?_, ?_⟩
      · intro e he
        rw [List.mem_cons] at he
        exact he.elim (fun e => e ▸ gh) (I.gd e)
      · intro e he
        rw [List.mem_cons] at he
        rcases he with rfl | he
        · exact ⟨Int.le_refl _, by show a + pw (lenA a b) ≤ _; omega⟩
        · have := I.inn e he
          omega
      · rw [List.pairwise_cons]
        exact ⟨fun e he => (I.inn e he).1, I.ch⟩
      · rw [all_cons, I.all]
        unfold hasP
        dsimp only
        omega
      · intro e he
        rw [List.mem_cons] at he
        rcases he with rfl | he
        · rfl
        · exact I.big e he
    · rw [if_neg h]
      exact ⟨by simp, by simp, by simp, fun x => ⟨fun h => (all_nil x h).elim, fun h => by omega⟩, by simp⟩
theorem grd_good {a b : Int} (ha : 0 ≤ a) (hb : b ≤ 4294967295) (f : Nat) (hf : b + 1 - a ≤ f) : Gs (grdF b f a) := by
  have I := grd_facts hb f a ha hf
  refine ⟨I.gd, I.ch, fun r gr hr h1 h2 => ?_⟩
  have H := half_of gr hr
  have hsz := H.sz
  have h0 := (gdP_parts gr)
  have e1 : r.2 + 1 = lenA r.1 b := I.big _ h1
  have e2 : r.1 + pw (r.2 + 1) + pw (r.2 + 1) ≤ b + 1 := (I.inn _ h2).2
  obtain ⟨_, _, l3⟩ := lenA_facts (a := r.1) (b := b) h0.2.2.1 h0.2.2.2.1 (by omega)
  have := l3 r.2.toNat (by omega)
  have e3 : ((r.2.toNat : Nat) : Int) = r.2 := by omega
  rw [e3] at this
  unfold fitsB at this
  have g : goodB r.1 r.2 = true := gr
  rw [g] at this
  simp at this
  omega
theorem rng_same {a b : Int} (ha : 0 ≤ a) (hb : b ≤ 4294967295) (hab : a ≤ b) (f : Nat) (hf : b + 1 - a ≤ f) : grdF b f a = rngS a b := by
  obtain ⟨h1, h2⟩ := rngS_good ha hb hab
  refine (grd_good ha hb f hf).unique h1 (fun x => ?_)
  rw [(grd_facts hb f a ha hf).all, h2]

/-- What two have in common. -/
def meet1 (p q : Pf) : List Pf := if covP p q then [q] else if covP q p then [p] else []
theorem meet1_facts {p q : Pf} (gp : gdP p) (gq : gdP q) : (∀ e, e ∈ meet1 p q → gdP e) ∧ ∀ x, allP (meet1 p q) x ↔ hasP p x ∧ hasP q x := by
  unfold meet1
  by_cases h1 : covP p q = true
  · rw [if_pos h1]
    refine ⟨by simp; exact gq, fun x => ?_⟩
    rw [all_cons]
    simp only [all_nil, or_false]
    exact ⟨fun h => ⟨covP_has gp gq h1 h, h⟩, fun h => h.2⟩
  · rw [if_neg h1]
    by_cases h2 : covP q p = true
    · rw [if_pos h2]
      refine ⟨by simp; exact gp, fun x => ?_⟩
      rw [all_cons]
      simp only [all_nil, or_false]
      exact ⟨fun h => ⟨h, covP_has gq gp h2 h⟩, fun h => h.1⟩
    · rw [if_neg h2]
      refine ⟨by simp, fun x => ⟨fun h => (all_nil x h).elim, fun h => ?_⟩⟩
      rcases tri gp gq with c | c | c | c
      · unfold befP at c; unfold hasP at h; omega
      · unfold befP at c; unfold hasP at h; omega
      · exact absurd c h1
      · exact absurd c h2
def meets (p : Pf) (b : List Pf) : List Pf := b.flatMap (meet1 p)
def meetAll (a b : List Pf) : List Pf := a.flatMap fun p => meets p b
theorem meetAll_facts {a b : List Pf} (ha : ∀ p, p ∈ a → gdP p) (hb : ∀ p, p ∈ b → gdP p) : (∀ e, e ∈ meetAll a b → gdP e) ∧ ∀ x, allP (meetAll a b) x ↔ allP a x ∧ allP b x := by
  unfold meetAll meets
  constructor
  · intro e he
    rw [List.mem_flatMap] at he
    obtain ⟨p, hp, he⟩ := he
    rw [List.mem_flatMap] at he
    obtain ⟨q, hq, he⟩ := he
    exact (meet1_facts (ha p hp) (hb q hq)).1 e he
  · intro x
    constructor
    · rintro ⟨e, he, hx⟩
      rw [List.mem_flatMap] at he
      obtain ⟨p, hp, he⟩ := he
      rw [List.mem_flatMap] at he
      obtain ⟨q, hq, he⟩ := he
      have := ((meet1_facts (ha p hp) (hb q hq)).2 x).1 ⟨e, he, hx⟩
      exact ⟨⟨p, hp, this.1⟩, ⟨q, hq, this.2⟩⟩
    · rintro ⟨⟨p, hp, h1⟩, ⟨q, hq, h2⟩⟩
      obtain ⟨e, he, hx⟩ := ((meet1_facts (ha p hp) (hb q hq)).2 x).2 ⟨h1, h2⟩
      exact ⟨e, List.mem_flatMap.2 ⟨p, hp, List.mem_flatMap.2 ⟨q, hq, he⟩⟩, hx⟩
/-- The specification puts what each two of the fewest have in common; the program what each two have, and takes the fewest. -/
def meetS (a b : List Pf) : List Pf := (meetAll (fewS a) (fewS b)).foldl putP []
def bothI (a b : List Pf) : List Pf := a.foldl (fun out p => putI out (meets p b)) []
theorem bothI_facts {a b : List Pf} (ha : ∀ p, p ∈ a → gdP p) (hb : ∀ p, p ∈ b → gdP p) : (∀ e, e ∈ bothI a b → gdP e) ∧ (∀ x, allP (bothI a b) x ↔ allP a x ∧ allP b x) := by
  have e : bothI a b = putI [] (meetAll a b) := fold_flat incP (fun p => meets p b) a []
  obtain ⟨h1, h2⟩ := meetAll_facts ha hb
  obtain ⟨i1, i2, _⟩ := putI_facts (meetAll a b) [] (by simp) h1
  rw [e]
  refine ⟨i1, fun x => ?_⟩
  rw [i2, h2]
  simp [all_nil]
theorem meet_same {a b : List Pf} (ha : ∀ p, p ∈ a → gdP p) (hb : ∀ p, p ∈ b → gdP p) : fewS (bothI a b) = meetS a b := by
  obtain ⟨h1, h2⟩ := bothI_facts ha hb
  obtain ⟨i1, i2, _⟩ := fewS_good h1
  obtain ⟨a1, a2, _⟩ := fewS_good ha
  obtain ⟨b1, b2, _⟩ := fewS_good hb
  obtain ⟨m1, m2⟩ := meetAll_facts a1.gd b1.gd
  obtain ⟨j1, j2, _⟩ := fold_put (meetAll (fewS a) (fewS b)) [] gs_nil m1
  refine i1.unique j1 (fun x => ?_)
  have e := j2 x
  rw [m2, a2, b2] at e
  rw [i2, h2]
  simp only [all_nil, false_or] at e
  exact e.symm

end Go.Proofs.Ytjjdfniemlcnnab
