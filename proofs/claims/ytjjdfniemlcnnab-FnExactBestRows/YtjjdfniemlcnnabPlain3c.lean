/- The plain mathematics of the program's way to the fewest prefixes: sorted, what is had is left out, halves at the end are joined. -/
import Derived.Test.YtjjdfniemlcnnabPlain3b
namespace Go.Proofs.Ytjjdfniemlcnnab

/-- One is put behind the others where none of them has it. -/
def incP (g : List Pf) (x : Pf) : List Pf := if g.any (fun q => covP q x) then g else g ++ [x]
def putI (g items : List Pf) : List Pf := items.foldl incP g
def wholeB (q p : Pf) : Bool := decide (0 < q.2) && (q == loP (parP q) && p == hiP (parP q))
/-- Onto a stack (the newest first), halves joined. -/
def pushR : List Pf → Pf → List Pf
  | [], p => [p]
  | q :: st, p => if wholeB q p then pushR st (parP q) else p :: q :: st
def fewI (s : List Pf) : List Pf := ((putI [] s).foldl pushR []).reverse

theorem incP_all {g : List Pf} {x : Pf} (hg : ∀ q, q ∈ g → gdP q) (gx : gdP x) (y : Int) : allP (incP g x) y ↔ allP g y ∨ hasP x y := by
  unfold incP
  by_cases h : g.any (fun q => covP q x) = true
  · rw [if_pos h]
    rw [List.any_eq_true] at h
    obtain ⟨q, hq, hqx⟩ := h
    exact ⟨fun h => .inl h, fun h => h.elim id (fun h => ⟨q, hq, covP_has (hg q hq) gx hqx h⟩)⟩
  · rw [if_neg h, all_app, all_cons]
    simp [all_nil]
theorem incP_mem {g : List Pf} {x q : Pf} (h : q ∈ incP g x) : q ∈ g ∨ q = x := by
  unfold incP at h
  split at h
  · exact .inl h
  · simpa using h
theorem incP_len (g : List Pf) (x : Pf) : (incP g x).length ≤ g.length + 1 := by
  unfold incP
  split <;> simp
theorem putI_facts : ∀ (items g : List Pf), (∀ q, q ∈ g → gdP q) → (∀ q, q ∈ items → gdP q) →
    (∀ q, q ∈ putI g items → gdP q) ∧ (∀ y, allP (putI g items) y ↔ allP g y ∨ allP items y) ∧ (∀ q, q ∈ putI g items → q ∈ g ∨ q ∈ items) ∧ (putI g items).length ≤ g.length + items.length
  | [], g, hg, _ => ⟨hg, fun y => by simp [putI, all_nil], fun q h => .inl h, by simp [putI]⟩
  | x :: items, g, hg, hi => by
    have gx := hi x (by simp)
    have hg' : ∀ q, q ∈ incP g x → gdP q := fun q hq => (incP_mem hq).elim (hg q) (fun e => e ▸ gx)
    obtain ⟨h1, h2, h3, h4⟩ := putI_facts items (incP g x) hg' (fun q hq => hi q (by simp [hq]))
    have e : putI g (x :: items) = putI (incP g x) items := rfl
    have := incP_len g x
    rw [e]
    refine ⟨h1, fun y => ?_, fun q hq => ?_, by simp only [List.length_cons]; omega⟩
    · rw [h2, incP_all hg gx, all_cons, or_assoc]
    · rcases h3 q hq with h | h
      · rcases incP_mem h with h | h
        · exact .inl h
        · exact .inr (by simp [h])
      · exact .inr (by simp [h])
/-- Where none has another one all are put. -/
theorem putI_chain : ∀ (items g : List Pf), (∀ q, q ∈ g → gdP q) → (∀ q, q ∈ items → gdP q) → (g ++ items).Pairwise befP → putI g items = g ++ items
  | [], g, _, _, _ => by simp [putI]
  | x :: items, g, hg, hi, hc => by
    have gx := hi x (by simp)
    have e : putI g (x :: items) = putI (incP g x) items := rfl
    have hno : ¬ g.any (fun q => covP q x) = true := by
      intro h
      rw [List.any_eq_true] at h
      obtain ⟨q, hq, hqx⟩ := h
      have gq := hg q hq
      rw [covP_iff gq gx] at hqx
      have hb : befP q x := (List.pairwise_append.1 hc).2.2 q hq x (by simp)
      have := (gdP_parts gx).2.2.2.2.2.1
      unfold befP at hb
      omega
    have e2 : incP g x = g ++ [x] := by unfold incP; rw [if_neg hno]
    rw [e, e2, putI_chain items (g ++ [x]) (fun q hq => by
      rw [List.mem_append] at hq
      rcases hq with hq | hq
      · exact hg q hq
      · simp at hq; exact hq ▸ gx) (fun q hq => hi q (by simp [hq])) (by simpa using hc)]
    simp

/-- Out of a rising list a chain is put. -/
theorem putI_rising : ∀ (items g : List Pf), (∀ q, q ∈ g → gdP q) → (∀ q, q ∈ items → gdP q) → g.Pairwise befP → items.Pairwise (fun a b => ltP b a = false) → (∀ q, q ∈ g → ∀ x, x ∈ items → ltP x q = false) → (putI g items).Pairwise befP
  | [], g, _, _, hc, _, _ => hc
  | x :: items, g, hg, hi, hc, hs, hr => by
    have gx := hi x (by simp)
    have e : putI g (x :: items) = putI (incP g x) items := rfl
    rw [List.pairwise_cons] at hs
    rw [e]
    have hg' : ∀ q, q ∈ incP g x → gdP q := fun q hq => (incP_mem hq).elim (hg q) (fun e => e ▸ gx)
    refine putI_rising items (incP g x) hg' (fun q hq => hi q (by simp [hq])) ?_ hs.2 (fun q hq y hy => ?_)
    · unfold incP
      split
      · exact hc
      · rename_i h
        rw [List.pairwise_append]
        refine ⟨hc, by simp, fun q hq y hy => ?_⟩
        simp at hy
        subst hy
        have gq := hg q hq
        have hlt := hr q hq y (by simp)
        have hn : ¬ covP q y = true := fun hc => h (List.any_eq_true.2 ⟨q, hq, hc⟩)
        have hlt' : ¬ ltP y q = true := by rw [hlt]; simp
        rw [ltP_iff] at hlt'
        have py := (gdP_parts gx).2.2.2.2.2.1
        rcases tri gq gx with h1 | h1 | h1 | h1
        · exact h1
        · unfold befP at h1; omega
        · exact absurd h1 hn
        · have h2 := h1
          rw [covP_iff gx gq] at h1
          have h3 : y.2 ≤ q.2 := by unfold covP at h2; rw [Bool.and_eq_true, decide_eq_true_eq] at h2; exact h2.1
          have e1 : y.1 = q.1 := by omega
          have e2 : y.2 = q.2 := by omega
          have e3 : y = q := Prod.ext e1 e2
          subst e3
          exact absurd (covP_refl gx) hn
    · rcases incP_mem hq with h | rfl
      · exact hr q h y (by simp [hy])
      · exact hs.1 y hy

theorem wholeB_iff {q p : Pf} : wholeB q p = true ↔ 0 < q.2 ∧ q = loP (parP q) ∧ p = hiP (parP q) := by
  unfold wholeB
  rw [Bool.and_eq_true, Bool.and_eq_true, decide_eq_true_eq, beq_iff_eq, beq_iff_eq]

theorem gs_rev {st : List Pf} (G : Gs st.reverse) : (∀ q, q ∈ st → gdP q) ∧ st.Pairwise (fun a b => befP b a) ∧ (∀ p, gdP p → p.2 < 32 → loP p ∈ st → hiP p ∈ st → False) :=
  ⟨fun q hq => G.gd q (by simpa using hq), List.pairwise_reverse.1 G.ch, fun p g h h1 h2 => G.nh p g h (by simpa using h1) (by simpa using h2)⟩
theorem rev_gs {st : List Pf} (h1 : ∀ q, q ∈ st → gdP q) (h2 : st.Pairwise (fun a b => befP b a)) (h3 : ∀ p, gdP p → p.2 < 32 → loP p ∈ st → hiP p ∈ st → False) : Gs st.reverse :=
  ⟨fun q hq => h1 q (by simpa using hq), List.pairwise_reverse.2 h2, fun p g h i1 i2 => h3 p g h (by simpa using i1) (by simpa using i2)⟩

theorem push_good : ∀ (st : List Pf) (p : Pf), Gs st.reverse → gdP p → (∀ q, q ∈ st → befP q p) →
    Gs (pushR st p).reverse ∧ (∀ x, allP (pushR st p) x ↔ allP st x ∨ hasP p x) ∧ (∀ q, q ∈ pushR st p → q.1 + pw q.2 ≤ p.1 + pw p.2) ∧ (pushR st p).length ≤ st.length + 1
  | [], p, _, gp, _ => by
    have pp := (gdP_parts gp).2.2.2.2.2.1
    refine ⟨rev_gs (by intro q hq; simp [pushR] at hq; exact hq ▸ gp) (by simp [pushR]) ?_, fun x => by simp [pushR, all_cons, all_nil], fun q hq => by simp [pushR] at hq; subst hq; exact Int.le_refl _, by simp [pushR]⟩
    intro r gr hr h1 h2
    simp [pushR] at h1 h2
    rw [← h1] at h2
    have h3 : r.1 + pw (r.2 + 1) = r.1 := congrArg Prod.fst h2
    have := pw_pos (r.2 + 1)
    omega
  | q :: st, p, G, gp, hb => by
    obtain ⟨g1, g2, g3⟩ := gs_rev G
    have gq := g1 q (by simp)
    have pp := (gdP_parts gp).2.2.2.2.2.1
    have pq := (gdP_parts gq).2.2.2.2.2.1
    rw [List.pairwise_cons] at g2
    unfold pushR
    by_cases h : wholeB q p = true
    · rw [if_pos h]
      rw [wholeB_iff] at h
      obtain ⟨h0, h1, h2⟩ := h
      obtain ⟨w1, w2, _⟩ := par_of gq (by omega)
      have f := half_of w1 w2
      have hpq : (parP q).1 = q.1 := by have := congrArg Prod.fst h1; exact this.symm
      have hpe : p.1 + pw p.2 = (parP q).1 + pw (parP q).2 := by
        have e1 : p.1 = (parP q).1 + pw ((parP q).2 + 1) := congrArg Prod.fst h2
        have e2 : p.2 = (parP q).2 + 1 := congrArg Prod.snd h2
        have := f.sz
        rw [e2, e1]
        omega
      have GS : Gs st.reverse := rev_gs (fun x hx => g1 x (by simp [hx])) g2.2 (fun r gr hr i1 i2 => g3 r gr hr (by simp [i1]) (by simp [i2]))
      obtain ⟨i1, i2, i3, i4⟩ := push_good st (parP q) GS w1 (fun x hx => by have := g2.1 x hx; unfold befP at *; rw [hpq]; exact this)
      refine ⟨i1, fun x => ?_, fun x hx => by have := i3 x hx; omega, by simp only [List.length_cons]; omega⟩
      rw [i2, has_halves w1 w2, ← h1, ← h2, all_cons]
      constructor
      · rintro (h | h | h)
        · exact .inl (.inr h)
        · exact .inl (.inl h)
        · exact .inr h
      · rintro ((h | h) | h)
        · exact .inr (.inl h)
        · exact .inl h
        · exact .inr (.inr h)
    · rw [if_neg h]
      refine ⟨rev_gs ?_ ?_ ?_, fun x => by rw [all_cons]; exact Or.comm, fun x hx => ?_, by simp⟩
      · intro x hx
        rw [List.mem_cons] at hx
        rcases hx with rfl | hx
        · exact gp
        · exact g1 x hx
      · rw [List.pairwise_cons]
        exact ⟨hb, List.pairwise_cons.2 g2⟩
      · intro r gr hr h1 h2
        have f := half_of gr hr
        have hsz := f.sz
        have hps := pw_pos (r.2 + 1)
        rw [List.mem_cons] at h1 h2
        rcases h1 with h1 | h1
        · rcases h2 with h2 | h2
          · rw [← h1] at h2
            have h3 : r.1 + pw (r.2 + 1) = r.1 := congrArg Prod.fst h2
            omega
          · have hx := hb _ h2
            rw [← h1] at hx
            have hx' : r.1 + pw (r.2 + 1) + pw (r.2 + 1) ≤ r.1 := hx
            omega
        · rcases h2 with h2 | h2
          · -- the upper half is p: the lower one is q itself, or something stands between
            rw [List.mem_cons] at h1
            rcases h1 with h1 | h1
            · refine h (wholeB_iff.2 ?_)
              rw [← h1, ← h2, f.pl]
              exact ⟨by show (0 : Int) < r.2 + 1; have := (gdP_parts gr).1; omega, rfl, rfl⟩
            · have hx := g2.1 _ h1
              have hy := hb q (by simp)
              rw [← h2] at hy
              have hx' : r.1 + pw (r.2 + 1) ≤ q.1 := hx
              have hy' : q.1 + pw q.2 ≤ r.1 + pw (r.2 + 1) := hy
              omega
          · exact g3 r gr hr h1 h2
      · rw [List.mem_cons] at hx
        rcases hx with rfl | hx
        · exact Int.le_refl _
        · have := hb x hx
          unfold befP at this
          omega

theorem fold_push : ∀ (l st : List Pf), Gs st.reverse → (∀ p, p ∈ l → gdP p) → l.Pairwise befP → (∀ q, q ∈ st → ∀ p, p ∈ l → befP q p) →
    Gs (l.foldl pushR st).reverse ∧ (∀ x, allP (l.foldl pushR st) x ↔ allP st x ∨ allP l x) ∧ (l.foldl pushR st).length ≤ st.length + l.length
  | [], st, G, _, _, _ => ⟨G, fun x => by simp [all_nil], by simp⟩
  | p :: l, st, G, hg, hc, hb => by
    have gp := hg p (by simp)
    rw [List.pairwise_cons] at hc
    obtain ⟨h1, h2, h3, h4⟩ := push_good st p G gp (fun q hq => hb q hq p (by simp))
    obtain ⟨i1, i2, i3⟩ := fold_push l (pushR st p) h1 (fun q hq => hg q (by simp [hq])) hc.2 (fun q hq y hy => by
      have e1 := h3 q hq
      have e2 := hc.1 y hy
      unfold befP at *
      omega)
    rw [List.foldl_cons]
    refine ⟨i1, fun x => ?_, by simp only [List.length_cons]; omega⟩
    rw [i2, h2, all_cons, or_assoc]

theorem all_rev (L : List Pf) (x : Int) : allP L.reverse x ↔ allP L x := by
  constructor
  · rintro ⟨q, hq, hx⟩; exact ⟨q, by simpa using hq, hx⟩
  · rintro ⟨q, hq, hx⟩; exact ⟨q, by simpa using hq, hx⟩

theorem fewI_good {s : List Pf} (hg : ∀ p, p ∈ s → gdP p) (hs : s.Pairwise (fun a b => ltP b a = false)) : Gs (fewI s) ∧ (∀ x, allP (fewI s) x ↔ allP s x) ∧ (fewI s).length ≤ s.length ∧ (putI [] s).length ≤ s.length := by
  obtain ⟨p1, p2, p3, p4⟩ := putI_facts s [] (by simp) hg
  have pc := putI_rising s [] (by simp) hg List.Pairwise.nil hs (by simp)
  obtain ⟨h1, h2, h3⟩ := fold_push (putI [] s) [] (by simpa using gs_nil) p1 pc (by simp)
  refine ⟨h1, fun x => ?_, ?_, by simpa using p4⟩
  · unfold fewI
    rw [all_rev, h2, p2]
    simp [all_nil]
  · unfold fewI
    simp at h3 p4 ⊢
    omega

/-- Both ways come to the same. -/
theorem few_same {l s : List Pf} (hg : ∀ p, p ∈ l → gdP p) (hp : s.Perm l) (hs : s.Pairwise (fun a b => ltP b a = false)) : fewI s = fewS l := by
  obtain ⟨h1, h2, _⟩ := fewI_good (fun p h => hg p (hp.mem_iff.1 h)) hs
  obtain ⟨i1, i2, _⟩ := fewS_good hg
  refine h1.unique i1 (fun x => ?_)
  rw [h2, i2]
  exact ⟨fun ⟨q, hq, hx⟩ => ⟨q, hp.mem_iff.1 hq, hx⟩, fun ⟨q, hq, hx⟩ => ⟨q, hp.mem_iff.2 hq, hx⟩⟩
/-- A good set is its own. -/
theorem few_self {l : List Pf} (G : Gs l) : fewS l = l := by
  obtain ⟨i1, i2, _⟩ := fewS_good G.gd
  exact i1.unique G i2

end Go.Proofs.Ytjjdfniemlcnnab
