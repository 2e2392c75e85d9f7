/- The plain mathematics of the specification's way to the fewest prefixes: one is put after the other. -/
import Derived.Test.YtjjdfniemlcnnabPlain3
namespace Go.Proofs.Ytjjdfniemlcnnab

def isSib (p q : Pf) : Bool := decide (0 < p.2) && q == sibP p
def keepB (p q : Pf) : Bool := !covP p q && !isSib p q
def pairB (p q : Pf) : Bool := !covP p q && isSib p q
/-- How many stand ahead of p. -/
def cntP (p : Pf) : List Pf → Nat
  | [] => 0
  | q :: l => if ltP q p then cntP p l + 1 else 0
def insP (L : List Pf) (p : Pf) : List Pf := L.take (cntP p L) ++ (p :: L.drop (cntP p L))
/-- A prefix is put to a good set. -/
def putF : Nat → List Pf → Pf → List Pf
  | 0, L, _ => L
  | f + 1, L, p => if L.any (fun q => covP q p) then L else if L.any (pairB p) then putF f (L.filter (keepB p)) (parP p) else insP (L.filter (keepB p)) p
def putP (L : List Pf) (p : Pf) : List Pf := putF 33 L p
def fewS (l : List Pf) : List Pf := l.foldl putP []

theorem cntP_le (p : Pf) (L : List Pf) : cntP p L ≤ L.length := by
  induction L with
  | nil => exact Nat.le_refl _
  | cons q L ih => unfold cntP; split <;> simp <;> omega
theorem cntP_at (p : Pf) (L : List Pf) (d : Pf) {k : Nat} (hk : k ≤ cntP p L) (hl : k < L.length) : ltP (L.getD k d) p = true ↔ k < cntP p L := by
  induction L generalizing k with
  | nil => simp at hl
  | cons q L ih =>
    unfold cntP at hk ⊢
    by_cases h : ltP q p = true
    · rw [if_pos h] at hk ⊢
      cases k with
      | zero => simp [h]
      | succ k =>
        have := ih (k := k) (by omega) (by simpa using hl)
        simpa using this
    · rw [if_neg h] at hk ⊢
      have : k = 0 := by omega
      subst this
      simpa using h
theorem ins_mem (L : List Pf) (p x : Pf) : x ∈ insP L p ↔ x = p ∨ x ∈ L := by
  unfold insP
  rw [List.mem_append, List.mem_cons]
  have h : x ∈ L ↔ x ∈ L.take (cntP p L) ∨ x ∈ L.drop (cntP p L) := by rw [← List.mem_append, List.take_append_drop]
  rw [h]
  constructor
  · rintro (h | h | h)
    · exact .inr (.inl h)
    · exact .inl h
    · exact .inr (.inr h)
  · rintro (h | h | h)
    · exact .inr (.inl h)
    · exact .inl h
    · exact .inr (.inr h)
theorem ins_len (L : List Pf) (p : Pf) : (insP L p).length = L.length + 1 := by
  have := cntP_le p L
  unfold insP
  simp
  omega
theorem ins_chain {L : List Pf} {p : Pf} (gp : gdP p) (hg : ∀ q, q ∈ L → gdP q) (hc : L.Pairwise befP) (h : ∀ q, q ∈ L → befP q p ∨ befP p q) : (insP L p).Pairwise befP := by
  have pp := (gdP_parts gp).2.2.2.2.2.1
  induction L with
  | nil => simp [insP, cntP]
  | cons q L ih =>
    rw [List.pairwise_cons] at hc
    have gq := hg q (by simp)
    have pq := (gdP_parts gq).2.2.2.2.2.1
    by_cases hl : ltP q p = true
    · have e : insP (q :: L) p = q :: insP L p := by
        unfold insP
        have e1 : cntP p (q :: L) = cntP p L + 1 := by rw [cntP, if_pos hl]
        rw [e1]
        simp
      rw [e, List.pairwise_cons]
      refine ⟨fun x hx => ?_, ih (fun x hx => hg x (by simp [hx])) hc.2 (fun x hx => h x (by simp [hx]))⟩
      rw [ins_mem] at hx
      rcases hx with rfl | hx
      · rcases h q (by simp) with h1 | h1
        · exact h1
        · rw [ltP_iff] at hl
          unfold befP at h1
          omega
      · exact hc.1 x hx
    · have e : insP (q :: L) p = p :: q :: L := by
        unfold insP
        have e1 : cntP p (q :: L) = 0 := by rw [cntP, if_neg hl]
        rw [e1]
        simp
      rw [ltP_iff] at hl
      have hpq : befP p q := by
        rcases h q (by simp) with h1 | h1
        · unfold befP at h1; omega
        · exact h1
      rw [e, List.pairwise_cons, List.pairwise_cons]
      refine ⟨fun x hx => ?_, hc⟩
      rw [List.mem_cons] at hx
      rcases hx with rfl | hx
      · exact hpq
      · have := hc.1 x hx
        unfold befP at *
        omega

theorem isSib_iff {p q : Pf} : isSib p q = true ↔ 0 < p.2 ∧ q = sibP p := by
  unfold isSib
  rw [Bool.and_eq_true, decide_eq_true_eq, beq_iff_eq]

theorem put_good : ∀ (f : Nat) (L : List Pf) (p : Pf), Gs L → gdP p → p.2 < f → Gs (putF f L p) ∧ (∀ x, allP (putF f L p) x ↔ allP L x ∨ hasP p x) ∧ (putF f L p).length ≤ L.length + 1 := by
  intro f
  induction f with
  | zero =>
    intro L p _ gp h
    have := (gdP_parts gp).1
    omega
  | succ f ih =>
    intro L p G gp hf
    have h0 := (gdP_parts gp).1
    have pp := (gdP_parts gp).2.2.2.2.2.1
    unfold putF
    by_cases h1 : L.any (fun q => covP q p) = true
    · rw [if_pos h1]
      rw [List.any_eq_true] at h1
      obtain ⟨q, hq, hqp⟩ := h1
      refine ⟨G, fun x => ⟨fun h => .inl h, fun h => ?_⟩, Nat.le_succ _⟩
      rcases h with h | h
      · exact h
      · exact ⟨q, hq, covP_has (G.gd q hq) gp hqp h⟩
    · rw [if_neg h1]
      have hnc : ∀ q, q ∈ L → covP q p = false := by
        intro q hq
        cases hc : covP q p with
        | false => rfl
        | true => exact absurd (List.any_eq_true.2 ⟨q, hq, hc⟩) h1
      have GR : Gs (L.filter (keepB p)) := G.sub List.filter_sublist
      have hlr : (L.filter (keepB p)).length ≤ L.length := List.length_filter_le _ _
      -- what was taken away is had by p, or is the sibling
      have hrest : ∀ x, allP L x → allP (L.filter (keepB p)) x ∨ hasP p x ∨ (0 < p.2 ∧ sibP p ∈ L ∧ covP p (sibP p) = false ∧ hasP (sibP p) x) := by
        rintro x ⟨q, hq, hx⟩
        cases hk : keepB p q with
        | true => exact .inl ⟨q, List.mem_filter.2 ⟨hq, hk⟩, hx⟩
        | false =>
          unfold keepB at hk
          cases hc : covP p q with
          | true => exact .inr (.inl (covP_has gp (G.gd q hq) hc hx))
          | false =>
            rw [hc] at hk
            have hs : isSib p q = true := by simpa using hk
            rw [isSib_iff] at hs
            obtain ⟨hs1, rfl⟩ := hs
            exact .inr (.inr ⟨hs1, hq, hc, hx⟩)
      have hsub : ∀ x, allP (L.filter (keepB p)) x → allP L x := fun x ⟨q, hq, hx⟩ => ⟨q, (List.mem_filter.1 hq).1, hx⟩
      by_cases h2 : L.any (pairB p) = true
      · rw [if_pos h2]
        rw [List.any_eq_true] at h2
        obtain ⟨q, hq, hpq⟩ := h2
        unfold pairB at hpq
        rw [Bool.and_eq_true, isSib_iff] at hpq
        obtain ⟨_, hs1, rfl⟩ := hpq
        obtain ⟨g1, g2, g3⟩ := par_of gp (by omega)
        obtain ⟨s1, s2, s3⟩ := sib_facts gp (by omega)
        obtain ⟨i1, i2, i3⟩ := ih (L.filter (keepB p)) (parP p) GR g1 (by show p.2 - 1 < (f : Int); omega)
        have hlt : (L.filter (keepB p)).length < L.length := by
          refine Nat.lt_of_le_of_ne hlr (fun e => ?_)
          have := List.length_filter_eq_length_iff.1 e (sibP p) hq
          unfold keepB at this
          have hs : isSib p (sibP p) = true := isSib_iff.2 ⟨hs1, rfl⟩
          rw [hs] at this
          simp at this
        refine ⟨i1, fun x => ?_, by omega⟩
        rw [i2, s2]
        constructor
        · rintro (h | h | h)
          · exact .inl (hsub x h)
          · exact .inr h
          · exact .inl ⟨_, hq, h⟩
        · rintro (h | h)
          · rcases hrest x h with h | h | ⟨_, _, _, h⟩
            · exact .inl h
            · exact .inr (.inl h)
            · exact .inr (.inr h)
          · exact .inr (.inl h)
      · rw [if_neg h2]
        have hns : ∀ q, q ∈ L.filter (keepB p) → covP p q = false ∧ ¬ (0 < p.2 ∧ q = sibP p) := by
          intro q hq
          obtain ⟨_, hk⟩ := List.mem_filter.1 hq
          unfold keepB at hk
          rw [Bool.and_eq_true, Bool.not_eq_true', Bool.not_eq_true'] at hk
          refine ⟨hk.1, fun h => ?_⟩
          rw [isSib_iff.2 h] at hk
          exact absurd hk.2 (by simp)
        have hsp : 0 < p.2 → sibP p ∈ L → covP p (sibP p) = false → False := by
          intro h3 h4 h5
          refine h2 (List.any_eq_true.2 ⟨_, h4, ?_⟩)
          unfold pairB
          rw [h5, isSib_iff.2 ⟨h3, rfl⟩]
          rfl
        have hall : ∀ x, allP (insP (L.filter (keepB p)) p) x ↔ allP L x ∨ hasP p x := by
          intro x
          constructor
          · rintro ⟨q, hq, hx⟩
            rw [ins_mem] at hq
            rcases hq with rfl | hq
            · exact .inr hx
            · exact .inl (hsub x ⟨q, hq, hx⟩)
          · rintro (h | h)
            · rcases hrest x h with ⟨q, hq, hx⟩ | h | ⟨h3, h4, h5, _⟩
              · exact ⟨q, (ins_mem _ _ _).2 (.inr hq), hx⟩
              · exact ⟨p, (ins_mem _ _ _).2 (.inl rfl), h⟩
              · exact (hsp h3 h4 h5).elim
            · exact ⟨p, (ins_mem _ _ _).2 (.inl rfl), h⟩
        refine ⟨⟨?_, ?_, ?_⟩, hall, by rw [ins_len]; omega⟩
        · intro q hq
          rw [ins_mem] at hq
          rcases hq with rfl | hq
          · exact gp
          · exact GR.gd q hq
        · refine ins_chain gp GR.gd GR.ch (fun q hq => ?_)
          have gq := GR.gd q hq
          rcases tri gp gq with h | h | h | h
          · exact .inr h
          · exact .inl h
          · rw [(hns q hq).1] at h; simp at h
          · rw [hnc q (List.mem_filter.1 hq).1] at h; simp at h
        · intro r gr hr hlo hhi
          have f := half_of gr hr
          rw [ins_mem] at hlo hhi
          have hpos : (0 : Int) < r.2 + 1 := by have := (gdP_parts gr).1; omega
          rcases hlo with hlo | hlo
          · rcases hhi with hhi | hhi
            · rw [hlo.symm] at hhi
              have h5 := congrArg Prod.fst hhi
              have h6 : r.1 + pw (r.2 + 1) = r.1 := h5
              have := pw_pos (r.2 + 1)
              omega
            · refine (hns _ hhi).2 ⟨by rw [← hlo]; exact hpos, ?_⟩
              rw [← hlo, f.sl]
          · rcases hhi with hhi | hhi
            · refine (hns _ hlo).2 ⟨by rw [← hhi]; exact hpos, ?_⟩
              rw [← hhi, f.sh]
            · exact GR.nh r gr hr hlo hhi

theorem putP_good {L : List Pf} {p : Pf} (G : Gs L) (gp : gdP p) : Gs (putP L p) ∧ (∀ x, allP (putP L p) x ↔ allP L x ∨ hasP p x) ∧ (putP L p).length ≤ L.length + 1 :=
  put_good 33 L p G gp (by have := (gdP_parts gp).2.1; show p.2 < (33 : Int); omega)

theorem all_nil (x : Int) : ¬ allP [] x := by rintro ⟨q, hq, _⟩; simp at hq
theorem all_cons (p : Pf) (L : List Pf) (x : Int) : allP (p :: L) x ↔ hasP p x ∨ allP L x := by
  constructor
  · rintro ⟨q, hq, hx⟩
    rw [List.mem_cons] at hq
    rcases hq with rfl | hq
    · exact .inl hx
    · exact .inr ⟨q, hq, hx⟩
  · rintro (h | ⟨q, hq, hx⟩)
    · exact ⟨p, by simp, h⟩
    · exact ⟨q, by simp [hq], hx⟩
theorem all_app (L M : List Pf) (x : Int) : allP (L ++ M) x ↔ allP L x ∨ allP M x := by
  constructor
  · rintro ⟨q, hq, hx⟩
    rw [List.mem_append] at hq
    rcases hq with hq | hq
    · exact .inl ⟨q, hq, hx⟩
    · exact .inr ⟨q, hq, hx⟩
  · rintro (⟨q, hq, hx⟩ | ⟨q, hq, hx⟩)
    · exact ⟨q, by simp [hq], hx⟩
    · exact ⟨q, by simp [hq], hx⟩

/-- Many are put one after the other. -/
theorem fold_put : ∀ (l : List Pf) (L : List Pf), Gs L → (∀ p, p ∈ l → gdP p) → Gs (l.foldl putP L) ∧ (∀ x, allP (l.foldl putP L) x ↔ allP L x ∨ allP l x) ∧ (l.foldl putP L).length ≤ L.length + l.length
  | [], L, G, _ => ⟨G, fun x => by simp [all_nil], by simp⟩
  | p :: l, L, G, hg => by
    obtain ⟨h1, h2, h3⟩ := putP_good G (hg p (by simp))
    obtain ⟨i1, i2, i3⟩ := fold_put l (putP L p) h1 (fun q hq => hg q (by simp [hq]))
    rw [List.foldl_cons]
    refine ⟨i1, fun x => ?_, by simp only [List.length_cons]; omega⟩
    rw [i2, h2, all_cons, or_assoc]
theorem fewS_good {l : List Pf} (hg : ∀ p, p ∈ l → gdP p) : Gs (fewS l) ∧ (∀ x, allP (fewS l) x ↔ allP l x) ∧ (fewS l).length ≤ l.length := by
  obtain ⟨h1, h2, h3⟩ := fold_put l [] gs_nil hg
  exact ⟨h1, fun x => by have := h2 x; simp only [all_nil, false_or] at this; exact this, by unfold fewS; simpa using h3⟩

end Go.Proofs.Ytjjdfniemlcnnab
