/- The plain mathematics of sets of prefixes: prefixes as ranges, good sets, and that a good set is told by its addresses. -/
import Derived.Test.YtjjdfniemlcnnabAll6
namespace Go.Proofs.Ytjjdfniemlcnnab

/-- A prefix: its address, its length. -/
abbrev Pf := Int × Int
def gdP (p : Pf) : Prop := goodB p.1 p.2 = true
def covP (p q : Pf) : Bool := decide (p.2 ≤ q.2) && hasB p.1 p.2 q.1
def ltP (p q : Pf) : Bool := decide (cmpP p.1 p.2 q.1 q.2 < 0)
def befP (p q : Pf) : Prop := p.1 + pw p.2 ≤ q.1
def loP (p : Pf) : Pf := (p.1, p.2 + 1)
def hiP (p : Pf) : Pf := (p.1 + pw (p.2 + 1), p.2 + 1)
def parP (p : Pf) : Pf := (p.1 - p.1 % pw (p.2 - 1), p.2 - 1)
def sibP (p : Pf) : Pf := (sibA p.1 p.2, p.2)
def hasP (p : Pf) (x : Int) : Prop := p.1 ≤ x ∧ x < p.1 + pw p.2
def allP (L : List Pf) (x : Int) : Prop := ∃ q, q ∈ L ∧ hasP q x

theorem ltP_iff {p q : Pf} : ltP p q = true ↔ p.1 < q.1 ∨ (p.1 = q.1 ∧ p.2 < q.2) := by
  unfold ltP cmpP cmpI
  rw [decide_eq_true_eq]
  by_cases h : p.1 = q.1
  · simp only [h, ne_eq, not_true_eq_false, if_false]
    split
    · simp; assumption
    · split <;> simp <;> omega
  · simp only [ne_eq, h, not_false_eq_true, if_true]
    split
    · simp; omega
    · split <;> simp <;> omega

theorem gdP_parts {p : Pf} (h : gdP p) : 0 ≤ p.2 ∧ p.2 ≤ 32 ∧ 0 ≤ p.1 ∧ p.1 ≤ 4294967295 ∧ p.1 % pw p.2 = 0 ∧ 1 ≤ pw p.2 ∧ p.1 + pw p.2 ≤ 4294967296 := by
  obtain ⟨⟨h0, h1⟩, ⟨h2, h3⟩, h4⟩ := goodB_iff.1 h
  exact ⟨h0, h1, h2, h3, h4, pw_pos _, good_end h⟩

theorem pw_split {l m : Int} (h0 : l ≤ m) (h1 : m ≤ 32) : pw l = pw m * 2 ^ (m - l).toNat := by
  unfold pw
  rw [← Int.pow_add]
  congr 1
  omega
theorem pw_twice {l m : Int} (h0 : l < m) (h1 : m ≤ 32) : 2 * pw m ≤ pw l := by
  have h := pw_split (l := l) (m := m - 1) (by omega) (by omega)
  have h2 := pw_pred' m
  have hp : (1 : Int) ≤ 2 ^ (m - 1 - l).toNat := by
    have := Int.pow_pos (n := 2) (m := (m - 1 - l).toNat) (by omega)
    omega
  have h3 := Int.mul_le_mul_of_nonneg_left hp (show 0 ≤ pw (m - 1) by have := pw_pos (m - 1); omega)
  rw [← h, Int.mul_one, h2 h1] at h3
  exact h3
where
  pw_pred' (m : Int) (h1 : m ≤ 32) : pw (m - 1) = 2 * pw m := by
    unfold pw
    have e : (32 - (m - 1)).toNat = (32 - m).toNat + 1 := by omega
    rw [e, Int.pow_succ]
    omega
theorem pw_inj {l m : Int} (h1 : l ≤ 32) (h2 : m ≤ 32) (h : pw l = pw m) : l = m := by
  rcases Int.lt_trichotomy l m with h3 | h3 | h3
  · have := pw_twice h3 h2; have := pw_pos m; omega
  · exact h3
  · have := pw_twice h3 h1; have := pw_pos l; omega

theorem mul_up {s i k x : Int} (hs : 0 < s) (h1 : s * i ≤ x) (h2 : x < s * k + s) : s * i ≤ s * k := by
  have h3 : s * i < s * (k + 1) := by rw [Int.mul_add, Int.mul_one]; omega
  have h4 : i < k + 1 := Int.lt_of_mul_lt_mul_left h3 (by omega)
  exact Int.mul_le_mul_of_nonneg_left (by omega) (by omega)
theorem mul_down {s j k x : Int} (hs : 0 < s) (h1 : s * k ≤ x) (h2 : x < s * j) : s * k + s ≤ s * j := by
  have h4 : k < j := Int.lt_of_mul_lt_mul_left (a := s) (by omega) (by omega)
  have h5 := Int.mul_le_mul_of_nonneg_left (show k + 1 ≤ j by omega) (show 0 ≤ s by omega)
  rw [Int.mul_add, Int.mul_one] at h5
  exact h5

theorem hasB_iff {p : Pf} (hg : gdP p) (x : Int) : hasB p.1 p.2 x = true ↔ hasP p x := by
  obtain ⟨_, _, _, _, hm, hp, _⟩ := gdP_parts hg
  unfold hasB hasP
  rw [beq_iff_eq]
  have r0 : 0 ≤ x % pw p.2 := Int.emod_nonneg _ (by omega)
  have r1 : x % pw p.2 < pw p.2 := Int.emod_lt_of_pos _ (by omega)
  constructor
  · intro h; omega
  · rintro ⟨h1, h2⟩
    have e := emod_add_small (a := p.1) (p := pw p.2) (r := x - p.1) hm (by omega) (by omega)
    have e2 : p.1 + (x - p.1) = x := by omega
    rw [e2] at e
    omega

/-- Of two that have an address in common the longer one lies within the shorter one. -/
theorem nest {p q : Pf} {x : Int} (gp : gdP p) (gq : gdP q) (hl : p.2 ≤ q.2) (hx : hasP p x) (hy : hasP q x) : p.1 ≤ q.1 ∧ q.1 + pw q.2 ≤ p.1 + pw p.2 := by
  obtain ⟨_, _, _, _, hm, hp, _⟩ := gdP_parts gp
  obtain ⟨_, hq32, _, _, hm', hp', _⟩ := gdP_parts gq
  have hs := pw_split hl hq32
  have d1 : pw q.2 ∣ p.1 := Int.dvd_trans ⟨_, hs⟩ (Int.dvd_of_emod_eq_zero hm)
  have d2 : pw q.2 ∣ q.1 := Int.dvd_of_emod_eq_zero hm'
  have d3 : pw q.2 ∣ p.1 + pw p.2 := Int.dvd_add d1 ⟨_, hs⟩
  obtain ⟨i, hi⟩ := d1
  obtain ⟨k, hk⟩ := d2
  obtain ⟨j, hj⟩ := d3
  obtain ⟨hx1, hx2⟩ := hx
  obtain ⟨hy1, hy2⟩ := hy
  rw [hj] at hx2 ⊢
  rw [hk] at hy1 hy2 ⊢
  rw [hi] at hx1 ⊢
  exact ⟨mul_up (by omega) hx1 hy2, mul_down (by omega) hy1 hx2⟩

theorem covP_iff {p q : Pf} (gp : gdP p) (gq : gdP q) : covP p q = true ↔ p.1 ≤ q.1 ∧ q.1 + pw q.2 ≤ p.1 + pw p.2 := by
  obtain ⟨_, hp32, _, _, _, hp, _⟩ := gdP_parts gp
  obtain ⟨_, hq32, _, _, _, hq, _⟩ := gdP_parts gq
  unfold covP
  rw [Bool.and_eq_true, decide_eq_true_eq, hasB_iff gp]
  constructor
  · rintro ⟨hl, hx⟩
    exact nest gp gq hl hx ⟨by omega, by omega⟩
  · rintro ⟨h1, h2⟩
    refine ⟨?_, ⟨h1, by omega⟩⟩
    rcases Int.lt_or_le q.2 p.2 with h | h
    · have := pw_twice h hp32; omega
    · exact h

theorem tri {p q : Pf} (gp : gdP p) (gq : gdP q) : befP p q ∨ befP q p ∨ covP p q = true ∨ covP q p = true := by
  obtain ⟨_, _, _, _, _, hp, _⟩ := gdP_parts gp
  obtain ⟨_, _, _, _, _, hq, _⟩ := gdP_parts gq
  unfold befP
  by_cases h1 : p.1 + pw p.2 ≤ q.1
  · exact .inl h1
  · by_cases h2 : q.1 + pw q.2 ≤ p.1
    · exact .inr (.inl h2)
    · have hx : ∃ x, hasP p x ∧ hasP q x := by
        rcases Int.le_total p.1 q.1 with h | h
        · exact ⟨q.1, ⟨h, by omega⟩, ⟨by omega, by omega⟩⟩
        · exact ⟨p.1, ⟨by omega, by omega⟩, ⟨h, by omega⟩⟩
      obtain ⟨x, hx, hy⟩ := hx
      rcases Int.le_total p.2 q.2 with h | h
      · exact .inr (.inr (.inl ((covP_iff gp gq).2 (nest gp gq h hx hy))))
      · exact .inr (.inr (.inr ((covP_iff gq gp).2 (nest gq gp h hy hx))))

theorem covP_refl {p : Pf} (gp : gdP p) : covP p p = true := (covP_iff gp gp).2 ⟨Int.le_refl _, Int.le_refl _⟩
theorem covP_trans {p q r : Pf} (gp : gdP p) (gq : gdP q) (gr : gdP r) (h1 : covP p q = true) (h2 : covP q r = true) : covP p r = true := by
  rw [covP_iff gp gq] at h1; rw [covP_iff gq gr] at h2; rw [covP_iff gp gr]; omega
theorem covP_anti {p q : Pf} (gp : gdP p) (gq : gdP q) (h1 : covP p q = true) (h2 : covP q p = true) : p = q := by
  rw [covP_iff gp gq] at h1; rw [covP_iff gq gp] at h2
  obtain ⟨_, hp32, _⟩ := gdP_parts gp
  obtain ⟨_, hq32, _⟩ := gdP_parts gq
  have e1 : p.1 = q.1 := by omega
  have e2 : p.2 = q.2 := pw_inj hp32 hq32 (by omega)
  exact Prod.ext e1 e2
theorem covP_has {p q : Pf} (gp : gdP p) (gq : gdP q) (h : covP p q = true) {x : Int} (hx : hasP q x) : hasP p x := by
  rw [covP_iff gp gq] at h; unfold hasP at *; omega

/-- Halves. -/
structure HalfP (p : Pf) : Prop where
  gl : gdP (loP p)
  gh : gdP (hiP p)
  sz : pw p.2 = 2 * pw (p.2 + 1)
  sl : sibP (loP p) = hiP p
  sh : sibP (hiP p) = loP p
  pl : parP (loP p) = p
  ph : parP (hiP p) = p
theorem half_of {p : Pf} (g : gdP p) (h : p.2 < 32) : HalfP p := by
  have f := half_facts (a := p.1) (l := p.2) g h
  have e : p.2 + 1 - 1 = p.2 := by omega
  refine ⟨f.lo, f.hi, pw_succ _ h, ?_, ?_, ?_, ?_⟩
  · exact Prod.ext f.sibLo rfl
  · exact Prod.ext f.sibHi rfl
  · exact Prod.ext f.parLo e
  · exact Prod.ext f.parHi e
theorem has_halves {p : Pf} (g : gdP p) (h : p.2 < 32) (x : Int) : hasP p x ↔ hasP (loP p) x ∨ hasP (hiP p) x := by
  have f := half_of g h
  have := f.sz
  have := pw_pos (p.2 + 1)
  unfold hasP loP hiP
  dsimp only
  omega
/-- Every prefix but the whole is one of the two halves of its parent. -/
theorem par_of {p : Pf} (g : gdP p) (h : 1 ≤ p.2) : gdP (parP p) ∧ (parP p).2 < 32 ∧ (p = loP (parP p) ∨ p = hiP (parP p)) := by
  obtain ⟨h0, h32, ha0, ha1, hm, hp, he⟩ := gdP_parts g
  have hs : pw (p.2 - 1) = 2 * pw p.2 := pw_pred p.2 h h32
  have e1 : p.2 - 1 + 1 = p.2 := by omega
  have r0 : 0 ≤ p.1 % pw (p.2 - 1) := Int.emod_nonneg _ (by omega)
  have hh := emod_half (x := p.1) (p := pw p.2) (by omega)
  rw [← hs, hm] at hh
  have hle : 0 ≤ p.1 - p.1 % pw (p.2 - 1) := by
    have := Int.emod_nonneg p.1 (show pw (p.2 - 1) ≠ 0 by omega)
    have h2 := Int.mul_ediv_add_emod p.1 (pw (p.2 - 1))
    have h3 : 0 ≤ p.1 / pw (p.2 - 1) := Int.ediv_nonneg ha0 (by omega)
    have h4 := Int.mul_nonneg (show 0 ≤ pw (p.2 - 1) by omega) h3
    omega
  refine ⟨goodB_iff.2 ⟨⟨by show 0 ≤ p.2 - 1; omega, by show p.2 - 1 ≤ 32; omega⟩, ⟨by show 0 ≤ p.1 - p.1 % pw (p.2 - 1); exact hle, by show p.1 - p.1 % pw (p.2 - 1) ≤ _; omega⟩, ?_⟩, by show p.2 - 1 < 32; omega, ?_⟩
  · show (p.1 - p.1 % pw (p.2 - 1)) % pw (p.2 - 1) = 0
    have h2 := Int.mul_ediv_add_emod p.1 (pw (p.2 - 1))
    have h3 : p.1 - p.1 % pw (p.2 - 1) = pw (p.2 - 1) * (p.1 / pw (p.2 - 1)) := by omega
    rw [h3, Int.mul_emod_right]
  · have hlt : p.1 % pw (p.2 - 1) < pw (p.2 - 1) := Int.emod_lt_of_pos _ (by omega)
    by_cases hc : p.1 % pw (p.2 - 1) < pw p.2
    · rw [if_pos hc] at hh
      exact .inl (Prod.ext (by show p.1 = p.1 - p.1 % pw (p.2 - 1); omega) (by show p.2 = p.2 - 1 + 1; omega))
    · rw [if_neg hc] at hh
      exact .inr (Prod.ext (by show p.1 = p.1 - p.1 % pw (p.2 - 1) + pw (p.2 - 1 + 1); rw [e1]; omega) (by show p.2 = p.2 - 1 + 1; omega))
theorem sib_facts {p : Pf} (g : gdP p) (h : 1 ≤ p.2) : gdP (sibP p) ∧ (∀ x, hasP (parP p) x ↔ hasP p x ∨ hasP (sibP p) x) ∧ ((p = loP (parP p) ∧ sibP p = hiP (parP p)) ∨ (p = hiP (parP p) ∧ sibP p = loP (parP p))) := by
  obtain ⟨g1, g2, g3⟩ := par_of g h
  have f := half_of g1 g2
  rcases g3 with e | e
  · have es : sibP p = hiP (parP p) := by rw [← f.sl, ← e]
    exact ⟨es ▸ f.gh, fun x => by rw [has_halves g1 g2, es, ← e], .inl ⟨e, es⟩⟩
  · have es : sibP p = loP (parP p) := by rw [← f.sh, ← e]
    exact ⟨es ▸ f.gl, fun x => by rw [has_halves g1 g2, es, ← e]; exact Or.comm, .inr ⟨e, es⟩⟩

/-- A good set: good prefixes, each ends ahead of the next one, and no two are the halves of one. -/
structure Gs (L : List Pf) : Prop where
  gd : ∀ p, p ∈ L → gdP p
  ch : L.Pairwise befP
  nh : ∀ p, gdP p → p.2 < 32 → loP p ∈ L → hiP p ∈ L → False

theorem pairs_mem {R : Pf → Pf → Prop} {L : List Pf} (h : L.Pairwise R) {p q : Pf} (hp : p ∈ L) (hq : q ∈ L) : p = q ∨ R p q ∨ R q p := by
  induction L with
  | nil => simp at hp
  | cons a L ih =>
    rw [List.pairwise_cons] at h
    rw [List.mem_cons] at hp hq
    rcases hp with rfl | hp
    · rcases hq with rfl | hq
      · exact .inl rfl
      · exact .inr (.inl (h.1 _ hq))
    · rcases hq with rfl | hq
      · exact .inr (.inr (h.1 _ hp))
      · exact ih h.2 hp hq
theorem Gs.eq {L : List Pf} (G : Gs L) {p q : Pf} (hp : p ∈ L) (hq : q ∈ L) (h : covP p q = true) : p = q := by
  have gp := G.gd p hp
  have gq := G.gd q hq
  obtain ⟨_, _, _, _, _, hp1, _⟩ := gdP_parts gp
  obtain ⟨_, _, _, _, _, hq1, _⟩ := gdP_parts gq
  rw [covP_iff gp gq] at h
  rcases pairs_mem G.ch hp hq with h1 | h1 | h1
  · exact h1
  · unfold befP at h1; omega
  · unfold befP at h1; omega
theorem Gs.sub {L M : List Pf} (G : Gs L) (h : M.Sublist L) : Gs M :=
  ⟨fun p hp => G.gd p (h.subset hp), G.ch.sublist h, fun p g h1 h2 h3 => G.nh p g h1 (h.subset h2) (h.subset h3)⟩
theorem gs_nil : Gs [] := ⟨fun p hp => by simp at hp, List.Pairwise.nil, fun p _ _ h _ => by simp at h⟩

/-- What a good set has all of, one of its own has. -/
theorem Gs.one {L : List Pf} (G : Gs L) : ∀ (n : Nat) (p : Pf), gdP p → (32 - p.2).toNat = n → (∀ x, hasP p x → allP L x) → ∃ q, q ∈ L ∧ covP q p = true := by
  intro n
  induction n with
  | zero =>
    intro p g hn hx
    obtain ⟨h0, h32, ha0, ha1, hm, hp, he⟩ := gdP_parts g
    obtain ⟨q, hq, hqx⟩ := hx p.1 ⟨by omega, by omega⟩
    have gq := G.gd q hq
    obtain ⟨_, hq32, _⟩ := gdP_parts gq
    exact ⟨q, hq, (covP_iff gq g).2 (nest gq g (by omega) hqx ⟨by omega, by omega⟩)⟩
  | succ n ih =>
    intro p g hn hx
    obtain ⟨h0, h32, ha0, ha1, hm, hp, he⟩ := gdP_parts g
    have hl : p.2 < 32 := by omega
    have f := half_of g hl
    have hh := has_halves g hl
    obtain ⟨a, ha, hac⟩ := ih (loP p) f.gl (by show (32 - (p.2 + 1)).toNat = n; omega) (fun x h => hx x ((hh x).2 (.inl h)))
    obtain ⟨b, hb, hbc⟩ := ih (hiP p) f.gh (by show (32 - (p.2 + 1)).toNat = n; omega) (fun x h => hx x ((hh x).2 (.inr h)))
    have ga := G.gd a ha
    have gb := G.gd b hb
    have hpp := pw_pos (p.2 + 1)
    have hsz := f.sz
    have up : ∀ c, gdP c → ∀ y, hasP p y → hasP c y → c.2 ≤ p.2 → covP c p = true := fun c gc y h1 h2 h3 => (covP_iff gc g).2 (nest gc g h3 h2 h1)
    by_cases h1 : a.2 ≤ p.2
    · refine ⟨a, ha, up a ga p.1 ⟨by omega, by omega⟩ (covP_has ga f.gl hac ?_) h1⟩
      exact ⟨by show p.1 ≤ p.1; omega, by show p.1 < p.1 + pw (p.2 + 1); omega⟩
    · by_cases h2 : b.2 ≤ p.2
      · refine ⟨b, hb, up b gb (p.1 + pw (p.2 + 1)) ⟨by omega, by omega⟩ (covP_has gb f.gh hbc ?_) h2⟩
        exact ⟨by show p.1 + pw (p.2 + 1) ≤ _; omega, by show p.1 + pw (p.2 + 1) < p.1 + pw (p.2 + 1) + pw (p.2 + 1); omega⟩
      · have e : ∀ c d : Pf, gdP c → gdP d → d.2 = p.2 + 1 → covP c d = true → ¬ c.2 ≤ p.2 → c = d := by
          intro c d gc gd e1 e2 e3
          obtain ⟨_, hc32, _⟩ := gdP_parts gc
          have h3 : c.2 ≤ d.2 := by unfold covP at e2; rw [Bool.and_eq_true, decide_eq_true_eq] at e2; exact e2.1
          have h4 : c.2 = d.2 := by omega
          rw [covP_iff gc gd, h4] at e2
          exact Prod.ext (by omega) h4
        have ea := e a (loP p) ga f.gl rfl hac h1
        have eb := e b (hiP p) gb f.gh rfl hbc h2
        exact absurd (G.nh p g hl (ea ▸ ha) (eb ▸ hb)) id
theorem Gs.cover {L : List Pf} (G : Gs L) {p : Pf} (g : gdP p) (h : ∀ x, hasP p x → allP L x) : ∃ q, q ∈ L ∧ covP q p = true := G.one _ p g rfl h

theorem chain_ext : ∀ {L M : List Pf}, (∀ p, p ∈ L → 1 ≤ pw p.2) → L.Pairwise befP → M.Pairwise befP → (∀ p, p ∈ L ↔ p ∈ M) → L = M
  | [], [], _, _, _, _ => rfl
  | [], b :: M, _, _, _, h => by have := (h b).2 (by simp); simp at this
  | a :: L, [], _, _, _, h => by have := (h a).1 (by simp); simp at this
  | a :: L, b :: M, hw, hL, hM, h => by
    rw [List.pairwise_cons] at hL hM
    have pa := hw a (by simp)
    have pb := hw b ((h b).2 (by simp))
    have hab : a = b := by
      have h1 := (h a).1 (by simp)
      have h2 := (h b).2 (by simp)
      rw [List.mem_cons] at h1 h2
      rcases h1 with h1 | h1
      · exact h1
      · rcases h2 with h2 | h2
        · exact h2.symm
        · have := hM.1 a h1
          have := hL.1 b h2
          unfold befP at *
          omega
    subst hab
    congr 1
    refine chain_ext (fun p hp => hw p (by simp [hp])) hL.2 hM.2 (fun p => ⟨fun hp => ?_, fun hp => ?_⟩)
    · have h1 := (h p).1 (by simp [hp])
      rw [List.mem_cons] at h1
      rcases h1 with rfl | h1
      · have := hL.1 p hp; unfold befP at this; omega
      · exact h1
    · have h1 := (h p).2 (by simp [hp])
      rw [List.mem_cons] at h1
      rcases h1 with rfl | h1
      · have := hM.1 p hp; unfold befP at this; omega
      · exact h1

/-- Good sets of the same addresses are the same. -/
theorem Gs.unique {L M : List Pf} (GL : Gs L) (GM : Gs M) (h : ∀ x, allP L x ↔ allP M x) : L = M := by
  have half : ∀ {L M : List Pf}, Gs L → Gs M → (∀ x, allP L x ↔ allP M x) → ∀ p, p ∈ L → p ∈ M := by
    intro L M GL GM h p hp
    have gp := GL.gd p hp
    obtain ⟨q, hq, hqp⟩ := GM.cover gp (fun x hx => (h x).1 ⟨p, hp, hx⟩)
    have gq := GM.gd q hq
    obtain ⟨r, hr, hrq⟩ := GL.cover gq (fun x hx => (h x).2 ⟨q, hq, hx⟩)
    have gr := GL.gd r hr
    have e := GL.eq hr hp (covP_trans gr gq gp hrq hqp)
    subst e
    rw [covP_anti gr gq hrq hqp]
    exact hq
  exact chain_ext (fun p hp => (gdP_parts (GL.gd p hp)).2.2.2.2.2.1) GL.ch GM.ch (fun p => ⟨half GL GM h p, half GM GL (fun x => (h x).symm) p⟩)

end Go.Proofs.Ytjjdfniemlcnnab
