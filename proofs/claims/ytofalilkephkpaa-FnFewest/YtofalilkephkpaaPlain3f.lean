/- The plain mathematics of a range: how many prefixes, how many addresses. -/
import Derived.Test.YtofalilkephkpaaPlain3e
namespace Go.Proofs.Ytofalilkephkpaa

def szs (L : List Pf) : Int := (L.map fun p => pw p.2).sum
theorem szs_app (A B : List Pf) : szs (A ++ B) = szs A + szs B := by unfold szs; simp
theorem szs_fold : ∀ (L : List Pf) (n : Int), L.foldl (fun n p => n + pw p.2) n = n + szs L
  | [], n => by simp [szs]
  | p :: L, n => by
    rw [List.foldl_cons, szs_fold L]
    simp [szs]
    omega
theorem rng_none {f : Nat} {p : Pf} {a b : Int} (h : p.1 + pw p.2 - 1 < a ∨ b < p.1) : rngF f p a b = [] := by
  cases f with
  | zero => rfl
  | succ f => rw [rngF, if_pos h]
theorem rng_lt {p : Pf} {a b : Int} (gp : gdP p) (_hab : a ≤ b) (h1 : ¬ (p.1 + pw p.2 - 1 < a ∨ b < p.1)) (h2 : ¬ (a ≤ p.1 ∧ p.1 + pw p.2 - 1 ≤ b)) : p.2 < 32 := by
  rcases Int.lt_or_le p.2 32 with h | h
  · exact h
  · have e : p.2 = 32 := by have := (gdP_parts gp).2.1; omega
    rw [e, pw_32] at h1 h2
    omega
/-- How many addresses of p lie in the range. -/
theorem rng_szs : ∀ (f : Nat) (p : Pf) (a b : Int), gdP p → 33 ≤ p.2 + f → a ≤ b → ¬ (p.1 + pw p.2 - 1 < a ∨ b < p.1) → szs (rngF f p a b) = min (p.1 + pw p.2 - 1) b - max p.1 a + 1
  | 0, p, a, b, gp, hf, _, _ => by have := (gdP_parts gp).2.1; omega
  | f + 1, p, a, b, gp, hf, hab, h1 => by
    rw [rngF, if_neg h1]
    by_cases h2 : a ≤ p.1 ∧ p.1 + pw p.2 - 1 ≤ b
    · rw [if_pos h2]
      simp only [szs, List.map_cons, List.map_nil, List.sum_cons, List.sum_nil]
      omega
    · rw [if_neg h2]
      have hp := rng_lt gp hab h1 h2
      have H := half_of gp hp
      have hsz := H.sz
      have hps := pw_pos (p.2 + 1)
      have eLo : (loP p).1 + pw (loP p).2 = p.1 + pw (p.2 + 1) := rfl
      have eHi : (hiP p).1 + pw (hiP p).2 = p.1 + pw (p.2 + 1) + pw (p.2 + 1) := rfl
      have e1 : (loP p).1 = p.1 := rfl
      have e2 : (hiP p).1 = p.1 + pw (p.2 + 1) := rfl
      have A := rng_szs f (loP p) a b H.gl (by show 33 ≤ p.2 + 1 + (f : Int); omega) hab
      have B := rng_szs f (hiP p) a b H.gh (by show 33 ≤ p.2 + 1 + (f : Int); omega) hab
      have A0 := rng_none (f := f) (p := loP p) (a := a) (b := b)
      have B0 := rng_none (f := f) (p := hiP p) (a := a) (b := b)
      rw [eLo, e1] at A A0
      rw [eHi, e2] at B B0
      rw [szs_app]
      have z : szs [] = 0 := by simp [szs]
      by_cases k1 : p.1 + pw (p.2 + 1) - 1 < a ∨ b < p.1
      · rw [A0 k1, z, B (by omega)]
        omega
      · rw [A k1]
        by_cases k2 : p.1 + pw (p.2 + 1) + pw (p.2 + 1) - 1 < a ∨ b < p.1 + pw (p.2 + 1)
        · rw [B0 k2, z]
          omega
        · rw [B k2]
          omega
theorem rng_left : ∀ (f : Nat) (p : Pf) (a b : Int), gdP p → 33 ≤ p.2 + f → a ≤ b → a ≤ p.1 → (rngF f p a b).length ≤ f
  | 0, p, a, b, gp, hf, _, _ => by have := (gdP_parts gp).2.1; omega
  | f + 1, p, a, b, gp, hf, hab, ha => by
    rw [rngF]
    split
    · simp
    · rename_i h1
      split
      · simp
      · rename_i h2
        have hp := rng_lt gp hab h1 h2
        have H := half_of gp hp
        have hps := pw_pos (p.2 + 1)
        have eLo : (loP p).1 + pw (loP p).2 = p.1 + pw (p.2 + 1) := rfl
        have e1 : (loP p).1 = p.1 := rfl
        have e2 : (hiP p).1 = p.1 + pw (p.2 + 1) := rfl
        have A := rng_left f (loP p) a b H.gl (by show 33 ≤ p.2 + 1 + (f : Int); omega) hab (by rw [e1]; omega)
        have B := rng_left f (hiP p) a b H.gh (by show 33 ≤ p.2 + 1 + (f : Int); omega) hab (by rw [e2]; omega)
        rw [List.length_append]
        by_cases k : b < (hiP p).1
        · rw [rng_none (p := hiP p) (.inr k)]
          simp only [List.length_nil]
          omega
        · have : (rngF f (loP p) a b).length ≤ 1 := by
            cases f with
            | zero => simp [rngF]
            | succ f =>
              rw [rngF]
              split
              · simp
              · rw [if_pos (by rw [eLo, e1]; omega)]
                simp
          omega
theorem rng_right : ∀ (f : Nat) (p : Pf) (a b : Int), gdP p → 33 ≤ p.2 + f → a ≤ b → p.1 + pw p.2 - 1 ≤ b → (rngF f p a b).length ≤ f
  | 0, p, a, b, gp, hf, _, _ => by have := (gdP_parts gp).2.1; omega
  | f + 1, p, a, b, gp, hf, hab, hb => by
    rw [rngF]
    split
    · simp
    · rename_i h1
      split
      · simp
      · rename_i h2
        have hp := rng_lt gp hab h1 h2
        have H := half_of gp hp
        have hsz := H.sz
        have hps := pw_pos (p.2 + 1)
        have eLo : (loP p).1 + pw (loP p).2 = p.1 + pw (p.2 + 1) := rfl
        have eHi : (hiP p).1 + pw (hiP p).2 = p.1 + pw (p.2 + 1) + pw (p.2 + 1) := rfl
        have e1 : (loP p).1 = p.1 := rfl
        have e2 : (hiP p).1 = p.1 + pw (p.2 + 1) := rfl
        have A := rng_right f (loP p) a b H.gl (by show 33 ≤ p.2 + 1 + (f : Int); omega) hab (by rw [eLo]; omega)
        have B := rng_right f (hiP p) a b H.gh (by show 33 ≤ p.2 + 1 + (f : Int); omega) hab (by rw [eHi]; omega)
        rw [List.length_append]
        by_cases k : (loP p).1 + pw (loP p).2 - 1 < a
        · rw [rng_none (p := loP p) (.inl k)]
          simp only [List.length_nil]
          omega
        · have : (rngF f (hiP p) a b).length ≤ 1 := by
            cases f with
            | zero => simp [rngF]
            | succ f =>
              rw [rngF]
              split
              · simp
              · rw [if_pos (by rw [eHi, e2]; rw [eLo] at k; omega)]
                simp
          omega
theorem rng_most : ∀ (f : Nat) (p : Pf) (a b : Int), gdP p → 33 ≤ p.2 + f → a ≤ b → (rngF f p a b).length ≤ max 1 (2 * (f - 1))
  | 0, p, a, b, gp, hf, _ => by simp [rngF]
  | f + 1, p, a, b, gp, hf, hab => by
    rw [rngF]
    split
    · simp
    · rename_i h1
      split
      · simp; omega
      · rename_i h2
        have hp := rng_lt gp hab h1 h2
        have H := half_of gp hp
        have hl : 33 ≤ (loP p).2 + (f : Int) := by show 33 ≤ p.2 + 1 + (f : Int); omega
        have hh : 33 ≤ (hiP p).2 + (f : Int) := by show 33 ≤ p.2 + 1 + (f : Int); omega
        have A := rng_most f (loP p) a b H.gl hl hab
        have B := rng_most f (hiP p) a b H.gh hh hab
        have e : (loP p).1 + pw (loP p).2 = (hiP p).1 := rfl
        rw [List.length_append]
        by_cases k : b < (hiP p).1
        · rw [rng_none (p := hiP p) (.inr k)]
          simp only [List.length_nil]
          omega
        · by_cases k2 : (loP p).1 + pw (loP p).2 - 1 < a
          · rw [rng_none (p := loP p) (.inl k2)]
            simp only [List.length_nil]
            omega
          · have A2 := rng_right f (loP p) a b H.gl hl hab (by omega)
            have B2 := rng_left f (hiP p) a b H.gh hh hab (by omega)
            omega
theorem rngS_len {a b : Int} (hab : a ≤ b) : (rngS a b).length ≤ 64 := by
  have := rng_most 33 (0, 0) a b root_good (by decide) hab
  unfold rngS
  omega
theorem rngS_szs {a b : Int} (ha : 0 ≤ a) (hb : b ≤ 4294967295) (hab : a ≤ b) : szs (rngS a b) = b - a + 1 := by
  have e0 : pw (0 : Int) = 4294967296 := by decide
  have h := rng_szs 33 (0, 0) a b root_good (by decide) hab (by dsimp only; rw [e0]; omega)
  unfold rngS
  rw [h]
  dsimp only
  rw [e0]
  omega
theorem fewS_self {L : List Pf} (G : Gs L) : fewS L = L := (fewS_good G.gd).1.unique G (fewS_good G.gd).2.1
end Go.Proofs.Ytofalilkephkpaa
