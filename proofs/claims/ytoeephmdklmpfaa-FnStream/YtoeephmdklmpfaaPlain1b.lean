/- The plain mathematics of halves: both are good, each is the other one's sibling, and they have what the prefix has. -/
import Derived.Test.YtoeephmdklmpfaaPlain1
namespace Go.Proofs.Ytoeephmdklmpfaa

theorem pw_times (l : Int) (h0 : 0 ≤ l) (h1 : l ≤ 32) : pw l * 2 ^ l.toNat = 4294967296 := by
  unfold pw
  rw [← Int.pow_add]
  have e : (32 - l).toNat + l.toNat = 32 := by omega
  rw [e]
  decide

theorem emod_add_small {a p r : Int} (ha : a % p = 0) (h0 : 0 ≤ r) (h1 : r < p) : (a + r) % p = r := by
  rw [Int.add_emod, ha, Int.zero_add, Int.emod_emod_of_dvd _ (Int.dvd_refl p), Int.emod_eq_of_lt h0 h1]

/-- A good prefix ends within the addresses. -/
theorem good_end {a l : Int} (hg : goodB a l = true) : a + pw l ≤ 4294967296 := by
  obtain ⟨⟨h0, h1⟩, ⟨ha0, ha1⟩, hm⟩ := goodB_iff.1 hg
  have hp := pw_pos l
  have ht := pw_times l h0 h1
  have hq := Int.mul_ediv_add_emod a (pw l)
  rw [hm, Int.add_zero] at hq
  have hlt : pw l * (a / pw l) < pw l * 2 ^ l.toNat := by rw [ht, hq]; omega
  have hk : a / pw l < 2 ^ l.toNat := Int.lt_of_mul_lt_mul_left hlt (by omega)
  have hle : pw l * (a / pw l + 1) ≤ pw l * 2 ^ l.toNat := Int.mul_le_mul_of_nonneg_left (by omega) (by omega)
  rw [ht, Int.mul_add, hq] at hle
  omega

structure HalfFacts (a l : Int) : Prop where
  lo : goodB a (l + 1) = true
  hi : goodB (a + pw (l + 1)) (l + 1) = true
  sibLo : sibA a (l + 1) = a + pw (l + 1)
  sibHi : sibA (a + pw (l + 1)) (l + 1) = a
  parLo : a - a % pw (l + 1 - 1) = a
  parHi : (a + pw (l + 1)) - (a + pw (l + 1)) % pw (l + 1 - 1) = a

theorem half_facts {a l : Int} (hg : goodB a l = true) (hl : l < 32) : HalfFacts a l := by
  obtain ⟨⟨h0, h1⟩, ⟨ha0, ha1⟩, hm⟩ := goodB_iff.1 hg
  have hp := pw_pos (l + 1)
  have hs := pw_succ l hl
  have he := good_end hg
  have e1 : l + 1 - 1 = l := by omega
  have m1 : a % pw (l + 1) = 0 := by
    have hd : pw (l + 1) ∣ pw l := ⟨2, by rw [hs, Int.mul_comm]⟩
    exact Int.emod_eq_zero_of_dvd (Int.dvd_trans hd (Int.dvd_of_emod_eq_zero hm))
  have m2 : (a + pw (l + 1)) % pw (l + 1) = 0 := by rw [Int.add_emod, m1, Int.emod_self]; simp
  have m3 : (a + pw (l + 1)) % pw l = pw (l + 1) := emod_add_small hm (by omega) (by omega)
  refine ⟨goodB_iff.2 ⟨by omega, by omega, m1⟩, goodB_iff.2 ⟨by omega, by omega, m2⟩, ?_, ?_, ?_, ?_⟩
  · unfold sibA; rw [e1, hm, if_pos (by omega)]; omega
  · unfold sibA; rw [e1, m3, if_neg (by omega)]; omega
  · rw [e1, hm]; omega
  · rw [e1, m3]; omega

theorem emod_half {x p : Int} (hp : 0 < p) : x % p = if x % (2 * p) < p then x % (2 * p) else x % (2 * p) - p := by
  have h0 : 0 ≤ x % (2 * p) := Int.emod_nonneg _ (by omega)
  have h1 : x % (2 * p) < 2 * p := Int.emod_lt_of_pos _ (by omega)
  have hd : p ∣ 2 * p := ⟨2, by rw [Int.mul_comm]⟩
  have e : x % p = x % (2 * p) % p := (Int.emod_emod_of_dvd x hd).symm
  rw [e]
  split
  · exact Int.emod_eq_of_lt h0 (by assumption)
  · have e2 : x % (2 * p) = (x % (2 * p) - p) + p := by omega
    rw [e2, Int.add_emod_right, Int.emod_eq_of_lt (by omega) (by omega)]
    omega

/-- What the prefix has one of its halves has, and only one. -/
theorem half_has {a l x : Int} (hg : goodB a l = true) (hl : l < 32) :
    hasB a l x = (hasB a (l + 1) x || hasB (a + pw (l + 1)) (l + 1) x) ∧ (hasB a (l + 1) x && hasB (a + pw (l + 1)) (l + 1) x) = false := by
  obtain ⟨⟨h0, h1⟩, ⟨ha0, ha1⟩, hm⟩ := goodB_iff.1 hg
  have hp := pw_pos (l + 1)
  have hs := pw_succ l hl
  unfold hasB
  have r0 : 0 ≤ x % pw l := Int.emod_nonneg _ (by omega)
  have r1 : x % pw l < pw l := Int.emod_lt_of_pos _ (by omega)
  have hx := Int.mul_ediv_add_emod x (pw l)
  have ha := Int.mul_ediv_add_emod a (pw l)
  rw [hm, Int.add_zero] at ha
  have hh := emod_half (x := x) (p := pw (l + 1)) (by omega)
  rw [← hs] at hh
  -- the difference of two multiples of the size is no half of it
  have key : ∀ k j : Int, pw l * k = pw l * j + pw (l + 1) → False := by
    intro k j e
    have e2 : pw l * (k - j) = pw (l + 1) := by rw [Int.mul_sub]; omega
    rcases Int.lt_trichotomy (k - j) 0 with h | h | h
    · have := Int.mul_le_mul_of_nonneg_left (show k - j ≤ -1 by omega) (show 0 ≤ pw l by omega)
      omega
    · rw [h] at e2; omega
    · have := Int.mul_le_mul_of_nonneg_left (show 1 ≤ k - j by omega) (show 0 ≤ pw l by omega)
      omega
  have hxm : x - x % pw l = pw l * (x / pw l) := by omega
  by_cases hr : x % pw l < pw (l + 1)
  · rw [if_pos hr] at hh
    rw [hh]
    have n1 : ¬ x - x % pw l = a + pw (l + 1) := by
      intro e; rw [hxm, ← ha] at e; exact key _ _ e
    have f1 : (x - x % pw l == a + pw (l + 1)) = false := by rw [beq_eq_false_iff_ne]; exact n1
    rw [f1]; simp
  · rw [if_neg hr] at hh
    rw [hh]
    have n1 : ¬ x - (x % pw l - pw (l + 1)) = a := by
      intro e
      have e3 : pw l * (a / pw l) = pw l * (x / pw l) + pw (l + 1) := by omega
      exact key _ _ e3
    have f1 : (x - (x % pw l - pw (l + 1)) == a) = false := by rw [beq_eq_false_iff_ne]; exact n1
    rw [f1]
    have f2 : (x - (x % pw l - pw (l + 1)) == a + pw (l + 1)) = (x - x % pw l == a) := by
      by_cases e : x - x % pw l = a
      · have e4 : x - (x % pw l - pw (l + 1)) = a + pw (l + 1) := by omega
        simp [e, e4]
      · have g1 : (x - x % pw l == a) = false := by rw [beq_eq_false_iff_ne]; exact e
        have g2 : (x - (x % pw l - pw (l + 1)) == a + pw (l + 1)) = false := by rw [beq_eq_false_iff_ne]; omega
        rw [g1, g2]
    rw [f2]; simp

end Go.Proofs.Ytoeephmdklmpfaa
