/- The plain mathematics of halves: both are good, each is the other one's sibling, and they have what the prefix has. -/
import Derived.Test.YtjjdfniemlcnnabAll1
/- Rows of Prefix in memory, and what the laws do with them: handed over, compared. -/
namespace Go.Proofs.Ytjjdfniemlcnnab
open Go.RowKit

/-- n of them at a, told by f0 f1. -/
def RowPrefix (a : Option Addr) (n : Nat) (f0 : Nat → Int) (f1 : Nat → Int) (w : World) : Prop := ∀ i, i < n → ∃ b off, a = some ⟨b, off, none⟩ ∧ b < w.heap.size ∧
  w.cell? ⟨b, off + i * 2, none⟩ = some (.int .i64 (f0 i)) ∧ w.cell? ⟨b, off + i * 2 + 1, none⟩ = some (.int .i64 (f1 i))
theorem RowPrefix.below {a : Option Addr} {n : Nat} {f0 : Nat → Int} {f1 : Nat → Int} {w w' : World} (h : RowPrefix a n f0 f1 w) (k : Below w.heap.size w w') : RowPrefix a n f0 f1 w' := by
  intro i hi
  obtain ⟨b, off, ha, hb, h0, h1⟩ := h i hi
  obtain ⟨hc, _⟩ := bcell k
  exact ⟨b, off, ha, Nat.lt_of_lt_of_le hb k.size, (hc _ _ hb).trans h0, (hc _ _ hb).trans h1⟩

/-- A row of n of them in block c, the first k told; it may be written. -/
def OutPrefix (c n k : Nat) (f0 : Nat → Int) (f1 : Nat → Int) (w : World) : Prop := c < w.heap.size ∧ ∀ i, i < n →
  (∃ (x0 : Int) (x1 : Int), w.cell? ⟨c, i * 2, none⟩ = some (.int .i64 x0) ∧ w.cell? ⟨c, i * 2 + 1, none⟩ = some (.int .i64 x1) ∧ (i < k → x0 = f0 i ∧ x1 = f1 i)) ∧
  w.frozen? ⟨c, i * 2, none⟩ = false ∧ w.frozen? ⟨c, i * 2 + 1, none⟩ = false
theorem OutPrefix.below {c n k : Nat} {f0 : Nat → Int} {f1 : Nat → Int} {w w' : World} (h : OutPrefix c n k f0 f1 w) (hb : Below w.heap.size w w') : OutPrefix c n k f0 f1 w' := by
  obtain ⟨hc, hf⟩ := bcell hb
  refine ⟨Nat.lt_of_lt_of_le h.1 hb.size, fun i hi => ?_⟩
  obtain ⟨⟨x0, x1, h0, h1, hk⟩, g0, g1⟩ := h.2 i hi
  exact ⟨⟨x0, x1, (hc _ _ h.1).trans h0, (hc _ _ h.1).trans h1, hk⟩, (hf _ _ h.1).trans g0, (hf _ _ h.1).trans g1⟩
theorem OutPrefix.row {c n : Nat} {f0 : Nat → Int} {f1 : Nat → Int} {w : World} (h : OutPrefix c n n f0 f1 w) : RowPrefix (some ⟨c, 0, none⟩) n f0 f1 w := by
  intro i hi
  obtain ⟨⟨x0, x1, h0, h1, hk⟩, g0, g1⟩ := h.2 i hi
  obtain ⟨rfl, rfl⟩ := hk hi
  exact ⟨c, 0, rfl, h.1, by rw [Nat.zero_add]; exact h0, by rw [Nat.zero_add]; exact h1⟩
theorem OutPrefix.set {c n k : Nat} {f0 : Nat → Int} {f1 : Nat → Int} {w : World} (h : OutPrefix c n k f0 f1 w) (hk : k < n) : OutPrefix c n (k + 1) f0 f1 ((w.setCell ⟨c, k * 2, none⟩ (.int .i64 (f0 k))).setCell ⟨c, k * 2 + 1, none⟩ (.int .i64 (f1 k))) := by
  refine ⟨by have := h.1; simpa using this, fun i hi => ?_⟩
  obtain ⟨⟨x0, x1, h0, h1, hx⟩, g0, g1⟩ := h.2 i hi
  by_cases e : i = k
  · subst e
    refine ⟨⟨f0 i, f1 i, ?_, ?_, fun _ => ⟨rfl, rfl⟩⟩, ?_, ?_⟩ <;> simp [go_sem, h0, h1, g0, g1]
  · refine ⟨⟨x0, x1, ?_, ?_, fun hlt => hx (by omega)⟩, ?_, ?_⟩
    · rw [World.cell?_setCell_other _ _ _ _ (by simp <;> omega), World.cell?_setCell_other _ _ _ _ (by simp <;> omega)]; exact h0
    · rw [World.cell?_setCell_other _ _ _ _ (by simp <;> omega), World.cell?_setCell_other _ _ _ _ (by simp <;> omega)]; exact h1
    · simpa [go_sem] using g0
    · simpa [go_sem] using g1

set_option maxRecDepth 100000 in
set_option maxHeartbeats 800000 in
theorem w_eqPrefixS (a a' : Option Addr) (len cap cap' : Nat) (f0 : Nat → Int) (f1 : Nat → Int) (w : World) (hl : len ≤ 4294967296) (hR : RowPrefix a len f0 f1 w) (hR' : RowPrefix a' len f0 f1 w) :
    Calls Try.prog 9 #[.slice a len cap, .slice a' len cap'] w fun e w' => e = .returned (.bool true) ∧ Below w.heap.size w w' := by
  have hne : ((len : Int) != (len : Int)) = false := by simp
  go_enter Try.func9, Try.ntmps9
  go_wp2_with fail
  go_loopw [5] (fun i wr => ∃ k : Nat, k ≤ len ∧ i = .int .i64 k ∧ Below w.heap.size w wr) (fun i _ => len - (intOf i).toNat)
  case atStart => exact ⟨0, Nat.zero_le _, rfl, Below.refl _ _⟩
  case round =>
    obtain ⟨k, hk, rfl, hb⟩ := hrel
    by_cases hlt : k < len
    · obtain ⟨b, off, rfl, hbw, h0, h1⟩ := hR k hlt
      obtain ⟨b', off', rfl, hbw', i0, i1⟩ := hR' k hlt
      have h0 := cell_regrown ((hb.cell (p := ⟨b, off + k * 2, none⟩) hbw).trans h0)
      have i0 := cell_regrown ((hb.cell (p := ⟨b', off' + k * 2, none⟩) hbw').trans i0)
      have h1 := cell_regrown ((hb.cell (p := ⟨b, off + k * 2 + 1, none⟩) hbw).trans h1)
      have i1 := cell_regrown ((hb.cell (p := ⟨b', off' + k * 2 + 1, none⟩) hbw').trans i1)
      have hlt' : (k : Int) < (len : Int) := by omega
      have s1 := hide (fun w => w_eqPrefix (f0 k) (f1 k) w)
      clear hR hR'
      go_wp2_with fail
      refine wp_region_quiet_below (by kernel_rfl) (by kernel_rfl) ?_
      repeat (first | go_big_quiet_step (((go_at_call 26; exact Calls.regrown_of (s1.out _)))) | quiet_step (((go_at_call 26; exact Calls.regrown_of (s1.out _)))))
      refine wpQuiet_nil ?_
      intro _ hw'
      obtain ⟨⟨dq, osq⟩, hw''⟩ := hw'
      subst hw''
      have hq := below_regrown wr dq osq
      generalize Go.Sort.grow (redrawn wr dq) osq = wq at hq ⊢
      have hbq := hb.trans (hq.mono hb.size)
      clear hq h0 i0 h1 i1
      go_wp2_with fail
      exact ⟨⟨k + 1, by omega, by go_num, hbq⟩, by simp [intOf]; omega⟩
    · go_wp2_with fail
      go_ret
      exact ⟨rfl, hb⟩

theorem OutPrefix.forget {c n k : Nat} {f0 : Nat → Int} {f1 : Nat → Int} {w : World} (h : OutPrefix c n k f0 f1 w) (g0 : Nat → Int) (g1 : Nat → Int) : OutPrefix c n 0 g0 g1 w := by
  refine ⟨h.1, fun i hi => ?_⟩
  obtain ⟨⟨x0, x1, h0, h1, hk⟩, z0, z1⟩ := h.2 i hi
  exact ⟨⟨x0, x1, h0, h1, fun h => absurd h (Nat.not_lt_zero _)⟩, z0, z1⟩
set_option maxRecDepth 100000 in
set_option maxHeartbeats 800000 in
theorem w_markPrefixS (c len cap : Nat) (f0 : Nat → Int) (f1 : Nat → Int) (k0 : Int) (w : World) (hl : len ≤ 4294967296) (h0 : 0 ≤ k0) (h1 : k0 ≤ 1000000000000) (hO : OutPrefix c len len f0 f1 w) :
    Calls Try.prog 13 #[.slice (some ⟨c, 0, none⟩) len cap, .int .i64 k0] w fun e w' => e = .returned (.int .i64 (k0 + 2 * (len : Int))) ∧ Only c w w' ∧ OutPrefix c len len (fun i => k0 + 2 * (i : Int) + 0) (fun i => k0 + 2 * (i : Int) + 1) w' := by
  go_enter Try.func13, Try.ntmps13
  go_wp2_with fail
  go_loopw [1, 5] (fun kk i wr => ∃ q : Nat, q ≤ len ∧ i = .int .i64 q ∧ kk = .int .i64 (k0 + 2 * (q : Int)) ∧ Only c w wr ∧ OutPrefix c len q (fun i => k0 + 2 * (i : Int) + 0) (fun i => k0 + 2 * (i : Int) + 1) wr) (fun _ i _ => len - (intOf i).toNat)
  case atStart => exact ⟨0, Nat.zero_le _, rfl, by simp, Only.refl _ _, hO.forget _ _⟩
  case round =>
    obtain ⟨q, hq, rfl, rfl, ho, hO'⟩ := hrel
    by_cases hlt : q < len
    · obtain ⟨⟨y0, y1, i0, i1, _⟩, g0, g1⟩ := hO'.2 q hlt
      have hlt' : (q : Int) < (len : Int) := by omega
      clear hO
      go_wp2_with fail
      have hs := hO'.set hlt
      refine ⟨⟨q + 1, by omega, by go_num, ?_, ((ho.setCell _ _).setCell _ _), ?_⟩, by simp [intOf]; omega⟩
      · congr 1; omega
      · simpa [Int.add_assoc] using hs
    · have hk' : q = len := by omega
      subst hk'
      go_wp2_with fail
      go_ret
      exact ⟨rfl, ho, hO'⟩
set_option maxRecDepth 100000 in
set_option maxHeartbeats 800000 in
theorem w_heldPrefixS (a : Option Addr) (len cap : Nat) (k0 : Int) (w : World) (hl : len ≤ 4294967296) (h0 : 0 ≤ k0) (h1 : k0 ≤ 1000000000000) (hR : RowPrefix a len (fun i => k0 + 2 * (i : Int) + 0) (fun i => k0 + 2 * (i : Int) + 1) w) :
    Calls Try.prog 15 #[.slice a len cap, .int .i64 k0] w fun e w' => e = .returned (.int .i64 (k0 + 2 * (len : Int))) ∧ w' = w := by
  go_enter Try.func15, Try.ntmps15
  go_wp2_with fail
  go_loop [1, 5] (fun kk i => ∃ q : Nat, q ≤ len ∧ i = .int .i64 q ∧ kk = .int .i64 (k0 + 2 * (q : Int))) (fun _ i => len - (intOf i).toNat)
  case atStart => exact ⟨0, Nat.zero_le _, rfl, by simp⟩
  case round =>
    obtain ⟨q, hq, rfl, rfl⟩ := hrel
    by_cases hlt : q < len
    · obtain ⟨b, off, rfl, hbw, i0, i1⟩ := hR q hlt
      have hlt' : (q : Int) < (len : Int) := by omega
      simp only [Int.add_zero] at i0
      dsimp only at i1
      clear hR
      go_wp2_with fail
      refine ⟨⟨q + 1, by omega, by go_num, ?_⟩, by simp [intOf]; omega⟩
      congr 1; omega
    · have hk' : q = len := by omega
      subst hk'
      go_wp2_with fail
      go_ret
      exact ⟨rfl, rfl⟩
end Go.Proofs.Ytjjdfniemlcnnab

namespace Go.Proofs.Ytjjdfniemlcnnab

theorem pw_times (l : Int) (h0 : 0 ≤ l) (h1 : l ≤ 32) : pw l * 2 ^ l.toNat = 4294967296 := by
  unfold pw
  rw [← Int.pow_add]
  have e : (32 - l).toNat + l.toNat = 32 := by omega
  rw [e]
  decide

theorem emod_add_small {a p r : Int} (ha : a % p = 0) (h0 : 0 ≤ r) (h1 : r < p) : (a + r) % p = r := by
  rw [Int.add_emod, ha, Int.zero_add, Int.emod_emod_of_dvd _ (Int.dvd_refl p), Int.emod_eq_of_lt h0 h1]

/-- A good prefix ends within the addresses. -/
theorem good_end {a l : Int} (hg : goodB a l = true) : a + pw l ≤ 4294967296 := by
  obtain ⟨⟨h0, h1⟩, ⟨ha0, ha1⟩, hm⟩ := goodB_iff.1 hg
  have hp := pw_pos l
  have ht := pw_times l h0 h1
  have hq := Int.mul_ediv_add_emod a (pw l)
  rw [hm, Int.add_zero] at hq
  have hlt : pw l * (a / pw l) < pw l * 2 ^ l.toNat := by rw [ht, hq]; omega
  have hk : a / pw l < 2 ^ l.toNat := Int.lt_of_mul_lt_mul_left hlt (by omega)
  have hle : pw l * (a / pw l + 1) ≤ pw l * 2 ^ l.toNat := Int.mul_le_mul_of_nonneg_left (by omega) (by omega)
  rw [ht, Int.mul_add, hq] at hle
  omega

structure HalfFacts (a l : Int) : Prop where
  lo : goodB a (l + 1) = true
  hi : goodB (a + pw (l + 1)) (l + 1) = true
  sibLo : sibA a (l + 1) = a + pw (l + 1)
  sibHi : sibA (a + pw (l + 1)) (l + 1) = a
  parLo : a - a % pw (l + 1 - 1) = a
  parHi : (a + pw (l + 1)) - (a + pw (l + 1)) % pw (l + 1 - 1) = a

theorem half_facts {a l : Int} (hg : goodB a l = true) (hl : l < 32) : HalfFacts a l := by
  obtain ⟨⟨h0, h1⟩, ⟨ha0, ha1⟩, hm⟩ := goodB_iff.1 hg
  have hp := pw_pos (l + 1)
  have hs := pw_succ l hl
  have he := good_end hg
  have e1 : l + 1 - 1 = l := by omega
  have m1 : a % pw (l + 1) = 0 := by
    have hd : pw (l + 1) ∣ pw l := ⟨2, by rw [hs, Int.mul_comm]⟩
    exact Int.emod_eq_zero_of_dvd (Int.dvd_trans hd (Int.dvd_of_emod_eq_zero hm))
  have m2 : (a + pw (l + 1)) % pw (l + 1) = 0 := by rw [Int.add_emod, m1, Int.emod_self]; simp
  have m3 : (a + pw (l + 1)) % pw l = pw (l + 1) := emod_add_small hm (by omega) (by omega)
  refine ⟨goodB_iff.2 ⟨by omega, by omega, m1⟩, goodB_iff.2 ⟨by omega, by omega, m2⟩, ?_, ?_, ?_, ?_⟩
  · unfold sibA; rw [e1, hm, if_pos (by omega)]; omega
  · unfold sibA; rw [e1, m3, if_neg (by omega)]; omega
  · rw [e1, hm]; omega
  · rw [e1, m3]; omega

theorem emod_half {x p : Int} (hp : 0 < p) : x % p = if x % (2 * p) < p then x % (2 * p) else x % (2 * p) - p := by
  have h0 : 0 ≤ x % (2 * p) := Int.emod_nonneg _ (by omega)
  have h1 : x % (2 * p) < 2 * p := Int.emod_lt_of_pos _ (by omega)
  have hd : p ∣ 2 * p := ⟨2, by rw [Int.mul_comm]⟩
  have e : x % p = x % (2 * p) % p := (Int.emod_emod_of_dvd x hd).symm
  rw [e]
  split
  · exact Int.emod_eq_of_lt h0 (by assumption)
  · have e2 : x % (2 * p) = (x % (2 * p) - p) + p := by omega
    rw [e2, Int.add_emod_right, Int.emod_eq_of_lt (by omega) (by omega)]
    omega

/-- What the prefix has one of its halves has, and only one. -/
theorem half_has {a l x : Int} (hg : goodB a l = true) (hl : l < 32) :
    hasB a l x = (hasB a (l + 1) x || hasB (a + pw (l + 1)) (l + 1) x) ∧ (hasB a (l + 1) x && hasB (a + pw (l + 1)) (l + 1) x) = false := by
  obtain ⟨⟨h0, h1⟩, ⟨ha0, ha1⟩, hm⟩ := goodB_iff.1 hg
  have hp := pw_pos (l + 1)
  have hs := pw_succ l hl
  unfold hasB
  have r0 : 0 ≤ x % pw l := Int.emod_nonneg _ (by omega)
  have r1 : x % pw l < pw l := Int.emod_lt_of_pos _ (by omega)
  have hx := Int.mul_ediv_add_emod x (pw l)
  have ha := Int.mul_ediv_add_emod a (pw l)
  rw [hm, Int.add_zero] at ha
  have hh := emod_half (x := x) (p := pw (l + 1)) (by omega)
  rw [← hs] at hh
  -- the difference of two multiples of the size is no half of it
  have key : ∀ k j : Int, pw l * k = pw l * j + pw (l + 1) → False := by
    intro k j e
    have e2 : pw l * (k - j) = pw (l + 1) := by rw [Int.mul_sub]; omega
    rcases Int.lt_trichotomy (k - j) 0 with h | h | h
    · have := Int.mul_le_mul_of_nonneg_left (show k - j ≤ -1 by omega) (show 0 ≤ pw l by omega)
      omega
    · rw [h] at e2; omega
    · have := Int.mul_le_mul_of_nonneg_left (show 1 ≤ k - j by omega) (show 0 ≤ pw l by omega)
      omega
  have hxm : x - x % pw l = pw l * (x / pw l) := by omega
  by_cases hr : x % pw l < pw (l + 1)
  · rw [if_pos hr] at hh
    rw [hh]
    have n1 : ¬ x - x % pw l = a + pw (l + 1) := by
      intro e; rw [hxm, ← ha] at e; exact key _ _ e
    have f1 : (x - x % pw l == a + pw (l + 1)) = false := by rw [beq_eq_false_iff_ne]; exact n1
    rw [f1]; simp
  · rw [if_neg hr] at hh
    rw [hh]
    have n1 : ¬ x - (x % pw l - pw (l + 1)) = a := by
      intro e
      have e3 : pw l * (a / pw l) = pw l * (x / pw l) + pw (l + 1) := by omega
      exact key _ _ e3
    have f1 : (x - (x % pw l - pw (l + 1)) == a) = false := by rw [beq_eq_false_iff_ne]; exact n1
    rw [f1]
    have f2 : (x - (x % pw l - pw (l + 1)) == a + pw (l + 1)) = (x - x % pw l == a) := by
      by_cases e : x - x % pw l = a
      · have e4 : x - (x % pw l - pw (l + 1)) = a + pw (l + 1) := by omega
        simp [e, e4]
      · have g1 : (x - x % pw l == a) = false := by rw [beq_eq_false_iff_ne]; exact e
        have g2 : (x - (x % pw l - pw (l + 1)) == a + pw (l + 1)) = false := by rw [beq_eq_false_iff_ne]; omega
        rw [g1, g2]
    rw [f2]; simp

end Go.Proofs.Ytjjdfniemlcnnab
