/- Rows of Prefix in memory, and what the laws do with them: handed over, compared. -/
import Derived.Test.YtoeephmdklmpfaaW0
namespace Go.Proofs.Ytoeephmdklmpfaa
open Go.RowKit

/-- n of them at a, told by f0 f1. -/
def RowPrefix (a : Option Addr) (n : Nat) (f0 : Nat → Int) (f1 : Nat → Int) (w : World) : Prop := ∀ i, i < n → ∃ b off, a = some ⟨b, off, none⟩ ∧ b < w.heap.size ∧
  w.cell? ⟨b, off + i * 2, none⟩ = some (.int .i64 (f0 i)) ∧ w.cell? ⟨b, off + i * 2 + 1, none⟩ = some (.int .i64 (f1 i))
theorem RowPrefix.below {a : Option Addr} {n : Nat} {f0 : Nat → Int} {f1 : Nat → Int} {w w' : World} (h : RowPrefix a n f0 f1 w) (k : Below w.heap.size w w') : RowPrefix a n f0 f1 w' := by
  intro i hi
  obtain ⟨b, off, ha, hb, h0, h1⟩ := h i hi
  obtain ⟨hc, _⟩ := bcell k
  exact ⟨b, off, ha, Nat.lt_of_lt_of_le hb k.size, (hc _ _ hb).trans h0, (hc _ _ hb).trans h1⟩

/-- A row of n of them in block c, the first k told; it may be written. -/
def OutPrefix (c n k : Nat) (f0 : Nat → Int) (f1 : Nat → Int) (w : World) : Prop := c < w.heap.size ∧ ∀ i, i < n →
  (∃ (x0 : Int) (x1 : Int), w.cell? ⟨c, i * 2, none⟩ = some (.int .i64 x0) ∧ w.cell? ⟨c, i * 2 + 1, none⟩ = some (.int .i64 x1) ∧ (i < k → x0 = f0 i ∧ x1 = f1 i)) ∧
  w.frozen? ⟨c, i * 2, none⟩ = false ∧ w.frozen? ⟨c, i * 2 + 1, none⟩ = false
theorem OutPrefix.below {c n k : Nat} {f0 : Nat → Int} {f1 : Nat → Int} {w w' : World} (h : OutPrefix c n k f0 f1 w) (hb : Below w.heap.size w w') : OutPrefix c n k f0 f1 w' := by
  obtain ⟨hc, hf⟩ := bcell hb
  refine ⟨Nat.lt_of_lt_of_le h.1 hb.size, fun i hi => ?_⟩
  obtain ⟨⟨x0, x1, h0, h1, hk⟩, g0, g1⟩ := h.2 i hi
  exact ⟨⟨x0, x1, (hc _ _ h.1).trans h0, (hc _ _ h.1).trans h1, hk⟩, (hf _ _ h.1).trans g0, (hf _ _ h.1).trans g1⟩
theorem OutPrefix.row {c n : Nat} {f0 : Nat → Int} {f1 : Nat → Int} {w : World} (h : OutPrefix c n n f0 f1 w) : RowPrefix (some ⟨c, 0, none⟩) n f0 f1 w := by
  intro i hi
  obtain ⟨⟨x0, x1, h0, h1, hk⟩, g0, g1⟩ := h.2 i hi
  obtain ⟨rfl, rfl⟩ := hk hi
  exact ⟨c, 0, rfl, h.1, by rw [Nat.zero_add]; exact h0, by rw [Nat.zero_add]; exact h1⟩
theorem OutPrefix.set {c n k : Nat} {f0 : Nat → Int} {f1 : Nat → Int} {w : World} (h : OutPrefix c n k f0 f1 w) (hk : k < n) : OutPrefix c n (k + 1) f0 f1 ((w.setCell ⟨c, k * 2, none⟩ (.int .i64 (f0 k))).setCell ⟨c, k * 2 + 1, none⟩ (.int .i64 (f1 k))) := by
  refine ⟨by have := h.1; simpa using this, fun i hi => ?_⟩
  obtain ⟨⟨x0, x1, h0, h1, hx⟩, g0, g1⟩ := h.2 i hi
  by_cases e : i = k
  · subst e
    refine ⟨⟨f0 i, f1 i, ?_, ?_, fun _ => ⟨rfl, rfl⟩⟩, ?_, ?_⟩ <;> simp [go_sem, h0, h1, g0, g1]
  · refine ⟨⟨x0, x1, ?_, ?_, fun hlt => hx (by omega)⟩, ?_, ?_⟩
    · rw [World.cell?_setCell_other _ _ _ _ (by simp <;> omega), World.cell?_setCell_other _ _ _ _ (by simp <;> omega)]; exact h0
    · rw [World.cell?_setCell_other _ _ _ _ (by simp <;> omega), World.cell?_setCell_other _ _ _ _ (by simp <;> omega)]; exact h1
    · simpa [go_sem] using g0
    · simpa [go_sem] using g1

set_option maxRecDepth 100000 in
set_option maxHeartbeats 800000 in
theorem w_eqPrefixS (a a' : Option Addr) (len cap cap' : Nat) (f0 : Nat → Int) (f1 : Nat → Int) (w : World) (hl : len ≤ 4294967296) (hR : RowPrefix a len f0 f1 w) (hR' : RowPrefix a' len f0 f1 w) :
    Calls Try.prog 68 #[.slice a len cap, .slice a' len cap'] w fun e w' => e = .returned (.bool true) ∧ Below w.heap.size w w' := by
  have hne : ((len : Int) != (len : Int)) = false := by simp
  go_enter Try.func68, Try.ntmps68
  go_wp2_with fail
  go_loopw [5] (fun i wr => ∃ k : Nat, k ≤ len ∧ i = .int .i64 k ∧ Below w.heap.size w wr) (fun i _ => len - (intOf i).toNat)
  case atStart => exact ⟨0, Nat.zero_le _, rfl, Below.refl _ _⟩
  case round =>
    obtain ⟨k, hk, rfl, hb⟩ := hrel
    by_cases hlt : k < len
    · obtain ⟨b, off, rfl, hbw, h0, h1⟩ := hR k hlt
      obtain ⟨b', off', rfl, hbw', i0, i1⟩ := hR' k hlt
      have h0 := cell_regrown ((hb.cell (p := ⟨b, off + k * 2, none⟩) hbw).trans h0)
      have i0 := cell_regrown ((hb.cell (p := ⟨b', off' + k * 2, none⟩) hbw').trans i0)
      have h1 := cell_regrown ((hb.cell (p := ⟨b, off + k * 2 + 1, none⟩) hbw).trans h1)
      have i1 := cell_regrown ((hb.cell (p := ⟨b', off' + k * 2 + 1, none⟩) hbw').trans i1)
      have hlt' : (k : Int) < (len : Int) := by omega
      have s1 := hide (fun w => w_eqPrefix (f0 k) (f1 k) w)
      clear hR hR'
      go_wp2_with fail
      refine wp_region_quiet_below (by kernel_rfl) (by kernel_rfl) ?_
      repeat (first | go_big_quiet_step (((go_at_call 111; exact Calls.regrown_of (s1.out _)))) | quiet_step (((go_at_call 111; exact Calls.regrown_of (s1.out _)))))
      refine wpQuiet_nil ?_
      intro _ hw'
      obtain ⟨⟨dq, osq⟩, hw''⟩ := hw'
      subst hw''
      have hq := below_regrown wr dq osq
      generalize Go.Sort.grow (redrawn wr dq) osq = wq at hq ⊢
      have hbq := hb.trans (hq.mono hb.size)
      clear hq h0 i0 h1 i1
      go_wp2_with fail
      exact ⟨⟨k + 1, by omega, by go_num, hbq⟩, by simp [intOf]; omega⟩
    · go_wp2_with fail
      go_ret
      exact ⟨rfl, hb⟩

theorem OutPrefix.forget {c n k : Nat} {f0 : Nat → Int} {f1 : Nat → Int} {w : World} (h : OutPrefix c n k f0 f1 w) (g0 : Nat → Int) (g1 : Nat → Int) : OutPrefix c n 0 g0 g1 w := by
  refine ⟨h.1, fun i hi => ?_⟩
  obtain ⟨⟨x0, x1, h0, h1, hk⟩, z0, z1⟩ := h.2 i hi
  exact ⟨⟨x0, x1, h0, h1, fun h => absurd h (Nat.not_lt_zero _)⟩, z0, z1⟩
set_option maxRecDepth 100000 in
set_option maxHeartbeats 800000 in
theorem w_markPrefixS (c len cap : Nat) (f0 : Nat → Int) (f1 : Nat → Int) (k0 : Int) (w : World) (hl : len ≤ 4294967296) (h0 : 0 ≤ k0) (h1 : k0 ≤ 1000000000000) (hO : OutPrefix c len len f0 f1 w) :
    Calls Try.prog 70 #[.slice (some ⟨c, 0, none⟩) len cap, .int .i64 k0] w fun e w' => e = .returned (.int .i64 (k0 + 2 * (len : Int))) ∧ Only c w w' ∧ OutPrefix c len len (fun i => k0 + 2 * (i : Int) + 0) (fun i => k0 + 2 * (i : Int) + 1) w' := by
  go_enter Try.func70, Try.ntmps70
  go_wp2_with fail
  go_loopw [1, 5] (fun kk i wr => ∃ q : Nat, q ≤ len ∧ i = .int .i64 q ∧ kk = .int .i64 (k0 + 2 * (q : Int)) ∧ Only c w wr ∧ OutPrefix c len q (fun i => k0 + 2 * (i : Int) + 0) (fun i => k0 + 2 * (i : Int) + 1) wr) (fun _ i _ => len - (intOf i).toNat)
  case atStart => exact ⟨0, Nat.zero_le _, rfl, by simp, Only.refl _ _, hO.forget _ _⟩
  case round =>
    obtain ⟨q, hq, rfl, rfl, ho, hO'⟩ := hrel
    by_cases hlt : q < len
    · obtain ⟨⟨y0, y1, i0, i1, _⟩, g0, g1⟩ := hO'.2 q hlt
      have hlt' : (q : Int) < (len : Int) := by omega
      clear hO
      go_wp2_with fail
      have hs := hO'.set hlt
      refine ⟨⟨q + 1, by omega, by go_num, ?_, ((ho.setCell _ _).setCell _ _), ?_⟩, by simp [intOf]; omega⟩
      · congr 1; omega
      · simpa [Int.add_assoc] using hs
    · have hk' : q = len := by omega
      subst hk'
      go_wp2_with fail
      go_ret
      exact ⟨rfl, ho, hO'⟩
set_option maxRecDepth 100000 in
set_option maxHeartbeats 800000 in
theorem w_heldPrefixS (a : Option Addr) (len cap : Nat) (k0 : Int) (w : World) (hl : len ≤ 4294967296) (h0 : 0 ≤ k0) (h1 : k0 ≤ 1000000000000) (hR : RowPrefix a len (fun i => k0 + 2 * (i : Int) + 0) (fun i => k0 + 2 * (i : Int) + 1) w) :
    Calls Try.prog 72 #[.slice a len cap, .int .i64 k0] w fun e w' => e = .returned (.int .i64 (k0 + 2 * (len : Int))) ∧ w' = w := by
  go_enter Try.func72, Try.ntmps72
  go_wp2_with fail
  go_loop [1, 5] (fun kk i => ∃ q : Nat, q ≤ len ∧ i = .int .i64 q ∧ kk = .int .i64 (k0 + 2 * (q : Int))) (fun _ i => len - (intOf i).toNat)
  case atStart => exact ⟨0, Nat.zero_le _, rfl, by simp⟩
  case round =>
    obtain ⟨q, hq, rfl, rfl⟩ := hrel
    by_cases hlt : q < len
    · obtain ⟨b, off, rfl, hbw, i0, i1⟩ := hR q hlt
      have hlt' : (q : Int) < (len : Int) := by omega
      simp only [Int.add_zero] at i0
      dsimp only at i1
      clear hR
      go_wp2_with fail
      refine ⟨⟨q + 1, by omega, by go_num, ?_⟩, by simp [intOf]; omega⟩
      congr 1; omega
    · have hk' : q = len := by omega
      subst hk'
      go_wp2_with fail
      go_ret
      exact ⟨rfl, rfl⟩
end Go.Proofs.Ytoeephmdklmpfaa
