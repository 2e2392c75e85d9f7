/- Lists of numbers compared, and numbers looked for in them, by program and specification. -/
import Derived.Test.YtgjohkpicajhpaaPlain10
import Derived.Lib.QuietBelow
namespace Go.Proofs.Ytgjohkpicajhpaa
open Go.RowKit

/-- m lists at a, none longer than its room. -/
def RowLK (a : Option Addr) (m : Nat) (T : Nat → Lc) (w : World) : Prop := ∀ i, i < m → ∃ (b off : Nat) (a0 : Option Addr) (c0 : Nat), a = some ⟨b, off, none⟩ ∧ b < w.heap.size ∧ w.cell? ⟨b, off + i, none⟩ = some (.slice a0 (T i).n c0) ∧ (T i).n ≤ c0 ∧ RowInt a0 (T i).n (T i).f w
theorem RowLK.below {a : Option Addr} {m : Nat} {T : Nat → Lc} {w w' : World} (h : RowLK a m T w) (k : Below w.heap.size w w') : RowLK a m T w' := by
  intro i hi
  obtain ⟨b, off, a0, c0, ha, hb, h0, hc0, ht⟩ := h i hi
  obtain ⟨hc, _⟩ := bcell k
  exact ⟨b, off, a0, c0, ha, Nat.lt_of_lt_of_le hb k.size, (hc _ _ hb).trans h0, hc0, ht.below k⟩
def RowK3 (a : Option Addr) (m : Nat) (U : Nat → Pl) (w : World) : Prop := ∀ i, i < m → ∃ (b off : Nat) (a0 : Option Addr) (c0 : Nat), a = some ⟨b, off, none⟩ ∧ b < w.heap.size ∧ w.cell? ⟨b, off + i, none⟩ = some (.slice a0 (U i).n c0) ∧ (U i).n ≤ c0 ∧ RowLK a0 (U i).n (U i).T w
theorem RowK3.below {a : Option Addr} {m : Nat} {U : Nat → Pl} {w w' : World} (h : RowK3 a m U w) (k : Below w.heap.size w w') : RowK3 a m U w' := by
  intro i hi
  obtain ⟨b, off, a0, c0, ha, hb, h0, hc0, ht⟩ := h i hi
  obtain ⟨hc, _⟩ := bcell k
  exact ⟨b, off, a0, c0, ha, Nat.lt_of_lt_of_le hb k.size, (hc _ _ hb).trans h0, hc0, ht.below k⟩
theorem RowLO.rowK {c n : Nat} {X : Nat → Nat} {hi : Nat} {T : Nat → Lc} {w : World} (h : RowLO c n X hi T w) : RowLK (some ⟨c, 0, none⟩) n T w := by
  intro i hi
  obtain ⟨h1, h3, hj, h4, c0, o1⟩ := h.2 i hi
  exact ⟨c, 0, _, _, rfl, h4, by rw [Nat.zero_add]; exact c0, Nat.le_refl _, o1.row⟩
theorem RowSO.rowK {c n : Nat} {X H : Nat → Nat} {hi : Nat} {U : Nat → Pl} {w : World} (h : RowSO c n X H hi U w) : RowK3 (some ⟨c, 0, none⟩) n U w := by
  intro i hi
  obtain ⟨h1, h2, h3, hj, h4, c0, Y, o1⟩ := h.2 i hi
  exact ⟨c, 0, _, _, rfl, h4, by rw [Nat.zero_add]; exact c0, Nat.le_refl _, o1.rowK⟩
theorem RowInt.take {a : Option Addr} {n k : Nat} {f : Nat → Int} {w : World} (h : RowInt a n f w) (hk : k ≤ n) : RowInt a k f w := fun i hi => h i (by omega)
theorem RowInt.tail {b off n : Nat} {p : Lc} {w : World} (hn : p.n = n) (h : RowInt (some ⟨b, off, none⟩) n p.f w) : RowInt (some ⟨b, off + 1, none⟩) (tl p).n (tl p).f w := by
  intro i hi
  have hi' : 1 + i < n := by have : (tl p).n = p.n - 1 := rfl; omega
  obtain ⟨b', off', hab, hb, h0⟩ := h (1 + i) hi'
  simp only [Option.some.injEq, Addr.mk.injEq, and_true] at hab
  obtain ⟨rfl, rfl⟩ := hab
  exact ⟨b, off + 1, rfl, hb, by rw [Nat.add_assoc]; exact h0⟩
set_option maxRecDepth 100000 in
set_option maxHeartbeats 800000 in
theorem i_index10 (a : Option Addr) (n c : Nat) (g : Nat → Int) (x : Int) (w : World) (hl : n ≤ 1048576) (hR : RowInt a n g w) :
    Calls Try.prog 31 #[.slice a n c, .int .i64 x] w fun e w' => e = .returned (.int .i64 (fI (fun i => g i = x) n)) ∧ w' = w := by
  have hT : Hid (∀ k, k < n → g k = x → (∀ j, j < k → g j ≠ x) → fI (fun i => g i = x) n = (k : Int)) := fun k h1 h2 h3 => fI_first h1 h2 h3
  have hF : Hid ((∀ i, i < n → g i ≠ x) → fI (fun i => g i = x) n = -1) := fun h => fI_none h
  generalize fI (fun i => g i = x) n = r at *
  go_enter Try.func31, Try.ntmps31
  go_wp2_with fail
  go_loop [8] (fun y => ∃ k : Nat, y = .int .i64 k ∧ k ≤ n ∧ Hid (∀ j, j < k → g j ≠ x)) (fun y => n - (intOf y).toNat)
  case atStart => exact ⟨0, rfl, Nat.zero_le _, fun j hj => absurd hj (by omega)⟩
  case round =>
    obtain ⟨k, rfl, hk, hall⟩ := hrel
    by_cases hlt : k < n
    · obtain ⟨b, off, rfl, hbw, u0⟩ := hR k hlt
      have hlt' : (k : Int) < (n : Int) := by omega
      by_cases hg : g k = x
      · have hE := hide (hT.out k hlt hg hall.out)
        have hg' : (x == g k) = true := by simp [hg]
        clear hall hR hT hF hg
        generalize g k = z at *
        go_wp2_with fail
        go_ret
        exact ⟨by rw [hE.out]; rfl, rfl⟩
      · have hN : Hid (∀ j, j < k + 1 → g j ≠ x) := fun j hj => by
          by_cases e : j = k
          · subst e; exact hg
          · exact hall.out j (by omega)
        have hg' : (x == g k) = false := by simp; exact fun e => hg e.symm
        clear hall hR hT hF hg
        generalize g k = z at *
        go_wp2_with fail
        exact ⟨⟨k + 1, by go_num, by omega, hN⟩, by simp [intOf]; omega⟩
    · have hlt' : ¬ (k : Int) < (n : Int) := by omega
      obtain rfl : k = n := by omega
      have hE := hide (hF.out hall.out)
      clear hall hT hF
      go_wp2_with fail
      go_ret
      exact ⟨by rw [hE.out]; rfl, rfl⟩
set_option maxRecDepth 100000 in
set_option maxHeartbeats 800000 in
theorem i_has10 (a : Option Addr) (n c : Nat) (g : Nat → Int) (x : Int) (w : World) (hl : n ≤ 1048576) (hR : RowInt a n g w) :
    Calls Try.prog 29 #[.slice a n c, .int .i64 x] w fun e w' => e = .returned (.bool (pB (∃ i, i < n ∧ g i = x))) ∧ w' = w := by
  have s1 := hide (fun w R => i_index10 a n c g x w hl R)
  have hr : Hid (pB (∃ i, i < n ∧ g i = x) = decide (fI (fun i => g i = x) n ≥ 0)) := by
    show _ = _
    by_cases h : ∃ i, i < n ∧ g i = x
    · rw [pB_t h]; exact (decide_eq_true (fI_nonneg.2 h)).symm
    · rw [pB_f h]; exact (decide_eq_false (fun k => h (fI_nonneg.1 k))).symm
  generalize pB (∃ i, i < n ∧ g i = x) = r at *
  generalize fI (fun i => g i = x) n = z at *
  clear hl
  go_enter Try.func29, Try.ntmps29
  go_wp2_with fail
  refine (s1.out _ hR).mono ?_
  rintro e w1 ⟨rfl, rfl⟩
  go_wp2_with fail
  go_ret
  exact ⟨by rw [hr.out]; rfl, rfl⟩
set_option maxRecDepth 100000 in
set_option maxHeartbeats 800000 in
theorem s_has10 (a : Option Addr) (n c : Nat) (g : Nat → Int) (x : Int) (w : World) (hl : n ≤ 1048576) (hR : RowInt a n g w) :
    Calls Try.prog 16 #[.slice a n c, .int .i64 x] w fun e w' => e = .returned (.bool (pB (∃ i, i < n ∧ g i = x))) ∧ w' = w := by
  have hT : Hid ((∃ i, i < n ∧ g i = x) → pB (∃ i, i < n ∧ g i = x) = true) := pB_t
  have hF : Hid (¬ (∃ i, i < n ∧ g i = x) → pB (∃ i, i < n ∧ g i = x) = false) := pB_f
  generalize pB (∃ i, i < n ∧ g i = x) = r at *
  go_enter Try.func16, Try.ntmps16
  go_wp2_with fail
  go_loop [9] (fun y => ∃ k : Nat, y = .int .i64 k ∧ k ≤ n ∧ Hid (∀ j, j < k → g j ≠ x)) (fun y => n - (intOf y).toNat)
  case atStart => exact ⟨0, rfl, Nat.zero_le _, fun j hj => absurd hj (by omega)⟩
  case round =>
    obtain ⟨k, rfl, hk, hall⟩ := hrel
    by_cases hlt : k < n
    · obtain ⟨b, off, rfl, hbw, u0⟩ := hR k hlt
      have hlt' : (k : Int) < (n : Int) := by omega
      by_cases hg : g k = x
      · have hE := hide (hT.out ⟨k, hlt, hg⟩)
        have hg' : (g k == x) = true := by simp [hg]
        clear hall hR hT hF hg
        generalize g k = z at *
        go_wp2_with fail
        go_ret
        exact ⟨by rw [hE.out]; rfl, rfl⟩
      · have hN : Hid (∀ j, j < k + 1 → g j ≠ x) := fun j hj => by
          by_cases e : j = k
          · subst e; exact hg
          · exact hall.out j (by omega)
        have hg' : (g k == x) = false := by simpa using hg
        clear hall hR hT hF hg
        generalize g k = z at *
        go_wp2_with fail
        exact ⟨⟨k + 1, by go_num, by omega, hN⟩, by simp [intOf]; omega⟩
    · have hlt' : ¬ (k : Int) < (n : Int) := by omega
      obtain rfl : k = n := by omega
      have hE := hide (hF.out (fun ⟨i, hi, h⟩ => hall.out i hi h))
      clear hall hT hF
      go_wp2_with fail
      go_ret
      exact ⟨by rw [hE.out]; rfl, rfl⟩
end Go.Proofs.Ytgjohkpicajhpaa
