/- What the specification's l6Empty, GoodRegex and TakesEmpty answer. -/
import Derived.Test.YtflakkbodbnndaaI6
import Derived.Test.YtflakkbodbnndaaS6c
/- What the program's readRegex, GoodRegex and TakesEmpty answer. -/
namespace Go.Proofs.Ytflakkbodbnndaa
open Go.RowKit

set_option maxRecDepth 100000 in
set_option maxHeartbeats 800000 in
theorem i_take_nil (a : Option Addr) (cap : Nat) (w : World) : Calls Try.prog 120 #[.slice a 0 cap] w (TakeNo w) := by
  go_enter Try.func120, Try.ntmps120
  go_wp2_with fail
  go_ret3
  exact ⟨_, _, .inl rfl, ⟨_, _, _, rfl⟩, rfl, Below.refl _ _⟩
theorem i_take (f : Nat) : ∀ (L : List Cl), L.length ≤ f → f ≤ 1000 → ∀ (a : Option Addr) (cap : Nat) (w : World), L.length ≤ cap → RowQ a L w →
    Calls Try.prog 120 #[.slice a L.length cap] w (TakeP (rd f L) w) := by
  induction f with
  | zero =>
    intro L h0 _ a cap w _ _
    obtain rfl : L = [] := List.eq_nil_of_length_eq_zero (by omega)
    exact i_take_nil a cap w
  | succ f ih =>
    intro L hf h1 a cap w hc hR
    cases L with
    | nil => exact i_take_nil a cap w
    | cons c L =>
      obtain ⟨k, n⟩ := c
      simp only [List.length_cons] at hf h1 hc
      obtain ⟨b, off, rfl, _⟩ := hR 0 (by simp)
      have two := i_two L (f := f) (by omega) (fun L' h a cap w hc hR => ih L' h (by omega) a cap w hc hR)
      have one := ih L (by omega) (by omega)
      show Calls Try.prog 120 #[.slice (some ⟨b, off, none⟩) (L.length + 1) cap] w (TakeP (rd (f + 1) ((k, n) :: L)) w)
      cases hg : gcB k n with
      | false => rw [rd_bad hg]; exact i_take_bad b off k n L cap w (by omega) hc hR hg
      | true =>
        obtain ⟨k1, k7⟩ := gcB_bd hg
        by_cases c3 : k = 3
        · subst c3
          rw [rd_3 f L hg]
          exact i_take_one b off n L cap w (by omega) hc hR hg
        · have n0 := gcB_zero hg c3
          subst n0
          rcases (show k = 1 ∨ k = 2 ∨ k = 4 ∨ k = 5 ∨ k = 6 ∨ k = 7 by omega) with rfl | rfl | rfl | rfl | rfl | rfl
          · rw [rd_1]; exact i_take_non b off L cap w (by omega) hc hR
          · rw [rd_2]; exact i_take_emp b off L cap w (by omega) hc hR
          · rw [rd_4]; exact i_take_any b off L cap w (by omega) hc hR
          · rw [rd_5]; exact i_take_thn b off L cap w (by omega) hc hR two
          · rw [rd_6]; exact i_take_alt b off L cap w (by omega) hc hR two
          · rw [rd_7]; exact i_take_str b off L cap w (by omega) hc hR one
def RgP : Option Re → World → Ending → World → Prop
  | none => fun w e w' => ∃ p, IfV p ∧ e = .returned (.tuple #[p, .bool false]) ∧ Below w.heap.size w w'
  | some t => fun w e w' => e = .returned (.tuple #[pv t, .bool true]) ∧ Below w.heap.size w w'
set_option maxRecDepth 100000 in
set_option maxHeartbeats 1600000 in
theorem i_readRegex (a : Option Addr) (cap : Nat) (L : List Cl) (w : World) (hm : L.length ≤ 8589934592) (hc : L.length ≤ cap) (hR : RowQ a L w) : Calls Try.prog 112 #[.slice a L.length cap] w (RgP (rg L) w) := by
  by_cases h30 : L.length ≤ 30
  · have S1 := hide (i_take L.length L (Nat.le_refl _) (by omega) a cap)
    have h30' : ¬ ((L.length : Int) > 30) := by omega
    cases h1 : rd L.length L with
    | none =>
      rw [show rg L = none from by simp [rg, h30, h1]]
      rw [h1] at S1
      show Calls Try.prog 112 #[.slice a L.length cap] w fun e w' => ∃ p, IfV p ∧ e = .returned (.tuple #[p, .bool false]) ∧ Below w.heap.size w w'
      clear h1
      go_enter Try.func112, Try.ntmps112
      go_wp2_with fail
      refine (S1.out _ hc hR).mono ?_
      rintro e w1 ⟨p, v, hp, ⟨va, vn, vc, rfl⟩, rfl, b1⟩
      go_wp2_with fail
      go_ret2
      exact ⟨_, hp, rfl, b1⟩
    | some x =>
      obtain ⟨t, R⟩ := x
      have hl := rd_len h1
      rw [h1] at S1
      cases R with
      | nil =>
        rw [show rg L = some t from by simp [rg, h30, h1]]
        show Calls Try.prog 112 #[.slice a L.length cap] w fun e w' => e = .returned (.tuple #[pv t, .bool true]) ∧ Below w.heap.size w w'
        clear h1
        go_enter Try.func112, Try.ntmps112
        go_wp2_with fail
        refine (S1.out _ hc hR).mono ?_
        rintro e w1 ⟨a2, c2, rfl, _, _, b1⟩
        simp only [List.length_nil]
        go_wp2_with fail
        go_ret2
        exact ⟨rfl, b1⟩
      | cons c R =>
        rw [show rg L = none from by simp [rg, h30, h1]]
        show Calls Try.prog 112 #[.slice a L.length cap] w fun e w' => ∃ p, IfV p ∧ e = .returned (.tuple #[p, .bool false]) ∧ Below w.heap.size w w'
        have hl2 : R.length + 1 ≤ 30 := by simp only [List.length_cons] at hl; omega
        have hne : (((R.length : Int) + 1) == 0) = false := by have : (R.length : Int) + 1 ≠ 0 := by omega
                                                               simpa using this
        clear h1 hl
        go_enter Try.func112, Try.ntmps112
        go_wp2_with fail
        refine (S1.out _ hc hR).mono ?_
        rintro e w1 ⟨a2, c2, rfl, _, _, b1⟩
        simp only [List.length_cons]
        go_wp2_with fail
        go_ret2
        exact ⟨_, pv_if t, rfl, b1⟩
  · rw [show rg L = none from by simp [rg, h30]]
    show Calls Try.prog 112 #[.slice a L.length cap] w fun e w' => ∃ p, IfV p ∧ e = .returned (.tuple #[p, .bool false]) ∧ Below w.heap.size w w'
    have h30' : (L.length : Int) > 30 := by omega
    go_enter Try.func112, Try.ntmps112
    go_wp2_with fail
    go_ret2
    exact ⟨_, .inl rfl, rfl, Below.refl _ _⟩
set_option maxRecDepth 100000 in
set_option maxHeartbeats 800000 in
theorem i_goodRegex (a : Option Addr) (cap : Nat) (L : List Cl) (w : World) (hm : L.length ≤ 8589934592) (hc : L.length ≤ cap) (hR : RowQ a L w) : Calls Try.prog 99 #[.slice a L.length cap] w fun e w' => e = .returned (.bool (rgB L)) ∧ Below w.heap.size w w' := by
  have S1 := hide (fun w hR => i_readRegex a cap L w hm hc hR)
  cases h : rg L with
  | none =>
    rw [show rgB L = false from by simp [rgB, h]]
    rw [h] at S1
    go_enter Try.func99, Try.ntmps99
    go_wp2_with fail
    refine (S1.out _ hR).mono ?_
    rintro e w1 ⟨p, hp, rfl, b1⟩
    go_wp2_with fail
    go_ret
    exact ⟨rfl, b1⟩
  | some t =>
    rw [show rgB L = true from by simp [rgB, h]]
    rw [h] at S1
    go_enter Try.func99, Try.ntmps99
    go_wp2_with fail
    refine (S1.out _ hR).mono ?_
    rintro e w1 ⟨rfl, b1⟩
    go_wp2_with fail
    go_ret
    exact ⟨rfl, b1⟩
end Go.Proofs.Ytflakkbodbnndaa

namespace Go.Proofs.Ytflakkbodbnndaa
open Go.RowKit

/-- A tree as the specification hands it over. -/
abbrev tv (t : Re) (k : Option Addr × Nat × Nat) : Value := .agg #[.int .i64 t.kind, .int .i64 t.num, .slice k.1 k.2.1 k.2.2]
theorem RowK.one0 {g : Nat} {x y : Int} {z : Option Addr × Nat × Nat} {L : List Kd} {w : World} (h : RowK (some ⟨g, 0, none⟩) ((x, y, z) :: L) w) : g < w.heap.size ∧ w.cell? ⟨g, 0, none⟩ = some (.int .i64 x) ∧ w.cell? ⟨g, 1, none⟩ = some (.int .i64 y) ∧ w.cell? ⟨g, 2, none⟩ = some (.slice z.1 z.2.1 z.2.2) := by
  obtain ⟨b, off, ha, hb, h0, h1, h2⟩ := h 0 (by simp)
  simp only [Option.some.injEq, Addr.mk.injEq, and_true] at ha
  obtain ⟨rfl, rfl⟩ := ha
  rw [kAt_zero] at h0 h1 h2
  simp only [Nat.zero_mul, Nat.zero_add] at h0 h1 h2
  exact ⟨hb, h0, h1, h2⟩
theorem RowK.two0 {g : Nat} {e : Kd} {x y : Int} {z : Option Addr × Nat × Nat} {L : List Kd} {w : World} (h : RowK (some ⟨g, 0, none⟩) (e :: (x, y, z) :: L) w) : w.cell? ⟨g, 3, none⟩ = some (.int .i64 x) ∧ w.cell? ⟨g, 4, none⟩ = some (.int .i64 y) ∧ w.cell? ⟨g, 5, none⟩ = some (.slice z.1 z.2.1 z.2.2) := by
  obtain ⟨b, off, ha, hb, h0, h1, h2⟩ := h 1 (by simp)
  simp only [Option.some.injEq, Addr.mk.injEq, and_true] at ha
  obtain ⟨rfl, rfl⟩ := ha
  rw [kAt_cons, kAt_zero] at h0 h1 h2
  simp only [Nat.one_mul, Nat.zero_add, Nat.reduceAdd] at h0 h1 h2
  exact ⟨h0, h1, h2⟩
set_option maxRecDepth 100000 in
set_option maxHeartbeats 800000 in
theorem s_goodRegex (b off cap : Nat) (L : List Cl) (w : World) (hm : L.length ≤ 8589934592) (hR : RowQ (some ⟨b, off, none⟩) L w) : Calls Try.prog 93 #[.slice (some ⟨b, off, none⟩) L.length cap] w fun e w' => e = .returned (.bool (rgB L)) ∧ Below w.heap.size w w' := by
  have S1 := hide (fun w hR => s_tree L b off cap w hm hR)
  cases h : rg L with
  | none =>
    rw [show rgB L = false from by simp [rgB, h]]
    rw [h] at S1
    go_enter Try.func93, Try.ntmps93
    go_wp2_with fail
    refine (S1.out _ hR).mono ?_
    rintro e w1 ⟨x, y, ⟨k1, k2, k3⟩, rfl, b1⟩
    go_wp2_with fail
    go_ret
    exact ⟨rfl, b1.alloc b1.size _⟩
  | some t =>
    rw [show rgB L = true from by simp [rgB, h]]
    rw [h] at S1
    go_enter Try.func93, Try.ntmps93
    go_wp2_with fail
    refine (S1.out _ hR).mono ?_
    rintro e w1 ⟨⟨k1, k2, k3⟩, rfl, _, b1⟩
    go_wp2_with fail
    go_ret
    exact ⟨rfl, b1.alloc b1.size _⟩
end Go.Proofs.Ytflakkbodbnndaa
