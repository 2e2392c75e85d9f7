/- GoodAlgebra of the program. -/
import Derived.Test.YtelehmkmdbhcfaaS9a
namespace Go.Proofs.Ytelehmkmdbhcfaa
open Go.RowKit

set_option maxRecDepth 100000 in
set_option maxHeartbeats 800000 in
/-- slices.min of numbers that are not none: one of them, and no other is beyond it. -/
theorem i_minI (a : Option Addr) (n c : Nat) (f : Nat → Int) (w : World) (h0 : 0 < n) (hn : n ≤ 1048576) (hR : RowInt a n f w) :
    Calls Try.prog 54 #[.slice a n c] w fun e w' => ∃ x : Int, e = .returned (.int .i64 x) ∧ (∃ i, i < n ∧ x = f i) ∧ (∀ i, i < n → x ≤ f i) ∧ w' = w := by
  obtain ⟨b, off, ha, hbw, u0⟩ := hR 0 h0
  have h1 : ¬ ((n : Int) < 1) := by omega
  rw [Nat.add_zero] at u0
  subst ha
  go_enter Try.func54, Try.ntmps54
  go_wp2_with fail
  go_loop [3, 4] (fun m y => ∃ (k : Nat) (x : Int), m = .int .i64 x ∧ y = .int .i64 k ∧ 1 ≤ k ∧ k ≤ n ∧ Hid ((∃ i, i < n ∧ x = f i) ∧ ∀ i, i < k → x ≤ f i)) (fun _ y => n - (intOf y).toNat)
  case atStart => exact ⟨1, f 0, rfl, rfl, Nat.le_refl _, h0, ⟨0, h0, rfl⟩, fun i hi => (show i = 0 by omega) ▸ Int.le_refl _⟩
  case round =>
    obtain ⟨k, x, rfl, rfl, hk1, hk, hx⟩ := hrel
    by_cases hlt : k < n
    · obtain ⟨b', off', hab, hbw', v0⟩ := hR k hlt
      simp only [Option.some.injEq, Addr.mk.injEq, and_true] at hab
      obtain ⟨rfl, rfl⟩ := hab
      have hlt' : (k : Int) < (n : Int) := by omega
      by_cases hc : x ≤ f k
      · have hm : min x (f k) = x := by omega
        have hN : Hid ((∃ i, i < n ∧ x = f i) ∧ ∀ i, i < k + 1 → x ≤ f i) := ⟨hx.out.1, fun i hi => by
          by_cases e : i = k
          · subst e; exact hc
          · exact hx.out.2 i (by omega)⟩
        clear hx hR u0
        generalize f k = y at *
        go_wp2_with fail
        exact ⟨⟨k + 1, x, (by first | rfl | (rw [hm])), by go_num, by omega, by omega, hN⟩, by simp [intOf]; omega⟩
      · have hm : min x (f k) = f k := by omega
        have hN : Hid ((∃ i, i < n ∧ f k = f i) ∧ ∀ i, i < k + 1 → f k ≤ f i) := ⟨⟨k, hlt, rfl⟩, fun i hi => by
          by_cases e : i = k
          · subst e; omega
          · have := hx.out.2 i (by omega)
            omega⟩
        clear hx hR u0
        generalize f k = y at *
        go_wp2_with fail
        exact ⟨⟨k + 1, y, (by first | rfl | (rw [hm])), by go_num, by omega, by omega, hN⟩, by simp [intOf]; omega⟩
    · obtain rfl : k = n := by omega
      have hlt' : ¬ ((k : Int) < (k : Int)) := by omega
      clear hR u0
      go_wp2_with fail
      go_ret
      exact ⟨x, rfl, hx.out.1, hx.out.2, rfl⟩
set_option maxRecDepth 100000 in
set_option maxHeartbeats 800000 in
/-- slices.max of numbers that are not none: one of them, and no other is beyond it. -/
theorem i_maxI (a : Option Addr) (n c : Nat) (f : Nat → Int) (w : World) (h0 : 0 < n) (hn : n ≤ 1048576) (hR : RowInt a n f w) :
    Calls Try.prog 55 #[.slice a n c] w fun e w' => ∃ x : Int, e = .returned (.int .i64 x) ∧ (∃ i, i < n ∧ x = f i) ∧ (∀ i, i < n → x ≥ f i) ∧ w' = w := by
  obtain ⟨b, off, ha, hbw, u0⟩ := hR 0 h0
  have h1 : ¬ ((n : Int) < 1) := by omega
  rw [Nat.add_zero] at u0
  subst ha
  go_enter Try.func55, Try.ntmps55
  go_wp2_with fail
  go_loop [3, 4] (fun m y => ∃ (k : Nat) (x : Int), m = .int .i64 x ∧ y = .int .i64 k ∧ 1 ≤ k ∧ k ≤ n ∧ Hid ((∃ i, i < n ∧ x = f i) ∧ ∀ i, i < k → x ≥ f i)) (fun _ y => n - (intOf y).toNat)
  case atStart => exact ⟨1, f 0, rfl, rfl, Nat.le_refl _, h0, ⟨0, h0, rfl⟩, fun i hi => (show i = 0 by omega) ▸ Int.le_refl _⟩
  case round =>
    obtain ⟨k, x, rfl, rfl, hk1, hk, hx⟩ := hrel
    by_cases hlt : k < n
    · obtain ⟨b', off', hab, hbw', v0⟩ := hR k hlt
      simp only [Option.some.injEq, Addr.mk.injEq, and_true] at hab
      obtain ⟨rfl, rfl⟩ := hab
      have hlt' : (k : Int) < (n : Int) := by omega
      by_cases hc : x ≥ f k
      · have hm : max x (f k) = x := by omega
        have hN : Hid ((∃ i, i < n ∧ x = f i) ∧ ∀ i, i < k + 1 → x ≥ f i) := ⟨hx.out.1, fun i hi => by
          by_cases e : i = k
          · subst e; exact hc
          · exact hx.out.2 i (by omega)⟩
        clear hx hR u0
        generalize f k = y at *
        go_wp2_with fail
        exact ⟨⟨k + 1, x, (by first | rfl | (rw [hm])), by go_num, by omega, by omega, hN⟩, by simp [intOf]; omega⟩
      · have hm : max x (f k) = f k := by omega
        have hN : Hid ((∃ i, i < n ∧ f k = f i) ∧ ∀ i, i < k + 1 → f k ≥ f i) := ⟨⟨k, hlt, rfl⟩, fun i hi => by
          by_cases e : i = k
          · subst e; omega
          · have := hx.out.2 i (by omega)
            omega⟩
        clear hx hR u0
        generalize f k = y at *
        go_wp2_with fail
        exact ⟨⟨k + 1, y, (by first | rfl | (rw [hm])), by go_num, by omega, by omega, hN⟩, by simp [intOf]; omega⟩
    · obtain rfl : k = n := by omega
      have hlt' : ¬ ((k : Int) < (k : Int)) := by omega
      clear hR u0
      go_wp2_with fail
      go_ret
      exact ⟨x, rfl, hx.out.1, hx.out.2, rfl⟩
set_option maxRecDepth 100000 in
set_option maxHeartbeats 1600000 in
theorem i_apply9 (g : Int) (a : Option Addr) (c : Nat) (t : Lc) (w : World) (hg : 2 ≤ g) (hg' : g ≤ 12) (hl : t.n ≤ 1048576) (hR : RowInt a t.n t.f w) :
    Calls Try.prog 49 #[.int .i64 g, .slice a t.n c] w fun e w' => e = .returned (.bool (pB (RowOk g t))) ∧ Below w.heap.size w w' := by
  have hT : Hid (RowOk g t → pB (RowOk g t) = true) := pB_t
  have hF : Hid (¬ RowOk g t → pB (RowOk g t) = false) := pB_f
  generalize pB (RowOk g t) = r at *
  by_cases he : (t.n : Int) = g
  · have MI := hide (fun w R => i_minI a t.n c t.f w (by omega) hl R)
    have MA := hide (fun w R => i_maxI a t.n c t.f w (by omega) hl R)
    obtain ⟨b, off, rfl, hbw, h0⟩ := hR (t.n - 1) (by omega)
    have e2 : g - 1 = ((t.n - 1 : Nat) : Int) := by omega
    have hnb : ((t.n : Int) != g) = false := by simp [he]
    by_cases hx : t.f (t.n - 1) = g - 1
    · have hT' : Hid ((∀ i, i < t.n → 0 ≤ t.f i ∧ t.f i < g) → r = true) := fun h => hT.out ⟨he, hx, h⟩
      have hF' : Hid (¬ (∀ i, i < t.n → 0 ≤ t.f i ∧ t.f i < g) → r = false) := fun h => hF.out (fun k => h k.2.2)
      rw [hx, e2] at h0
      clear hT hF hx
      generalize hj : t.n - 1 = j at *
      have hjl : (j : Int) < (t.n : Int) := by omega
      have hjn : ((j : Int) != (j : Int)) = false := by simp
      go_enter Try.func49, Try.ntmps49
      go_wp2_with fail
      refine (MI.out _ hR).mono ?_
      rintro e w1 ⟨x, rfl, ⟨i, hi, hxi⟩, hall, hw1⟩
      rw [hw1]; clear hw1 w1
      by_cases hx0 : x ≥ 0
      · go_wp2_with fail
        refine (MA.out _ hR).mono ?_
        rintro e w1 ⟨y, rfl, ⟨i2, hi2, hyi⟩, hall2, hw1⟩
        rw [hw1]; clear hw1 w1
        have hr : Hid (r = decide (y < g)) := by
          show r = _
          by_cases hy : y < g
          · rw [hT'.out (fun q hq => ⟨by have := hall q hq; omega, by have := hall2 q hq; omega⟩)]; simp [hy]
          · rw [hF'.out (fun h => by have := (h i2 hi2).2; omega)]; simp [hy]
        clear hT' hF' hall hall2 hxi hyi MI MA
        go_wp2_with fail
        go_ret
        exact ⟨by rw [hr.out]; rfl, Below.refl _ _⟩
      · have hE := hide (hF'.out (fun h => by have := (h i hi).1; omega))
        clear hT' hF' hall hxi MI MA
        go_wp2_with fail
        go_ret
        exact ⟨by rw [hE.out]; rfl, Below.refl _ _⟩
    · have hE := hide (hF.out (fun k => hx k.2.1))
      clear hT hF MI MA hR
      generalize hj : t.n - 1 = j at *
      have hjl : (j : Int) < (t.n : Int) := by omega
      generalize t.f j = x at *
      have hjn : (x != (j : Int)) = true := by rw [e2] at hx; simpa using hx
      go_enter Try.func49, Try.ntmps49
      go_wp2_with fail
      go_ret
      exact ⟨by rw [hE.out]; rfl, Below.refl _ _⟩
  · have hE := hide (hF.out (fun k => he k.1))
    have hnb : ((t.n : Int) != g) = true := by simpa using he
    clear hT hF hR
    go_enter Try.func49, Try.ntmps49
    go_wp2_with fail
    go_ret
    exact ⟨by rw [hE.out]; rfl, Below.refl _ _⟩
set_option maxRecDepth 100000 in
set_option maxHeartbeats 400000 in
theorem i_goodRow (g : Int) (a : Option Addr) (c : Nat) (t : Lc) (p : Nat) (w : World) (hg : 2 ≤ g) (hg' : g ≤ 12) (hl : t.n ≤ 1048576) (hR : RowInt a t.n t.f w) (hp : w.cell? ⟨p, 0, none⟩ = some (.int .i64 g)) :
    Calls Try.prog 48 #[.slice a t.n c, .pointer (some ⟨p, 0, none⟩)] w fun e w' => e = .returned (.bool (pB (RowOk g t))) ∧ Below w.heap.size w w' := by
  have A := hide (fun w R => i_apply9 g a c t w hg hg' hl R)
  clear hg hg' hl
  generalize t.n = tn at *
  go_enter Try.func48, Try.ntmps48
  go_wp2_with fail
  refine (A.out _ hR).mono ?_
  rintro e w1 ⟨rfl, b1⟩
  go_wp2_with fail
  go_ret
  exact ⟨rfl, b1⟩
set_option maxRecDepth 100000 in
set_option maxHeartbeats 1600000 in
theorem i_everyRow (g : Int) (a : Option Addr) (n c : Nat) (T : Nat → Lc) (p : Nat) (w : World) (hg : 2 ≤ g) (hg' : g ≤ 12) (hn : n ≤ 4) (hl : LowL n T) (hR : RowLL a n T w) (hpl : p < w.heap.size) (hp : w.cell? ⟨p, 0, none⟩ = some (.int .i64 g)) :
    Calls Try.prog 47 #[.agg #[.slice a n c], .func (.func 48) #[] #[.pointer (some ⟨p, 0, none⟩)]] w fun e w' => e = .returned (.bool (pB (∀ k, k < n → RowOk g (T k)))) ∧ Below w.heap.size w w' := by
  have hT : Hid ((∀ k, k < n → RowOk g (T k)) → pB (∀ k, k < n → RowOk g (T k)) = true) := pB_t
  have hF : Hid (¬ (∀ k, k < n → RowOk g (T k)) → pB (∀ k, k < n → RowOk g (T k)) = false) := pB_f
  generalize pB (∀ k, k < n → RowOk g (T k)) = r at *
  have dX : Below w.heap.size w (w.alloc (.cells #[.slice a n c] 88)) := below_box (Below.refl _ _)
  go_enter Try.func47, Try.ntmps47
  go_wp2_with fail
  generalize w.alloc (.cells #[.slice a n c] 88) = wx at *
  go_loopw [4, 10] (fun _ y wr => ∃ k : Nat, y = .int .i64 k ∧ k ≤ n ∧ Hid (∀ i, i < k → RowOk g (T i)) ∧ Below w.heap.size w wr) (fun _ y _ => n - (intOf y).toNat)
  case atStart => exact ⟨0, rfl, Nat.zero_le _, fun i hi => absurd hi (by omega), dX⟩
  case round =>
    obtain ⟨k, rfl, hk, hall, hb⟩ := hrel
    by_cases hlt : k < n
    · obtain ⟨b, off, a0, q0, rfl, hbw, u0, ht⟩ := hR k hlt
      replace u0 := (hb.cell (p := ⟨b, off + k, none⟩) hbw).trans u0
      have hlt' : (k : Int) < (n : Int) := by omega
      have AP := hide (fun w R Q => i_goodRow g a0 q0 (T k) p w hg hg' (hl k hlt) R Q)
      have hT9 := hide (ht.below hb)
      have hp9 := hide ((hb.cell (p := ⟨p, 0, none⟩) hpl).trans hp)
      by_cases hok : RowOk g (T k)
      · rw [pB_t hok] at AP
        have hN : Hid (∀ j, j < k + 1 → RowOk g (T j)) := fun j hj => by
          by_cases e : j = k
          · subst e; exact hok
          · exact hall.out j (by omega)
        clear hall hT hF hR ht hl hok hp
        generalize (T k).n = tn at *
        go_wp2_with (first | (go_at_call 48; refine (AP.out _ hT9.out hp9.out).mono ?_; rintro e w3 ⟨rfl, b3⟩; have d3 := hb.trans (b3.mono hb.size)))
        exact ⟨⟨k + 1, by go_num, by omega, hN, d3⟩, by simp [intOf]; omega⟩
      · rw [pB_f hok] at AP
        have hE := hide (hF.out (fun h => hok (h k hlt)))
        clear hall hT hF hR ht hl hok hp
        generalize (T k).n = tn at *
        go_wp2_with (first | (go_at_call 48; refine (AP.out _ hT9.out hp9.out).mono ?_; rintro e w3 ⟨rfl, b3⟩; have d3 := hb.trans (b3.mono hb.size)))
        go_ret
        exact ⟨by rw [hE.out]; rfl, d3⟩
    · have hlt' : ¬ (k : Int) < (n : Int) := by omega
      obtain rfl : k = n := by omega
      have hE := hide (hT.out hall.out)
      clear hall hT hF hR hl
      go_wp2_with fail
      go_ret
      exact ⟨by rw [hE.out]; rfl, hb⟩
set_option maxRecDepth 100000 in
set_option maxHeartbeats 1600000 in
theorem i_goodAlgebra (g : Int) (a : Option Addr) (n c : Nat) (T : Nat → Lc) (w : World) (hn : n ≤ 1048576) (hl : LowL n T) (hR : RowLL a n T w) :
    Calls Try.prog 36 #[.agg #[.int .i64 g, .slice a n c]] w fun e w' => e = .returned (.bool (gaB g n T)) ∧ Below w.heap.size w w' := by
  have hF : Hid (¬ GA g n T → gaB g n T = false) := pB_f
  have MX := Mut.new w #[.int .i64 g, .slice a n c] 31
  have dX : Below w.heap.size w (w.alloc (.cells #[.int .i64 g, .slice a n c] 31)) := below_box (Below.refl _ _)
  by_cases h1 : g < 2
  · have hE := hide (hF.out (fun h => by have := h.1; omega))
    clear hF hl hR
    go_enter Try.func36, Try.ntmps36
    go_wp2_with fail
    go_ret
    exact ⟨by rw [hE.out]; rfl, dX⟩
  · by_cases h2 : g > 12
    · have hE := hide (hF.out (fun h => by have := h.2.1; omega))
      clear hF hl hR
      go_enter Try.func36, Try.ntmps36
      go_wp2_with fail
      go_ret
      exact ⟨by rw [hE.out]; rfl, dX⟩
    · by_cases h3 : n = 0
      · subst h3
        have hE := hide (hF.out (fun h => by have := h.2.2.1; omega))
        clear hF hl hR
        go_enter Try.func36, Try.ntmps36
        go_wp2_with fail
        go_ret
        exact ⟨by rw [hE.out]; rfl, dX⟩
      · have h3' : ((n : Int) == 0) = false := by simp; omega
        by_cases h4 : (n : Int) > 4
        · have hE := hide (hF.out (fun h => by have := h.2.2.2.1; omega))
          clear hF hl hR
          go_enter Try.func36, Try.ntmps36
          go_wp2_with fail
          go_ret
          exact ⟨by rw [hE.out]; rfl, dX⟩
        · have hE : Hid (pB (∀ k, k < n → RowOk g (T k)) = gaB g n T) := pB_congr ⟨fun h => ⟨by omega, by omega, by omega, by omega, h⟩, fun h => h.2.2.2.2⟩
          have EV := hide (fun p w R hpl hp => i_everyRow g a n c T p w (by omega) (by omega) (by omega) hl R hpl hp)
          have M2 := MX.alloc (.cells #[.slice a n c] 88)
          have d2 : Below w.heap.size w ((w.alloc (.cells #[.int .i64 g, .slice a n c] 31)).alloc (.cells #[.slice a n c] 88)) := below_box2 (Below.refl _ _)
          clear hF hl
          go_enter Try.func36, Try.ntmps36
          go_wp2_with fail
          refine (EV.out _ _ (hR.below d2) M2.1 (M2.2.1 0 _ rfl)).mono ?_
          rintro e w1 ⟨rfl, b1⟩
          go_wp2_with fail
          go_ret
          exact ⟨by rw [hE.out]; rfl, d2.trans (b1.mono d2.size)⟩
end Go.Proofs.Ytelehmkmdbhcfaa
