/- GoodAlgebra, IsMonotone and IsIsotone of the specification. -/
import Derived.Test.YtelehmkmdbhcfaaPlain9
import Derived.Test.YtelehmkmdbhcfaaAll3
namespace Go.Proofs.Ytelehmkmdbhcfaa
open Go.RowKit

noncomputable def gaB (g : Int) (m : Nat) (T : Nat → Lc) : Bool := pB (GA g m T)
noncomputable def moB (g : Int) (m : Nat) (T : Nat → Lc) : Bool := pB (GA g m T ∧ MO m T)
noncomputable def isB (g : Int) (m : Nat) (T : Nat → Lc) : Bool := pB (GA g m T ∧ IS m T)
set_option maxRecDepth 100000 in
set_option maxHeartbeats 800000 in
theorem s_apply9 (g : Int) (a : Option Addr) (c : Nat) (t : Lc) (w : World) (hg : 2 ≤ g) (hg' : g ≤ 12) (hl : t.n ≤ 1048576) (hR : RowInt a t.n t.f w) :
    Calls Try.prog 46 #[.slice a t.n c, .int .i64 g] w fun e w' => e = .returned (.bool (pB (RowOk g t))) ∧ Below w.heap.size w w' := by
  have hT : Hid (RowOk g t → pB (RowOk g t) = true) := pB_t
  have hF : Hid (¬ RowOk g t → pB (RowOk g t) = false) := pB_f
  generalize pB (RowOk g t) = r at *
  go_enter Try.func46, Try.ntmps46
  go_wp2_with fail
  go_loop [4, 9] (fun _ i => ∃ k : Nat, k ≤ t.n ∧ i = .int .i64 k ∧ Hid (∀ j, j < k → 0 ≤ t.f j ∧ t.f j < g)) (fun _ i => t.n - (intOf i).toNat)
  case atStart => exact ⟨0, Nat.zero_le _, rfl, fun j hj => absurd hj (Nat.not_lt_zero _)⟩
  case round =>
    obtain ⟨k, hk, rfl, hall⟩ := hrel
    by_cases hlt : k < t.n
    · obtain ⟨b, off, rfl, hbw, h0⟩ := hR k hlt
      have hlt' : (k : Int) < (t.n : Int) := by omega
      clear hR
      by_cases h1 : t.f k < 0
      · have hE := hide (hF.out (fun h => by have := (h.2.2 k hlt).1; omega))
        clear hall hT hF
        generalize t.f k = x at *
        go_wp2_with fail
        go_ret
        exact ⟨by rw [hE.out]; rfl, Below.refl _ _⟩
      · by_cases h2 : t.f k ≥ g
        · have hE := hide (hF.out (fun h => by have := (h.2.2 k hlt).2; omega))
          clear hall hT hF
          generalize t.f k = x at *
          go_wp2_with fail
          go_ret
          exact ⟨by rw [hE.out]; rfl, Below.refl _ _⟩
        · have hN : Hid (∀ j, j < k + 1 → 0 ≤ t.f j ∧ t.f j < g) := fun j hj => by
            by_cases e : j = k
            · subst e; omega
            · exact hall.out j (by omega)
          clear hall hT hF
          generalize t.f k = x at *
          go_wp2_with fail
          exact ⟨⟨k + 1, by omega, by go_num, hN⟩, by simp [intOf]; omega⟩
    · obtain rfl : k = t.n := by omega
      have hlt' : ¬ ((t.n : Int) < (t.n : Int)) := by omega
      by_cases he : (t.n : Int) = g
      · obtain ⟨b, off, rfl, hbw, h0⟩ := hR (t.n - 1) (by omega)
        have hEq : Hid (t.f (t.n - 1) = g - 1 → r = true) := fun h => hT.out ⟨he, h, hall.out⟩
        have hNe : Hid (¬ t.f (t.n - 1) = g - 1 → r = false) := fun h => hF.out (fun k => h k.2.1)
        clear hall hT hF hR
        have e2 : (t.n : Int) - 1 = ((t.n - 1 : Nat) : Int) := by omega
        subst he
        generalize hj : t.n - 1 = j at *
        have hjl : (j : Int) < (t.n : Int) := by omega
        have d0 : Below w.heap.size w w := Below.refl _ _
        have hr : Hid (r = (t.f j == (j : Int))) := by
          show r = _
          by_cases e : t.f j = (t.n : Int) - 1
          · rw [hEq.out e, e, e2]; simp
          · rw [hNe.out e, ← e2]; exact (beq_eq_false_iff_ne.2 e).symm
        clear hEq hNe hj
        generalize t.f j = x at *
        go_wp2_with fail
        go_ret
        exact ⟨by rw [hr.out]; rfl, d0⟩
      · have hE := hide (hF.out (fun h => he h.1))
        have he' : ((t.n : Int) == g) = false := by simpa using he
        clear hall hT hF hR
        go_wp2_with fail
        go_ret
        exact ⟨by rw [hE.out]; rfl, Below.refl _ _⟩
set_option maxRecDepth 100000 in
set_option maxHeartbeats 1600000 in
theorem s_goodAlgebra (g : Int) (a : Option Addr) (n c : Nat) (T : Nat → Lc) (w : World) (hn : n ≤ 1048576) (hl : LowL n T) (hR : RowLL a n T w) :
    Calls Try.prog 34 #[.agg #[.int .i64 g, .slice a n c]] w fun e w' => e = .returned (.bool (gaB g n T)) ∧ Below w.heap.size w w' := by
  have hT : Hid (GA g n T → gaB g n T = true) := pB_t
  have hF : Hid (¬ GA g n T → gaB g n T = false) := pB_f
  generalize gaB g n T = r at *
  have S1 := hide (fun w => s_in g 2 12 w)
  have S2 := hide (fun w => s_in (n : Int) 1 4 w)
  have MX := Mut.new w #[.int .i64 g, .slice a n c] 31
  have dX : Below w.heap.size w (w.alloc (.cells #[.int .i64 g, .slice a n c] 31)) := below_box (Below.refl _ _)
  by_cases h1 : 2 ≤ g ∧ g ≤ 12
  · rw [inB_t h1.1 h1.2] at S1
    by_cases h2 : 1 ≤ n ∧ n ≤ 4
    · rw [inB_t (by omega) (by omega)] at S2
      have c0 := MX.2.1 0 _ rfl
      have c1 := MX.2.1 1 _ rfl
      have hnn : (n : Int) ≤ 4 := by omega
      go_enter Try.func34, Try.ntmps34
      go_wp2_with fail
      generalize hwx : w.alloc (.cells #[.int .i64 g, .slice a n c] 31) = wx at *
      refine (S1.out _).mono ?_
      rintro e w1 ⟨rfl, hw1⟩
      rw [hw1]; clear hw1 w1
      go_wp2_with fail
      refine (S2.out _).mono ?_
      rintro e w1 ⟨rfl, hw1⟩
      rw [hw1]; clear hw1 w1
      go_wp2_with fail
      clear S1 S2
      go_loopw [2, 19] (fun _ y wr => ∃ k : Nat, y = .int .i64 k ∧ k ≤ n ∧ Hid (∀ i, i < k → RowOk g (T i)) ∧ Below wx.heap.size wx wr) (fun _ y _ => n - (intOf y).toNat)
      case atStart => exact ⟨0, rfl, Nat.zero_le _, fun i hi => absurd hi (by omega), Below.refl _ _⟩
      case round =>
        obtain ⟨k, rfl, hk, hall, hb⟩ := hrel
        have MY := MX.below hb
        have c0 := MY.2.1 0 _ rfl
        have c1 := MY.2.1 1 _ rfl
        have dY := dX.trans (hb.mono dX.size)
        by_cases hlt : k < n
        · obtain ⟨b, off, a0, q0, rfl, hbw, u0, ht⟩ := hR k hlt
          replace u0 := (dY.cell (p := ⟨b, off + k, none⟩) hbw).trans u0
          have hlt' : (k : Int) < (n : Int) := by omega
          have AP := hide (fun w R => s_apply9 g a0 q0 (T k) w h1.1 h1.2 (hl k hlt) R)
          have hT9 := hide (ht.below dY)
          by_cases hok : RowOk g (T k)
          · rw [pB_t hok] at AP
            have hN : Hid (∀ j, j < k + 1 → RowOk g (T j)) := fun j hj => by
              by_cases e : j = k
              · subst e; exact hok
              · exact hall.out j (by omega)
            clear hall hT hF hR ht hl hok
            generalize (T k).n = tn at *
            go_wp2_with fail
            refine (AP.out _ hT9.out).mono ?_
            rintro e w3 ⟨rfl, b3⟩
            go_wp2_with fail
            exact ⟨⟨k + 1, by go_num, by omega, hN, hb.trans (b3.mono hb.size)⟩, by simp [intOf]; omega⟩
          · rw [pB_f hok] at AP
            have hE := hide (hF.out (fun h => hok (h.2.2.2.2 k hlt)))
            clear hall hT hF hR ht hl hok
            generalize (T k).n = tn at *
            go_wp2_with fail
            refine (AP.out _ hT9.out).mono ?_
            rintro e w3 ⟨rfl, b3⟩
            go_wp2_with fail
            go_ret
            exact ⟨by rw [hE.out]; rfl, dY.trans (b3.mono dY.size)⟩
        · have hlt' : ¬ (k : Int) < (n : Int) := by omega
          obtain rfl : k = n := by omega
          have hE := hide (hT.out ⟨h1.1, h1.2, h2.1, h2.2, hall.out⟩)
          clear hall hT hF hR hl
          go_wp2_with fail
          go_ret
          exact ⟨by rw [hE.out]; rfl, dY⟩
    · have hE := hide (hF.out (fun h => h2 ⟨h.2.2.1, h.2.2.2.1⟩))
      rw [inB_n (by omega)] at S2
      clear hT hF hR hl
      go_enter Try.func34, Try.ntmps34
      go_wp2_with fail
      refine (S1.out _).mono ?_
      rintro e w1 ⟨rfl, rfl⟩
      go_wp2_with fail
      refine (S2.out _).mono ?_
      rintro e w1 ⟨rfl, rfl⟩
      go_wp2_with fail
      go_ret
      exact ⟨by rw [hE.out]; rfl, dX⟩
  · have hE := hide (hF.out (fun h => h1 ⟨h.1, h.2.1⟩))
    rw [inB_n h1] at S1
    clear hT hF hR hl
    go_enter Try.func34, Try.ntmps34
    go_wp2_with fail
    refine (S1.out _).mono ?_
    rintro e w1 ⟨rfl, rfl⟩
    go_wp2_with fail
    go_ret
    exact ⟨by rw [hE.out]; rfl, dX⟩
end Go.Proofs.Ytelehmkmdbhcfaa
