/- Arcs of the specification: l9Arcs, l9Arc. -/
import Derived.Test.YtelehmkmdbhcfaaS9a
import Derived.Test.YtelehmkmdbhcfaaFlatArc
namespace Go.Proofs.Ytelehmkmdbhcfaa
open Go.RowKit

noncomputable def naB (g : Int) (m : Nat) (T : Nat → Lc) (n : Nat) (f0 f1 f2 : Nat → Int) : Bool := pB (NA g m T n f0 f1 f2)
set_option maxRecDepth 100000 in
set_option maxHeartbeats 1600000 in
theorem s_arcs9 (g : Int) (a : Option Addr) (m c : Nat) (T : Nat → Lc) (ra : Option Addr) (n rc : Nat) (f0 f1 f2 : Nat → Int) (w : World) (hm : m ≤ 1048576) (hl : LowL m T) (hR : RowLL a m T w) (hn : n ≤ 1048576) (hA : RowArc ra n f0 f1 f2 w) :
    Calls Try.prog 18 #[.agg #[.int .i64 g, .slice a m c], .slice ra n rc] w fun e w' => e = .returned (.bool (naB g m T n f0 f1 f2)) ∧ Below w.heap.size w w' := by
  have hT : Hid (NA g m T n f0 f1 f2 → naB g m T n f0 f1 f2 = true) := pB_t
  have hF : Hid (¬ NA g m T n f0 f1 f2 → naB g m T n f0 f1 f2 = false) := pB_f
  generalize naB g m T n f0 f1 f2 = r at *
  have SG := hide (fun w R => s_goodAlgebra g a m c T w hm hl R)
  have MX := Mut.new w #[.int .i64 g, .slice a m c] 31
  have dX : Below w.heap.size w (w.alloc (.cells #[.int .i64 g, .slice a m c] 31)) := below_box (Below.refl _ _)
  have hw0 : w.heap.size < (w.alloc (.cells #[.int .i64 g, .slice a m c] 31)).heap.size := by simp
  go_enter Try.func18, Try.ntmps18
  go_wp2_with fail
  generalize w.alloc (.cells #[.int .i64 g, .slice a m c] 31) = wx at *
  go_loopw [4, 9] (fun _ y wr => ∃ k : Nat, y = .int .i64 k ∧ k ≤ n ∧ Hid (∀ i, i < k → ArOk m (f0 i) (f1 i) (f2 i)) ∧ Below wx.heap.size wx wr) (fun _ y _ => n - (intOf y).toNat)
  case atStart => exact ⟨0, rfl, Nat.zero_le _, fun i hi => absurd hi (by omega), Below.refl _ _⟩
  case round =>
    obtain ⟨k, rfl, hk, hall, hb⟩ := hrel
    have MY := MX.below hb
    have dY := dX.trans (hb.mono dX.size)
    by_cases hlt : k < n
    · obtain ⟨b, off, rfl, hbw, u0, u1, u2⟩ := hA k hlt
      replace u0 := (dY.cell (p := ⟨b, off + k * 3, none⟩) hbw).trans u0
      replace u1 := (dY.cell (p := ⟨b, off + k * 3 + 1, none⟩) hbw).trans u1
      replace u2 := (dY.cell (p := ⟨b, off + k * 3 + 2, none⟩) hbw).trans u2
      have hlt' : (k : Int) < (n : Int) := by omega
      have c0 := (MY.alloc (.cells #[.int .i64 (f0 k), .int .i64 (f1 k), .int .i64 (f2 k)] 50)).2.1 0 _ rfl
      have c1 := (MY.alloc (.cells #[.int .i64 (f0 k), .int .i64 (f1 k), .int .i64 (f2 k)] 50)).2.1 1 _ rfl
      have dZ : Below wx.heap.size wx (wr.alloc (.cells #[.int .i64 (f0 k), .int .i64 (f1 k), .int .i64 (f2 k)] 50)) := hb.alloc hb.size _
      have hNo : Hid (¬ ArOk m (f0 k) (f1 k) (f2 k) → r = false) := fun h => hF.out (fun q => h (q.2.2 k hlt))
      have hYes : Hid (ArOk m (f0 k) (f1 k) (f2 k) → ∀ i, i < k + 1 → ArOk m (f0 i) (f1 i) (f2 i)) := fun h i hi => by
        by_cases e : i = k
        · subst e; exact h
        · exact hall.out i (by omega)
      have S1 := hide (fun w => s_in (f0 k) 0 5 w)
      have S2 := hide (fun w => s_in (f1 k) 0 5 w)
      clear hall hT hF hR hA
      generalize f0 k = x at *
      generalize f1 k = y at *
      generalize f2 k = z at *
      by_cases q1 : 0 ≤ x ∧ x ≤ 5
      · rw [inB_t q1.1 q1.2] at S1
        by_cases q2 : 0 ≤ y ∧ y ≤ 5
        · rw [inB_t q2.1 q2.2] at S2
          by_cases q3 : x = y
          · have q3' : (x == y) = true := by simpa using q3
            have hE := hide (hNo.out (fun h => by have h1 := h.1; have h2 := h.2.1; have h3 := h.2.2.1; have h4 := h.2.2.2.1; have h5 := h.2.2.2.2.1; have h6 := h.2.2.2.2.2.1; have h7 := h.2.2.2.2.2.2; omega))
            clear hNo hYes
            clear q3
            go_wp2_with fail
            refine (S1.out _).mono ?_
            rintro e w1 ⟨rfl, hw1⟩
            rw [hw1]; clear hw1 w1
            go_wp2_with fail
            refine (S2.out _).mono ?_
            rintro e w1 ⟨rfl, hw1⟩
            rw [hw1]; clear hw1 w1
            go_wp2_with fail
            go_ret
            exact ⟨by rw [hE.out]; rfl, dX.trans (dZ.mono dX.size)⟩
          · have q3' : (x == y) = false := by simpa using q3
            by_cases q4 : z < 0
            · have q4' : z < 0 := q4
              have hE := hide (hNo.out (fun h => by have h1 := h.1; have h2 := h.2.1; have h3 := h.2.2.1; have h4 := h.2.2.2.1; have h5 := h.2.2.2.2.1; have h6 := h.2.2.2.2.2.1; have h7 := h.2.2.2.2.2.2; omega))
              clear hNo hYes
              clear q3
              go_wp2_with fail
              refine (S1.out _).mono ?_
              rintro e w1 ⟨rfl, hw1⟩
              rw [hw1]; clear hw1 w1
              go_wp2_with fail
              refine (S2.out _).mono ?_
              rintro e w1 ⟨rfl, hw1⟩
              rw [hw1]; clear hw1 w1
              go_wp2_with fail
              go_ret
              exact ⟨by rw [hE.out]; rfl, dX.trans (dZ.mono dX.size)⟩
            · by_cases q5 : z ≥ (m : Int)
              ·
                have hE := hide (hNo.out (fun h => by have h1 := h.1; have h2 := h.2.1; have h3 := h.2.2.1; have h4 := h.2.2.2.1; have h5 := h.2.2.2.2.1; have h6 := h.2.2.2.2.2.1; have h7 := h.2.2.2.2.2.2; omega))
                clear hNo hYes
                clear q3
                go_wp2_with fail
                refine (S1.out _).mono ?_
                rintro e w1 ⟨rfl, hw1⟩
                rw [hw1]; clear hw1 w1
                go_wp2_with fail
                refine (S2.out _).mono ?_
                rintro e w1 ⟨rfl, hw1⟩
                rw [hw1]; clear hw1 w1
                go_wp2_with fail
                go_ret
                exact ⟨by rw [hE.out]; rfl, dX.trans (dZ.mono dX.size)⟩
              · have hN := hide (hYes.out ⟨q1.1, q1.2, q2.1, q2.2, q3, by omega, by omega⟩)
                clear hNo hYes q3
                go_wp2_with fail
                refine (S1.out _).mono ?_
                rintro e w1 ⟨rfl, hw1⟩
                rw [hw1]; clear hw1 w1
                go_wp2_with fail
                refine (S2.out _).mono ?_
                rintro e w1 ⟨rfl, hw1⟩
                rw [hw1]; clear hw1 w1
                go_wp2_with fail
                exact ⟨⟨k + 1, by go_num, by omega, hN, dZ⟩, by simp [intOf]; omega⟩
        · rw [inB_n q2] at S2
          have hE := hide (hNo.out (fun h => by have h1 := h.1; have h2 := h.2.1; have h3 := h.2.2.1; have h4 := h.2.2.2.1; have h5 := h.2.2.2.2.1; have h6 := h.2.2.2.2.2.1; have h7 := h.2.2.2.2.2.2; omega))
          clear hNo hYes
          go_wp2_with fail
          refine (S1.out _).mono ?_
          rintro e w1 ⟨rfl, hw1⟩
          rw [hw1]; clear hw1 w1
          go_wp2_with fail
          refine (S2.out _).mono ?_
          rintro e w1 ⟨rfl, hw1⟩
          rw [hw1]; clear hw1 w1
          go_wp2_with fail
          go_ret
          exact ⟨by rw [hE.out]; rfl, dX.trans (dZ.mono dX.size)⟩
      · rw [inB_n q1] at S1
        have hE := hide (hNo.out (fun h => by have h1 := h.1; have h2 := h.2.1; have h3 := h.2.2.1; have h4 := h.2.2.2.1; have h5 := h.2.2.2.2.1; have h6 := h.2.2.2.2.2.1; have h7 := h.2.2.2.2.2.2; omega))
        clear hNo hYes
        go_wp2_with fail
        refine (S1.out _).mono ?_
        rintro e w1 ⟨rfl, hw1⟩
        rw [hw1]; clear hw1 w1
        go_wp2_with fail
        go_ret
        exact ⟨by rw [hE.out]; rfl, dX.trans (dZ.mono dX.size)⟩
    · have hlt' : ¬ (k : Int) < (n : Int) := by omega
      obtain rfl : k = n := by omega
      have c0 := MY.2.1 0 _ rfl
      have c1 := MY.2.1 1 _ rfl
      have hr : Hid (r = (gaB g m T && decide ((k : Int) ≤ 20))) := by
        show r = _
        by_cases hG : GA g m T
        · rw [show gaB g m T = true from pB_t hG, Bool.true_and]
          by_cases h20 : (k : Int) ≤ 20
          · rw [hT.out ⟨hG, by omega, hall.out⟩]; simp [h20]
          · rw [hF.out (fun q => by have := q.2.1; omega)]; simp [h20]
        · rw [show gaB g m T = false from pB_f hG, Bool.false_and]
          exact hF.out (fun q => hG q.1)
      clear hall hT hF hA
      generalize gaB g m T = s at *
      cases s with
      | false =>
        rw [Bool.false_and] at hr
        go_wp2_with fail
        refine (SG.out _ (hR.below dY)).mono ?_
        rintro e w3 ⟨rfl, b3⟩
        go_wp2_with fail
        go_ret
        exact ⟨by rw [hr.out]; rfl, dY.trans (b3.mono dY.size)⟩
      | true =>
        rw [Bool.true_and] at hr
        go_wp2_with fail
        refine (SG.out _ (hR.below dY)).mono ?_
        rintro e w3 ⟨rfl, b3⟩
        go_wp2_with fail
        go_ret
        exact ⟨by rw [hr.out]; rfl, dY.trans (b3.mono dY.size)⟩
set_option maxRecDepth 100000 in
set_option maxHeartbeats 1600000 in
theorem s_arc9 (ra : Option Addr) (n rc : Nat) (f0 f1 f2 : Nat → Int) (x y : Int) (w : World) (hn : n ≤ 20) (hA : RowArc ra n f0 f1 f2 w) :
    Calls Try.prog 21 #[.slice ra n rc, .int .i64 x, .int .i64 y] w fun e w' => e = .returned (.int .i64 (lab9 f0 f1 f2 x y n)) ∧ Below w.heap.size w w' := by
  have hS : Hid (∀ j, j < n → Hit f0 f1 x y j → (∀ i, i < j → ¬ Hit f0 f1 x y i) → lab9 f0 f1 f2 x y n = f2 j) := fun j h1 h2 h3 => by
    unfold lab9
    rw [fst9_some.2 ⟨h1, h2, h3⟩]
  have hZ : Hid ((∀ i, i < n → ¬ Hit f0 f1 x y i) → lab9 f0 f1 f2 x y n = -1) := fun h => by
    unfold lab9
    rw [fst9_none.2 h]
  generalize lab9 f0 f1 f2 x y n = r at *
  go_enter Try.func21, Try.ntmps21
  go_wp2_with fail
  go_loopw [6, 11] (fun _ y' wr => ∃ k : Nat, y' = .int .i64 k ∧ k ≤ n ∧ Hid (∀ i, i < k → ¬ Hit f0 f1 x y i) ∧ Below w.heap.size w wr) (fun _ y' _ => n - (intOf y').toNat)
  case atStart => exact ⟨0, rfl, Nat.zero_le _, fun i hi => absurd hi (by omega), Below.refl _ _⟩
  case round =>
    obtain ⟨k, rfl, hk, hall, hb⟩ := hrel
    by_cases hlt : k < n
    · obtain ⟨b, off, rfl, hbw, u0, u1, u2⟩ := hA k hlt
      replace u0 := (hb.cell (p := ⟨b, off + k * 3, none⟩) hbw).trans u0
      replace u1 := (hb.cell (p := ⟨b, off + k * 3 + 1, none⟩) hbw).trans u1
      replace u2 := (hb.cell (p := ⟨b, off + k * 3 + 2, none⟩) hbw).trans u2
      have hlt' : (k : Int) < (n : Int) := by omega
      have dZ : Below w.heap.size w (wr.alloc (.cells #[.int .i64 (f0 k), .int .i64 (f1 k), .int .i64 (f2 k)] 50)) := hb.alloc hb.size _
      have hNext : Hid (¬ Hit f0 f1 x y k → ∀ i, i < k + 1 → ¬ Hit f0 f1 x y i) := fun h i hi => by
        by_cases e : i = k
        · subst e; exact h
        · exact hall.out i (by omega)
      have hHit : Hid (f0 k = x → f1 k = y → r = f2 k) := fun h1 h2 => hS.out k hlt ⟨h1, h2⟩ hall.out
      by_cases q1 : f0 k = x
      · by_cases q2 : f1 k = y
        · have hE := hide (hHit.out q1 q2)
          clear hall hS hZ hA hNext hHit
          have q1' : (f0 k == x) = true := by simpa using q1
          have q2' : (f1 k == y) = true := by simpa using q2
          clear q1 q2
          generalize f0 k = p0 at *
          generalize f1 k = p1 at *
          generalize f2 k = p2 at *
          go_wp2_with fail
          go_ret
          exact ⟨by rw [hE.out]; rfl, dZ⟩
        · have hN := hide (hNext.out (fun h => q2 h.2))
          clear hall hS hZ hA hNext hHit
          have q1' : (f0 k == x) = true := by simpa using q1
          have q2' : (f1 k == y) = false := by simpa using q2
          clear q1 q2
          generalize f0 k = p0 at *
          generalize f1 k = p1 at *
          generalize f2 k = p2 at *
          go_wp2_with fail
          exact ⟨⟨k + 1, by go_num, by omega, hN, dZ⟩, by simp [intOf]; omega⟩
      · have hN := hide (hNext.out (fun h => q1 h.1))
        clear hall hS hZ hA hNext hHit
        have q1' : (f0 k == x) = false := by simpa using q1
        clear q1
        generalize f0 k = p0 at *
        generalize f1 k = p1 at *
        generalize f2 k = p2 at *
        go_wp2_with fail
        exact ⟨⟨k + 1, by go_num, by omega, hN, dZ⟩, by simp [intOf]; omega⟩
    · have hlt' : ¬ (k : Int) < (n : Int) := by omega
      obtain rfl : k = n := by omega
      have hE := hide (hZ.out hall.out)
      clear hall hS hZ hA
      go_wp2_with fail
      go_ret
      exact ⟨by rw [hE.out]; rfl, hb⟩
end Go.Proofs.Ytelehmkmdbhcfaa
