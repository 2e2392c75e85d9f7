/- Arcs of the program: isSpeaker, goodArc, goodNet. -/
import Derived.Test.YtelehmkmdbhcfaaS9b
import Derived.Test.YtelehmkmdbhcfaaI9a
namespace Go.Proofs.Ytelehmkmdbhcfaa
open Go.RowKit

set_option maxHeartbeats 400000 in
theorem i_isSpeaker (x : Int) (w : World) :
    Calls Try.prog 25 #[.int .i64 x] w fun e w' => e = .returned (.bool (inB x 0 5)) ∧ w' = w := by
  by_cases h0 : 0 ≤ x
  · by_cases h1 : x < 6
    · rw [inB_t h0 (by omega)]
      go_enter Try.func25, Try.ntmps25
      go_wp2_with fail
      go_ret
      exact ⟨rfl, rfl⟩
    · rw [inB_f2 (by omega)]
      go_enter Try.func25, Try.ntmps25
      go_wp2_with fail
      go_ret
      exact ⟨rfl, rfl⟩
  · rw [inB_f1 h0]
    go_enter Try.func25, Try.ntmps25
    go_wp2_with fail
    go_ret
    exact ⟨rfl, rfl⟩
set_option maxRecDepth 100000 in
set_option maxHeartbeats 1600000 in
theorem i_goodArc (g : Int) (a : Option Addr) (m c : Nat) (x y z : Int) (w : World) (hm : m ≤ 1048576) :
    Calls Try.prog 39 #[.agg #[.int .i64 g, .slice a m c], .agg #[.int .i64 x, .int .i64 y, .int .i64 z]] w fun e w' => e = .returned (.bool (pB (ArOk m x y z))) ∧ Below w.heap.size w w' := by
  have hT : Hid (ArOk m x y z → pB (ArOk m x y z) = true) := pB_t
  have hNo : Hid (¬ ArOk m x y z → pB (ArOk m x y z) = false) := pB_f
  generalize pB (ArOk m x y z) = r at *
  have S1 := hide (fun w => i_isSpeaker x w)
  have S2 := hide (fun w => i_isSpeaker y w)
  have dX : Below w.heap.size w ((w.alloc (.cells #[.int .i64 g, .slice a m c] 31)).alloc (.cells #[.int .i64 x, .int .i64 y, .int .i64 z] 50)) := below_box2 (Below.refl _ _)
  have hmi : (m : Int) ≤ 1048576 := by omega
  by_cases q1 : 0 ≤ x ∧ x ≤ 5
  · rw [inB_t q1.1 q1.2] at S1
    by_cases q2 : 0 ≤ y ∧ y ≤ 5
    · rw [inB_t q2.1 q2.2] at S2
      by_cases q3 : x = y
      · have q3' : (x == y) = true := by simpa using q3
        have hE := hide (hNo.out (fun h => by have h1 := h.1; have h2 := h.2.1; have h3 := h.2.2.1; have h4 := h.2.2.2.1; have h5 := h.2.2.2.2.1; have h6 := h.2.2.2.2.2.1; have h7 := h.2.2.2.2.2.2; omega))
        clear hNo hT
        clear q3
        go_enter Try.func39, Try.ntmps39
        go_wp2_with fail
        refine (S1.out _).mono ?_
        rintro e w1 ⟨rfl, hw1⟩
        rw [hw1]; clear hw1 w1
        go_wp2_with fail
        refine (S2.out _).mono ?_
        rintro e w1 ⟨rfl, hw1⟩
        rw [hw1]; clear hw1 w1
        go_wp2_with fail
        go_ret
        exact ⟨by rw [hE.out]; rfl, dX⟩
      · have q3' : (x == y) = false := by simpa using q3
        by_cases q4 : 0 ≤ z
        · have hr : Hid (r = decide (z < (m : Int))) := by
            show r = _
            by_cases q5 : z < (m : Int)
            · rw [hT.out ⟨q1.1, q1.2, q2.1, q2.2, q3, q4, q5⟩]; simp [q5]
            · rw [hNo.out (fun h => by have h7 := h.2.2.2.2.2.2; omega)]; simp [q5]
          clear q3 hT hNo
          go_enter Try.func39, Try.ntmps39
          go_wp2_with fail
          refine (S1.out _).mono ?_
          rintro e w1 ⟨rfl, hw1⟩
          rw [hw1]; clear hw1 w1
          go_wp2_with fail
          refine (S2.out _).mono ?_
          rintro e w1 ⟨rfl, hw1⟩
          rw [hw1]; clear hw1 w1
          go_wp2_with fail
          go_ret
          exact ⟨by rw [hr.out]; rfl, dX⟩
        ·
          have hE := hide (hNo.out (fun h => by have h1 := h.1; have h2 := h.2.1; have h3 := h.2.2.1; have h4 := h.2.2.2.1; have h5 := h.2.2.2.2.1; have h6 := h.2.2.2.2.2.1; have h7 := h.2.2.2.2.2.2; omega))
          clear hNo hT
          clear q3
          go_enter Try.func39, Try.ntmps39
          go_wp2_with fail
          refine (S1.out _).mono ?_
          rintro e w1 ⟨rfl, hw1⟩
          rw [hw1]; clear hw1 w1
          go_wp2_with fail
          refine (S2.out _).mono ?_
          rintro e w1 ⟨rfl, hw1⟩
          rw [hw1]; clear hw1 w1
          go_wp2_with fail
          go_ret
          exact ⟨by rw [hE.out]; rfl, dX⟩
    · rw [inB_n q2] at S2
      have hE := hide (hNo.out (fun h => by have h1 := h.1; have h2 := h.2.1; have h3 := h.2.2.1; have h4 := h.2.2.2.1; have h5 := h.2.2.2.2.1; have h6 := h.2.2.2.2.2.1; have h7 := h.2.2.2.2.2.2; omega))
      clear hNo hT
      go_enter Try.func39, Try.ntmps39
      go_wp2_with fail
      refine (S1.out _).mono ?_
      rintro e w1 ⟨rfl, hw1⟩
      rw [hw1]; clear hw1 w1
      go_wp2_with fail
      refine (S2.out _).mono ?_
      rintro e w1 ⟨rfl, hw1⟩
      rw [hw1]; clear hw1 w1
      go_wp2_with fail
      go_ret
      exact ⟨by rw [hE.out]; rfl, dX⟩
  · rw [inB_n q1] at S1
    have hE := hide (hNo.out (fun h => by have h1 := h.1; have h2 := h.2.1; have h3 := h.2.2.1; have h4 := h.2.2.2.1; have h5 := h.2.2.2.2.1; have h6 := h.2.2.2.2.2.1; have h7 := h.2.2.2.2.2.2; omega))
    clear hNo hT
    go_enter Try.func39, Try.ntmps39
    go_wp2_with fail
    refine (S1.out _).mono ?_
    rintro e w1 ⟨rfl, hw1⟩
    rw [hw1]; clear hw1 w1
    go_wp2_with fail
    go_ret
    exact ⟨by rw [hE.out]; rfl, dX⟩
set_option maxRecDepth 100000 in
set_option maxHeartbeats 800000 in
theorem i_goodArcC (g : Int) (a : Option Addr) (m c : Nat) (x y z : Int) (q : Nat) (w : World) (hm : m ≤ 1048576) (hq : Mut w q [.int .i64 g, .slice a m c]) :
    Calls Try.prog 38 #[.agg #[.int .i64 x, .int .i64 y, .int .i64 z], .pointer (some ⟨q, 0, none⟩)] w fun e w' => e = .returned (.bool (pB (ArOk m x y z))) ∧ Below w.heap.size w w' := by
  have A := hide (fun w => i_goodArc g a m c x y z w hm)
  have dX : Below w.heap.size w (w.alloc (.cells #[.int .i64 x, .int .i64 y, .int .i64 z] 50)) := below_box (Below.refl _ _)
  have hq1 := hq.alloc (.cells #[.int .i64 x, .int .i64 y, .int .i64 z] 50)
  have c0 := hq1.2.1 0 _ rfl
  have c1 := hq1.2.1 1 _ rfl
  generalize pB (ArOk m x y z) = r at *
  clear hq hq1 hm
  go_enter Try.func38, Try.ntmps38
  go_wp2_with fail
  refine (A.out _).mono ?_
  rintro e w1 ⟨rfl, b1⟩
  go_wp2_with fail
  go_ret
  exact ⟨rfl, dX.trans (b1.mono dX.size)⟩
set_option maxRecDepth 100000 in
set_option maxHeartbeats 1600000 in
theorem i_everyArc (g : Int) (a : Option Addr) (m c : Nat) (ra : Option Addr) (n rc : Nat) (f0 f1 f2 : Nat → Int) (q : Nat) (w : World) (hm : m ≤ 1048576) (hn : n ≤ 20) (hA : RowArc ra n f0 f1 f2 w) (hq : Mut w q [.int .i64 g, .slice a m c]) :
    Calls Try.prog 37 #[.agg #[.slice ra n rc], .func (.func 38) #[] #[.pointer (some ⟨q, 0, none⟩)]] w fun e w' => e = .returned (.bool (pB (∀ i, i < n → ArOk m (f0 i) (f1 i) (f2 i)))) ∧ Below w.heap.size w w' := by
  have hT : Hid ((∀ i, i < n → ArOk m (f0 i) (f1 i) (f2 i)) → pB (∀ i, i < n → ArOk m (f0 i) (f1 i) (f2 i)) = true) := pB_t
  have hF : Hid (¬ (∀ i, i < n → ArOk m (f0 i) (f1 i) (f2 i)) → pB (∀ i, i < n → ArOk m (f0 i) (f1 i) (f2 i)) = false) := pB_f
  generalize pB (∀ i, i < n → ArOk m (f0 i) (f1 i) (f2 i)) = r at *
  have hn4 : (n : Int) ≤ 20 := by omega
  have dX : Below w.heap.size w (w.alloc (.cells #[.slice ra n rc] 71)) := below_box (Below.refl _ _)
  go_enter Try.func37, Try.ntmps37
  go_wp2_with fail
  generalize w.alloc (.cells #[.slice ra n rc] 71) = wx at *
  go_loopw [4, 10] (fun _ y wr => ∃ k : Nat, y = .int .i64 k ∧ k ≤ n ∧ Hid (∀ i, i < k → ArOk m (f0 i) (f1 i) (f2 i)) ∧ Below w.heap.size w wr) (fun _ y _ => n - (intOf y).toNat)
  case atStart => exact ⟨0, rfl, Nat.zero_le _, fun i hi => absurd hi (by omega), dX⟩
  case round =>
    obtain ⟨k, rfl, hk, hall, hb⟩ := hrel
    by_cases hlt : k < n
    · obtain ⟨b, off, rfl, hbw, u0, u1, u2⟩ := hA k hlt
      replace u0 := (hb.cell (p := ⟨b, off + k * 3, none⟩) hbw).trans u0
      replace u1 := (hb.cell (p := ⟨b, off + k * 3 + 1, none⟩) hbw).trans u1
      replace u2 := (hb.cell (p := ⟨b, off + k * 3 + 2, none⟩) hbw).trans u2
      have hlt' : (k : Int) < (n : Int) := by omega
      have dZ : Below w.heap.size w (wr.alloc (.cells #[.int .i64 (f0 k), .int .i64 (f1 k), .int .i64 (f2 k)] 50)) := hb.alloc hb.size _
      have AP := hide (fun w Q => i_goodArcC g a m c (f0 k) (f1 k) (f2 k) q w hm Q)
      have hp9 := hide (hq.below dZ)
      have hNo : Hid (¬ ArOk m (f0 k) (f1 k) (f2 k) → r = false) := fun h => hF.out (fun q => h (q k hlt))
      have hYes : Hid (ArOk m (f0 k) (f1 k) (f2 k) → ∀ i, i < k + 1 → ArOk m (f0 i) (f1 i) (f2 i)) := fun h i hi => by
        by_cases e : i = k
        · subst e; exact h
        · exact hall.out i (by omega)
      clear hall hT hF hA hq
      generalize f0 k = x at *
      generalize f1 k = y at *
      generalize f2 k = z at *
      by_cases hok : ArOk m x y z
      · rw [pB_t hok] at AP
        have hN := hide (hYes.out hok)
        clear hok hNo hYes
        go_wp2_with (first | (go_at_call 38; refine (AP.out _ hp9.out).mono ?_; rintro e w3 ⟨rfl, b3⟩; have d3 := dZ.trans (b3.mono dZ.size)))
        exact ⟨⟨k + 1, by go_num, by omega, hN, d3⟩, by simp [intOf]; omega⟩
      · rw [pB_f hok] at AP
        have hE := hide (hNo.out hok)
        clear hok hNo hYes
        go_wp2_with (first | (go_at_call 38; refine (AP.out _ hp9.out).mono ?_; rintro e w3 ⟨rfl, b3⟩; have d3 := dZ.trans (b3.mono dZ.size)))
        go_ret
        exact ⟨by rw [hE.out]; rfl, d3⟩
    · have hlt' : ¬ (k : Int) < (n : Int) := by omega
      obtain rfl : k = n := by omega
      have hE := hide (hT.out hall.out)
      clear hall hT hF hA hq
      go_wp2_with fail
      go_ret
      exact ⟨by rw [hE.out]; rfl, hb⟩
set_option maxRecDepth 100000 in
set_option maxHeartbeats 1600000 in
theorem i_goodNet (g : Int) (a : Option Addr) (m c : Nat) (T : Nat → Lc) (ra : Option Addr) (n rc : Nat) (f0 f1 f2 : Nat → Int) (w : World) (hm : m ≤ 1048576) (hl : LowL m T) (hR : RowLL a m T w) (hn : n ≤ 1048576) (hA : RowArc ra n f0 f1 f2 w) :
    Calls Try.prog 24 #[.agg #[.int .i64 g, .slice a m c], .slice ra n rc] w fun e w' => e = .returned (.bool (naB g m T n f0 f1 f2)) ∧ Below w.heap.size w w' := by
  have hF : Hid (¬ NA g m T n f0 f1 f2 → naB g m T n f0 f1 f2 = false) := pB_f
  have SG := hide (fun w R => i_goodAlgebra g a m c T w hm hl R)
  have MX := Mut.new w #[.int .i64 g, .slice a m c] 31
  have dX : Below w.heap.size w (w.alloc (.cells #[.int .i64 g, .slice a m c] 31)) := below_box (Below.refl _ _)
  have hmf : ∀ (fn : Fn) (first cap : Array Value) (w : World), (Instr.makeFunc fn first cap).run Try.prog w = .ok (.func fn first cap) w := fun _ _ _ _ => rfl
  by_cases hG : GA g m T
  · rw [show gaB g m T = true from pB_t hG] at SG
    by_cases h20 : (n : Int) > 20
    · have hE := hide (hF.out (fun h => by have := h.2.1; omega))
      clear hF hG hl hA
      go_enter Try.func24, Try.ntmps24
      go_wp2_with fail
      refine (SG.out _ (hR.below dX)).mono ?_
      rintro e w1 ⟨rfl, b1⟩
      go_wp2_with fail
      go_ret
      exact ⟨by rw [hE.out]; rfl, dX.trans (b1.mono dX.size)⟩
    · have hE : Hid (pB (∀ i, i < n → ArOk m (f0 i) (f1 i) (f2 i)) = naB g m T n f0 f1 f2) := pB_congr ⟨fun h => ⟨hG, by omega, h⟩, fun h => h.2.2⟩
      have EV := hide (fun q w A Q => i_everyArc g a m c ra n rc f0 f1 f2 q w hm (by omega) A Q)
      generalize pB (∀ i, i < n → ArOk m (f0 i) (f1 i) (f2 i)) = r at *
      clear hF hG hl
      go_enter Try.func24, Try.ntmps24
      go_wp2_with fail
      generalize w.alloc (.cells #[.int .i64 g, .slice a m c] 31) = wx at *
      refine (SG.out _ (hR.below dX)).mono ?_
      rintro e w1 ⟨rfl, b1⟩
      have MY := (MX.below b1).alloc (.cells #[.slice ra n rc] 71)
      replace dX := dX.trans (b1.mono dX.size)
      have dY : Below w.heap.size w (w1.alloc (.cells #[.slice ra n rc] 71)) := dX.alloc dX.size _
      clear b1 MX
      go_wp2_with fail
      refine (EV.out _ _ (hA.below dY) MY).mono ?_
      rintro e w2 ⟨rfl, b2⟩
      go_wp2_with fail
      go_ret
      exact ⟨by rw [hE.out]; rfl, dY.trans (b2.mono dY.size)⟩
  · have hE := hide (hF.out (fun h => hG h.1))
    rw [show gaB g m T = false from pB_f hG] at SG
    clear hF hG hl hA
    go_enter Try.func24, Try.ntmps24
    go_wp2_with fail
    refine (SG.out _ (hR.below dX)).mono ?_
    rintro e w1 ⟨rfl, b1⟩
    go_wp2_with fail
    go_ret
    exact ⟨by rw [hE.out]; rfl, dX.trans (b1.mono dX.size)⟩
end Go.Proofs.Ytelehmkmdbhcfaa
