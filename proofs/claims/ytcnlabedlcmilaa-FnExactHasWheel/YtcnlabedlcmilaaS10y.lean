/- HasWheel of the specification. -/
import Derived.Test.YtcnlabedlcmilaaS10x
namespace Go.Proofs.Ytcnlabedlcmilaa
open Go.RowKit
set_option maxRecDepth 100000 in
set_option maxHeartbeats 3200000 in
theorem s_hasWheelE (a : Option Addr) (N c : Nat) (U : Nat → Pl) (w : World) (hN : N ≤ 1048576) (hl : LowS N U) (hR : RowK3 a N U w) :
    Calls Try.prog 38 #[.agg #[.slice a N c]] w fun e w' => e = .returned (.tuple #[.bool (whB N U), .bool (gsB N U)]) ∧ Below w.heap.size w w' := by
  have MX := Mut.new w #[.slice a N c] 27
  have dX : Below w.heap.size w (w.alloc (.cells #[.slice a N c] 27)) := below_box (Below.refl _ _)
  have c0 := MX.2.1 0 _ rfl
  have SG := hide (fun w R => s_goodSpp a N c U w hN hl R)
  by_cases hG : GS N U
  · have eG : gsB N U = true := pB_t hG
    rw [eG] at SG ⊢
    have hT : Hid (WH N U → whB N U = true) := fun h => pB_t ⟨hG, h⟩
    have hF : Hid (¬ WH N U → whB N U = false) := fun h => pB_f (fun k => h k.2)
    generalize whB N U = r at *
    have hN5 : (N : Int) ≤ 5 := by have := hG.2.1; omega
    have hLow := hide hG.low
    have RD := hide (fun v k w hv hk R => s_round10 a N c U v k w hG hv hk R)
    clear eG hG hl
    go_enter Try.func38, Try.ntmps38
    go_wp2_with fail
    refine (SG.out _ (hR.below dX)).mono ?_
    rintro e w1 ⟨rfl, b⟩
    replace dX := dX.trans (b.mono dX.size)
    replace MX := MX.below b
    have c0 := MX.2.1 0 _ rfl
    clear b
    go_wp2_with fail
    clear c0 SG
    go_loopw [14] (fun y wr => ∃ v : Nat, y = .int .i64 v ∧ v ≤ N ∧ Hid (∀ x : Nat × Nat, x.1 < v → x.2 < (U x.1).n → ¬ Trn (Edg U) x x) ∧ Mut wr w.heap.size [.slice a N c] ∧ Below w.heap.size w wr) (fun y _ => N - (intOf y).toNat)
    case atStart => exact ⟨0, rfl, Nat.zero_le _, fun x hx => absurd hx (Nat.not_lt_zero _), MX, dX⟩
    case round =>
      clear MX dX
      obtain ⟨v, rfl, hv, hall, MX, dX⟩ := hrel
      by_cases hlt : v < N
      · have hlt' : (v : Int) < (N : Int) := by omega
        obtain ⟨b1, off1, a1, c1, rfl, hb1, u1, hc1, ht1⟩ := (hR.below dX) v hlt
        have hm6 := (hLow.out v hlt).1
        have hNext : Hid ((∀ k, k < (U v).n → ¬ Trn (Edg U) (v, k) (v, k)) → ∀ x : Nat × Nat, x.1 < v + 1 → x.2 < (U x.1).n → ¬ Trn (Edg U) x x) := fun h x hx1 hx2 => by
          by_cases e : x.1 = v
          · obtain ⟨x1, x2⟩ := x
            have e' : x1 = v := e
            subst e'
            exact h x2 hx2
          · exact hall.out x (by omega) hx2
        have hYes : Hid (∀ k, k < (U v).n → Trn (Edg U) (v, k) (v, k) → r = true) := fun k hk h => hT.out ⟨(v, k), ⟨hlt, hk⟩, h⟩
        have RV := hide (fun k w hk R => RD.out v k w hlt hk R)
        clear hall hT hF ht1
        generalize (U v).n = m at *
        have hm6' : (m : Int) ≤ 6 := by omega
        go_wp2_with fail
        clear u1
        go_loopw [21] (fun y wr => ∃ k : Nat, y = .int .i64 k ∧ k ≤ m ∧ Hid (∀ j, j < k → ¬ Trn (Edg U) (v, j) (v, j)) ∧ Mut wr w.heap.size [.slice (some ⟨b1, off1, none⟩) N c] ∧ Below w.heap.size w wr) (fun y _ => m - (intOf y).toNat)
        case atStart => exact ⟨0, rfl, Nat.zero_le _, fun x hx => absurd hx (Nat.not_lt_zero _), MX, dX⟩
        case round =>
          clear MX dX
          obtain ⟨k, rfl, hk, hall, MX, dX⟩ := hrel
          have c0 := MX.2.1 0 _ rfl
          by_cases hkt : k < m
          · have hkt' : (k : Int) < (m : Int) := by omega
            have RK := hide (fun w R => RV.out k w hkt R)
            have dB : Below wr.heap.size wr (wr.alloc (.cells #[.int .i64 ((v : Int) + 1), .int .i64 (k : Int)] 105)) := below_box (Below.refl _ _)
            have MXB := MX.below dB
            have cB := MXB.2.1 0 _ rfl
            have dY := dX.trans (dB.mono dX.size)
            have RY := hide (hR.below dY)
            by_cases hw : Trn (Edg U) (v, k) (v, k)
            · rw [pB_t hw] at RK
              have hE := hide (hYes.out k hkt hw)
              clear hall hNext hYes hw RV
              go_wp2_with fail
              refine (RK.out _ RY.out).mono ?_
              rintro e w3 ⟨rfl, b3⟩
              have d3 := dY.trans (b3.mono dY.size)
              clear b3 c0 cB
              go_wp2_with fail
              go_ret2
              exact ⟨by rw [hE.out]; rfl, d3⟩
            · rw [pB_f hw] at RK
              have hN : Hid (∀ j, j < k + 1 → ¬ Trn (Edg U) (v, j) (v, j)) := fun j hj => by
                by_cases e : j = k
                · subst e; exact hw
                · exact hall.out j (by omega)
              clear hall hNext hYes hw RV
              go_wp2_with fail
              refine (RK.out _ RY.out).mono ?_
              rintro e w3 ⟨rfl, b3⟩
              have d3 := dY.trans (b3.mono dY.size)
              have M3 := MXB.below b3
              clear b3 c0 cB
              go_wp2_with fail
              exact ⟨⟨k + 1, by go_num, by omega, hN, M3, d3⟩, by simp [intOf]; omega⟩
          · have hkt' : ¬ (k : Int) < (m : Int) := by omega
            obtain rfl : k = m := by omega
            have hN := hide (hNext.out hall.out)
            clear hall hNext hYes RV c0
            go_wp2_with fail
            exact ⟨⟨v + 1, by go_num, by omega, hN, MX, dX⟩, by simp [intOf]; omega⟩
      · have hlt' : ¬ (v : Int) < (N : Int) := by omega
        obtain rfl : v = N := by omega
        have hE := hide (hF.out (fun ⟨x, hx, ht⟩ => hall.out x hx.1 hx.2 ht))
        clear hall hT hF
        go_wp2_with fail
        go_ret2
        exact ⟨by rw [hE.out]; rfl, dX⟩
  · have eG : gsB N U = false := pB_f hG
    have e0 : whB N U = false := pB_f (fun h => hG h.1)
    rw [eG] at SG ⊢
    rw [e0]
    clear hG hl eG e0
    go_enter Try.func38, Try.ntmps38
    go_wp2_with fail
    refine (SG.out _ (hR.below dX)).mono ?_
    rintro e w1 ⟨rfl, b⟩
    replace dX := dX.trans (b.mono dX.size)
    clear b
    go_wp2_with fail
    go_ret2
    exact ⟨rfl, dX⟩
end Go.Proofs.Ytcnlabedlcmilaa
