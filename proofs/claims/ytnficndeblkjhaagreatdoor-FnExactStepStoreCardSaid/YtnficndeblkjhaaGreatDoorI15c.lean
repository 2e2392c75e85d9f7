/- GoodConfig of the program. -/
import Derived.Test.YtnficndeblkjhaaGreatDoorI15b
namespace Go.Proofs.YtnficndeblkjhaaGreatDoor
open Go.RowKit

set_option maxRecDepth 100000 in
set_option maxHeartbeats 3200000 in
theorem i_goodConfig (a : Option Addr) (N c : Nat) (T : Nat → Lf) (w : World) (hN : N ≤ 1048576) (hl : LowF N T) (hR : RowF true a N T w) :
    Calls Tryz.prog 59 #[.slice a N c] w fun e w' => e = .returned (.bool (tB (GC N T))) ∧ Below w.heap.size w w' := by
  have hF : Hid (∀ k, k < N → ¬ OkL T k → tB (GC N T) = false) := fun k hk h => tB_f (fun g => h (g.1 k hk))
  have hT : Hid (N ≤ 30 → (∀ k, k < N → OkL T k) → tB (GC N T) = true) := fun h g => tB_t ⟨g, h⟩
  have hG : Hid (¬ N ≤ 30 → tB (GC N T) = false) := fun h => tB_f (fun g => h g.2)
  generalize tB (GC N T) = b at *
  by_cases h30 : N ≤ 30
  case neg =>
    have hE := hide (hG.out h30)
    have h30' : (N : Int) > 30 := by omega
    clear hT hF hG hR hl
    go_enter Tryz.func59, Tryz.ntmps59
    go_wp2_with fail
    go_ret
    exact ⟨by rw [hE.out]; rfl, Below.refl _ _⟩
  replace hT := hide (hT.out h30)
  have h30' : ¬ ((N : Int) > 30) := by omega
  clear hG hN
  have W := hide (fun a n c f w R => i_isWay a n c f w R)
  have V := hide (fun s w => i_isWord s w)
  have O := hide (fun a a' c c' s t w h R Q => i_order a a' c c' s t w h R Q)
  have B := hide (fun a a' n m c c' p q w h1 h2 R Q => i_begins a a' n m c c' p q w h1 h2 R Q)
  go_enter Tryz.func59, Tryz.ntmps59
  go_wp2_with fail
  go_loopw [3, 4, 10] (fun _ _ y wr => ∃ k : Nat, y = .int .i64 k ∧ k ≤ N ∧ Hid (∀ i, i < k → OkL T i) ∧ Below w.heap.size w wr) (fun _ _ y _ => N - (intOf y).toNat)
  case atStart => exact ⟨0, rfl, Nat.zero_le _, fun i hi => absurd hi (by omega), Below.refl _ _⟩
  case round =>
    obtain ⟨k, rfl, hk, hx, hb⟩ := hrel
    by_cases hlt : k < N
    · obtain ⟨b0, off, a0, c0, rfl, hbw, u0, u1, hc0, R0⟩ := hR k hlt
      replace u0 := (hb.cell (p := ⟨b0, off + k * 2, none⟩) hbw).trans u0
      replace u1 := (hb.cell (p := ⟨b0, off + k * 2 + 1, none⟩) hbw).trans u1
      replace hc0 := hc0 rfl
      have hlt' : (k : Int) < (N : Int) := by omega
      have hlk := hl k hlt
      have hOk : OkL T k ↔ (Pw (T k).n (T k).p ∧ Wd (T k).v ∧ (0 < k → LtP (T (k - 1)).n (T (k - 1)).p (T k).n (T k).p ∧ ¬ Bg (T (k - 1)).n (T (k - 1)).p (T k).n (T k).p)) := Iff.rfl
      have hN2 : Hid (OkL T k → ∀ i, i < k + 1 → OkL T i) := fun h i hi => by
        by_cases e : i = k
        · subst e; exact h
        · exact hx.out i (by omega)
      have hE := hide (hF.out k hlt)
      have P : 0 < k → ∃ (a1 : Option Addr) (c1 : Nat), w.cell? ⟨b0, off + (k - 1) * 2, none⟩ = some (.slice a1 (T (k - 1)).n c1) ∧ w.cell? ⟨b0, off + (k - 1) * 2 + 1, none⟩ = some (.string (T (k - 1)).v) ∧ (T (k - 1)).n ≤ 1048576 ∧ RowStr a1 (T (k - 1)).n (T (k - 1)).p w := by
        intro h0
        obtain ⟨b1, off1, a1, c1, he, _, v0, v1, _, R1⟩ := hR (k - 1) (by omega)
        simp only [Option.some.injEq, Addr.mk.injEq, and_true] at he
        obtain ⟨rfl, rfl⟩ := he
        exact ⟨a1, c1, v0, v1, (hl (k - 1) (by omega)).1, R1⟩
      have M := Mut.new wr #[.slice a0 (T k).n c0, .string (T k).v] 87
      have d1 : Below w.heap.size w (wr.alloc (.cells #[.slice a0 (T k).n c0, .string (T k).v] 87)) := below_step hb (below_box (Below.refl _ _))
      generalize T (k - 1) = t0 at *
      generalize hOp : OkL T k = OP at *
      generalize T k = t at *
      clear hx hR hl hF hOp hT
      obtain ⟨tn, tp, tv⟩ := t
      obtain ⟨sn, sp, sv⟩ := t0
      obtain ⟨l1, l2, l3⟩ := hlk
      dsimp only at *
      go_wp2_with fail
      have hbs := hb.size
      generalize wr.alloc (.cells #[.slice a0 tn c0, .string tv] 87) = w1 at *
      generalize wr.heap.size = bx at *
      clear u0 u1 hb
      refine (W.out _ _ _ _ _ (R0.below d1)).mono ?_
      rintro e w2 ⟨rfl, b2⟩
      replace M := M.below b2
      have d2 := d1.trans (b2.mono d1.size)
      clear b2 d1
      have q0 := M.2.1 0 _ rfl
      have q1 := M.2.1 1 _ rfl
      by_cases hp : Pw tn tp
      case neg =>
        rw [tB_f hp]
        have hE := hide (hE.out (fun h => hp (hOk.1 h).1))
        clear hOk hN2 P
        go_wp2_with fail
        go_ret
        exact ⟨by rw [hE.out]; rfl, d2⟩
      rw [tB_t hp]
      go_wp2_with fail
      refine (V.out _ _).mono ?_
      rintro e w3 ⟨rfl, b3⟩
      replace M := M.below b3
      have d3 := d2.trans (b3.mono d2.size)
      clear b3 d2 q0 q1
      by_cases hv : Wd tv
      case neg =>
        rw [tB_f hv]
        have hE := hide (hE.out (fun h => hv (hOk.1 h).2.1))
        clear hOk hN2 P
        go_wp2_with fail
        go_ret
        exact ⟨by rw [hE.out]; rfl, d3⟩
      rw [tB_t hv]
      have hOk : OP ↔ (0 < k → LtP sn sp tn tp ∧ ¬ Bg sn sp tn tp) := hOk.trans ⟨fun h => h.2.2, fun h => ⟨hp, hv, h⟩⟩
      have q0 := cell_regrown (M.2.1 0 _ rfl)
      have q1 := cell_regrown (M.2.1 1 _ rfl)
      by_cases hk0 : k = 0
      · have hN2 := hide (hN2.out (hOk.2 (fun h => absurd h (by omega))))
        have kk : ¬ ((k : Int) > 0) := by omega
        clear hOk P hE
        go_wp2_with fail
        refine wp_region_quiet_below (by kernel_rfl) (by kernel_rfl) ?_
        repeat (first | go_big_quiet_step ((fail)) | quiet_step ((fail)))
        refine wpQuiet_nil ?_
        intro _ hw'
        obtain ⟨⟨dq, osq⟩, hw''⟩ := hw'
        subst hw''
        have hq := below_regrown w3 dq osq
        generalize Go.Sort.grow (redrawn w3 dq) osq = wq at hq ⊢
        have d4 := d3.trans (hq.mono d3.size)
        clear q0 q1 hq
        go_wp2_with fail
        exact ⟨⟨k + 1, by go_num, by omega, hN2.out, d4⟩, by simp [intOf]; omega⟩
      · obtain ⟨a1, c1, v0, v1, ls, R1⟩ := P (by omega)
        replace v0 := cell_regrown ((d3.cell (p := ⟨b0, off + (k - 1) * 2, none⟩) hbw).trans v0)
        replace v1 := cell_regrown ((d3.cell (p := ⟨b0, off + (k - 1) * 2 + 1, none⟩) hbw).trans v1)
        have R0 := R0.below d3
        have R1 := R1.below d3
        obtain ⟨m, rfl⟩ : ∃ m, k = m + 1 := ⟨k - 1, by omega⟩
        simp only [Nat.add_sub_cancel] at v0 v1
        have kk : (((m + 1 : Nat) : Int) > 0) := by omega
        have kz : ((m + 1 : Nat) : Int) - 1 = (m : Int) := by omega
        have kz2 : (m : Int) < (N : Int) := by omega
        have hOk : OP ↔ (LtP sn sp tn tp ∧ ¬ Bg sn sp tn tp) := hOk.trans ⟨fun h => h (by omega), fun h _ => h⟩
        clear P
        have O := hide (fun w R Q => O.out a1 a0 c1 c0 ⟨sn, sp, sv⟩ ⟨tn, tp, tv⟩ w ls R Q)
        have B := hide (fun w R Q => B.out a0 a1 tn sn c0 c1 tp sp w l1 hc0 R Q)
        dsimp only at O B
        by_cases hL : LtP sn sp tn tp
        case neg =>
          have hE := hide (hE.out (fun h => hL (hOk.1 h).1))
          clear hOk hN2
          have hr : cmpW sn sp tn tp ≥ 0 := by
            have h1 := @cmpW_neg sn tn sp tp
            have h2 : ¬ cmpW sn sp tn tp < 0 := fun h => hL (h1.1 h)
            omega
          generalize cmpW sn sp tn tp = r at *
          go_wp2_with fail
          refine wp_region_quiet_below (by kernel_rfl) (by kernel_rfl) ?_
          repeat (first | go_big_quiet_step ((go_at_call 87; exact Calls.regrown_of (O.out _ (R1.below (below_regrown _ _ _)) (R0.below (below_regrown _ _ _))))) | quiet_step ((go_at_call 87; exact Calls.regrown_of (O.out _ (R1.below (below_regrown _ _ _)) (R0.below (below_regrown _ _ _))))) | go_big_quiet_step ((go_at_call 88; exact Calls.regrown_of (B.out _ (R0.below (below_regrown _ _ _)) (R1.below (below_regrown _ _ _))))) | quiet_step ((go_at_call 88; exact Calls.regrown_of (B.out _ (R0.below (below_regrown _ _ _)) (R1.below (below_regrown _ _ _))))))
          refine wpQuiet_nil ?_
          intro _ hw'
          obtain ⟨⟨dq, osq⟩, hw''⟩ := hw'
          subst hw''
          have hq := below_regrown w3 dq osq
          generalize Go.Sort.grow (redrawn w3 dq) osq = wq at hq ⊢
          have d4 := d3.trans (hq.mono d3.size)
          clear q0 q1 hq v0 v1
          go_wp2_with fail
          go_ret
          exact ⟨by rw [hE.out]; rfl, d4⟩
        by_cases hB : Bg sn sp tn tp
        · rw [cmpW_lt hL] at O
          have hneg : ¬ ((-1 : Int) ≥ 0) := by omega
          rw [tB_t hB] at B
          have hE := hide (hE.out (fun h => (hOk.1 h).2 hB))
          clear hOk hN2
          go_wp2_with fail
          refine wp_region_quiet_below (by kernel_rfl) (by kernel_rfl) ?_
          repeat (first | go_big_quiet_step ((go_at_call 87; exact Calls.regrown_of (O.out _ (R1.below (below_regrown _ _ _)) (R0.below (below_regrown _ _ _))))) | quiet_step ((go_at_call 87; exact Calls.regrown_of (O.out _ (R1.below (below_regrown _ _ _)) (R0.below (below_regrown _ _ _))))) | go_big_quiet_step ((go_at_call 88; exact Calls.regrown_of (B.out _ (R0.below (below_regrown _ _ _)) (R1.below (below_regrown _ _ _))))) | quiet_step ((go_at_call 88; exact Calls.regrown_of (B.out _ (R0.below (below_regrown _ _ _)) (R1.below (below_regrown _ _ _))))))
          refine wpQuiet_nil ?_
          intro _ hw'
          obtain ⟨⟨dq, osq⟩, hw''⟩ := hw'
          subst hw''
          have hq := below_regrown w3 dq osq
          generalize Go.Sort.grow (redrawn w3 dq) osq = wq at hq ⊢
          have d4 := d3.trans (hq.mono d3.size)
          clear q0 q1 hq v0 v1
          go_wp2_with fail
          go_ret
          exact ⟨by rw [hE.out]; rfl, d4⟩
        · rw [cmpW_lt hL] at O
          have hneg : ¬ ((-1 : Int) ≥ 0) := by omega
          rw [tB_f hB] at B
          have hN2 := hide (hN2.out (hOk.2 ⟨hL, hB⟩))
          clear hOk hE
          go_wp2_with fail
          refine wp_region_quiet_below (by kernel_rfl) (by kernel_rfl) ?_
          repeat (first | go_big_quiet_step ((go_at_call 87; exact Calls.regrown_of (O.out _ (R1.below (below_regrown _ _ _)) (R0.below (below_regrown _ _ _))))) | quiet_step ((go_at_call 87; exact Calls.regrown_of (O.out _ (R1.below (below_regrown _ _ _)) (R0.below (below_regrown _ _ _))))) | go_big_quiet_step ((go_at_call 88; exact Calls.regrown_of (B.out _ (R0.below (below_regrown _ _ _)) (R1.below (below_regrown _ _ _))))) | quiet_step ((go_at_call 88; exact Calls.regrown_of (B.out _ (R0.below (below_regrown _ _ _)) (R1.below (below_regrown _ _ _))))))
          refine wpQuiet_nil ?_
          intro _ hw'
          obtain ⟨⟨dq, osq⟩, hw''⟩ := hw'
          subst hw''
          have hq := below_regrown w3 dq osq
          generalize Go.Sort.grow (redrawn w3 dq) osq = wq at hq ⊢
          have d4 := d3.trans (hq.mono d3.size)
          clear q0 q1 hq v0 v1
          go_wp2_with fail
          exact ⟨⟨m + 1 + 1, by go_num, by omega, hN2.out, d4⟩, by simp [intOf]; omega⟩
    · have hlt' : ¬ (k : Int) < (N : Int) := by omega
      obtain rfl : k = N := by omega
      have hE := hide (hT.out hx.out)
      clear hx hT hF hR hl
      go_wp2_with fail
      go_ret
      exact ⟨by rw [hE.out]; rfl, hb⟩
end Go.Proofs.YtnficndeblkjhaaGreatDoor
