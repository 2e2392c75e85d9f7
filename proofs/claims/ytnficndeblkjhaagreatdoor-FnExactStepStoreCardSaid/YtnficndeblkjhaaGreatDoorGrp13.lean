/- GoodConfig of the specification. -/
import Derived.Test.YtnficndeblkjhaaGreatDoorGrp5
import Derived.Test.YtnficndeblkjhaaGreatDoorGrp6
import Derived.Test.YtnficndeblkjhaaGreatDoorS15a
/- A store in memory, its lists told with where they lie, also behind writes into blocks of P. -/
namespace Go.Proofs.YtnficndeblkjhaaGreatDoor
open Go.RowKit

/-- It holds of each world that differs from w in blocks of P alone. -/
def StP (P : Nat → Prop) (R : World → Prop) (w : World) : Prop := ∀ X, OnlyP P w X → R X
theorem StP.here {P : Nat → Prop} {R : World → Prop} {w : World} (h : StP P R w) : R w := h w (OnlyP.refl _ _)
theorem StP.only {P : Nat → Prop} {R : World → Prop} {w w' : World} (h : StP P R w) (on : OnlyP P w w') : StP P R w' := fun X q => h X (on.trans q)
theorem StP.below {P : Nat → Prop} {R : World → Prop} {w w' : World} (h : StP P R w) (b : Below w.heap.size w w') : StP P R w' := h.only (OnlyP.of_below b)
theorem StP.more {P Q : Nat → Prop} {R : World → Prop} {w w' : World} (h : StP P R w) (b : Below w.heap.size w w') (k : ∀ x, x < w.heap.size → Q x → P x) : StP Q R w' := fun X q => h X (((OnlyP.of_below (P := Q) b).trans q).mono (fun x hx hq => k x hx hq))
theorem StP.less {P Q : Nat → Prop} {R : World → Prop} {w : World} (h : StP P R w) (k : ∀ x, Q x → P x) : StP Q R w := fun X q => h X (q.mono (fun x _ hq => k x hq))
theorem StP.both {P : Nat → Prop} {R S : World → Prop} {w : World} (h : StP P R w) (k : StP P S w) : StP P (fun X => R X ∧ S X) w := fun X on => ⟨h X on, k X on⟩
/-- The lists of a store, with the heads of what was confirmed. -/
def HasSt (s : Sto) (ca ra ha : Option Addr) (a : Nat → Option Addr) (c : Nat → Nat) (X : World) : Prop := RowF true ca s.C.n s.C.T X ∧ RowF true ra s.R.n s.R.T X ∧ RowW ha (hdX s.h s.H a c) X ∧ ∀ i, i < s.h → RowF true (a i) (s.H i).n (s.H i).T X
theorem rowX_heads {ha : Option Addr} {h : Nat} {H : Nat → Cf} {a : Nat → Option Addr} {c : Nat → Nat} {X : World} (hW : RowW ha (hdX h H a c) X) (hF : ∀ i, i < h → RowF true (a i) (H i).n (H i).T X) : RowX true ha h H X := fun i hi => by
  obtain ⟨b, off, e, hb, h0⟩ := hW i _ (hdX_at hi)
  exact ⟨b, off, a i, c i, e, hb, h0, hF i hi⟩
/-- A store's value and its lists, also behind writes into blocks of P. -/
def StF (P : Nat → Prop) (v : Value) (s : Sto) (w : World) : Prop := ∃ ca kc ra kr ha kh a c, v = stV s ca kc ra kr ha kh ∧ s.h ≤ kh ∧ StP P (HasSt s ca ra ha a c) w
theorem StF.row {P : Nat → Prop} {v : Value} {s : Sto} {w : World} (h : StF P v s w) : RowSt true v s w := by
  obtain ⟨ca, kc, ra, kr, ha, kh, a, c, e, hk, hS⟩ := h
  obtain ⟨h1, h2, h3, h4⟩ := hS.here
  exact ⟨ca, kc, ra, kr, ha, kh, e, h1, h2, rowX_heads h3 h4, hk⟩
theorem StF.form {P : Nat → Prop} {v : Value} {s : Sto} {w : World} (h : StF P v s w) : ∃ ca kc ra kr ha kh, v = .agg #[.slice ca s.C.n kc, .slice ra s.R.n kr, .slice ha s.h kh, .int .i64 s.l] := h.row.form
theorem StF.more {P Q : Nat → Prop} {v : Value} {s : Sto} {w w' : World} (h : StF P v s w) (b : Below w.heap.size w w') (k : ∀ x, x < w.heap.size → Q x → P x) : StF Q v s w' := by
  obtain ⟨ca, kc, ra, kr, ha, kh, a, c, e, hk, hS⟩ := h
  exact ⟨ca, kc, ra, kr, ha, kh, a, c, e, hk, hS.more b k⟩
theorem StF.only {P : Nat → Prop} {v : Value} {s : Sto} {w w' : World} (h : StF P v s w) (on : OnlyP P w w') : StF P v s w' := by
  obtain ⟨ca, kc, ra, kr, ha, kh, a, c, e, hk, hS⟩ := h
  exact ⟨ca, kc, ra, kr, ha, kh, a, c, e, hk, hS.only on⟩
/-- A store in memory of its own. -/
theorem AnsSt.stF {v : Value} {s : Sto} {lo hi : Nat} {w : World} (h : AnsSt v s lo hi w) (P : Nat → Prop) (hP : ∀ k, lo ≤ k → k < hi → ¬ P k) (h1 : 1 ≤ s.h) : StF P v s w := by
  obtain ⟨ca, kc, ra, kr, ha, kh, m1, m2, e, l1, l2, l3, l4, hk, R1, R2, ⟨h0, hlh, h5⟩⟩ := h
  rcases h5 with e0 | ⟨B, E, g, h2, h3, hva, hg, hj, q1, q2, h6⟩
  · omega
  obtain ⟨a, c, hac⟩ := choose_hd h6
  refine ⟨ca, kc, ra, kr, ha, kh, a, c, e, hk, fun X on => ⟨(R1.onlyP on (fun k hk => hP k (by omega) (by omega))).1, (R2.onlyP on (fun k hk => hP k (by omega) (by omega))).1, fun j u hu => ?_, fun i hi => ?_⟩⟩
  · have hjl : j < s.h := by
      obtain ⟨hl, _⟩ := List.getElem?_eq_some_iff.1 hu
      rwa [hdX_len] at hl
    rw [hdX_at hjl] at hu
    obtain rfl := Option.some.inj hu
    exact ⟨g, 0, hva, Nat.lt_of_lt_of_le hg on.2.2.2.1, by rw [Nat.zero_add]; exact (on.cell hg (hP g (by omega) (by omega))).trans (hac j hjl).1⟩
  · have hq := h2 i hi
    exact ((hac i hi).2.onlyP on (fun k hk => hP k (by omega) (by omega))).1
end Go.Proofs.YtnficndeblkjhaaGreatDoor

namespace Go.Proofs.YtnficndeblkjhaaGreatDoor
open Go.RowKit

set_option maxRecDepth 100000 in
set_option maxHeartbeats 3200000 in
theorem s_goodConfig (a : Option Addr) (N c : Nat) (T : Nat → Lf) (w : World) (hN : N ≤ 1048576) (hl : LowF N T) (hR : RowF true a N T w) :
    Calls Tryz.prog 50 #[.slice a N c] w fun e w' => e = .returned (.bool (tB (GC N T))) ∧ Below w.heap.size w w' := by
  have hF : Hid (∀ k, k < N → ¬ OkL T k → tB (GC N T) = false) := fun k hk h => tB_f (fun g => h (g.1 k hk))
  have hT : Hid ((∀ k, k < N → OkL T k) → decide ((N : Int) ≤ 30) = tB (GC N T)) := fun h => tB_of (fun g => by have := g.2; simp; omega) (fun g => by
    have : ¬ N ≤ 30 := fun k => g ⟨h, k⟩
    simp; omega)
  generalize tB (GC N T) = b at *
  have W := hide (fun a n c f w h h2 R => s_path a n c f w h h2 R)
  have V := hide (fun s w h => s_word s w h)
  have O := hide (fun a a' n m c c' p q w h R Q => s_less15 a a' n m c c' p q w h R Q)
  have B := hide (fun a a' n m c c' p q w h R Q => s_begins a a' n m c c' p q w h R Q)
  go_enter Tryz.func50, Tryz.ntmps50
  go_wp2_with fail
  go_loopw [3, 4, 7] (fun _ _ y wr => ∃ k : Nat, y = .int .i64 k ∧ k ≤ N ∧ Hid (∀ i, i < k → OkL T i) ∧ Below w.heap.size w wr) (fun _ _ y _ => N - (intOf y).toNat)
  case atStart => exact ⟨0, rfl, Nat.zero_le _, fun i hi => absurd hi (by omega), Below.refl _ _⟩
  case round =>
    obtain ⟨k, rfl, hk, hx, hb⟩ := hrel
    by_cases hlt : k < N
    · obtain ⟨b0, off, a0, c0, rfl, hbw, u0, u1, hc0, R0⟩ := hR k hlt
      replace u0 := (hb.cell (p := ⟨b0, off + k * 2, none⟩) hbw).trans u0
      replace u1 := (hb.cell (p := ⟨b0, off + k * 2 + 1, none⟩) hbw).trans u1
      replace hc0 := hc0 rfl
      have hlt' : (k : Int) < (N : Int) := by omega
      have hlk := hl k hlt
      have hOk : OkL T k ↔ (Pw (T k).n (T k).p ∧ Wd (T k).v ∧ (0 < k → LtP (T (k - 1)).n (T (k - 1)).p (T k).n (T k).p ∧ ¬ Bg (T (k - 1)).n (T (k - 1)).p (T k).n (T k).p)) := Iff.rfl
      have hN2 : Hid (OkL T k → ∀ i, i < k + 1 → OkL T i) := fun h i hi => by
        by_cases e : i = k
        · subst e; exact h
        · exact hx.out i (by omega)
      have hE := hide (hF.out k hlt)
      have P : 0 < k → ∃ (a1 : Option Addr) (c1 : Nat), w.cell? ⟨b0, off + (k - 1) * 2, none⟩ = some (.slice a1 (T (k - 1)).n c1) ∧ w.cell? ⟨b0, off + (k - 1) * 2 + 1, none⟩ = some (.string (T (k - 1)).v) ∧ (T (k - 1)).n ≤ 1048576 ∧ RowStr a1 (T (k - 1)).n (T (k - 1)).p w := by
        intro h0
        obtain ⟨b1, off1, a1, c1, he, _, v0, v1, _, R1⟩ := hR (k - 1) (by omega)
        simp only [Option.some.injEq, Addr.mk.injEq, and_true] at he
        obtain ⟨rfl, rfl⟩ := he
        exact ⟨a1, c1, v0, v1, (hl (k - 1) (by omega)).1, R1⟩
      have M := Mut.new wr #[.slice a0 (T k).n c0, .string (T k).v] 87
      have d1 : Below w.heap.size w (wr.alloc (.cells #[.slice a0 (T k).n c0, .string (T k).v] 87)) := below_step hb (below_box (Below.refl _ _))
      generalize T (k - 1) = t0 at *
      generalize hOp : OkL T k = OP at *
      generalize T k = t at *
      clear hx hR hl hF hOp hT
      obtain ⟨tn, tp, tv⟩ := t
      obtain ⟨sn, sp, sv⟩ := t0
      obtain ⟨l1, l2, l3⟩ := hlk
      dsimp only at *
      go_wp2_with fail
      have hbs := hb.size
      generalize wr.alloc (.cells #[.slice a0 tn c0, .string tv] 87) = w1 at *
      generalize wr.heap.size = bx at *
      clear u0 u1 hb
      refine (W.out _ _ _ _ _ l1 (fun i hi => Nat.le_trans (l2 i hi) (by unfold maxLen; omega)) (R0.below d1)).mono ?_
      rintro e w2 ⟨rfl, b2⟩
      replace M := M.below b2
      have d2 := d1.trans (b2.mono d1.size)
      clear b2 d1
      have q0 := M.2.1 0 _ rfl
      have q1 := M.2.1 1 _ rfl
      by_cases hp : Pw tn tp
      case neg =>
        rw [tB_f hp]
        have hE := hide (hE.out (fun h => hp (hOk.1 h).1))
        clear hOk hN2 P
        go_wp2_with fail
        go_ret
        exact ⟨by rw [hE.out]; rfl, d2⟩
      rw [tB_t hp]
      go_wp2_with fail
      refine (V.out _ _ (Nat.le_trans l3 (by unfold maxLen; omega))).mono ?_
      rintro e w3 ⟨rfl, b3⟩
      replace M := M.below b3
      have d3 := d2.trans (b3.mono d2.size)
      clear b3 d2 q0 q1
      by_cases hv : Wd tv
      case neg =>
        rw [tB_f hv]
        have hE := hide (hE.out (fun h => hv (hOk.1 h).2.1))
        clear hOk hN2 P
        go_wp2_with fail
        go_ret
        exact ⟨by rw [hE.out]; rfl, d3⟩
      rw [tB_t hv]
      have hOk : OP ↔ (0 < k → LtP sn sp tn tp ∧ ¬ Bg sn sp tn tp) := hOk.trans ⟨fun h => h.2.2, fun h => ⟨hp, hv, h⟩⟩
      have q0 := cell_regrown (M.2.1 0 _ rfl)
      have q1 := cell_regrown (M.2.1 1 _ rfl)
      by_cases hk0 : k = 0
      · have hN2 := hide (hN2.out (hOk.2 (fun h => absurd h (by omega))))
        have kk : ¬ ((k : Int) > 0) := by omega
        clear hOk P hE
        go_wp2_with fail
        refine wp_region_quiet_below (by kernel_rfl) (by kernel_rfl) ?_
        repeat (first | go_big_quiet_step ((fail)) | quiet_step ((fail)))
        refine wpQuiet_nil ?_
        intro _ hw'
        obtain ⟨⟨dq, osq⟩, hw''⟩ := hw'
        subst hw''
        have hq := below_regrown w3 dq osq
        generalize Go.Sort.grow (redrawn w3 dq) osq = wq at hq ⊢
        have d4 := d3.trans (hq.mono d3.size)
        clear q0 q1 hq
        go_wp2_with fail
        exact ⟨⟨k + 1, by go_num, by omega, hN2.out, d4⟩, by simp [intOf]; omega⟩
      · obtain ⟨a1, c1, v0, v1, ls, R1⟩ := P (by omega)
        replace v0 := cell_regrown ((d3.cell (p := ⟨b0, off + (k - 1) * 2, none⟩) hbw).trans v0)
        replace v1 := cell_regrown ((d3.cell (p := ⟨b0, off + (k - 1) * 2 + 1, none⟩) hbw).trans v1)
        have R0 := R0.below d3
        have R1 := R1.below d3
        obtain ⟨m, rfl⟩ : ∃ m, k = m + 1 := ⟨k - 1, by omega⟩
        simp only [Nat.add_sub_cancel] at v0 v1
        have kk : (((m + 1 : Nat) : Int) > 0) := by omega
        have kz : ((m + 1 : Nat) : Int) - 1 = (m : Int) := by omega
        have kz2 : (m : Int) < (N : Int) := by omega
        have hOk : OP ↔ (LtP sn sp tn tp ∧ ¬ Bg sn sp tn tp) := hOk.trans ⟨fun h => h (by omega), fun h _ => h⟩
        clear P
        have O := hide (fun w R Q => O.out a1 a0 sn tn c1 c0 sp tp w ls R Q)
        have B := hide (fun w R Q => B.out a1 a0 sn tn c1 c0 sp tp w ls R Q)
        by_cases hL : LtP sn sp tn tp
        case neg =>
          have hE := hide (hE.out (fun h => hL (hOk.1 h).1))
          clear hOk hN2
          rw [tB_f hL] at O
          go_wp2_with fail
          refine wp_region_quiet_below (by kernel_rfl) (by kernel_rfl) ?_
          repeat (first | go_big_quiet_step ((go_at_call 81; exact Calls.regrown_of (O.out _ (R1.below (below_regrown _ _ _)) (R0.below (below_regrown _ _ _))))) | quiet_step ((go_at_call 81; exact Calls.regrown_of (O.out _ (R1.below (below_regrown _ _ _)) (R0.below (below_regrown _ _ _))))) | go_big_quiet_step ((go_at_call 82; exact Calls.regrown_of (B.out _ (R1.below (below_regrown _ _ _)) (R0.below (below_regrown _ _ _))))) | quiet_step ((go_at_call 82; exact Calls.regrown_of (B.out _ (R1.below (below_regrown _ _ _)) (R0.below (below_regrown _ _ _))))))
          refine wpQuiet_nil ?_
          intro _ hw'
          obtain ⟨⟨dq, osq⟩, hw''⟩ := hw'
          subst hw''
          have hq := below_regrown w3 dq osq
          generalize Go.Sort.grow (redrawn w3 dq) osq = wq at hq ⊢
          have d4 := d3.trans (hq.mono d3.size)
          clear q0 q1 hq v0 v1
          go_wp2_with fail
          go_ret
          exact ⟨by rw [hE.out]; rfl, d4⟩
        by_cases hB : Bg sn sp tn tp
        · rw [tB_t hL] at O
          rw [tB_t hB] at B
          have hE := hide (hE.out (fun h => (hOk.1 h).2 hB))
          clear hOk hN2
          go_wp2_with fail
          refine wp_region_quiet_below (by kernel_rfl) (by kernel_rfl) ?_
          repeat (first | go_big_quiet_step ((go_at_call 81; exact Calls.regrown_of (O.out _ (R1.below (below_regrown _ _ _)) (R0.below (below_regrown _ _ _))))) | quiet_step ((go_at_call 81; exact Calls.regrown_of (O.out _ (R1.below (below_regrown _ _ _)) (R0.below (below_regrown _ _ _))))) | go_big_quiet_step ((go_at_call 82; exact Calls.regrown_of (B.out _ (R1.below (below_regrown _ _ _)) (R0.below (below_regrown _ _ _))))) | quiet_step ((go_at_call 82; exact Calls.regrown_of (B.out _ (R1.below (below_regrown _ _ _)) (R0.below (below_regrown _ _ _))))))
          refine wpQuiet_nil ?_
          intro _ hw'
          obtain ⟨⟨dq, osq⟩, hw''⟩ := hw'
          subst hw''
          have hq := below_regrown w3 dq osq
          generalize Go.Sort.grow (redrawn w3 dq) osq = wq at hq ⊢
          have d4 := d3.trans (hq.mono d3.size)
          clear q0 q1 hq v0 v1
          go_wp2_with fail
          go_ret
          exact ⟨by rw [hE.out]; rfl, d4⟩
        · rw [tB_t hL] at O
          rw [tB_f hB] at B
          have hN2 := hide (hN2.out (hOk.2 ⟨hL, hB⟩))
          clear hOk hE
          go_wp2_with fail
          refine wp_region_quiet_below (by kernel_rfl) (by kernel_rfl) ?_
          repeat (first | go_big_quiet_step ((go_at_call 81; exact Calls.regrown_of (O.out _ (R1.below (below_regrown _ _ _)) (R0.below (below_regrown _ _ _))))) | quiet_step ((go_at_call 81; exact Calls.regrown_of (O.out _ (R1.below (below_regrown _ _ _)) (R0.below (below_regrown _ _ _))))) | go_big_quiet_step ((go_at_call 82; exact Calls.regrown_of (B.out _ (R1.below (below_regrown _ _ _)) (R0.below (below_regrown _ _ _))))) | quiet_step ((go_at_call 82; exact Calls.regrown_of (B.out _ (R1.below (below_regrown _ _ _)) (R0.below (below_regrown _ _ _))))))
          refine wpQuiet_nil ?_
          intro _ hw'
          obtain ⟨⟨dq, osq⟩, hw''⟩ := hw'
          subst hw''
          have hq := below_regrown w3 dq osq
          generalize Go.Sort.grow (redrawn w3 dq) osq = wq at hq ⊢
          have d4 := d3.trans (hq.mono d3.size)
          clear q0 q1 hq v0 v1
          go_wp2_with fail
          exact ⟨⟨m + 1 + 1, by go_num, by omega, hN2.out, d4⟩, by simp [intOf]; omega⟩
    · have hlt' : ¬ (k : Int) < (N : Int) := by omega
      obtain rfl : k = N := by omega
      have hE := hide (hT.out hx.out)
      clear hx hT hF hR hl
      go_wp2_with fail
      go_ret
      exact ⟨by rw [← hE.out]; rfl, hb⟩
end Go.Proofs.YtnficndeblkjhaaGreatDoor
