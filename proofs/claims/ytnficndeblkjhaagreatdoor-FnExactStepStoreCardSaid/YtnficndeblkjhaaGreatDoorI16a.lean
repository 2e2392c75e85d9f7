/- GoodStore of the program. -/
import Derived.Test.YtnficndeblkjhaaGreatDoorGrp4
import Derived.Test.YtnficndeblkjhaaGreatDoorI15c
namespace Go.Proofs.YtnficndeblkjhaaGreatDoor
open Go.RowKit

theorem sameC_no {a b : Cf} {k : Nat} (hk : k < a.n) (h : ¬ SameF (a.T k) (b.T k)) : tB (SameC a b) = false := tB_f (fun g => h (g.2 k hk))
theorem sameC_yes {a b : Cf} (hn : a.n = b.n) (h : ∀ i, i < a.n → SameF (a.T i) (b.T i)) : tB (SameC a b) = true := tB_t ⟨hn, h⟩
set_option maxRecDepth 100000 in
set_option maxHeartbeats 1600000 in
theorem i_sameLeaf (a a' : Option Addr) (c c' : Nat) (s t : Lf) (w : World) (hn : s.n ≤ 1048576) (hR : RowStr a s.n s.p w) (hQ : RowStr a' t.n t.p w) :
    Calls Tryz.prog 107 #[.agg #[.slice a s.n c, .string s.v], .agg #[.slice a' t.n c', .string t.v]] w fun e w' => e = .returned (.bool (tB (SameF s t))) ∧ Below w.heap.size w w' := by
  have E := hide (fun w R Q => i_eqP a a' s.n t.n c c' s.p t.p w hn R Q)
  have hT : Hid (s.v = t.v → tB (s.n = t.n ∧ Bg s.n s.p t.n t.p) = tB (SameF s t)) := fun h => tB_congr ⟨fun k => ⟨h, k⟩, fun k => k.2⟩
  have hF : Hid (s.v ≠ t.v → tB (SameF s t) = false) := fun h => tB_f (fun k => h k.1)
  generalize tB (SameF s t) = r at *
  generalize tB (s.n = t.n ∧ Bg s.n s.p t.n t.p) = r2 at *
  obtain ⟨sn, sp, sv⟩ := s
  obtain ⟨tn, tp, tv⟩ := t
  dsimp only at *
  have M0 := (Mut.new w #[.slice a sn c, .string sv] 87).alloc (.cells #[.slice a' tn c', .string tv] 87)
  have M1 := Mut.new (w.alloc (.cells #[.slice a sn c, .string sv] 87)) #[.slice a' tn c', .string tv] 87
  have d0 : Below w.heap.size w ((w.alloc (.cells #[.slice a sn c, .string sv] 87)).alloc (.cells #[.slice a' tn c', .string tv] 87)) := below_box2 (Below.refl _ _)
  simp only [World.size_alloc] at M1
  by_cases hv : sv = tv
  · subst hv
    have hE := hide (hT.out rfl)
    have kv := sEq_t sv
    clear hT hF
    go_enter Tryz.func107, Tryz.ntmps107
    go_wp2_with fail
    generalize (w.alloc (.cells #[.slice a sn c, .string sv] 87)).alloc (.cells #[.slice a' tn c', .string sv] 87) = w0 at *
    refine (E.out _ (hR.below d0) (hQ.below d0)).mono ?_
    rintro e w1 ⟨rfl, bb⟩
    have d1 := d0.trans (bb.mono d0.size)
    clear bb d0 M0 M1 E
    go_wp2_with fail
    go_ret
    exact ⟨by rw [hE.out]; rfl, d1⟩
  · have hE := hide (hF.out hv)
    have kv := sEq_f hv
    clear hT hF E
    go_enter Tryz.func107, Tryz.ntmps107
    go_wp2_with fail
    go_ret
    exact ⟨by rw [hE.out]; rfl, d0⟩
set_option maxRecDepth 100000 in
set_option maxHeartbeats 3200000 in
theorem i_equalLeaves (a : Option Addr) (s : Cf) (c : Nat) (a' : Option Addr) (t : Cf) (c' : Nat) (w : World) (hn : s.n ≤ 1048576) (hl : LowF s.n s.T) (hn' : t.n ≤ 1048576) (hR : RowF false a s.n s.T w) (hQ : RowF false a' t.n t.T w) :
    Calls Tryz.prog 106 #[.slice a s.n c, .slice a' t.n c', .func (.func 107) #[] #[]] w fun e w' => e = .returned (.bool (tB (SameC s t))) ∧ Below w.heap.size w w' := by
  by_cases hnn : s.n = t.n
  · have hno : Hid (∀ i, i < s.n → ¬ SameF (s.T i) (t.T i) → tB (SameC s t) = false) := fun i hi h => sameC_no hi h
    have hyes : Hid ((∀ i, i < s.n → SameF (s.T i) (t.T i)) → tB (SameC s t) = true) := sameC_yes hnn
    generalize tB (SameC s t) = r at *
    obtain ⟨sn, sT⟩ := s
    obtain ⟨tn, tT⟩ := t
    dsimp only at *
    subst hnn
    have hne : ((sn : Int) != (sn : Int)) = false := by simp
    go_enter Tryz.func106, Tryz.ntmps106
    go_wp2_with fail
    go_loopw [17] (fun i wr => ∃ k : Nat, k ≤ sn ∧ i = .int .i64 k ∧ Hid (∀ j, j < k → SameF (sT j) (tT j)) ∧ Below w.heap.size w wr) (fun i _ => sn - (intOf i).toNat)
    case atStart => exact ⟨0, Nat.zero_le _, rfl, fun j hj => absurd hj (by omega), Below.refl _ _⟩
    case round =>
      obtain ⟨k, hk, rfl, hall, hb⟩ := hrel
      by_cases hlt : k < sn
      · obtain ⟨b, off, a0, c0, rfl, hbw, u0, u1, _, ht⟩ := hR k hlt
        obtain ⟨b', off', d0, e0, rfl, hbw', v0, v1, _, hu⟩ := hQ k (by omega)
        replace u0 := (hb.cell (p := ⟨b, off + k * 2, none⟩) hbw).trans u0
        replace u1 := (hb.cell (p := ⟨b, off + k * 2 + 1, none⟩) hbw).trans u1
        have bY : Below w.heap.size w (wr.alloc (.cells #[.slice a0 (sT k).n c0, .string (sT k).v] 87)) := hb.trans ((below_box (Below.refl _ _)).mono hb.size)
        replace v0 := (bY.cell (p := ⟨b', off' + k * 2, none⟩) hbw').trans v0
        replace v1 := (bY.cell (p := ⟨b', off' + k * 2 + 1, none⟩) hbw').trans v1
        clear bY
        have hlt' : (k : Int) < (sn : Int) := by omega
        have lo := (hl k hlt).1
        have SC := hide (fun w R Q => i_sameLeaf a0 d0 c0 e0 (sT k) (tT k) w lo R Q)
        have hnk := hide (hno.out k hlt)
        have bX : Below wr.heap.size wr ((wr.alloc (.cells #[.slice a0 (sT k).n c0, .string (sT k).v] 87)).alloc (.cells #[.slice d0 (tT k).n e0, .string (tT k).v] 87)) := below_box2 (Below.refl _ _)
        have dX := hide (hb.trans (bX.mono hb.size))
        have hT := hide (ht.below dX.out)
        have hU := hide (hu.below dX.out)
        clear lo ht hu bX hR hQ hl hno
        have hz : Hid (tB (SameF (sT k) (tT k)) = true → SameF (sT k) (tT k)) := fun h => Classical.byContradiction (fun q => by rw [tB_f q] at h; cases h)
        have hz2 : Hid (tB (SameF (sT k) (tT k)) = false → ¬ SameF (sT k) (tT k)) := fun h q => by rw [tB_t q] at h; cases h
        cases hs : tB (SameF (sT k) (tT k)) with
        | false =>
          rw [hs] at SC
          have hN := hide (hnk.out (hz2.out hs))
          clear hz hz2 hs hnk hall hyes
          generalize sT k = x at *
          generalize tT k = y at *
          go_wp2_with fail
          refine (SC.out _ hT.out hU.out).mono ?_
          rintro e w2 ⟨rfl, b2⟩
          have hbq := dX.out.trans (b2.mono dX.out.size)
          clear b2 dX
          go_wp2_with fail
          go_ret
          exact ⟨by rw [hN.out]; rfl, hbq⟩
        | true =>
          rw [hs] at SC
          have hN : Hid (∀ j, j < k + 1 → SameF (sT j) (tT j)) := fun j hj => by
            by_cases e : j = k
            · rw [e]; exact hz.out hs
            · exact hall.out j (by omega)
          clear hz hz2 hs hnk hall hyes
          generalize sT k = x at *
          generalize tT k = y at *
          go_wp2_with fail
          refine (SC.out _ hT.out hU.out).mono ?_
          rintro e w2 ⟨rfl, b2⟩
          have hbq := dX.out.trans (b2.mono dX.out.size)
          clear b2 dX
          go_wp2_with fail
          exact ⟨⟨k + 1, by omega, by go_num, hN.out, hbq⟩, by simp [intOf]; omega⟩
      · have hlt' : ¬ (k : Int) < (sn : Int) := by omega
        obtain rfl : k = sn := by omega
        have hE := hide (hyes.out hall.out)
        clear hall hyes hno hR hQ hl
        go_wp2_with fail
        go_ret
        exact ⟨by rw [hE.out]; rfl, hb⟩
  · have hne : ((s.n : Int) != (t.n : Int)) = true := by simp; omega
    rw [tB_f (fun g : SameC s t => hnn g.1)]
    clear hl hR hQ hnn
    go_enter Tryz.func106, Tryz.ntmps106
    go_wp2_with fail
    go_ret
    exact ⟨rfl, Below.refl _ _⟩
set_option maxRecDepth 100000 in
set_option maxHeartbeats 800000 in
theorem i_sameLeaves (a : Option Addr) (s : Cf) (c : Nat) (a' : Option Addr) (t : Cf) (c' : Nat) (w : World) (hn : s.n ≤ 1048576) (hl : LowF s.n s.T) (hn' : t.n ≤ 1048576) (hR : RowF false a s.n s.T w) (hQ : RowF false a' t.n t.T w) :
    Calls Tryz.prog 89 #[.slice a s.n c, .slice a' t.n c'] w fun e w' => e = .returned (.bool (tB (SameC s t))) ∧ Below w.heap.size w w' := by
  have E := hide (fun w R Q => i_equalLeaves a s c a' t c' w hn hl hn' R Q)
  generalize tB (SameC s t) = r at *
  go_enter Tryz.func89, Tryz.ntmps89
  go_wp2_with fail
  refine (E.out _ hR hQ).mono ?_
  rintro e w1 ⟨rfl, b1⟩
  go_wp2_with fail
  go_ret
  exact ⟨rfl, b1⟩
set_option maxRecDepth 100000 in
set_option maxHeartbeats 800000 in
theorem i_newest (ca : Option Addr) (cn kc : Nat) (ra : Option Addr) (rn kr b off h kh : Nat) (l : Int) (a0 : Option Addr) (n0 c0 : Nat) (w : World) (hh : 1 ≤ h) (hb : b < w.heap.size) (hc : w.cell? ⟨b, off, none⟩ = some (.slice a0 n0 c0)) :
    Calls Tryz.prog 90 #[.agg #[.slice ca cn kc, .slice ra rn kr, .slice (some ⟨b, off, none⟩) h kh, .int .i64 l]] w fun e w' => e = .returned (.slice a0 n0 c0) ∧ Below w.heap.size w w' := by
  have h0 : (0 : Int) < (h : Int) := by omega
  have d0 : Below w.heap.size w (w.alloc (.cells #[.slice ca cn kc, .slice ra rn kr, .slice (some ⟨b, off, none⟩) h kh, .int .i64 l] 34)) := below_box (Below.refl _ _)
  have hc2 := (d0.cell (p := ⟨b, off, none⟩) hb).trans hc
  go_enter Tryz.func90, Tryz.ntmps90
  go_wp2_with fail
  go_ret
  exact ⟨rfl, d0⟩
set_option maxRecDepth 100000 in
set_option maxHeartbeats 1600000 in
theorem i_runsNewest (v : Value) (s : Sto) (w : World) (hh : 1 ≤ s.h) (hn : s.R.n ≤ 1048576) (hl : LowF s.R.n s.R.T) (hn' : (s.H 0).n ≤ 1048576) (hR : RowSt false v s w) :
    Calls Tryz.prog 61 #[v] w fun e w' => e = .returned (.bool (tB (SameC s.R (s.H 0)))) ∧ Below w.heap.size w w' := by
  obtain ⟨ca, kc, ra, kr, ha, kh, rfl, R1, R2, R3, _⟩ := hR
  obtain ⟨b, off, a0, c0, rfl, hb, u0, R4⟩ := R3 0 (by omega)
  unfold stV
  have N := hide (fun w hb hc => i_newest ca s.C.n kc ra s.R.n kr b off s.h kh s.l a0 (s.H 0).n c0 w hh hb hc)
  have E := hide (fun w R Q => i_sameLeaves ra s.R kr a0 (s.H 0) c0 w hn hl hn' R Q)
  rw [Nat.add_zero] at u0
  have d0 : Below w.heap.size w (w.alloc (.cells #[.slice ca s.C.n kc, .slice ra s.R.n kr, .slice (some ⟨b, off, none⟩) s.h kh, .int .i64 s.l] 34)) := below_box (Below.refl _ _)
  have R2 := hide (R2.below d0)
  have R4 := hide (R4.below d0)
  have u0 := hide ((d0.cell (p := ⟨b, off, none⟩) hb).trans u0)
  have hb1 := hide (Nat.lt_of_lt_of_le hb d0.size)
  have M0 := Mut.new w #[.slice ca s.C.n kc, .slice ra s.R.n kr, .slice (some ⟨b, off, none⟩) s.h kh, .int .i64 s.l] 34
  clear R1 R3 hl hh hn hn'
  generalize tB (SameC s.R (s.H 0)) = r at *
  go_enter Tryz.func61, Tryz.ntmps61
  go_wp2_with fail
  generalize w.alloc (.cells #[.slice ca s.C.n kc, .slice ra s.R.n kr, .slice (some ⟨b, off, none⟩) s.h kh, .int .i64 s.l] 34) = w1 at *
  have k0 := cell_regrown (M0.2.1 0 _ rfl)
  have k1 := cell_regrown (M0.2.1 1 _ rfl)
  have k2 := cell_regrown (M0.2.1 2 _ rfl)
  have k3 := cell_regrown (M0.2.1 3 _ rfl)
  have u0 := hide (cell_regrown u0.out)
  refine wp_region_quiet_below (by kernel_rfl) (by kernel_rfl) ?_
  repeat (first | go_big_quiet_step ((first | (go_at_call 90; exact Calls.regrown_of (N.out _ (by first | with_reducible exact hb1.out | with_reducible exact Nat.lt_of_lt_of_le hb1.out (below_regrown _ _ _).size) (by first | exact u0.out _ _ | exact u0.out _ | exact u0.out))) | (go_at_call 89; exact Calls.regrown_of (E.out _ (R2.out.below (below_regrown _ _ _)) (R4.out.below (below_regrown _ _ _)))))) | quiet_step ((first | (go_at_call 90; exact Calls.regrown_of (N.out _ (by first | with_reducible exact hb1.out | with_reducible exact Nat.lt_of_lt_of_le hb1.out (below_regrown _ _ _).size) (by first | exact u0.out _ _ | exact u0.out _ | exact u0.out))) | (go_at_call 89; exact Calls.regrown_of (E.out _ (R2.out.below (below_regrown _ _ _)) (R4.out.below (below_regrown _ _ _)))))))
  refine wpQuiet_nil ?_
  intro _ hw'
  obtain ⟨⟨dq, osq⟩, hw''⟩ := hw'
  subst hw''
  have hq := below_regrown w1 dq osq
  generalize Go.Sort.grow (redrawn w1 dq) osq = wq at hq ⊢
  have d1 := d0.trans (hq.mono d0.size)
  clear hq k0 k1 k2 k3
  go_wp2_with fail
  go_ret
  exact ⟨rfl, d1⟩
set_option maxRecDepth 100000 in
set_option maxHeartbeats 1600000 in
theorem i_goodHistory (a : Option Addr) (h c : Nat) (H : Nat → Cf) (w : World) (hn : h ≤ 1048576) (hl : ∀ i, i < h → LowCf (H i)) (hR : RowX true a h H w) :
    Calls Tryz.prog 60 #[.slice a h c] w fun e w' => e = .returned (.bool (tB (1 ≤ h ∧ h ≤ 10 ∧ ∀ i, i < h → GC (H i).n (H i).T))) ∧ Below w.heap.size w w' := by
  have hN : Hid (¬ (1 ≤ h ∧ h ≤ 10) → tB (1 ≤ h ∧ h ≤ 10 ∧ ∀ i, i < h → GC (H i).n (H i).T) = false) := fun q => tB_f (fun g => q ⟨g.1, g.2.1⟩)
  have hF : Hid (∀ k, k < h → ¬ GC (H k).n (H k).T → tB (1 ≤ h ∧ h ≤ 10 ∧ ∀ i, i < h → GC (H i).n (H i).T) = false) := fun k hk q => tB_f (fun g => q (g.2.2 k hk))
  have hT : Hid (1 ≤ h → h ≤ 10 → (∀ i, i < h → GC (H i).n (H i).T) → tB (1 ≤ h ∧ h ≤ 10 ∧ ∀ i, i < h → GC (H i).n (H i).T) = true) := fun a b c => tB_t ⟨a, b, c⟩
  generalize tB (1 ≤ h ∧ h ≤ 10 ∧ ∀ i, i < h → GC (H i).n (H i).T) = r at *
  by_cases h1 : h = 0
  · have hE := hide (hN.out (by omega))
    have k0 : ((h : Int) == 0) = true := by simp [h1]
    clear hN hF hT hR hl
    go_enter Tryz.func60, Tryz.ntmps60
    go_wp2_with fail
    go_ret
    exact ⟨by rw [hE.out]; rfl, Below.refl _ _⟩
  have k0 : ((h : Int) == 0) = false := by simp; omega
  by_cases h2 : h ≤ 10
  case neg =>
    have hE := hide (hN.out (by omega))
    have k1 : (10 : Int) < (h : Int) := by omega
    clear hN hF hT hR hl
    go_enter Tryz.func60, Tryz.ntmps60
    go_wp2_with fail
    go_ret
    exact ⟨by rw [hE.out]; rfl, Below.refl _ _⟩
  have k1 : ¬ (10 : Int) < (h : Int) := by omega
  clear hN
  go_enter Tryz.func60, Tryz.ntmps60
  go_wp2_with fail
  go_loopw [4, 15] (fun _ y wr => ∃ k : Nat, y = .int .i64 k ∧ k ≤ h ∧ Hid (∀ i, i < k → GC (H i).n (H i).T) ∧ Below w.heap.size w wr) (fun _ y _ => h - (intOf y).toNat)
  case atStart => exact ⟨0, rfl, Nat.zero_le _, fun i hi => absurd hi (by omega), Below.refl _ _⟩
  case round =>
    clear k0 k1
    obtain ⟨k, rfl, hk, hx, hb⟩ := hrel
    by_cases hlt : k < h
    · obtain ⟨b0, off, a0, c0, rfl, hbw, u0, R0⟩ := hR k hlt
      replace u0 := (hb.cell (p := ⟨b0, off + k, none⟩) hbw).trans u0
      have hlt' : (k : Int) < (h : Int) := by omega
      have G := hide (fun w R => i_goodConfig a0 (H k).n c0 (H k).T w (hl k hlt).n (hl k hlt).2 R)
      have hE := hide (hF.out k hlt)
      have hN2 : Hid (GC (H k).n (H k).T → ∀ i, i < k + 1 → GC (H i).n (H i).T) := fun q i hi => by
        by_cases e : i = k
        · subst e; exact q
        · exact hx.out i (by omega)
      have R0 := hide (R0.below hb)
      clear hR hl hF hT hx
      generalize H k = t at *
      go_wp2_with fail
      refine (G.out _ R0.out).mono ?_
      rintro e w2 ⟨rfl, b2⟩
      have d2 := hb.trans (b2.mono hb.size)
      clear b2 hb u0 G
      by_cases hg : GC t.n t.T
      · rw [tB_t hg]
        have hN3 := hide (hN2.out hg)
        clear hN2 hE
        go_wp2_with fail
        exact ⟨⟨k + 1, by go_num, by omega, hN3.out, d2⟩, by simp [intOf]; omega⟩
      · rw [tB_f hg]
        have hE2 := hide (hE.out hg)
        clear hN2 hE
        go_wp2_with fail
        go_ret
        exact ⟨by rw [hE2.out]; rfl, d2⟩
    · have hlt' : ¬ (k : Int) < (h : Int) := by omega
      obtain rfl : k = h := by omega
      have hE := hide (hT.out (by omega) h2 hx.out)
      clear hR hl hF hT
      go_wp2_with fail
      go_ret
      exact ⟨by rw [hE.out]; rfl, hb⟩
theorem gs_no1 {s : Sto} (h : ¬ GC s.C.n s.C.T) : tB (GS s) = false := tB_f (fun g => h g.1)
theorem gs_no2 {s : Sto} (h : ¬ GC s.R.n s.R.T) : tB (GS s) = false := tB_f (fun g => h g.2.1)
theorem gs_no3 {s : Sto} (h : ¬ (1 ≤ s.h ∧ s.h ≤ 10 ∧ ∀ i, i < s.h → GC (s.H i).n (s.H i).T)) : tB (GS s) = false := tB_f (fun g => h ⟨g.2.2.1, g.2.2.2.1, g.2.2.2.2.1⟩)
set_option maxRecDepth 100000 in
set_option maxHeartbeats 3200000 in
theorem i_goodStore (v : Value) (s : Sto) (w : World) (hl : LowSt s) (hR : RowSt true v s w) :
    Calls Tryz.prog 34 #[v] w fun e w' => e = .returned (.bool (tB (GS s))) ∧ Below w.heap.size w w' := by
  have G1 := hide (fun a c w R => i_goodConfig a s.C.n c s.C.T w hl.1.n hl.1.2 R)
  have G2 := hide (fun a c w R => i_goodConfig a s.R.n c s.R.T w hl.2.1.n hl.2.1.2 R)
  have G3 := hide (fun a c w R => i_goodHistory a s.h c s.H w hl.2.2.1 hl.2.2.2.1 R)
  have RN := hide (fun hh v w R => i_runsNewest v s w hh hl.2.1.n hl.2.1.2 (hl.2.2.2.1 0 (by omega)).n R)
  have f1 : Hid (¬ GC s.C.n s.C.T → tB (GS s) = false) := gs_no1
  have f2 : Hid (¬ GC s.R.n s.R.T → tB (GS s) = false) := gs_no2
  have f3 : Hid (¬ (1 ≤ s.h ∧ s.h ≤ 10 ∧ ∀ i, i < s.h → GC (s.H i).n (s.H i).T) → tB (GS s) = false) := gs_no3
  have f4 : Hid (GC s.C.n s.C.T → GC s.R.n s.R.T → (1 ≤ s.h ∧ s.h ≤ 10 ∧ ∀ i, i < s.h → GC (s.H i).n (s.H i).T) → SameC s.R (s.H 0) → tB (GS s) = (s.l == 0)) := fun a b c d => (tB_of (fun g => by
    rcases g.2.2.2.2.2 with g | g
    · simpa using g.2
    · exact absurd d g.1) (fun g => by
    by_cases e : s.l = 0
    · exact absurd ⟨a, b, c.1, c.2.1, c.2.2, .inl ⟨d, e⟩⟩ g
    · simpa using e)).symm
  have f5 : Hid (GC s.C.n s.C.T → GC s.R.n s.R.T → (1 ≤ s.h ∧ s.h ≤ 10 ∧ ∀ i, i < s.h → GC (s.H i).n (s.H i).T) → ¬ SameC s.R (s.H 0) → tB (GS s) = tB (1 ≤ s.l ∧ s.l ≤ 100)) := fun a b c d => tB_congr ⟨fun g => by
    rcases g.2.2.2.2.2 with g | g
    · exact absurd g.1 d
    · exact g.2, fun g => ⟨a, b, c.1, c.2.1, c.2.2, .inr ⟨d, g⟩⟩⟩
  have hV : Hid (RowSt false v s w) := hR.any
  obtain ⟨ca, kc, ra, kr, ha, kh, rfl, R1, R2, R3, _⟩ := hR
  generalize tB (GS s) = r at *
  have hVd : ∀ w', Below w.heap.size w w' → RowSt false (.agg #[.slice ca s.C.n kc, .slice ra s.R.n kr, .slice ha s.h kh, .int .i64 s.l]) s w' := fun w' d => hV.out.below d
  unfold stV
  have M0 := Mut.new w #[.slice ca s.C.n kc, .slice ra s.R.n kr, .slice ha s.h kh, .int .i64 s.l] 34
  have d0 : Below w.heap.size w (w.alloc (.cells #[.slice ca s.C.n kc, .slice ra s.R.n kr, .slice ha s.h kh, .int .i64 s.l] 34)) := below_box (Below.refl _ _)
  clear hV hl
  go_enter Tryz.func34, Tryz.ntmps34
  go_wp2_with fail
  generalize w.alloc (.cells #[.slice ca s.C.n kc, .slice ra s.R.n kr, .slice ha s.h kh, .int .i64 s.l] 34) = w1 at *
  refine (G1.out _ _ _ (R1.below d0)).mono ?_
  rintro e w2 ⟨rfl, bb⟩
  replace M0 := M0.below bb
  have d2 := d0.trans (bb.mono d0.size)
  clear bb G1 d0
  by_cases hg : GC s.C.n s.C.T
  case neg =>
    rw [tB_f hg]
    have hE := hide (f1.out hg)
    clear f1 f2 f3 f4 f5 G2 G3 RN hVd
    go_wp2_with fail
    go_ret
    exact ⟨by rw [hE.out]; rfl, d2⟩
  rw [tB_t hg]
  have k1 := M0.2.1 1 _ rfl
  go_wp2_with fail
  refine (G2.out _ _ _ (R2.below d2)).mono ?_
  rintro e w3 ⟨rfl, bb⟩
  replace M0 := M0.below bb
  have d3 := d2.trans (bb.mono d2.size)
  clear bb G2 d2 k1
  by_cases hg2 : GC s.R.n s.R.T
  case neg =>
    rw [tB_f hg2]
    have hE := hide (f2.out hg2)
    clear f1 f2 f3 f4 f5 G3 RN hVd
    go_wp2_with fail
    go_ret
    exact ⟨by rw [hE.out]; rfl, d3⟩
  rw [tB_t hg2]
  have k2 := M0.2.1 2 _ rfl
  go_wp2_with fail
  refine (G3.out _ _ _ (R3.below d3)).mono ?_
  rintro e w4 ⟨rfl, bb⟩
  replace M0 := M0.below bb
  have d4 := d3.trans (bb.mono d3.size)
  clear bb G3 d3 k2
  by_cases hg3 : 1 ≤ s.h ∧ s.h ≤ 10 ∧ ∀ i, i < s.h → GC (s.H i).n (s.H i).T
  case neg =>
    rw [tB_f hg3]
    have hE := hide (f3.out hg3)
    clear f1 f2 f3 f4 f5 RN hVd
    go_wp2_with fail
    go_ret
    exact ⟨by rw [hE.out]; rfl, d4⟩
  rw [tB_t hg3]
  replace f4 := hide (f4.out hg hg2 hg3)
  replace f5 := hide (f5.out hg hg2 hg3)
  replace RN := hide (RN.out hg3.1)
  clear f1 f2 f3 hg hg2 hg3
  have k0 := M0.2.1 0 _ rfl
  have k1 := M0.2.1 1 _ rfl
  have k2 := M0.2.1 2 _ rfl
  have k3 := M0.2.1 3 _ rfl
  go_wp2_with fail
  refine (RN.out _ _ (hVd _ d4)).mono ?_
  rintro e w5 ⟨rfl, bb⟩
  replace M0 := M0.below bb
  have d5 := d4.trans (bb.mono d4.size)
  clear bb RN d4 k0 k1 k2 k3 hVd
  have k3 := M0.2.1 3 _ rfl
  by_cases hs : SameC s.R (s.H 0)
  · rw [tB_t hs]
    have hE := hide (f4.out hs)
    clear f4 f5
    go_wp2_with fail
    go_ret
    exact ⟨by rw [hE.out]; rfl, d5⟩
  · rw [tB_f hs]
    have hE := hide (f5.out hs)
    clear f4 f5
    by_cases hl1 : 1 ≤ s.l
    · have hE2 : Hid (r = decide (s.l ≤ 100)) := hE.out.trans (tB_of (fun g => by simpa using g.2) (fun g => by
        have : ¬ s.l ≤ 100 := fun k => g ⟨hl1, k⟩
        simpa using this)).symm
      clear hE
      go_wp2_with fail
      go_ret
      exact ⟨by rw [hE2.out]; rfl, d5⟩
    · have hE2 : Hid (r = false) := hE.out.trans (tB_f (fun g => hl1 g.1))
      clear hE
      go_wp2_with fail
      go_ret
      exact ⟨by rw [hE2.out]; rfl, d5⟩
end Go.Proofs.YtnficndeblkjhaaGreatDoor
