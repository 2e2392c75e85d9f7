/- GoodStore of the specification. -/
import Derived.Test.YtnficndeblkjhaaGreatDoorGrp4
import Derived.Test.YtnficndeblkjhaaGreatDoorGrp13
import Derived.Test.YtnficndeblkjhaaGreatDoorGrp14
namespace Go.Proofs.YtnficndeblkjhaaGreatDoor
open Go.RowKit

theorem sameC_noS {a b : Cf} {k : Nat} (hk : k < a.n) (h : ¬ SameF (a.T k) (b.T k)) : tB (SameC a b) = false := tB_f (fun g => h (g.2 k hk))
theorem sameC_yesS {a b : Cf} (hn : a.n = b.n) (h : ∀ i, i < a.n → SameF (a.T i) (b.T i)) : tB (SameC a b) = true := tB_t ⟨hn, h⟩
theorem gsS_no1 {s : Sto} (h : ¬ GC s.C.n s.C.T) : tB (GS s) = false := tB_f (fun g => h g.1)
theorem gsS_no2 {s : Sto} (h : ¬ GC s.R.n s.R.T) : tB (GS s) = false := tB_f (fun g => h g.2.1)
set_option maxRecDepth 100000 in
set_option maxHeartbeats 3200000 in
theorem s_l16Same (a : Option Addr) (s : Cf) (c : Nat) (a' : Option Addr) (t : Cf) (c' : Nat) (w : World) (hn : s.n ≤ 1048576) (hl : LowF s.n s.T) (hn' : t.n ≤ 1048576) (hR : RowF false a s.n s.T w) (hQ : RowF false a' t.n t.T w) :
    Calls Tryz.prog 52 #[.slice a s.n c, .slice a' t.n c'] w fun e w' => e = .returned (.bool (tB (SameC s t))) ∧ Below w.heap.size w w' := by
  by_cases hnn : s.n = t.n
  · have hno : Hid (∀ i, i < s.n → ¬ SameF (s.T i) (t.T i) → tB (SameC s t) = false) := fun i hi h => sameC_noS hi h
    have hyes : Hid ((∀ i, i < s.n → SameF (s.T i) (t.T i)) → tB (SameC s t) = true) := sameC_yesS hnn
    generalize tB (SameC s t) = r at *
    obtain ⟨sn, sT⟩ := s
    obtain ⟨tn, tT⟩ := t
    dsimp only at *
    subst hnn
    have hne : ((sn : Int) != (sn : Int)) = false := by simp
    go_enter Tryz.func52, Tryz.ntmps52
    go_wp2_with fail
    go_loopw [5, 13] (fun _ i wr => ∃ k : Nat, k ≤ sn ∧ i = .int .i64 k ∧ Hid (∀ j, j < k → SameF (sT j) (tT j)) ∧ Below w.heap.size w wr) (fun _ i _ => sn - (intOf i).toNat)
    case atStart => exact ⟨0, Nat.zero_le _, rfl, fun j hj => absurd hj (by omega), Below.refl _ _⟩
    case round =>
      obtain ⟨k, hk, rfl, hall, hb⟩ := hrel
      by_cases hlt : k < sn
      · obtain ⟨b, off, a0, c0, rfl, hbw, u0, u1, _, ht⟩ := hR k hlt
        obtain ⟨b', off', d0, e0, rfl, hbw', v0, v1, _, hu⟩ := hQ k hlt
        replace u0 := cell_regrown ((hb.cell (p := ⟨b, off + k * 2, none⟩) hbw).trans u0)
        replace u1 := cell_regrown ((hb.cell (p := ⟨b, off + k * 2 + 1, none⟩) hbw).trans u1)
        replace v0 := cell_regrown ((hb.cell (p := ⟨b', off' + k * 2, none⟩) hbw').trans v0)
        replace v1 := cell_regrown ((hb.cell (p := ⟨b', off' + k * 2 + 1, none⟩) hbw').trans v1)
        have hlt' : (k : Int) < (sn : Int) := by omega
        have lo := (hl k hlt).1
        have SP := hide (fun w R Q => s_same15 a0 d0 (sT k).n (tT k).n c0 e0 (sT k).p (tT k).p w lo R Q)
        have hnk := hide (hno.out k hlt)
        have hT := hide (ht.below hb)
        have hU := hide (hu.below hb)
        clear lo ht hu hR hQ hl hno
        have hN : Hid (SameF (sT k) (tT k) → ∀ j, j < k + 1 → SameF (sT j) (tT j)) := fun q j hj => by
          by_cases e : j = k
          · rw [e]; exact q
          · exact hall.out j (by omega)
        have hs : SameF (sT k) (tT k) ↔ ((sT k).v = (tT k).v ∧ (sT k).n = (tT k).n ∧ Bg (sT k).n (sT k).p (tT k).n (tT k).p) := Iff.rfl
        generalize hSF : SameF (sT k) (tT k) = SF at *
        clear hSF hall hyes
        generalize sT k = x at *
        generalize tT k = y at *
        obtain ⟨xn, xp, xv⟩ := x
        obtain ⟨yn, yp, yv⟩ := y
        dsimp only at *
        by_cases hv : xv = yv
        · subst hv
          have kv := sEq_t xv
          have hs2 : Hid (SF ↔ (xn = yn ∧ Bg xn xp yn yp)) := hs.trans ⟨fun q => q.2, fun q => ⟨rfl, q⟩⟩
          generalize hB : tB (xn = yn ∧ Bg xn xp yn yp) = B at *
          go_wp2_with fail
          refine wp_region_quiet_below (by kernel_rfl) (by kernel_rfl) ?_
          repeat (first | go_big_quiet_step (((go_at_call 83; exact Calls.regrown_of (SP.out _ (hT.out.below (below_regrown _ _ _)) (hU.out.below (below_regrown _ _ _)))))) | quiet_step (((go_at_call 83; exact Calls.regrown_of (SP.out _ (hT.out.below (below_regrown _ _ _)) (hU.out.below (below_regrown _ _ _)))))))
          refine wpQuiet_nil ?_
          intro _ hw'
          obtain ⟨⟨dq, osq⟩, hw''⟩ := hw'
          subst hw''
          have hq := below_regrown wr dq osq
          generalize Go.Sort.grow (redrawn wr dq) osq = wq at hq ⊢
          have hbq := hb.trans (hq.mono hb.size)
          clear hq u0 u1 v0 v1 SP hT hU hb
          by_cases hg : xn = yn ∧ Bg xn xp yn yp
          · have hB2 : B = true := by rw [← hB, tB_t hg]
            subst hB2
            have hN2 := hide (hN.out (hs2.out.2 hg))
            clear hN hnk hs hs2 hg hB
            go_wp2_with fail
            exact ⟨⟨k + 1, by omega, by go_num, hN2.out, hbq⟩, by simp [intOf]; omega⟩
          · have hB2 : B = false := by rw [← hB, tB_f hg]
            subst hB2
            have hE := hide (hnk.out (fun q => hg (hs2.out.1 q)))
            clear hN hnk hs hs2 hg hB
            go_wp2_with fail
            go_ret
            exact ⟨by rw [hE.out]; rfl, hbq⟩
        · have kv := sEq_f hv
          have hE := hide (hnk.out (fun q => hv (hs.1 q).1))
          clear hN hnk hs SP hT hU
          go_wp2_with fail
          refine wp_region_quiet_below (by kernel_rfl) (by kernel_rfl) ?_
          repeat (first | go_big_quiet_step ((fail)) | quiet_step ((fail)))
          refine wpQuiet_nil ?_
          intro _ hw'
          obtain ⟨⟨dq, osq⟩, hw''⟩ := hw'
          subst hw''
          have hq := below_regrown wr dq osq
          generalize Go.Sort.grow (redrawn wr dq) osq = wq at hq ⊢
          have hbq := hb.trans (hq.mono hb.size)
          clear hq u0 u1 v0 v1 hb
          go_wp2_with fail
          go_ret
          exact ⟨by rw [hE.out]; rfl, hbq⟩
      · have hlt' : ¬ (k : Int) < (sn : Int) := by omega
        obtain rfl : k = sn := by omega
        have hE := hide (hyes.out hall.out)
        clear hall hyes hno hR hQ hl
        go_wp2_with fail
        go_ret
        exact ⟨by rw [hE.out]; rfl, hb⟩
  · have hne : ((s.n : Int) != (t.n : Int)) = true := by simp; omega
    rw [tB_f (fun g : SameC s t => hnn g.1)]
    clear hl hR hQ hnn
    go_enter Tryz.func52, Tryz.ntmps52
    go_wp2_with fail
    go_ret
    exact ⟨rfl, Below.refl _ _⟩
set_option maxRecDepth 100000 in
set_option maxHeartbeats 3200000 in
theorem s_goodStore (v : Value) (s : Sto) (w : World) (hl : LowSt s) (hR : RowSt true v s w) :
    Calls Tryz.prog 28 #[v] w fun e w' => e = .returned (.bool (tB (GS s))) ∧ Below w.heap.size w w' := by
  have G1 := hide (fun a c w R => s_goodConfig a s.C.n c s.C.T w hl.1.n hl.1.2 R)
  have G2 := hide (fun a c w R => s_goodConfig a s.R.n c s.R.T w hl.2.1.n hl.2.1.2 R)
  have f1 : Hid (¬ GC s.C.n s.C.T → tB (GS s) = false) := gsS_no1
  have f2 : Hid (¬ GC s.R.n s.R.T → tB (GS s) = false) := gsS_no2
  have f3 : Hid (∀ k, k < s.h → ¬ GC (s.H k).n (s.H k).T → tB (GS s) = false) := fun k hk q => tB_f (fun g => q (g.2.2.2.2.1 k hk))
  have f4 : Hid (¬ (1 ≤ s.h ∧ s.h ≤ 10) → tB (GS s) = false) := fun q => tB_f (fun g => q ⟨g.2.2.1, g.2.2.2.1⟩)
  have f5 : Hid (¬ (0 ≤ s.l ∧ s.l ≤ 100) → tB (GS s) = false) := fun q => tB_f (fun g => q (by rcases g.2.2.2.2.2 with g | g <;> omega))
  have f6 : Hid (GC s.C.n s.C.T → GC s.R.n s.R.T → 1 ≤ s.h → s.h ≤ 10 → (∀ i, i < s.h → GC (s.H i).n (s.H i).T) → 0 ≤ s.l → s.l ≤ 100 → (((s.l == 0) == tB (SameC s.R (s.H 0))) = tB (GS s))) := fun a b c1 c2 c d e => by
    by_cases q : SameC s.R (s.H 0)
    · rw [tB_t q]
      by_cases z : s.l = 0
      · rw [tB_t ⟨a, b, c1, c2, c, .inl ⟨q, z⟩⟩]; simp [z]
      · rw [tB_f (fun g => by rcases g.2.2.2.2.2 with g | g; exact z g.2; exact g.1 q)]; simp [z]
    · rw [tB_f q]
      by_cases z : s.l = 0
      · rw [tB_f (fun g => by rcases g.2.2.2.2.2 with g | g; exact q g.1; omega)]; simp [z]
      · rw [tB_t ⟨a, b, c1, c2, c, .inr ⟨q, by omega, e⟩⟩]; simp [z]
  have GH := hide (fun k (hk : k < s.h) a c w R => s_goodConfig a (s.H k).n c (s.H k).T w (hl.2.2.2.1 k hk).n (hl.2.2.2.1 k hk).2 R)
  have SM := hide (fun (hh : 1 ≤ s.h) a c a' c' w R Q => s_l16Same a s.R c a' (s.H 0) c' w hl.2.1.n hl.2.1.2 (hl.2.2.2.1 0 (by omega)).n R Q)
  have hh := hl.2.2.1
  obtain ⟨ca, kc, ra, kr, ha, kh, rfl, R1, R2, R3, _⟩ := hR
  generalize tB (GS s) = r at *
  unfold stV
  have M0 := Mut.new w #[.slice ca s.C.n kc, .slice ra s.R.n kr, .slice ha s.h kh, .int .i64 s.l] 34
  have d0 : Below w.heap.size w (w.alloc (.cells #[.slice ca s.C.n kc, .slice ra s.R.n kr, .slice ha s.h kh, .int .i64 s.l] 34)) := below_box (Below.refl _ _)
  clear hl
  go_enter Tryz.func28, Tryz.ntmps28
  go_wp2_with fail
  generalize w.alloc (.cells #[.slice ca s.C.n kc, .slice ra s.R.n kr, .slice ha s.h kh, .int .i64 s.l] 34) = w1 at *
  go_loopw [4, 8] (fun _ y wr => ∃ k : Nat, y = .int .i64 k ∧ k ≤ s.h ∧ Hid (∀ i, i < k → GC (s.H i).n (s.H i).T) ∧ Mut wr w.heap.size [.slice ca s.C.n kc, .slice ra s.R.n kr, .slice ha s.h kh, .int .i64 s.l] ∧ Below w.heap.size w wr) (fun _ y _ => s.h - (intOf y).toNat)
  case atStart => exact ⟨0, rfl, Nat.zero_le _, fun i hi => absurd hi (by omega), M0, d0⟩
  case round =>
    clear M0 d0
    obtain ⟨k, rfl, hk, hx, M0, hb⟩ := hrel
    by_cases hlt : k < s.h
    · obtain ⟨b0, off, a0, c0, rfl, hbw, u0, R0⟩ := R3 k hlt
      replace u0 := (hb.cell (p := ⟨b0, off + k, none⟩) hbw).trans u0
      have hlt' : (k : Int) < (s.h : Int) := by omega
      have G := hide (GH.out k hlt)
      have hE := hide (f3.out k hlt)
      have hN2 : Hid (GC (s.H k).n (s.H k).T → ∀ i, i < k + 1 → GC (s.H i).n (s.H i).T) := fun q i hi => by
        by_cases e : i = k
        · subst e; exact q
        · exact hx.out i (by omega)
      have R0 := hide (R0.below hb)
      clear R1 R2 R3 GH SM G1 G2 f1 f2 f3 f4 f5 f6 hx
      generalize s.H k = t at *
      go_wp2_with fail
      refine (G.out _ _ _ R0.out).mono ?_
      rintro e w2 ⟨rfl, bb⟩
      replace M0 := M0.below bb
      have d2 := hb.trans (bb.mono hb.size)
      clear bb hb u0 G
      by_cases hg : GC t.n t.T
      · rw [tB_t hg]
        have hN3 := hide (hN2.out hg)
        clear hN2 hE
        go_wp2_with fail
        exact ⟨⟨k + 1, by go_num, by omega, hN3.out, M0, d2⟩, by simp [intOf]; omega⟩
      · rw [tB_f hg]
        have hE2 := hide (hE.out hg)
        clear hN2 hE
        go_wp2_with fail
        go_ret
        exact ⟨by rw [hE2.out]; rfl, d2⟩
    · have hlt' : ¬ (k : Int) < (s.h : Int) := by omega
      obtain rfl : k = s.h := by omega
      clear f3 GH
      have k0 := M0.2.1 0 _ rfl
      go_wp2_with fail
      refine (G1.out _ _ _ (R1.below hb)).mono ?_
      rintro e w2 ⟨rfl, bb⟩
      replace M0 := M0.below bb
      have d2 := hb.trans (bb.mono hb.size)
      clear bb G1 hb k0
      by_cases hg : GC s.C.n s.C.T
      case neg =>
        rw [tB_f hg]
        have hE := hide (f1.out hg)
        clear f1 f2 f4 f5 f6 G2 SM
        go_wp2_with fail
        go_ret
        exact ⟨by rw [hE.out]; rfl, d2⟩
      rw [tB_t hg]
      have k1 := M0.2.1 1 _ rfl
      go_wp2_with fail
      refine (G2.out _ _ _ (R2.below d2)).mono ?_
      rintro e w3 ⟨rfl, bb⟩
      replace M0 := M0.below bb
      have d3 := d2.trans (bb.mono d2.size)
      clear bb G2 d2 k1
      by_cases hg2 : GC s.R.n s.R.T
      case neg =>
        rw [tB_f hg2]
        have hE := hide (f2.out hg2)
        clear f1 f2 f4 f5 f6 SM
        go_wp2_with fail
        go_ret
        exact ⟨by rw [hE.out]; rfl, d3⟩
      rw [tB_t hg2]
      have k2 := M0.2.1 2 _ rfl
      have k3 := M0.2.1 3 _ rfl
      by_cases hg3 : 1 ≤ s.h ∧ s.h ≤ 10
      case neg =>
        have hE := hide (f4.out hg3)
        have hI : inB (s.h : Int) 1 10 = false := by unfold inB; simp; omega
        clear f1 f2 f4 f5 f6 SM
        go_wp2_with fail
        refine (s_in _ _ _ _).mono ?_
        rintro e w4 ⟨rfl, rfl⟩
        rw [hI]
        go_wp2_with fail
        go_ret
        exact ⟨by rw [hE.out]; rfl, d3⟩
      have hI : inB (s.h : Int) 1 10 = true := by unfold inB; simp; omega
      go_wp2_with fail
      refine (s_in _ _ _ _).mono ?_
      rintro e w4 ⟨rfl, rfl⟩
      rw [hI]
      clear hI
      by_cases hg4 : 0 ≤ s.l ∧ s.l ≤ 100
      case neg =>
        have hE := hide (f5.out hg4)
        have hI : inB s.l 0 100 = false := by unfold inB; simp; omega
        clear f1 f2 f4 f5 f6 SM
        go_wp2_with fail
        refine (s_in _ _ _ _).mono ?_
        rintro e w4 ⟨rfl, rfl⟩
        rw [hI]
        go_wp2_with fail
        go_ret
        exact ⟨by rw [hE.out]; rfl, d3⟩
      have hI : inB s.l 0 100 = true := by unfold inB; simp; omega
      go_wp2_with fail
      refine (s_in _ _ _ _).mono ?_
      rintro e w4 ⟨rfl, rfl⟩
      rw [hI]
      clear hI
      have hE := hide (f6.out hg hg2 hg3.1 hg3.2 hx.out hg4.1 hg4.2)
      replace SM := hide (SM.out hg3.1)
      obtain ⟨b, off, a0, c0, rfl, hbw, u0, R4⟩ := R3 0 (by omega)
      rw [Nat.add_zero] at u0
      replace u0 := cell_regrown ((d3.cell (p := ⟨b, off, none⟩) hbw).trans u0)
      have h0 : (0 : Int) < (s.h : Int) := by omega
      have RR := hide (R2.below d3)
      have R4 := hide (R4.below d3)
      replace k1 := cell_regrown (M0.2.1 1 _ rfl)
      replace k2 := cell_regrown (M0.2.1 2 _ rfl)
      replace k3 := cell_regrown (M0.2.1 3 _ rfl)
      clear f1 f2 f4 f5 f6 R1 R2 R3 hx hg hg2 hg4 M0
      generalize tB (SameC s.R (s.H 0)) = B at *
      go_wp2_with fail
      refine wp_region_quiet_below (by kernel_rfl) (by kernel_rfl) ?_
      repeat (first | go_big_quiet_step (((go_at_call 52; exact Calls.regrown_of (SM.out _ _ _ _ _ (RR.out.any.below (below_regrown _ _ _)) (R4.out.any.below (below_regrown _ _ _)))))) | quiet_step (((go_at_call 52; exact Calls.regrown_of (SM.out _ _ _ _ _ (RR.out.any.below (below_regrown _ _ _)) (R4.out.any.below (below_regrown _ _ _)))))))
      refine wpQuiet_nil ?_
      intro _ hw'
      obtain ⟨⟨dq, osq⟩, hw''⟩ := hw'
      subst hw''
      have hq := below_regrown w4 dq osq
      generalize Go.Sort.grow (redrawn w4 dq) osq = wq at hq ⊢
      have d5 := d3.trans (hq.mono d3.size)
      clear hq u0 k1 k2 k3
      go_wp2_with fail
      go_ret
      exact ⟨by rw [← hE.out]; rfl, d5⟩
end Go.Proofs.YtnficndeblkjhaaGreatDoor
