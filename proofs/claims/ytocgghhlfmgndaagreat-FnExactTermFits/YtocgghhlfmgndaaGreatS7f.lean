/- What the specification's l7Fits answers. -/
import Derived.Test.YtocgghhlfmgndaaGreatFit7
import Derived.Test.YtocgghhlfmgndaaGreatS7a
import Derived.Test.YtocgghhlfmgndaaGreatS6mb
import Derived.Test.YtocgghhlfmgndaaGreatS1b
import Derived.Test.YtocgghhlfmgndaaGreatSI7
namespace Go.Proofs.YtocgghhlfmgndaaGreat
open Go.RowKit

set_option maxRecDepth 100000 in
set_option maxHeartbeats 3200000 in
theorem s_fits (ra : Option Addr) (nr rc : Nat) (f0 f1 f2 f3 : Nat → Int) (qa : Option Addr) (qc : Nat) (L : List Cl) (cm : Int) (aa : Option Addr) (na ac : Nat) (vd : Int) (pa pl o nx md pf : Int) (a0 : Option Addr) (n0 c0 : Nat) (f : Nat → Int) (a1 : Option Addr) (n1 c1 : Nat) (g : Nat → Int) (r : Bool) (w : World)
    (hr : nr ≤ 1048576) (hp : L.length ≤ 1048576) (h0 : n0 ≤ 1048576) (h1 : n1 ≤ 1048576) (hG : ∀ i, i < nr → goodB (f0 i) (f1 i) = true) (gq : goodB pa pl = true) (hM : MpB L (lsI n0 f) r)
    (RR : RowRange ra nr f0 f1 f2 f3 w) (RP : RowQ qa L w) (R0 : RowInt a0 n0 f w) (R1 : RowInt a1 n1 g w) :
    Calls Tryz.prog 53 #[.agg #[.slice ra nr rc, .slice qa L.length qc, .int .i64 cm, .slice aa na ac, .int .i64 vd], .agg #[.int .i64 pa, .int .i64 pl, .int .i64 o, .slice a0 n0 c0, .int .i64 nx, .int .i64 md, .int .i64 pf, .slice a1 n1 c1]] w fun e w' => e = .returned (.bool (fiB nr (anR nr f0 f1 f2 f3 pa pl) L.length r cm (coB n1 g cm))) ∧ Below w.heap.size w w' := by
  have CI : Hid (∀ w, RowInt a1 n1 g w → Calls Tryz.prog 104 #[.slice a1 n1 c1, .int .i64 cm] w fun e w' => e = .returned (.bool (coB n1 g cm)) ∧ Below w.heap.size w w') := fun w Q => by
    have h := s_l1Has a1 (lsI n1 g) c1 cm w (by rw [lsI_len]; omega) (RowN.ofI7 Q)
    rw [lsI_len, hasN_lsI] at h
    refine h.mono ?_
    rintro e w1 ⟨rfl, rfl⟩
    exact ⟨rfl, Below.refl _ _⟩
  have MP : L.length ≠ 0 → Hid (∀ w, RowQ qa L w → RowInt a0 n0 f w → Calls Tryz.prog 103 #[.slice qa L.length qc, .slice a0 n0 c0] w fun e w' => e = .returned (.tuple #[.bool r, .bool (rgB L && gpB (lsI n0 f))]) ∧ Below w.heap.size w w') := fun hne w R Q => by
    obtain ⟨qb, qo, rfl, _⟩ := R 0 (by omega)
    have h := s_matchPath qb qo qc L a0 c0 (lsI n0 f) r w (by omega) (by rw [lsI_len]; omega) hM R (RowN.ofI7 Q)
    rw [lsI_len] at h
    exact h
  have hMP := hide MP
  clear MP
  generalize (rgB L && gpB (lsI n0 f)) = gg at *
  obtain ⟨gl0, gl1, ga0, ga1⟩ := good_pre gq
  have SC : Hid (∀ k, k < nr → ∀ w, Calls Tryz.prog 102 #[.agg #[.int .i64 (f0 k), .int .i64 (f1 k)], .agg #[.int .i64 pa, .int .i64 pl]] w fun e w' => e = .returned (.bool (cvB (f0 k) (f1 k) pa pl)) ∧ Below w.heap.size w w') := fun k hk w => by
    obtain ⟨e0, e1, e2, e3⟩ := good_pre (hG k hk)
    exact s_covers (f0 k) (f1 k) pa pl w e0 e1 ga0 ga1
  have M0 := (Mut.new w #[.slice ra nr rc, .slice qa L.length qc, .int .i64 cm, .slice aa na ac, .int .i64 vd] 42).alloc (.cells #[.int .i64 pa, .int .i64 pl, .int .i64 o, .slice a0 n0 c0, .int .i64 nx, .int .i64 md, .int .i64 pf, .slice a1 n1 c1] 47)
  have M1 := Mut.new (w.alloc (.cells #[.slice ra nr rc, .slice qa L.length qc, .int .i64 cm, .slice aa na ac, .int .i64 vd] 42)) #[.int .i64 pa, .int .i64 pl, .int .i64 o, .slice a0 n0 c0, .int .i64 nx, .int .i64 md, .int .i64 pf, .slice a1 n1 c1] 47
  have d0 : Below w.heap.size w ((w.alloc (.cells #[.slice ra nr rc, .slice qa L.length qc, .int .i64 cm, .slice aa na ac, .int .i64 vd] 42)).alloc (.cells #[.int .i64 pa, .int .i64 pl, .int .i64 o, .slice a0 n0 c0, .int .i64 nx, .int .i64 md, .int .i64 pf, .slice a1 n1 c1] 47)) := below_box2 (Below.refl _ _)
  rw [World.size_alloc] at M1
  generalize coB n1 g cm = co at *
  clear hp h0 h1 hG gq hM gl0 gl1 ga0 ga1
  by_cases hn : nr = 0
  · have hn' : ¬ ((nr : Int) > 0) := by omega
    have hnd : decide (nr = 0) = true := decide_eq_true hn
    clear hn SC hr
    generalize anR nr f0 f1 f2 f3 pa pl = an at *
    by_cases hL : L.length = 0
    · have hl0 : ¬ ((L.length : Int) > 0) := by omega
      have hld : decide (L.length = 0) = true := decide_eq_true hL
      clear hL
      by_cases hc : cm = -1
      · have hc2 : (cm == -1) = true := by rw [beq_iff_eq]; exact hc
        have hcd : decide (cm = -1) = true := decide_eq_true hc
        clear hc
        go_enter Tryz.func53, Tryz.ntmps53
        go_wp2_with fail
        generalize (w.alloc (.cells #[.slice ra nr rc, .slice qa L.length qc, .int .i64 cm, .slice aa na ac, .int .i64 vd] 42)).alloc (.cells #[.int .i64 pa, .int .i64 pl, .int .i64 o, .slice a0 n0 c0, .int .i64 nx, .int .i64 md, .int .i64 pf, .slice a1 n1 c1] 47) = w0 at *
        go_ret
        exact ⟨by rw [fi_of hnd hld hcd]; simp, d0⟩
      · have hc2 : (cm == -1) = false := by rw [beq_eq_false_iff_ne]; exact hc
        have hcd : decide (cm = -1) = false := decide_eq_false hc
        clear hc
        go_enter Tryz.func53, Tryz.ntmps53
        go_wp2_with fail
        generalize (w.alloc (.cells #[.slice ra nr rc, .slice qa L.length qc, .int .i64 cm, .slice aa na ac, .int .i64 vd] 42)).alloc (.cells #[.int .i64 pa, .int .i64 pl, .int .i64 o, .slice a0 n0 c0, .int .i64 nx, .int .i64 md, .int .i64 pf, .slice a1 n1 c1] 47) = w0 at *
        refine (CI.out _ (R1.below d0)).mono ?_
        rintro e w1 ⟨rfl, b1⟩
        have d1 := d0.trans (b1.mono d0.size)
        replace M0 := M0.below b1
        replace M1 := M1.below b1
        have m0 := M0.2.1 0 _ rfl
        have m1 := M0.2.1 1 _ rfl
        have m2 := M0.2.1 2 _ rfl
        have m3 := M0.2.1 3 _ rfl
        have m4 := M0.2.1 4 _ rfl
        have k0 := M1.2.1 0 _ rfl
        have k1 := M1.2.1 1 _ rfl
        have k2 := M1.2.1 2 _ rfl
        have k3 := M1.2.1 3 _ rfl
        have k4 := M1.2.1 4 _ rfl
        have k5 := M1.2.1 5 _ rfl
        have k6 := M1.2.1 6 _ rfl
        have k7 := M1.2.1 7 _ rfl
        go_wp2_with fail
        go_ret
        exact ⟨by rw [fi_of hnd hld hcd]; simp, d1⟩
    · have hl0 : (L.length : Int) > 0 := by omega
      have hld : decide (L.length = 0) = false := decide_eq_false hL
      have MP := hMP.out hL
      clear hL
      cases r with
      | false =>
        go_enter Tryz.func53, Tryz.ntmps53
        go_wp2_with fail
        generalize (w.alloc (.cells #[.slice ra nr rc, .slice qa L.length qc, .int .i64 cm, .slice aa na ac, .int .i64 vd] 42)).alloc (.cells #[.int .i64 pa, .int .i64 pl, .int .i64 o, .slice a0 n0 c0, .int .i64 nx, .int .i64 md, .int .i64 pf, .slice a1 n1 c1] 47) = w0 at *
        refine (MP.out _ (RP.below d0) (R0.below d0)).mono ?_
        rintro e w1 ⟨rfl, b1⟩
        have d1 := d0.trans (b1.mono d0.size)
        replace M0 := M0.below b1
        replace M1 := M1.below b1
        have m0 := M0.2.1 0 _ rfl
        have m1 := M0.2.1 1 _ rfl
        have m2 := M0.2.1 2 _ rfl
        have m3 := M0.2.1 3 _ rfl
        have m4 := M0.2.1 4 _ rfl
        have k0 := M1.2.1 0 _ rfl
        have k1 := M1.2.1 1 _ rfl
        have k2 := M1.2.1 2 _ rfl
        have k3 := M1.2.1 3 _ rfl
        have k4 := M1.2.1 4 _ rfl
        have k5 := M1.2.1 5 _ rfl
        have k6 := M1.2.1 6 _ rfl
        have k7 := M1.2.1 7 _ rfl
        go_wp2_with fail
        go_ret
        exact ⟨by rw [fi_pat hld]; rfl, d1⟩
      | true =>
        by_cases hc : cm = -1
        · have hc2 : (cm == -1) = true := by rw [beq_iff_eq]; exact hc
          have hcd : decide (cm = -1) = true := decide_eq_true hc
          clear hc
          go_enter Tryz.func53, Tryz.ntmps53
          go_wp2_with fail
          generalize (w.alloc (.cells #[.slice ra nr rc, .slice qa L.length qc, .int .i64 cm, .slice aa na ac, .int .i64 vd] 42)).alloc (.cells #[.int .i64 pa, .int .i64 pl, .int .i64 o, .slice a0 n0 c0, .int .i64 nx, .int .i64 md, .int .i64 pf, .slice a1 n1 c1] 47) = w0 at *
          refine (MP.out _ (RP.below d0) (R0.below d0)).mono ?_
          rintro e w1 ⟨rfl, b1⟩
          have d1 := d0.trans (b1.mono d0.size)
          replace M0 := M0.below b1
          replace M1 := M1.below b1
          have m0 := M0.2.1 0 _ rfl
          have m1 := M0.2.1 1 _ rfl
          have m2 := M0.2.1 2 _ rfl
          have m3 := M0.2.1 3 _ rfl
          have m4 := M0.2.1 4 _ rfl
          have k0 := M1.2.1 0 _ rfl
          have k1 := M1.2.1 1 _ rfl
          have k2 := M1.2.1 2 _ rfl
          have k3 := M1.2.1 3 _ rfl
          have k4 := M1.2.1 4 _ rfl
          have k5 := M1.2.1 5 _ rfl
          have k6 := M1.2.1 6 _ rfl
          have k7 := M1.2.1 7 _ rfl
          go_wp2_with fail
          go_ret
          exact ⟨by rw [fi_of hnd hld hcd]; simp, d1⟩
        · have hc2 : (cm == -1) = false := by rw [beq_eq_false_iff_ne]; exact hc
          have hcd : decide (cm = -1) = false := decide_eq_false hc
          clear hc
          go_enter Tryz.func53, Tryz.ntmps53
          go_wp2_with fail
          generalize (w.alloc (.cells #[.slice ra nr rc, .slice qa L.length qc, .int .i64 cm, .slice aa na ac, .int .i64 vd] 42)).alloc (.cells #[.int .i64 pa, .int .i64 pl, .int .i64 o, .slice a0 n0 c0, .int .i64 nx, .int .i64 md, .int .i64 pf, .slice a1 n1 c1] 47) = w0 at *
          refine (MP.out _ (RP.below d0) (R0.below d0)).mono ?_
          rintro e w1 ⟨rfl, b1⟩
          have d1 := d0.trans (b1.mono d0.size)
          replace M0 := M0.below b1
          replace M1 := M1.below b1
          have m0 := M0.2.1 0 _ rfl
          have m1 := M0.2.1 1 _ rfl
          have m2 := M0.2.1 2 _ rfl
          have m3 := M0.2.1 3 _ rfl
          have m4 := M0.2.1 4 _ rfl
          have k0 := M1.2.1 0 _ rfl
          have k1 := M1.2.1 1 _ rfl
          have k2 := M1.2.1 2 _ rfl
          have k3 := M1.2.1 3 _ rfl
          have k4 := M1.2.1 4 _ rfl
          have k5 := M1.2.1 5 _ rfl
          have k6 := M1.2.1 6 _ rfl
          have k7 := M1.2.1 7 _ rfl
          go_wp2_with fail
          refine (CI.out _ (R1.below d1)).mono ?_
          rintro e w2 ⟨rfl, b2⟩
          have d2 := d1.trans (b2.mono d1.size)
          replace M0 := M0.below b2
          replace M1 := M1.below b2
          have m0 := M0.2.1 0 _ rfl
          have m1 := M0.2.1 1 _ rfl
          have m2 := M0.2.1 2 _ rfl
          have m3 := M0.2.1 3 _ rfl
          have m4 := M0.2.1 4 _ rfl
          have k0 := M1.2.1 0 _ rfl
          have k1 := M1.2.1 1 _ rfl
          have k2 := M1.2.1 2 _ rfl
          have k3 := M1.2.1 3 _ rfl
          have k4 := M1.2.1 4 _ rfl
          have k5 := M1.2.1 5 _ rfl
          have k6 := M1.2.1 6 _ rfl
          have k7 := M1.2.1 7 _ rfl
          go_wp2_with fail
          go_ret
          exact ⟨by rw [fi_of hnd hld hcd]; simp, d2⟩
  · have hn' : (nr : Int) > 0 := by omega
    have hnd : decide (nr = 0) = false := decide_eq_false hn
    clear hn
    go_enter Tryz.func53, Tryz.ntmps53
    go_wp2_with fail
    generalize (w.alloc (.cells #[.slice ra nr rc, .slice qa L.length qc, .int .i64 cm, .slice aa na ac, .int .i64 vd] 42)).alloc (.cells #[.int .i64 pa, .int .i64 pl, .int .i64 o, .slice a0 n0 c0, .int .i64 nx, .int .i64 md, .int .i64 pf, .slice a1 n1 c1] 47) = w0 at *
    go_loopw [5, 17] (fun x y wr => ∃ k : Nat, x = .bool (anR k f0 f1 f2 f3 pa pl) ∧ y = .int .i64 k ∧ k ≤ nr ∧ Mut wr w.heap.size [.slice ra nr rc, .slice qa L.length qc, .int .i64 cm, .slice aa na ac, .int .i64 vd] ∧ Mut wr (w.heap.size + 1) [.int .i64 pa, .int .i64 pl, .int .i64 o, .slice a0 n0 c0, .int .i64 nx, .int .i64 md, .int .i64 pf, .slice a1 n1 c1] ∧ Below w.heap.size w wr) (fun _ y _ => nr - (intOf y).toNat)
    case atStart => exact ⟨0, rfl, rfl, Nat.zero_le _, M0, M1, d0⟩
    case round =>
      clear M0 M1 d0
      obtain ⟨k, rfl, rfl, hk, M0, M1, hb⟩ := hrel
      by_cases hlt : k < nr
      · obtain ⟨b, off, rfl, hbw, u0, u1, u2, u3⟩ := RR k hlt
        replace u0 := (hb.cell (p := ⟨b, off + k * 4, none⟩) hbw).trans u0
        replace u1 := (hb.cell (p := ⟨b, off + k * 4 + 1, none⟩) hbw).trans u1
        replace u2 := (hb.cell (p := ⟨b, off + k * 4 + 2, none⟩) hbw).trans u2
        replace u3 := (hb.cell (p := ⟨b, off + k * 4 + 3, none⟩) hbw).trans u3
        have hlt' : (k : Int) < (nr : Int) := by omega
        have hnx : Hid (anR (k + 1) f0 f1 f2 f3 pa pl = (anR k f0 f1 f2 f3 pa pl || (cvB (f0 k) (f1 k) pa pl && inB pl (f2 k) (f3 k)))) := any_or7
        have s1 := hide (SC.out k hlt)
        have s2 := hide (fun w => s_in pl (f2 k) (f3 k) w)
        generalize f0 k = x0 at *
        generalize f1 k = x1 at *
        generalize f2 k = x2 at *
        generalize f3 k = x3 at *
        have MX := Mut.new wr #[.int .i64 x0, .int .i64 x1, .int .i64 x2, .int .i64 x3] 148
        have dX : Below w.heap.size w (wr.alloc (.cells #[.int .i64 x0, .int .i64 x1, .int .i64 x2, .int .i64 x3] 148)) := hb.alloc hb.size _
        replace M0 := M0.alloc (.cells #[.int .i64 x0, .int .i64 x1, .int .i64 x2, .int .i64 x3] 148)
        replace M1 := M1.alloc (.cells #[.int .i64 x0, .int .i64 x1, .int .i64 x2, .int .i64 x3] 148)
        have q0 := M1.2.1 0 _ rfl
        have q1 := M1.2.1 1 _ rfl
        clear hb SC
        cases hf : anR k f0 f1 f2 f3 pa pl with
        | true =>
          rw [hf] at hnx
          have hN := hide (hnx.out.trans (Bool.true_or _))
          clear hf hnx s1 s2
          go_wp2_with fail
          exact ⟨⟨k + 1, by rw [hN.out], by go_num, by omega, M0, M1, dX⟩, by simp [intOf]; omega⟩
        | false =>
          rw [hf, Bool.false_or] at hnx
          clear hf
          cases hv : cvB x0 x1 pa pl with
          | false =>
            rw [hv, Bool.false_and] at hnx
            rw [hv] at s1
            clear hv s2
            go_wp2_with fail
            refine (s1.out _).mono ?_
            rintro e w3 ⟨rfl, b3⟩
            replace MX := MX.below b3
            replace M0 := M0.below b3
            replace M1 := M1.below b3
            replace dX := dX.trans (b3.mono dX.size)
            go_wp2_with fail
            exact ⟨⟨k + 1, by rw [hnx.out], by go_num, by omega, M0, M1, dX⟩, by simp [intOf]; omega⟩
          | true =>
            rw [hv, Bool.true_and] at hnx
            rw [hv] at s1
            clear hv
            go_wp2_with fail
            refine (s1.out _).mono ?_
            rintro e w3 ⟨rfl, b3⟩
            replace MX := MX.below b3
            replace M0 := M0.below b3
            replace M1 := M1.below b3
            replace dX := dX.trans (b3.mono dX.size)
            have k0 := MX.2.1 0 _ rfl
            have k1 := MX.2.1 1 _ rfl
            have k2 := MX.2.1 2 _ rfl
            have k3 := MX.2.1 3 _ rfl
            have q0 := M1.2.1 0 _ rfl
            have q1 := M1.2.1 1 _ rfl
            go_wp2_with fail
            refine (s2.out _).mono ?_
            rintro e w_ ⟨rfl, hw_⟩
            subst hw_
            go_wp2_with fail
            exact ⟨⟨k + 1, by rw [hnx.out], by go_num, by omega, M0, M1, dX⟩, by simp [intOf]; omega⟩
      · have hlt' : ¬ (k : Int) < (nr : Int) := by omega
        obtain rfl : k = nr := by omega
        have d0 := hb
        clear hb hlt hk SC hr
        have m0 := M0.2.1 0 _ rfl
        have m1 := M0.2.1 1 _ rfl
        have m2 := M0.2.1 2 _ rfl
        have k3 := M1.2.1 3 _ rfl
        have k7 := M1.2.1 7 _ rfl
        cases han0 : anR k f0 f1 f2 f3 pa pl with
        | false =>
          have han := hide han0
          clear han0
          go_wp2_with fail
          go_ret
          exact ⟨by rw [han.out, fi_ran hnd]; rfl, d0⟩
        | true =>
          have han := hide han0
          clear han0
          by_cases hL : L.length = 0
          · have hl0 : ¬ ((L.length : Int) > 0) := by omega
            have hld : decide (L.length = 0) = true := decide_eq_true hL
            clear hL
            by_cases hc : cm = -1
            · have hc2 : (cm == -1) = true := by rw [beq_iff_eq]; exact hc
              have hcd : decide (cm = -1) = true := decide_eq_true hc
              clear hc
              go_wp2_with fail
              go_ret
              exact ⟨by rw [han.out, fi_of hnd hld hcd]; simp, d0⟩
            · have hc2 : (cm == -1) = false := by rw [beq_eq_false_iff_ne]; exact hc
              have hcd : decide (cm = -1) = false := decide_eq_false hc
              clear hc
              go_wp2_with fail
              refine (CI.out _ (R1.below d0)).mono ?_
              rintro e w1 ⟨rfl, b1⟩
              have d1 := d0.trans (b1.mono d0.size)
              replace M0 := M0.below b1
              replace M1 := M1.below b1
              have m0 := M0.2.1 0 _ rfl
              have m1 := M0.2.1 1 _ rfl
              have m2 := M0.2.1 2 _ rfl
              have m3 := M0.2.1 3 _ rfl
              have m4 := M0.2.1 4 _ rfl
              have k0 := M1.2.1 0 _ rfl
              have k1 := M1.2.1 1 _ rfl
              have k2 := M1.2.1 2 _ rfl
              have k3 := M1.2.1 3 _ rfl
              have k4 := M1.2.1 4 _ rfl
              have k5 := M1.2.1 5 _ rfl
              have k6 := M1.2.1 6 _ rfl
              have k7 := M1.2.1 7 _ rfl
              go_wp2_with fail
              go_ret
              exact ⟨by rw [han.out, fi_of hnd hld hcd]; simp, d1⟩
          · have hl0 : (L.length : Int) > 0 := by omega
            have hld : decide (L.length = 0) = false := decide_eq_false hL
            have MP := hMP.out hL
            clear hL
            cases r with
            | false =>
              go_wp2_with fail
              refine (MP.out _ (RP.below d0) (R0.below d0)).mono ?_
              rintro e w1 ⟨rfl, b1⟩
              have d1 := d0.trans (b1.mono d0.size)
              replace M0 := M0.below b1
              replace M1 := M1.below b1
              have m0 := M0.2.1 0 _ rfl
              have m1 := M0.2.1 1 _ rfl
              have m2 := M0.2.1 2 _ rfl
              have m3 := M0.2.1 3 _ rfl
              have m4 := M0.2.1 4 _ rfl
              have k0 := M1.2.1 0 _ rfl
              have k1 := M1.2.1 1 _ rfl
              have k2 := M1.2.1 2 _ rfl
              have k3 := M1.2.1 3 _ rfl
              have k4 := M1.2.1 4 _ rfl
              have k5 := M1.2.1 5 _ rfl
              have k6 := M1.2.1 6 _ rfl
              have k7 := M1.2.1 7 _ rfl
              go_wp2_with fail
              go_ret
              exact ⟨by rw [fi_pat hld]; rfl, d1⟩
            | true =>
              by_cases hc : cm = -1
              · have hc2 : (cm == -1) = true := by rw [beq_iff_eq]; exact hc
                have hcd : decide (cm = -1) = true := decide_eq_true hc
                clear hc
                go_wp2_with fail
                refine (MP.out _ (RP.below d0) (R0.below d0)).mono ?_
                rintro e w1 ⟨rfl, b1⟩
                have d1 := d0.trans (b1.mono d0.size)
                replace M0 := M0.below b1
                replace M1 := M1.below b1
                have m0 := M0.2.1 0 _ rfl
                have m1 := M0.2.1 1 _ rfl
                have m2 := M0.2.1 2 _ rfl
                have m3 := M0.2.1 3 _ rfl
                have m4 := M0.2.1 4 _ rfl
                have k0 := M1.2.1 0 _ rfl
                have k1 := M1.2.1 1 _ rfl
                have k2 := M1.2.1 2 _ rfl
                have k3 := M1.2.1 3 _ rfl
                have k4 := M1.2.1 4 _ rfl
                have k5 := M1.2.1 5 _ rfl
                have k6 := M1.2.1 6 _ rfl
                have k7 := M1.2.1 7 _ rfl
                go_wp2_with fail
                go_ret
                exact ⟨by rw [han.out, fi_of hnd hld hcd]; simp, d1⟩
              · have hc2 : (cm == -1) = false := by rw [beq_eq_false_iff_ne]; exact hc
                have hcd : decide (cm = -1) = false := decide_eq_false hc
                clear hc
                go_wp2_with fail
                refine (MP.out _ (RP.below d0) (R0.below d0)).mono ?_
                rintro e w1 ⟨rfl, b1⟩
                have d1 := d0.trans (b1.mono d0.size)
                replace M0 := M0.below b1
                replace M1 := M1.below b1
                have m0 := M0.2.1 0 _ rfl
                have m1 := M0.2.1 1 _ rfl
                have m2 := M0.2.1 2 _ rfl
                have m3 := M0.2.1 3 _ rfl
                have m4 := M0.2.1 4 _ rfl
                have k0 := M1.2.1 0 _ rfl
                have k1 := M1.2.1 1 _ rfl
                have k2 := M1.2.1 2 _ rfl
                have k3 := M1.2.1 3 _ rfl
                have k4 := M1.2.1 4 _ rfl
                have k5 := M1.2.1 5 _ rfl
                have k6 := M1.2.1 6 _ rfl
                have k7 := M1.2.1 7 _ rfl
                go_wp2_with fail
                refine (CI.out _ (R1.below d1)).mono ?_
                rintro e w2 ⟨rfl, b2⟩
                have d2 := d1.trans (b2.mono d1.size)
                replace M0 := M0.below b2
                replace M1 := M1.below b2
                have m0 := M0.2.1 0 _ rfl
                have m1 := M0.2.1 1 _ rfl
                have m2 := M0.2.1 2 _ rfl
                have m3 := M0.2.1 3 _ rfl
                have m4 := M0.2.1 4 _ rfl
                have k0 := M1.2.1 0 _ rfl
                have k1 := M1.2.1 1 _ rfl
                have k2 := M1.2.1 2 _ rfl
                have k3 := M1.2.1 3 _ rfl
                have k4 := M1.2.1 4 _ rfl
                have k5 := M1.2.1 5 _ rfl
                have k6 := M1.2.1 6 _ rfl
                have k7 := M1.2.1 7 _ rfl
                go_wp2_with fail
                go_ret
                exact ⟨by rw [han.out, fi_of hnd hld hcd]; simp, d2⟩
end Go.Proofs.YtocgghhlfmgndaaGreat
