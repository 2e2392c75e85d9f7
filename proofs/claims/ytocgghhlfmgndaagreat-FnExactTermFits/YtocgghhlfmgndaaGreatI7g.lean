/- What the program's fits and TermFits answer. -/
import Derived.Test.YtocgghhlfmgndaaGreatI7f
import Derived.Test.YtocgghhlfmgndaaGreatI7c
import Derived.Test.YtocgghhlfmgndaaGreatI6mc
import Derived.Test.YtocgghhlfmgndaaGreatSI7
import Derived.Test.YtocgghhlfmgndaaGreatFit7
namespace Go.Proofs.YtocgghhlfmgndaaGreat
open Go.RowKit

set_option maxRecDepth 100000 in
set_option maxHeartbeats 3200000 in
theorem i_fits (ra : Option Addr) (nr rc : Nat) (f0 f1 f2 f3 : Nat → Int) (qa : Option Addr) (qc : Nat) (L : List Cl) (cm : Int) (aa : Option Addr) (na ac : Nat) (vd : Int) (pa pl o nx md pf : Int) (a0 : Option Addr) (n0 c0 : Nat) (f : Nat → Int) (a1 : Option Addr) (n1 c1 : Nat) (g : Nat → Int) (r : Bool) (w : World)
    (hr : nr ≤ 1048576) (hp : L.length ≤ 1048576) (hpc : L.length ≤ qc) (h0 : n0 ≤ 1048576) (h1 : n1 ≤ 1048576) (hG : ∀ i, i < nr → goodB (f0 i) (f1 i) = true) (gq : goodB pa pl = true) (hM : MpB L (lsI n0 f) r)
    (RR : RowRange ra nr f0 f1 f2 f3 w) (RP : RowQ qa L w) (R0 : RowInt a0 n0 f w) (R1 : RowInt a1 n1 g w) :
    Calls Tryz.prog 60 #[.agg #[.slice ra nr rc, .slice qa L.length qc, .int .i64 cm, .slice aa na ac, .int .i64 vd], .agg #[.int .i64 pa, .int .i64 pl, .int .i64 o, .slice a0 n0 c0, .int .i64 nx, .int .i64 md, .int .i64 pf, .slice a1 n1 c1]] w fun e w' => e = .returned (.bool (fiB nr (anR nr f0 f1 f2 f3 pa pl) L.length r cm (coB n1 g cm))) ∧ Below w.heap.size w w' := by
  have SH := hide (fun w R => i_someRange ra nr rc f0 f1 f2 f3 pa pl w hr R hG gq)
  have CI := hide (fun w R => i_containsI a1 n1 c1 g cm w h1 R)
  have MP : Hid (∀ w, RowQ qa L w → RowInt a0 n0 f w → Calls Tryz.prog 117 #[.slice qa L.length qc, .slice a0 n0 c0] w fun e w' => e = .returned (.tuple #[.bool r, .bool (rgB L && gpB (lsI n0 f))]) ∧ Below w.heap.size w w') := fun w R Q => by
    have h := i_matchPath qa qc L a0 c0 (lsI n0 f) r w (by omega) hpc (by rw [lsI_len]; omega) hM R (RowN.ofI7 Q)
    rw [lsI_len] at h
    exact h
  generalize (rgB L && gpB (lsI n0 f)) = gg at *
  have M0 := (Mut.new w #[.slice ra nr rc, .slice qa L.length qc, .int .i64 cm, .slice aa na ac, .int .i64 vd] 42).alloc (.cells #[.int .i64 pa, .int .i64 pl, .int .i64 o, .slice a0 n0 c0, .int .i64 nx, .int .i64 md, .int .i64 pf, .slice a1 n1 c1] 47)
  have M1 := Mut.new (w.alloc (.cells #[.slice ra nr rc, .slice qa L.length qc, .int .i64 cm, .slice aa na ac, .int .i64 vd] 42)) #[.int .i64 pa, .int .i64 pl, .int .i64 o, .slice a0 n0 c0, .int .i64 nx, .int .i64 md, .int .i64 pf, .slice a1 n1 c1] 47
  have d0 : Below w.heap.size w ((w.alloc (.cells #[.slice ra nr rc, .slice qa L.length qc, .int .i64 cm, .slice aa na ac, .int .i64 vd] 42)).alloc (.cells #[.int .i64 pa, .int .i64 pl, .int .i64 o, .slice a0 n0 c0, .int .i64 nx, .int .i64 md, .int .i64 pf, .slice a1 n1 c1] 47)) := below_box2 (Below.refl _ _)
  rw [World.size_alloc] at M1
  generalize anR nr f0 f1 f2 f3 pa pl = an at *
  generalize coB n1 g cm = co at *
  clear hr hp hpc h0 h1 hG gq hM
  by_cases hn : nr = 0
  · have hn' : ¬ ((nr : Int) > 0) := by omega
    have hnd : decide (nr = 0) = true := decide_eq_true hn
    clear hn
    by_cases hc : cm = -1
    · have hc2 : (cm != -1) = false := by simp [hc]
      have hcd : decide (cm = -1) = true := decide_eq_true hc
      clear hc
      by_cases hL : L.length = 0
      · have hl0 : ((L.length : Int) == 0) = true := by rw [beq_iff_eq]; omega
        have hld : decide (L.length = 0) = true := decide_eq_true hL
        clear hL
        go_enter Tryz.func60, Tryz.ntmps60
        go_wp2_with fail
        generalize (w.alloc (.cells #[.slice ra nr rc, .slice qa L.length qc, .int .i64 cm, .slice aa na ac, .int .i64 vd] 42)).alloc (.cells #[.int .i64 pa, .int .i64 pl, .int .i64 o, .slice a0 n0 c0, .int .i64 nx, .int .i64 md, .int .i64 pf, .slice a1 n1 c1] 47) = w0 at *
        refine (MP.out _ (RP.below d0) (R0.below d0)).mono ?_
        rintro e w1 ⟨rfl, b1⟩
        have d1 := d0.trans (b1.mono d0.size)
        have M0 := M0.below b1
        have M1 := M1.below b1
        have m0 := M0.2.1 0 _ rfl
        have m1 := M0.2.1 1 _ rfl
        have m2 := M0.2.1 2 _ rfl
        have m3 := M0.2.1 3 _ rfl
        have m4 := M0.2.1 4 _ rfl
        have k0 := M1.2.1 0 _ rfl
        have k1 := M1.2.1 1 _ rfl
        have k2 := M1.2.1 2 _ rfl
        have k3 := M1.2.1 3 _ rfl
        have k4 := M1.2.1 4 _ rfl
        have k5 := M1.2.1 5 _ rfl
        have k6 := M1.2.1 6 _ rfl
        have k7 := M1.2.1 7 _ rfl
        go_wp2_with fail
        go_ret
        exact ⟨by rw [fi_of hnd hld hcd]; simp, d1⟩
      · have hl0 : ((L.length : Int) == 0) = false := by rw [beq_eq_false_iff_ne]; omega
        have hld : decide (L.length = 0) = false := decide_eq_false hL
        clear hL
        go_enter Tryz.func60, Tryz.ntmps60
        go_wp2_with fail
        generalize (w.alloc (.cells #[.slice ra nr rc, .slice qa L.length qc, .int .i64 cm, .slice aa na ac, .int .i64 vd] 42)).alloc (.cells #[.int .i64 pa, .int .i64 pl, .int .i64 o, .slice a0 n0 c0, .int .i64 nx, .int .i64 md, .int .i64 pf, .slice a1 n1 c1] 47) = w0 at *
        refine (MP.out _ (RP.below d0) (R0.below d0)).mono ?_
        rintro e w1 ⟨rfl, b1⟩
        have d1 := d0.trans (b1.mono d0.size)
        have M0 := M0.below b1
        have M1 := M1.below b1
        have m0 := M0.2.1 0 _ rfl
        have m1 := M0.2.1 1 _ rfl
        have m2 := M0.2.1 2 _ rfl
        have m3 := M0.2.1 3 _ rfl
        have m4 := M0.2.1 4 _ rfl
        have k0 := M1.2.1 0 _ rfl
        have k1 := M1.2.1 1 _ rfl
        have k2 := M1.2.1 2 _ rfl
        have k3 := M1.2.1 3 _ rfl
        have k4 := M1.2.1 4 _ rfl
        have k5 := M1.2.1 5 _ rfl
        have k6 := M1.2.1 6 _ rfl
        have k7 := M1.2.1 7 _ rfl
        go_wp2_with fail
        go_ret
        exact ⟨by rw [fi_of hnd hld hcd]; simp, d1⟩
    · have hc2 : (cm != -1) = true := by simpa using hc
      have hcd : decide (cm = -1) = false := decide_eq_false hc
      clear hc
      cases co with
      | false =>
        go_enter Tryz.func60, Tryz.ntmps60
        go_wp2_with fail
        generalize (w.alloc (.cells #[.slice ra nr rc, .slice qa L.length qc, .int .i64 cm, .slice aa na ac, .int .i64 vd] 42)).alloc (.cells #[.int .i64 pa, .int .i64 pl, .int .i64 o, .slice a0 n0 c0, .int .i64 nx, .int .i64 md, .int .i64 pf, .slice a1 n1 c1] 47) = w0 at *
        refine (CI.out _ (R1.below d0)).mono ?_
        rintro e w1 ⟨rfl, b1⟩
        have d1 := d0.trans (b1.mono d0.size)
        have M0 := M0.below b1
        have M1 := M1.below b1
        have m0 := M0.2.1 0 _ rfl
        have m1 := M0.2.1 1 _ rfl
        have m2 := M0.2.1 2 _ rfl
        have m3 := M0.2.1 3 _ rfl
        have m4 := M0.2.1 4 _ rfl
        have k0 := M1.2.1 0 _ rfl
        have k1 := M1.2.1 1 _ rfl
        have k2 := M1.2.1 2 _ rfl
        have k3 := M1.2.1 3 _ rfl
        have k4 := M1.2.1 4 _ rfl
        have k5 := M1.2.1 5 _ rfl
        have k6 := M1.2.1 6 _ rfl
        have k7 := M1.2.1 7 _ rfl
        go_wp2_with fail
        go_ret
        exact ⟨by rw [fi_com hcd]; rfl, d1⟩
      | true =>
        by_cases hL : L.length = 0
        · have hl0 : ((L.length : Int) == 0) = true := by rw [beq_iff_eq]; omega
          have hld : decide (L.length = 0) = true := decide_eq_true hL
          clear hL
          go_enter Tryz.func60, Tryz.ntmps60
          go_wp2_with fail
          generalize (w.alloc (.cells #[.slice ra nr rc, .slice qa L.length qc, .int .i64 cm, .slice aa na ac, .int .i64 vd] 42)).alloc (.cells #[.int .i64 pa, .int .i64 pl, .int .i64 o, .slice a0 n0 c0, .int .i64 nx, .int .i64 md, .int .i64 pf, .slice a1 n1 c1] 47) = w0 at *
          refine (CI.out _ (R1.below d0)).mono ?_
          rintro e w1 ⟨rfl, b1⟩
          have d1 := d0.trans (b1.mono d0.size)
          have M0 := M0.below b1
          have M1 := M1.below b1
          have m0 := M0.2.1 0 _ rfl
          have m1 := M0.2.1 1 _ rfl
          have m2 := M0.2.1 2 _ rfl
          have m3 := M0.2.1 3 _ rfl
          have m4 := M0.2.1 4 _ rfl
          have k0 := M1.2.1 0 _ rfl
          have k1 := M1.2.1 1 _ rfl
          have k2 := M1.2.1 2 _ rfl
          have k3 := M1.2.1 3 _ rfl
          have k4 := M1.2.1 4 _ rfl
          have k5 := M1.2.1 5 _ rfl
          have k6 := M1.2.1 6 _ rfl
          have k7 := M1.2.1 7 _ rfl
          go_wp2_with fail
          refine (MP.out _ (RP.below d1) (R0.below d1)).mono ?_
          rintro e w2 ⟨rfl, b2⟩
          have d2 := d1.trans (b2.mono d1.size)
          have M0 := M0.below b2
          have M1 := M1.below b2
          have m0 := M0.2.1 0 _ rfl
          have m1 := M0.2.1 1 _ rfl
          have m2 := M0.2.1 2 _ rfl
          have m3 := M0.2.1 3 _ rfl
          have m4 := M0.2.1 4 _ rfl
          have k0 := M1.2.1 0 _ rfl
          have k1 := M1.2.1 1 _ rfl
          have k2 := M1.2.1 2 _ rfl
          have k3 := M1.2.1 3 _ rfl
          have k4 := M1.2.1 4 _ rfl
          have k5 := M1.2.1 5 _ rfl
          have k6 := M1.2.1 6 _ rfl
          have k7 := M1.2.1 7 _ rfl
          go_wp2_with fail
          go_ret
          exact ⟨by rw [fi_of hnd hld hcd]; simp, d2⟩
        · have hl0 : ((L.length : Int) == 0) = false := by rw [beq_eq_false_iff_ne]; omega
          have hld : decide (L.length = 0) = false := decide_eq_false hL
          clear hL
          go_enter Tryz.func60, Tryz.ntmps60
          go_wp2_with fail
          generalize (w.alloc (.cells #[.slice ra nr rc, .slice qa L.length qc, .int .i64 cm, .slice aa na ac, .int .i64 vd] 42)).alloc (.cells #[.int .i64 pa, .int .i64 pl, .int .i64 o, .slice a0 n0 c0, .int .i64 nx, .int .i64 md, .int .i64 pf, .slice a1 n1 c1] 47) = w0 at *
          refine (CI.out _ (R1.below d0)).mono ?_
          rintro e w1 ⟨rfl, b1⟩
          have d1 := d0.trans (b1.mono d0.size)
          have M0 := M0.below b1
          have M1 := M1.below b1
          have m0 := M0.2.1 0 _ rfl
          have m1 := M0.2.1 1 _ rfl
          have m2 := M0.2.1 2 _ rfl
          have m3 := M0.2.1 3 _ rfl
          have m4 := M0.2.1 4 _ rfl
          have k0 := M1.2.1 0 _ rfl
          have k1 := M1.2.1 1 _ rfl
          have k2 := M1.2.1 2 _ rfl
          have k3 := M1.2.1 3 _ rfl
          have k4 := M1.2.1 4 _ rfl
          have k5 := M1.2.1 5 _ rfl
          have k6 := M1.2.1 6 _ rfl
          have k7 := M1.2.1 7 _ rfl
          go_wp2_with fail
          refine (MP.out _ (RP.below d1) (R0.below d1)).mono ?_
          rintro e w2 ⟨rfl, b2⟩
          have d2 := d1.trans (b2.mono d1.size)
          have M0 := M0.below b2
          have M1 := M1.below b2
          have m0 := M0.2.1 0 _ rfl
          have m1 := M0.2.1 1 _ rfl
          have m2 := M0.2.1 2 _ rfl
          have m3 := M0.2.1 3 _ rfl
          have m4 := M0.2.1 4 _ rfl
          have k0 := M1.2.1 0 _ rfl
          have k1 := M1.2.1 1 _ rfl
          have k2 := M1.2.1 2 _ rfl
          have k3 := M1.2.1 3 _ rfl
          have k4 := M1.2.1 4 _ rfl
          have k5 := M1.2.1 5 _ rfl
          have k6 := M1.2.1 6 _ rfl
          have k7 := M1.2.1 7 _ rfl
          go_wp2_with fail
          go_ret
          exact ⟨by rw [fi_of hnd hld hcd]; simp, d2⟩
  · have hn' : (nr : Int) > 0 := by omega
    have hnd : decide (nr = 0) = false := decide_eq_false hn
    clear hn
    cases an with
    | false =>
      go_enter Tryz.func60, Tryz.ntmps60
      go_wp2_with fail
      generalize (w.alloc (.cells #[.slice ra nr rc, .slice qa L.length qc, .int .i64 cm, .slice aa na ac, .int .i64 vd] 42)).alloc (.cells #[.int .i64 pa, .int .i64 pl, .int .i64 o, .slice a0 n0 c0, .int .i64 nx, .int .i64 md, .int .i64 pf, .slice a1 n1 c1] 47) = w0 at *
      refine (SH.out _ (RR.below d0)).mono ?_
      rintro e w1 ⟨rfl, b1⟩
      have d1 := d0.trans (b1.mono d0.size)
      have M0 := M0.below b1
      have M1 := M1.below b1
      have m0 := M0.2.1 0 _ rfl
      have m1 := M0.2.1 1 _ rfl
      have m2 := M0.2.1 2 _ rfl
      have m3 := M0.2.1 3 _ rfl
      have m4 := M0.2.1 4 _ rfl
      have k0 := M1.2.1 0 _ rfl
      have k1 := M1.2.1 1 _ rfl
      have k2 := M1.2.1 2 _ rfl
      have k3 := M1.2.1 3 _ rfl
      have k4 := M1.2.1 4 _ rfl
      have k5 := M1.2.1 5 _ rfl
      have k6 := M1.2.1 6 _ rfl
      have k7 := M1.2.1 7 _ rfl
      go_wp2_with fail
      go_ret
      exact ⟨by rw [fi_ran hnd]; rfl, d1⟩
    | true =>
      by_cases hc : cm = -1
      · have hc2 : (cm != -1) = false := by simp [hc]
        have hcd : decide (cm = -1) = true := decide_eq_true hc
        clear hc
        by_cases hL : L.length = 0
        · have hl0 : ((L.length : Int) == 0) = true := by rw [beq_iff_eq]; omega
          have hld : decide (L.length = 0) = true := decide_eq_true hL
          clear hL
          go_enter Tryz.func60, Tryz.ntmps60
          go_wp2_with fail
          generalize (w.alloc (.cells #[.slice ra nr rc, .slice qa L.length qc, .int .i64 cm, .slice aa na ac, .int .i64 vd] 42)).alloc (.cells #[.int .i64 pa, .int .i64 pl, .int .i64 o, .slice a0 n0 c0, .int .i64 nx, .int .i64 md, .int .i64 pf, .slice a1 n1 c1] 47) = w0 at *
          refine (SH.out _ (RR.below d0)).mono ?_
          rintro e w1 ⟨rfl, b1⟩
          have d1 := d0.trans (b1.mono d0.size)
          have M0 := M0.below b1
          have M1 := M1.below b1
          have m0 := M0.2.1 0 _ rfl
          have m1 := M0.2.1 1 _ rfl
          have m2 := M0.2.1 2 _ rfl
          have m3 := M0.2.1 3 _ rfl
          have m4 := M0.2.1 4 _ rfl
          have k0 := M1.2.1 0 _ rfl
          have k1 := M1.2.1 1 _ rfl
          have k2 := M1.2.1 2 _ rfl
          have k3 := M1.2.1 3 _ rfl
          have k4 := M1.2.1 4 _ rfl
          have k5 := M1.2.1 5 _ rfl
          have k6 := M1.2.1 6 _ rfl
          have k7 := M1.2.1 7 _ rfl
          go_wp2_with fail
          refine (MP.out _ (RP.below d1) (R0.below d1)).mono ?_
          rintro e w2 ⟨rfl, b2⟩
          have d2 := d1.trans (b2.mono d1.size)
          have M0 := M0.below b2
          have M1 := M1.below b2
          have m0 := M0.2.1 0 _ rfl
          have m1 := M0.2.1 1 _ rfl
          have m2 := M0.2.1 2 _ rfl
          have m3 := M0.2.1 3 _ rfl
          have m4 := M0.2.1 4 _ rfl
          have k0 := M1.2.1 0 _ rfl
          have k1 := M1.2.1 1 _ rfl
          have k2 := M1.2.1 2 _ rfl
          have k3 := M1.2.1 3 _ rfl
          have k4 := M1.2.1 4 _ rfl
          have k5 := M1.2.1 5 _ rfl
          have k6 := M1.2.1 6 _ rfl
          have k7 := M1.2.1 7 _ rfl
          go_wp2_with fail
          go_ret
          exact ⟨by rw [fi_of hnd hld hcd]; simp, d2⟩
        · have hl0 : ((L.length : Int) == 0) = false := by rw [beq_eq_false_iff_ne]; omega
          have hld : decide (L.length = 0) = false := decide_eq_false hL
          clear hL
          go_enter Tryz.func60, Tryz.ntmps60
          go_wp2_with fail
          generalize (w.alloc (.cells #[.slice ra nr rc, .slice qa L.length qc, .int .i64 cm, .slice aa na ac, .int .i64 vd] 42)).alloc (.cells #[.int .i64 pa, .int .i64 pl, .int .i64 o, .slice a0 n0 c0, .int .i64 nx, .int .i64 md, .int .i64 pf, .slice a1 n1 c1] 47) = w0 at *
          refine (SH.out _ (RR.below d0)).mono ?_
          rintro e w1 ⟨rfl, b1⟩
          have d1 := d0.trans (b1.mono d0.size)
          have M0 := M0.below b1
          have M1 := M1.below b1
          have m0 := M0.2.1 0 _ rfl
          have m1 := M0.2.1 1 _ rfl
          have m2 := M0.2.1 2 _ rfl
          have m3 := M0.2.1 3 _ rfl
          have m4 := M0.2.1 4 _ rfl
          have k0 := M1.2.1 0 _ rfl
          have k1 := M1.2.1 1 _ rfl
          have k2 := M1.2.1 2 _ rfl
          have k3 := M1.2.1 3 _ rfl
          have k4 := M1.2.1 4 _ rfl
          have k5 := M1.2.1 5 _ rfl
          have k6 := M1.2.1 6 _ rfl
          have k7 := M1.2.1 7 _ rfl
          go_wp2_with fail
          refine (MP.out _ (RP.below d1) (R0.below d1)).mono ?_
          rintro e w2 ⟨rfl, b2⟩
          have d2 := d1.trans (b2.mono d1.size)
          have M0 := M0.below b2
          have M1 := M1.below b2
          have m0 := M0.2.1 0 _ rfl
          have m1 := M0.2.1 1 _ rfl
          have m2 := M0.2.1 2 _ rfl
          have m3 := M0.2.1 3 _ rfl
          have m4 := M0.2.1 4 _ rfl
          have k0 := M1.2.1 0 _ rfl
          have k1 := M1.2.1 1 _ rfl
          have k2 := M1.2.1 2 _ rfl
          have k3 := M1.2.1 3 _ rfl
          have k4 := M1.2.1 4 _ rfl
          have k5 := M1.2.1 5 _ rfl
          have k6 := M1.2.1 6 _ rfl
          have k7 := M1.2.1 7 _ rfl
          go_wp2_with fail
          go_ret
          exact ⟨by rw [fi_of hnd hld hcd]; simp, d2⟩
      · have hc2 : (cm != -1) = true := by simpa using hc
        have hcd : decide (cm = -1) = false := decide_eq_false hc
        clear hc
        cases co with
        | false =>
          go_enter Tryz.func60, Tryz.ntmps60
          go_wp2_with fail
          generalize (w.alloc (.cells #[.slice ra nr rc, .slice qa L.length qc, .int .i64 cm, .slice aa na ac, .int .i64 vd] 42)).alloc (.cells #[.int .i64 pa, .int .i64 pl, .int .i64 o, .slice a0 n0 c0, .int .i64 nx, .int .i64 md, .int .i64 pf, .slice a1 n1 c1] 47) = w0 at *
          refine (SH.out _ (RR.below d0)).mono ?_
          rintro e w1 ⟨rfl, b1⟩
          have d1 := d0.trans (b1.mono d0.size)
          have M0 := M0.below b1
          have M1 := M1.below b1
          have m0 := M0.2.1 0 _ rfl
          have m1 := M0.2.1 1 _ rfl
          have m2 := M0.2.1 2 _ rfl
          have m3 := M0.2.1 3 _ rfl
          have m4 := M0.2.1 4 _ rfl
          have k0 := M1.2.1 0 _ rfl
          have k1 := M1.2.1 1 _ rfl
          have k2 := M1.2.1 2 _ rfl
          have k3 := M1.2.1 3 _ rfl
          have k4 := M1.2.1 4 _ rfl
          have k5 := M1.2.1 5 _ rfl
          have k6 := M1.2.1 6 _ rfl
          have k7 := M1.2.1 7 _ rfl
          go_wp2_with fail
          refine (CI.out _ (R1.below d1)).mono ?_
          rintro e w2 ⟨rfl, b2⟩
          have d2 := d1.trans (b2.mono d1.size)
          have M0 := M0.below b2
          have M1 := M1.below b2
          have m0 := M0.2.1 0 _ rfl
          have m1 := M0.2.1 1 _ rfl
          have m2 := M0.2.1 2 _ rfl
          have m3 := M0.2.1 3 _ rfl
          have m4 := M0.2.1 4 _ rfl
          have k0 := M1.2.1 0 _ rfl
          have k1 := M1.2.1 1 _ rfl
          have k2 := M1.2.1 2 _ rfl
          have k3 := M1.2.1 3 _ rfl
          have k4 := M1.2.1 4 _ rfl
          have k5 := M1.2.1 5 _ rfl
          have k6 := M1.2.1 6 _ rfl
          have k7 := M1.2.1 7 _ rfl
          go_wp2_with fail
          go_ret
          exact ⟨by rw [fi_com hcd]; rfl, d2⟩
        | true =>
          by_cases hL : L.length = 0
          · have hl0 : ((L.length : Int) == 0) = true := by rw [beq_iff_eq]; omega
            have hld : decide (L.length = 0) = true := decide_eq_true hL
            clear hL
            go_enter Tryz.func60, Tryz.ntmps60
            go_wp2_with fail
            generalize (w.alloc (.cells #[.slice ra nr rc, .slice qa L.length qc, .int .i64 cm, .slice aa na ac, .int .i64 vd] 42)).alloc (.cells #[.int .i64 pa, .int .i64 pl, .int .i64 o, .slice a0 n0 c0, .int .i64 nx, .int .i64 md, .int .i64 pf, .slice a1 n1 c1] 47) = w0 at *
            refine (SH.out _ (RR.below d0)).mono ?_
            rintro e w1 ⟨rfl, b1⟩
            have d1 := d0.trans (b1.mono d0.size)
            have M0 := M0.below b1
            have M1 := M1.below b1
            have m0 := M0.2.1 0 _ rfl
            have m1 := M0.2.1 1 _ rfl
            have m2 := M0.2.1 2 _ rfl
            have m3 := M0.2.1 3 _ rfl
            have m4 := M0.2.1 4 _ rfl
            have k0 := M1.2.1 0 _ rfl
            have k1 := M1.2.1 1 _ rfl
            have k2 := M1.2.1 2 _ rfl
            have k3 := M1.2.1 3 _ rfl
            have k4 := M1.2.1 4 _ rfl
            have k5 := M1.2.1 5 _ rfl
            have k6 := M1.2.1 6 _ rfl
            have k7 := M1.2.1 7 _ rfl
            go_wp2_with fail
            refine (CI.out _ (R1.below d1)).mono ?_
            rintro e w2 ⟨rfl, b2⟩
            have d2 := d1.trans (b2.mono d1.size)
            have M0 := M0.below b2
            have M1 := M1.below b2
            have m0 := M0.2.1 0 _ rfl
            have m1 := M0.2.1 1 _ rfl
            have m2 := M0.2.1 2 _ rfl
            have m3 := M0.2.1 3 _ rfl
            have m4 := M0.2.1 4 _ rfl
            have k0 := M1.2.1 0 _ rfl
            have k1 := M1.2.1 1 _ rfl
            have k2 := M1.2.1 2 _ rfl
            have k3 := M1.2.1 3 _ rfl
            have k4 := M1.2.1 4 _ rfl
            have k5 := M1.2.1 5 _ rfl
            have k6 := M1.2.1 6 _ rfl
            have k7 := M1.2.1 7 _ rfl
            go_wp2_with fail
            refine (MP.out _ (RP.below d2) (R0.below d2)).mono ?_
            rintro e w3 ⟨rfl, b3⟩
            have d3 := d2.trans (b3.mono d2.size)
            have M0 := M0.below b3
            have M1 := M1.below b3
            have m0 := M0.2.1 0 _ rfl
            have m1 := M0.2.1 1 _ rfl
            have m2 := M0.2.1 2 _ rfl
            have m3 := M0.2.1 3 _ rfl
            have m4 := M0.2.1 4 _ rfl
            have k0 := M1.2.1 0 _ rfl
            have k1 := M1.2.1 1 _ rfl
            have k2 := M1.2.1 2 _ rfl
            have k3 := M1.2.1 3 _ rfl
            have k4 := M1.2.1 4 _ rfl
            have k5 := M1.2.1 5 _ rfl
            have k6 := M1.2.1 6 _ rfl
            have k7 := M1.2.1 7 _ rfl
            go_wp2_with fail
            go_ret
            exact ⟨by rw [fi_of hnd hld hcd]; simp, d3⟩
          · have hl0 : ((L.length : Int) == 0) = false := by rw [beq_eq_false_iff_ne]; omega
            have hld : decide (L.length = 0) = false := decide_eq_false hL
            clear hL
            go_enter Tryz.func60, Tryz.ntmps60
            go_wp2_with fail
            generalize (w.alloc (.cells #[.slice ra nr rc, .slice qa L.length qc, .int .i64 cm, .slice aa na ac, .int .i64 vd] 42)).alloc (.cells #[.int .i64 pa, .int .i64 pl, .int .i64 o, .slice a0 n0 c0, .int .i64 nx, .int .i64 md, .int .i64 pf, .slice a1 n1 c1] 47) = w0 at *
            refine (SH.out _ (RR.below d0)).mono ?_
            rintro e w1 ⟨rfl, b1⟩
            have d1 := d0.trans (b1.mono d0.size)
            have M0 := M0.below b1
            have M1 := M1.below b1
            have m0 := M0.2.1 0 _ rfl
            have m1 := M0.2.1 1 _ rfl
            have m2 := M0.2.1 2 _ rfl
            have m3 := M0.2.1 3 _ rfl
            have m4 := M0.2.1 4 _ rfl
            have k0 := M1.2.1 0 _ rfl
            have k1 := M1.2.1 1 _ rfl
            have k2 := M1.2.1 2 _ rfl
            have k3 := M1.2.1 3 _ rfl
            have k4 := M1.2.1 4 _ rfl
            have k5 := M1.2.1 5 _ rfl
            have k6 := M1.2.1 6 _ rfl
            have k7 := M1.2.1 7 _ rfl
            go_wp2_with fail
            refine (CI.out _ (R1.below d1)).mono ?_
            rintro e w2 ⟨rfl, b2⟩
            have d2 := d1.trans (b2.mono d1.size)
            have M0 := M0.below b2
            have M1 := M1.below b2
            have m0 := M0.2.1 0 _ rfl
            have m1 := M0.2.1 1 _ rfl
            have m2 := M0.2.1 2 _ rfl
            have m3 := M0.2.1 3 _ rfl
            have m4 := M0.2.1 4 _ rfl
            have k0 := M1.2.1 0 _ rfl
            have k1 := M1.2.1 1 _ rfl
            have k2 := M1.2.1 2 _ rfl
            have k3 := M1.2.1 3 _ rfl
            have k4 := M1.2.1 4 _ rfl
            have k5 := M1.2.1 5 _ rfl
            have k6 := M1.2.1 6 _ rfl
            have k7 := M1.2.1 7 _ rfl
            go_wp2_with fail
            refine (MP.out _ (RP.below d2) (R0.below d2)).mono ?_
            rintro e w3 ⟨rfl, b3⟩
            have d3 := d2.trans (b3.mono d2.size)
            have M0 := M0.below b3
            have M1 := M1.below b3
            have m0 := M0.2.1 0 _ rfl
            have m1 := M0.2.1 1 _ rfl
            have m2 := M0.2.1 2 _ rfl
            have m3 := M0.2.1 3 _ rfl
            have m4 := M0.2.1 4 _ rfl
            have k0 := M1.2.1 0 _ rfl
            have k1 := M1.2.1 1 _ rfl
            have k2 := M1.2.1 2 _ rfl
            have k3 := M1.2.1 3 _ rfl
            have k4 := M1.2.1 4 _ rfl
            have k5 := M1.2.1 5 _ rfl
            have k6 := M1.2.1 6 _ rfl
            have k7 := M1.2.1 7 _ rfl
            go_wp2_with fail
            go_ret
            exact ⟨by rw [fi_of hnd hld hcd]; simp, d3⟩
end Go.Proofs.YtocgghhlfmgndaaGreat
