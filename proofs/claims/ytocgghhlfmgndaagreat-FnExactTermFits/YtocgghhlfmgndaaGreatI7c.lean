/- A good term of the program: isVerdict, goodTerm. -/
import Derived.Test.YtocgghhlfmgndaaGreatI7b
import Derived.Test.YtocgghhlfmgndaaGreatI6b
namespace Go.Proofs.YtocgghhlfmgndaaGreat
open Go.RowKit

set_option maxRecDepth 100000 in
set_option maxHeartbeats 800000 in
theorem i_isVerdict (n : Int) (w : World) : Calls Tryz.prog 109 #[.int .i64 n] w fun e w' => e = .returned (.bool (inB n 0 2)) ∧ w' = w := by
  by_cases h1 : 0 ≤ n
  · by_cases h2 : n ≤ 2
    · rw [inB_t h1 h2]
      go_enter Tryz.func109, Tryz.ntmps109
      go_wp2_with fail
      go_ret
      exact ⟨rfl, rfl⟩
    · rw [inB_f2 h2]
      go_enter Tryz.func109, Tryz.ntmps109
      go_wp2_with fail
      go_ret
      exact ⟨rfl, rfl⟩
  · rw [inB_f1 h1]
    go_enter Tryz.func109, Tryz.ntmps109
    go_wp2_with fail
    go_ret
    exact ⟨rfl, rfl⟩
set_option maxRecDepth 100000 in
set_option maxHeartbeats 3200000 in
theorem i_goodTerm (ra : Option Addr) (nr rc : Nat) (f0 f1 f2 f3 : Nat → Int) (pa : Option Addr) (pc : Nat) (L : List Cl) (cm : Int) (aa : Option Addr) (na ac : Nat) (g0 g1 : Nat → Int) (vd : Int) (w : World)
    (hr : nr ≤ 1048576) (hp : L.length ≤ 1048576) (hpc : L.length ≤ pc) (ha : na ≤ 1048576) (RR : RowRange ra nr f0 f1 f2 f3 w) (RP : RowQ pa L w) (RA : RowAct aa na g0 g1 w) :
    Calls Tryz.prog 59 #[.agg #[.slice ra nr rc, .slice pa L.length pc, .int .i64 cm, .slice aa na ac, .int .i64 vd]] w fun e w' => e = .returned (.bool (tmB nr f0 f1 f2 f3 L cm na g0 g1 vd)) ∧ Below w.heap.size w w' := by
  have IV := hide (fun w => i_isVerdict vd w)
  have IC := hide (fun w => i_isValue7 cm w)
  have GR := hide (fun w R => i_goodRanges ra nr rc f0 f1 f2 f3 w hr R)
  have GA := hide (fun w R => i_goodActs aa na ac g0 g1 w ha R)
  have GX := hide (fun w R => i_goodRegex pa pc L w (by omega) hpc R)
  have M := Mut.new w #[.slice ra nr rc, .slice pa L.length pc, .int .i64 cm, .slice aa na ac, .int .i64 vd] 42
  have d0 : Below w.heap.size w (w.alloc (.cells #[.slice ra nr rc, .slice pa L.length pc, .int .i64 cm, .slice aa na ac, .int .i64 vd] 42)) := below_box (Below.refl _ _)
  rw [tmB_eq]
  have hGX : Hid (∀ x, x :: [] ≠ ([] : List Cl)) := fun x => by simp
  clear hGX
  generalize (rgsB nr f0 f1 f2 f3 && decide (nr ≤ 6)) = bR at *
  generalize (acsB na g0 g1 && decide (na ≤ 5)) = bA at *
  generalize inB vd 0 2 = bV at *
  cases bV with
  | false =>
    go_enter Tryz.func59, Tryz.ntmps59
    go_wp2_with fail
    refine (IV.out _).mono ?_
    rintro e w1 ⟨rfl, hw1⟩
    subst hw1
    have d1 := d0
    have m0 := M.2.1 0 _ rfl
    have m1 := M.2.1 1 _ rfl
    have m2 := M.2.1 2 _ rfl
    have m3 := M.2.1 3 _ rfl
    have m4 := M.2.1 4 _ rfl
    go_wp2_with fail
    go_ret
    exact ⟨by simp, d1⟩
  | true =>
    by_cases hc : cm = -1
    · subst hc
      rw [show inB (-1) (-1) 1000000 = true from rfl]
      cases bR with
      | false =>
        go_enter Tryz.func59, Tryz.ntmps59
        go_wp2_with fail
        refine (IV.out _).mono ?_
        rintro e w1 ⟨rfl, hw1⟩
        subst hw1
        have d1 := d0
        have m0 := M.2.1 0 _ rfl
        have m1 := M.2.1 1 _ rfl
        have m2 := M.2.1 2 _ rfl
        have m3 := M.2.1 3 _ rfl
        have m4 := M.2.1 4 _ rfl
        go_wp2_with fail
        refine (GR.out _ (RR.below d1)).mono ?_
        rintro e w2 ⟨rfl, b2⟩
        have d2 := d1.trans (b2.mono d1.size)
        have M := M.below b2
        have m0 := M.2.1 0 _ rfl
        have m1 := M.2.1 1 _ rfl
        have m2 := M.2.1 2 _ rfl
        have m3 := M.2.1 3 _ rfl
        have m4 := M.2.1 4 _ rfl
        go_wp2_with fail
        go_ret
        exact ⟨by simp, d2⟩
      | true =>
        by_cases hL : L = []
        · subst hL
          rw [show tpB [] = true from rfl]
          go_enter Tryz.func59, Tryz.ntmps59
          go_wp2_with fail
          refine (IV.out _).mono ?_
          rintro e w1 ⟨rfl, hw1⟩
          subst hw1
          have d1 := d0
          have m0 := M.2.1 0 _ rfl
          have m1 := M.2.1 1 _ rfl
          have m2 := M.2.1 2 _ rfl
          have m3 := M.2.1 3 _ rfl
          have m4 := M.2.1 4 _ rfl
          go_wp2_with fail
          refine (GR.out _ (RR.below d1)).mono ?_
          rintro e w2 ⟨rfl, b2⟩
          have d2 := d1.trans (b2.mono d1.size)
          have M := M.below b2
          have m0 := M.2.1 0 _ rfl
          have m1 := M.2.1 1 _ rfl
          have m2 := M.2.1 2 _ rfl
          have m3 := M.2.1 3 _ rfl
          have m4 := M.2.1 4 _ rfl
          go_wp2_with fail
          refine (GA.out _ (RA.below d2)).mono ?_
          rintro e w3 ⟨rfl, b3⟩
          have d3 := d2.trans (b3.mono d2.size)
          have M := M.below b3
          have m0 := M.2.1 0 _ rfl
          have m1 := M.2.1 1 _ rfl
          have m2 := M.2.1 2 _ rfl
          have m3 := M.2.1 3 _ rfl
          have m4 := M.2.1 4 _ rfl
          go_wp2_with fail
          go_ret
          exact ⟨by simp, d3⟩
        · have hl0 : ((L.length : Int) == 0) = false := by have := List.length_pos_iff.2 hL; simp; omega
          rw [tpB_ne hL]
          clear hL
          cases hx : rgB L with
          | false =>
            rw [hx] at GX
            clear hx
            go_enter Tryz.func59, Tryz.ntmps59
            go_wp2_with fail
            refine (IV.out _).mono ?_
            rintro e w1 ⟨rfl, hw1⟩
            subst hw1
            have d1 := d0
            have m0 := M.2.1 0 _ rfl
            have m1 := M.2.1 1 _ rfl
            have m2 := M.2.1 2 _ rfl
            have m3 := M.2.1 3 _ rfl
            have m4 := M.2.1 4 _ rfl
            go_wp2_with fail
            refine (GR.out _ (RR.below d1)).mono ?_
            rintro e w2 ⟨rfl, b2⟩
            have d2 := d1.trans (b2.mono d1.size)
            have M := M.below b2
            have m0 := M.2.1 0 _ rfl
            have m1 := M.2.1 1 _ rfl
            have m2 := M.2.1 2 _ rfl
            have m3 := M.2.1 3 _ rfl
            have m4 := M.2.1 4 _ rfl
            go_wp2_with fail
            refine (GX.out _ (RP.below d2)).mono ?_
            rintro e w3 ⟨rfl, b3⟩
            have d3 := d2.trans (b3.mono d2.size)
            have M := M.below b3
            have m0 := M.2.1 0 _ rfl
            have m1 := M.2.1 1 _ rfl
            have m2 := M.2.1 2 _ rfl
            have m3 := M.2.1 3 _ rfl
            have m4 := M.2.1 4 _ rfl
            go_wp2_with fail
            go_ret
            exact ⟨by simp, d3⟩
          | true =>
            rw [hx] at GX
            clear hx
            go_enter Tryz.func59, Tryz.ntmps59
            go_wp2_with fail
            refine (IV.out _).mono ?_
            rintro e w1 ⟨rfl, hw1⟩
            subst hw1
            have d1 := d0
            have m0 := M.2.1 0 _ rfl
            have m1 := M.2.1 1 _ rfl
            have m2 := M.2.1 2 _ rfl
            have m3 := M.2.1 3 _ rfl
            have m4 := M.2.1 4 _ rfl
            go_wp2_with fail
            refine (GR.out _ (RR.below d1)).mono ?_
            rintro e w2 ⟨rfl, b2⟩
            have d2 := d1.trans (b2.mono d1.size)
            have M := M.below b2
            have m0 := M.2.1 0 _ rfl
            have m1 := M.2.1 1 _ rfl
            have m2 := M.2.1 2 _ rfl
            have m3 := M.2.1 3 _ rfl
            have m4 := M.2.1 4 _ rfl
            go_wp2_with fail
            refine (GX.out _ (RP.below d2)).mono ?_
            rintro e w3 ⟨rfl, b3⟩
            have d3 := d2.trans (b3.mono d2.size)
            have M := M.below b3
            have m0 := M.2.1 0 _ rfl
            have m1 := M.2.1 1 _ rfl
            have m2 := M.2.1 2 _ rfl
            have m3 := M.2.1 3 _ rfl
            have m4 := M.2.1 4 _ rfl
            go_wp2_with fail
            refine (GA.out _ (RA.below d3)).mono ?_
            rintro e w4 ⟨rfl, b4⟩
            have d4 := d3.trans (b4.mono d3.size)
            have M := M.below b4
            have m0 := M.2.1 0 _ rfl
            have m1 := M.2.1 1 _ rfl
            have m2 := M.2.1 2 _ rfl
            have m3 := M.2.1 3 _ rfl
            have m4 := M.2.1 4 _ rfl
            go_wp2_with fail
            go_ret
            exact ⟨by simp, d4⟩
    · have hc' : (cm == -1) = false := by simpa using hc
      have hc2 : (cm != -1) = true := by simpa using hc
      rw [cm_in hc]
      clear hc
      cases hv : inB cm 0 1000000 with
      | false =>
        rw [hv] at IC
        clear hv
        go_enter Tryz.func59, Tryz.ntmps59
        go_wp2_with fail
        refine (IV.out _).mono ?_
        rintro e w1 ⟨rfl, hw1⟩
        subst hw1
        have d1 := d0
        have m0 := M.2.1 0 _ rfl
        have m1 := M.2.1 1 _ rfl
        have m2 := M.2.1 2 _ rfl
        have m3 := M.2.1 3 _ rfl
        have m4 := M.2.1 4 _ rfl
        go_wp2_with fail
        refine (IC.out _).mono ?_
        rintro e w2 ⟨rfl, b2⟩
        have d2 := d1.trans (b2.mono d1.size)
        have M := M.below b2
        have m0 := M.2.1 0 _ rfl
        have m1 := M.2.1 1 _ rfl
        have m2 := M.2.1 2 _ rfl
        have m3 := M.2.1 3 _ rfl
        have m4 := M.2.1 4 _ rfl
        go_wp2_with fail
        go_ret
        exact ⟨by simp, d2⟩
      | true =>
        rw [hv] at IC
        clear hv
        cases bR with
        | false =>
          go_enter Tryz.func59, Tryz.ntmps59
          go_wp2_with fail
          refine (IV.out _).mono ?_
          rintro e w1 ⟨rfl, hw1⟩
          subst hw1
          have d1 := d0
          have m0 := M.2.1 0 _ rfl
          have m1 := M.2.1 1 _ rfl
          have m2 := M.2.1 2 _ rfl
          have m3 := M.2.1 3 _ rfl
          have m4 := M.2.1 4 _ rfl
          go_wp2_with fail
          refine (IC.out _).mono ?_
          rintro e w2 ⟨rfl, b2⟩
          have d2 := d1.trans (b2.mono d1.size)
          have M := M.below b2
          have m0 := M.2.1 0 _ rfl
          have m1 := M.2.1 1 _ rfl
          have m2 := M.2.1 2 _ rfl
          have m3 := M.2.1 3 _ rfl
          have m4 := M.2.1 4 _ rfl
          go_wp2_with fail
          refine (GR.out _ (RR.below d2)).mono ?_
          rintro e w3 ⟨rfl, b3⟩
          have d3 := d2.trans (b3.mono d2.size)
          have M := M.below b3
          have m0 := M.2.1 0 _ rfl
          have m1 := M.2.1 1 _ rfl
          have m2 := M.2.1 2 _ rfl
          have m3 := M.2.1 3 _ rfl
          have m4 := M.2.1 4 _ rfl
          go_wp2_with fail
          go_ret
          exact ⟨by simp, d3⟩
        | true =>
          by_cases hL : L = []
          · subst hL
            rw [show tpB [] = true from rfl]
            go_enter Tryz.func59, Tryz.ntmps59
            go_wp2_with fail
            refine (IV.out _).mono ?_
            rintro e w1 ⟨rfl, hw1⟩
            subst hw1
            have d1 := d0
            have m0 := M.2.1 0 _ rfl
            have m1 := M.2.1 1 _ rfl
            have m2 := M.2.1 2 _ rfl
            have m3 := M.2.1 3 _ rfl
            have m4 := M.2.1 4 _ rfl
            go_wp2_with fail
            refine (IC.out _).mono ?_
            rintro e w2 ⟨rfl, b2⟩
            have d2 := d1.trans (b2.mono d1.size)
            have M := M.below b2
            have m0 := M.2.1 0 _ rfl
            have m1 := M.2.1 1 _ rfl
            have m2 := M.2.1 2 _ rfl
            have m3 := M.2.1 3 _ rfl
            have m4 := M.2.1 4 _ rfl
            go_wp2_with fail
            refine (GR.out _ (RR.below d2)).mono ?_
            rintro e w3 ⟨rfl, b3⟩
            have d3 := d2.trans (b3.mono d2.size)
            have M := M.below b3
            have m0 := M.2.1 0 _ rfl
            have m1 := M.2.1 1 _ rfl
            have m2 := M.2.1 2 _ rfl
            have m3 := M.2.1 3 _ rfl
            have m4 := M.2.1 4 _ rfl
            go_wp2_with fail
            refine (GA.out _ (RA.below d3)).mono ?_
            rintro e w4 ⟨rfl, b4⟩
            have d4 := d3.trans (b4.mono d3.size)
            have M := M.below b4
            have m0 := M.2.1 0 _ rfl
            have m1 := M.2.1 1 _ rfl
            have m2 := M.2.1 2 _ rfl
            have m3 := M.2.1 3 _ rfl
            have m4 := M.2.1 4 _ rfl
            go_wp2_with fail
            go_ret
            exact ⟨by simp, d4⟩
          · have hl0 : ((L.length : Int) == 0) = false := by have := List.length_pos_iff.2 hL; simp; omega
            rw [tpB_ne hL]
            clear hL
            cases hx : rgB L with
            | false =>
              rw [hx] at GX
              clear hx
              go_enter Tryz.func59, Tryz.ntmps59
              go_wp2_with fail
              refine (IV.out _).mono ?_
              rintro e w1 ⟨rfl, hw1⟩
              subst hw1
              have d1 := d0
              have m0 := M.2.1 0 _ rfl
              have m1 := M.2.1 1 _ rfl
              have m2 := M.2.1 2 _ rfl
              have m3 := M.2.1 3 _ rfl
              have m4 := M.2.1 4 _ rfl
              go_wp2_with fail
              refine (IC.out _).mono ?_
              rintro e w2 ⟨rfl, b2⟩
              have d2 := d1.trans (b2.mono d1.size)
              have M := M.below b2
              have m0 := M.2.1 0 _ rfl
              have m1 := M.2.1 1 _ rfl
              have m2 := M.2.1 2 _ rfl
              have m3 := M.2.1 3 _ rfl
              have m4 := M.2.1 4 _ rfl
              go_wp2_with fail
              refine (GR.out _ (RR.below d2)).mono ?_
              rintro e w3 ⟨rfl, b3⟩
              have d3 := d2.trans (b3.mono d2.size)
              have M := M.below b3
              have m0 := M.2.1 0 _ rfl
              have m1 := M.2.1 1 _ rfl
              have m2 := M.2.1 2 _ rfl
              have m3 := M.2.1 3 _ rfl
              have m4 := M.2.1 4 _ rfl
              go_wp2_with fail
              refine (GX.out _ (RP.below d3)).mono ?_
              rintro e w4 ⟨rfl, b4⟩
              have d4 := d3.trans (b4.mono d3.size)
              have M := M.below b4
              have m0 := M.2.1 0 _ rfl
              have m1 := M.2.1 1 _ rfl
              have m2 := M.2.1 2 _ rfl
              have m3 := M.2.1 3 _ rfl
              have m4 := M.2.1 4 _ rfl
              go_wp2_with fail
              go_ret
              exact ⟨by simp, d4⟩
            | true =>
              rw [hx] at GX
              clear hx
              go_enter Tryz.func59, Tryz.ntmps59
              go_wp2_with fail
              refine (IV.out _).mono ?_
              rintro e w1 ⟨rfl, hw1⟩
              subst hw1
              have d1 := d0
              have m0 := M.2.1 0 _ rfl
              have m1 := M.2.1 1 _ rfl
              have m2 := M.2.1 2 _ rfl
              have m3 := M.2.1 3 _ rfl
              have m4 := M.2.1 4 _ rfl
              go_wp2_with fail
              refine (IC.out _).mono ?_
              rintro e w2 ⟨rfl, b2⟩
              have d2 := d1.trans (b2.mono d1.size)
              have M := M.below b2
              have m0 := M.2.1 0 _ rfl
              have m1 := M.2.1 1 _ rfl
              have m2 := M.2.1 2 _ rfl
              have m3 := M.2.1 3 _ rfl
              have m4 := M.2.1 4 _ rfl
              go_wp2_with fail
              refine (GR.out _ (RR.below d2)).mono ?_
              rintro e w3 ⟨rfl, b3⟩
              have d3 := d2.trans (b3.mono d2.size)
              have M := M.below b3
              have m0 := M.2.1 0 _ rfl
              have m1 := M.2.1 1 _ rfl
              have m2 := M.2.1 2 _ rfl
              have m3 := M.2.1 3 _ rfl
              have m4 := M.2.1 4 _ rfl
              go_wp2_with fail
              refine (GX.out _ (RP.below d3)).mono ?_
              rintro e w4 ⟨rfl, b4⟩
              have d4 := d3.trans (b4.mono d3.size)
              have M := M.below b4
              have m0 := M.2.1 0 _ rfl
              have m1 := M.2.1 1 _ rfl
              have m2 := M.2.1 2 _ rfl
              have m3 := M.2.1 3 _ rfl
              have m4 := M.2.1 4 _ rfl
              go_wp2_with fail
              refine (GA.out _ (RA.below d4)).mono ?_
              rintro e w5 ⟨rfl, b5⟩
              have d5 := d4.trans (b5.mono d4.size)
              have M := M.below b5
              have m0 := M.2.1 0 _ rfl
              have m1 := M.2.1 1 _ rfl
              have m2 := M.2.1 2 _ rfl
              have m3 := M.2.1 3 _ rfl
              have m4 := M.2.1 4 _ rfl
              go_wp2_with fail
              go_ret
              exact ⟨by simp, d5⟩
end Go.Proofs.YtocgghhlfmgndaaGreat
