/- Good acts and good terms of the specification. -/
import Derived.Test.YtflakkbodbnndaaAll8
import Derived.Test.YtflakkbodbnndaaFlatRange
import Derived.Test.YtflakkbodbnndaaFlatAct
import Derived.Test.YtflakkbodbnndaaAll4
import Derived.Test.YtflakkbodbnndaaAll10
import Derived.Test.YtflakkbodbnndaaAll2
import Derived.Lib.QuietBelow
namespace Go.Proofs.Ytflakkbodbnndaa
open Go.RowKit

set_option maxRecDepth 100000 in
set_option maxHeartbeats 800000 in
theorem s_act (k n : Int) (w : World) : Calls Try.prog 21 #[.agg #[.int .i64 k, .int .i64 n]] w fun e w' => e = .returned (.bool (acOk k n)) ∧ Below w.heap.size w w' := by
  have I1 := hide (fun w => s_in n 0 1000000 w)
  have I5 := hide (fun w => s_in n 1 65535 w)
  by_cases h : 1 ≤ k ∧ k ≤ 5
  · rcases (show k = 1 ∨ k = 2 ∨ k = 3 ∨ k = 4 ∨ k = 5 by omega) with rfl | rfl | rfl | rfl | rfl
    · rw [show acOk 1 n = inB n 0 1000000 from by simp [acOk, inB]]
      go_enter Try.func21, Try.ntmps21
      go_wp2_with fail
      refine (I1.out _).mono ?_
      rintro e w1 ⟨rfl, hw1⟩
      subst hw1
      go_wp2_with fail
      go_ret
      exact ⟨rfl, below_box (Below.refl _ _)⟩
    · rw [show acOk 2 n = inB n 0 1000000 from by simp [acOk, inB]]
      go_enter Try.func21, Try.ntmps21
      go_wp2_with fail
      refine (I1.out _).mono ?_
      rintro e w1 ⟨rfl, hw1⟩
      subst hw1
      go_wp2_with fail
      go_ret
      exact ⟨rfl, below_box (Below.refl _ _)⟩
    · rw [show acOk 3 n = inB n 0 1000000 from by simp [acOk, inB]]
      go_enter Try.func21, Try.ntmps21
      go_wp2_with fail
      refine (I1.out _).mono ?_
      rintro e w1 ⟨rfl, hw1⟩
      subst hw1
      go_wp2_with fail
      go_ret
      exact ⟨rfl, below_box (Below.refl _ _)⟩
    · rw [show acOk 4 n = inB n 0 1000000 from by simp [acOk, inB]]
      go_enter Try.func21, Try.ntmps21
      go_wp2_with fail
      refine (I1.out _).mono ?_
      rintro e w1 ⟨rfl, hw1⟩
      subst hw1
      go_wp2_with fail
      go_ret
      exact ⟨rfl, below_box (Below.refl _ _)⟩
    · rw [show acOk 5 n = inB n 1 65535 from by simp [acOk]]
      go_enter Try.func21, Try.ntmps21
      go_wp2_with fail
      refine (I5.out _).mono ?_
      rintro e w1 ⟨rfl, hw1⟩
      subst hw1
      go_wp2_with fail
      go_ret
      exact ⟨rfl, below_box (Below.refl _ _)⟩
  · rw [acOk_no h]
    have h1 : (k == 1) = false := by simp; omega
    have h2 : (k == 2) = false := by simp; omega
    have h3 : (k == 3) = false := by simp; omega
    have h4 : (k == 4) = false := by simp; omega
    have h5 : (k == 5) = false := by simp; omega
    clear h
    go_enter Try.func21, Try.ntmps21
    go_wp2_with fail
    go_ret
    exact ⟨rfl, below_box (Below.refl _ _)⟩
set_option maxRecDepth 100000 in
set_option maxHeartbeats 3200000 in
theorem s_term (ra : Option Addr) (nr rc : Nat) (f0 f1 f2 f3 : Nat → Int) (pa : Option Addr) (pc : Nat) (L : List Cl) (cm : Int) (aa : Option Addr) (na ac : Nat) (g0 g1 : Nat → Int) (vd : Int) (w : World)
    (hr : nr ≤ 1048576) (hp : L.length ≤ 1048576) (ha : na ≤ 1048576) (RR : RowRange ra nr f0 f1 f2 f3 w) (RP : RowQ pa L w) (RA : RowAct aa na g0 g1 w) :
    Calls Try.prog 66 #[.agg #[.slice ra nr rc, .slice pa L.length pc, .int .i64 cm, .slice aa na ac, .int .i64 vd]] w fun e w' => e = .returned (.bool (tmB nr f0 f1 f2 f3 L cm na g0 g1 vd)) ∧ Below w.heap.size w w' := by
  have M0 := Mut.new w #[.slice ra nr rc, .slice pa L.length pc, .int .i64 cm, .slice aa na ac, .int .i64 vd] 79
  have d0 : Below w.heap.size w (w.alloc (.cells #[.slice ra nr rc, .slice pa L.length pc, .int .i64 cm, .slice aa na ac, .int .i64 vd] 79)) := below_box (Below.refl _ _)
  go_enter Try.func66, Try.ntmps66
  go_wp2_with fail
  generalize w.alloc (.cells #[.slice ra nr rc, .slice pa L.length pc, .int .i64 cm, .slice aa na ac, .int .i64 vd] 79) = w1 at *
  have hT0 : Hid (tmB nr f0 f1 f2 f3 L cm na g0 g1 vd = ((rgsB nr f0 f1 f2 f3 && decide (nr ≤ 6)) && tpB L && inB cm (-1) 1000000 && (acsB na g0 g1 && decide (na ≤ 5)) && inB vd 0 2)) := tmB_eq ..
  go_loopw [10] (fun y wr => ∃ k : Nat, y = .int .i64 k ∧ k ≤ nr ∧ Hid (∀ i, i < k → rgOk (f0 i) (f1 i) (f2 i) (f3 i) = true) ∧ Mut wr w.heap.size [.slice ra nr rc, .slice pa L.length pc, .int .i64 cm, .slice aa na ac, .int .i64 vd] ∧ Below w.heap.size w wr) (fun y _ => nr - (intOf y).toNat)
  case atStart => exact ⟨0, rfl, Nat.zero_le _, fun i hi => absurd hi (by omega), M0, d0⟩
  case round =>
    clear M0 d0
    obtain ⟨k, rfl, hk, hall, Mt, hb⟩ := hrel
    by_cases hlt : k < nr
    · obtain ⟨b, off, rfl, hbw, u0, u1, u2, u3⟩ := RR k hlt
      replace u0 := (hb.cell (p := ⟨b, off + k * 4, none⟩) hbw).trans u0
      replace u1 := (hb.cell (p := ⟨b, off + k * 4 + 1, none⟩) hbw).trans u1
      replace u2 := (hb.cell (p := ⟨b, off + k * 4 + 2, none⟩) hbw).trans u2
      replace u3 := (hb.cell (p := ⟨b, off + k * 4 + 3, none⟩) hbw).trans u3
      have hlt' : (k : Int) < (nr : Int) := by omega
      have hyes := hide (fun e => all_nextN (n := nr) (p := fun i => rgOk (f0 i) (f1 i) (f2 i) (f3 i)) hall.out e hlt)
      have hno : Hid (rgOk (f0 k) (f1 k) (f2 k) (f3 k) = false → tmB nr f0 f1 f2 f3 L cm na g0 g1 vd = false) := fun e => by
        rw [hT0.out, show rgsB nr f0 f1 f2 f3 = false from all_false (n := nr) (p := fun i => rgOk (f0 i) (f1 i) (f2 i) (f3 i)) hlt e]
        rfl
      have hok : Hid (rgOk (f0 k) (f1 k) (f2 k) (f3 k) = (goodB (f0 k) (f1 k) && inB (f2 k) (f1 k) 32 && inB (f3 k) (f2 k) 32)) := rfl
      have s1 := hide (fun w => s_good (f0 k) (f1 k) w)
      have s2 := hide (fun w => s_in (f2 k) (f1 k) 32 w)
      have s3 := hide (fun w => s_in (f3 k) (f2 k) 32 w)
      generalize f0 k = x0 at *
      generalize f1 k = x1 at *
      generalize f2 k = x2 at *
      generalize f3 k = x3 at *
      have MX := Mut.new wr #[.int .i64 x0, .int .i64 x1, .int .i64 x2, .int .i64 x3] 107
      have dX : Below w.heap.size w (wr.alloc (.cells #[.int .i64 x0, .int .i64 x1, .int .i64 x2, .int .i64 x3] 107)) := hb.alloc hb.size _
      replace Mt := Mt.alloc (.cells #[.int .i64 x0, .int .i64 x1, .int .i64 x2, .int .i64 x3] 107)
      clear hall hb
      cases hg : goodB x0 x1 with
      | false =>
        have hN := hide (hno.out (by rw [hok.out, hg]; rfl))
        rw [hg] at s1
        clear hg hyes hno hok
        go_wp2_with fail
        refine (s1.out _).mono ?_
        rintro e w3 ⟨rfl, b3⟩
        replace MX := MX.below b3
        replace Mt := Mt.below b3
        replace dX := dX.trans (b3.mono dX.size)
        have k0 := MX.2.1 0 _ rfl
        have k1 := MX.2.1 1 _ rfl
        have k2 := MX.2.1 2 _ rfl
        have k3 := MX.2.1 3 _ rfl
        go_wp2_with fail
        go_ret
        exact ⟨by rw [hN.out]; rfl, dX⟩
      | true =>
        rw [hg] at s1
        rw [hg, Bool.true_and] at hok
        clear hg
        cases h1 : inB x2 x1 32 with
        | false =>
          have hN := hide (hno.out (by rw [hok.out, h1]; rfl))
          rw [h1] at s2
          clear h1 hyes hno hok
          go_wp2_with fail
          refine (s1.out _).mono ?_
          rintro e w3 ⟨rfl, b3⟩
          replace MX := MX.below b3
          replace Mt := Mt.below b3
          replace dX := dX.trans (b3.mono dX.size)
          have k0 := MX.2.1 0 _ rfl
          have k1 := MX.2.1 1 _ rfl
          have k2 := MX.2.1 2 _ rfl
          have k3 := MX.2.1 3 _ rfl
          go_wp2_with fail
          refine (s2.out _).mono ?_
          rintro e w_ ⟨rfl, hw_⟩
          subst hw_
          go_wp2_with fail
          go_ret
          exact ⟨by rw [hN.out]; rfl, dX⟩
        | true =>
          rw [h1] at s2
          rw [h1, Bool.true_and] at hok
          clear h1
          cases h2 : inB x3 x2 32 with
          | false =>
            have hN := hide (hno.out (by rw [hok.out, h2]))
            rw [h2] at s3
            clear h2 hyes hno hok
            go_wp2_with fail
            refine (s1.out _).mono ?_
            rintro e w3 ⟨rfl, b3⟩
            replace MX := MX.below b3
            replace Mt := Mt.below b3
            replace dX := dX.trans (b3.mono dX.size)
            have k0 := MX.2.1 0 _ rfl
            have k1 := MX.2.1 1 _ rfl
            have k2 := MX.2.1 2 _ rfl
            have k3 := MX.2.1 3 _ rfl
            go_wp2_with fail
            refine (s2.out _).mono ?_
            rintro e w_ ⟨rfl, hw_⟩
            subst hw_
            go_wp2_with fail
            refine (s3.out _).mono ?_
            rintro e w_ ⟨rfl, hw_⟩
            subst hw_
            go_wp2_with fail
            go_ret
            exact ⟨by rw [hN.out]; rfl, dX⟩
          | true =>
            have hN := hide (hyes.out (by rw [hok.out, h2]))
            rw [h2] at s3
            clear h2 hyes hno hok
            go_wp2_with fail
            refine (s1.out _).mono ?_
            rintro e w3 ⟨rfl, b3⟩
            replace MX := MX.below b3
            replace Mt := Mt.below b3
            replace dX := dX.trans (b3.mono dX.size)
            have k0 := MX.2.1 0 _ rfl
            have k1 := MX.2.1 1 _ rfl
            have k2 := MX.2.1 2 _ rfl
            have k3 := MX.2.1 3 _ rfl
            go_wp2_with fail
            refine (s2.out _).mono ?_
            rintro e w_ ⟨rfl, hw_⟩
            subst hw_
            go_wp2_with fail
            refine (s3.out _).mono ?_
            rintro e w_ ⟨rfl, hw_⟩
            subst hw_
            go_wp2_with fail
            exact ⟨⟨k + 1, by go_num, by omega, hN.out, Mt, dX⟩, by simp [intOf]; omega⟩
    · have hlt' : ¬ (k : Int) < (nr : Int) := by omega
      have hrg : Hid (rgsB nr f0 f1 f2 f3 = true) := all_true (n := nr) (p := fun i => rgOk (f0 i) (f1 i) (f2 i) (f3 i)) (fun i hi => hall.out i (by omega))
      clear hall
      rw [hrg.out, Bool.true_and] at hT0
      have m3 := Mt.2.1 3 _ rfl
      go_wp2_with fail
      clear m3
      go_loopw [39] (fun y wr => ∃ k : Nat, y = .int .i64 k ∧ k ≤ na ∧ Hid (∀ i, i < k → acOk (g0 i) (g1 i) = true) ∧ Mut wr w.heap.size [.slice ra nr rc, .slice pa L.length pc, .int .i64 cm, .slice aa na ac, .int .i64 vd] ∧ Below w.heap.size w wr) (fun y _ => na - (intOf y).toNat)
      case atStart => exact ⟨0, rfl, Nat.zero_le _, fun i hi => absurd hi (by omega), Mt, hb⟩
      case round =>
        clear Mt hb
        obtain ⟨j, rfl, hj, hall, Mt, hb⟩ := hrel
        by_cases hlj : j < na
        · obtain ⟨b, off, rfl, hbw, u0, u1⟩ := RA j hlj
          replace u0 := (hb.cell (p := ⟨b, off + j * 2, none⟩) hbw).trans u0
          replace u1 := (hb.cell (p := ⟨b, off + j * 2 + 1, none⟩) hbw).trans u1
          have hlj' : (j : Int) < (na : Int) := by omega
          have hyes := hide (fun e => all_nextN (n := na) (p := fun i => acOk (g0 i) (g1 i)) hall.out e hlj)
          have hno : Hid (acOk (g0 j) (g1 j) = false → tmB nr f0 f1 f2 f3 L cm na g0 g1 vd = false) := fun e => by
            rw [hT0.out, show acsB na g0 g1 = false from all_false (n := na) (p := fun i => acOk (g0 i) (g1 i)) hlj e]
            simp
          have SA := hide (fun w => s_act (g0 j) (g1 j) w)
          have dX := hide (hb.alloc hb.size (.cells #[.int .i64 (g0 j), .int .i64 (g1 j)] 38))
          have MX := hide (Mt.alloc (.cells #[.int .i64 (g0 j), .int .i64 (g1 j)] 38))
          cases hg : acOk (g0 j) (g1 j) with
          | true =>
            have hN := hide (hyes.out hg)
            rw [hg] at SA
            clear hg hyes hno hall Mt
            generalize g0 j = x0 at *
            generalize g1 j = x1 at *
            go_wp2_with fail
            refine (SA.out _).mono ?_
            rintro e w3 ⟨rfl, b3⟩
            go_wp2_with fail
            exact ⟨⟨j + 1, by go_num, by omega, hN.out, MX.out.below b3, dX.out.trans (b3.mono dX.out.size)⟩, by simp [intOf]; omega⟩
          | false =>
            have hN := hide (hno.out hg)
            rw [hg] at SA
            clear hg hyes hno hall Mt
            generalize g0 j = x0 at *
            generalize g1 j = x1 at *
            go_wp2_with fail
            refine (SA.out _).mono ?_
            rintro e w3 ⟨rfl, b3⟩
            go_wp2_with fail
            go_ret
            exact ⟨by rw [hN.out]; rfl, dX.out.trans (b3.mono dX.out.size)⟩
        · have hlj' : ¬ (j : Int) < (na : Int) := by omega
          have hag : Hid (acsB na g0 g1 = true) := all_true (n := na) (p := fun i => acOk (g0 i) (g1 i)) (fun i hi => hall.out i (by omega))
          clear hall
          rw [hag.out, Bool.true_and] at hT0
          have CI := hide (fun w => s_in cm (-1) 1000000 w)
          have VI := hide (fun w => s_in vd 0 2 w)
          by_cases h6 : nr ≤ 6
          · have h6' : (nr : Int) ≤ 6 := by omega
            rw [decide_eq_true h6, Bool.true_and] at hT0
            by_cases h5 : na ≤ 5
            · have h5' : (na : Int) ≤ 5 := by omega
              rw [decide_eq_true h5, Bool.and_true] at hT0
              clear h5 h6
              by_cases hL : L = []
              · subst hL
                rw [show tpB [] = true from rfl] at hT0
                cases hcm : inB cm (-1) 1000000 with
                | false =>
                  rw [hcm] at CI hT0
                  clear hcm
                  have m0 := Mt.2.1 0 _ rfl
                  have m1 := Mt.2.1 1 _ rfl
                  have m2 := Mt.2.1 2 _ rfl
                  have m3 := Mt.2.1 3 _ rfl
                  have m4 := Mt.2.1 4 _ rfl
                  go_wp2_with fail
                  refine (CI.out _).mono ?_
                  rintro e w_ ⟨rfl, hw_⟩
                  subst hw_
                  go_wp2_with fail
                  go_ret
                  exact ⟨by rw [hT0.out]; simp, hb⟩
                | true =>
                  rw [hcm] at CI hT0
                  clear hcm
                  have m0 := Mt.2.1 0 _ rfl
                  have m1 := Mt.2.1 1 _ rfl
                  have m2 := Mt.2.1 2 _ rfl
                  have m3 := Mt.2.1 3 _ rfl
                  have m4 := Mt.2.1 4 _ rfl
                  go_wp2_with fail
                  refine (CI.out _).mono ?_
                  rintro e w_ ⟨rfl, hw_⟩
                  subst hw_
                  go_wp2_with fail
                  refine (VI.out _).mono ?_
                  rintro e w_ ⟨rfl, hw_⟩
                  subst hw_
                  go_wp2_with fail
                  go_ret
                  exact ⟨by rw [hT0.out]; simp, hb⟩
              · have hl0 : ((L.length : Int) == 0) = false := by have := List.length_pos_iff.2 hL; simp; omega
                rw [tpB_ne hL] at hT0
                obtain ⟨b, off, rfl, _⟩ := RP 0 (List.length_pos_iff.2 hL)
                have GX := hide (fun w R => s_goodRegex b off pc L w (by omega) R)
                clear hL
                cases hx : rgB L with
                | false =>
                  rw [hx] at GX hT0
                  clear hx
                  have m0 := Mt.2.1 0 _ rfl
                  have m1 := Mt.2.1 1 _ rfl
                  have m2 := Mt.2.1 2 _ rfl
                  have m3 := Mt.2.1 3 _ rfl
                  have m4 := Mt.2.1 4 _ rfl
                  go_wp2_with fail
                  refine (GX.out _ (RP.below hb)).mono ?_
                  rintro e w3 ⟨rfl, b3⟩
                  replace Mt := Mt.below b3
                  replace hb := hb.trans (b3.mono hb.size)
                  have m0 := Mt.2.1 0 _ rfl
                  have m1 := Mt.2.1 1 _ rfl
                  have m2 := Mt.2.1 2 _ rfl
                  have m3 := Mt.2.1 3 _ rfl
                  have m4 := Mt.2.1 4 _ rfl
                  go_wp2_with fail
                  go_ret
                  exact ⟨by rw [hT0.out]; simp, hb⟩
                | true =>
                  rw [hx] at GX hT0
                  clear hx
                  cases hcm : inB cm (-1) 1000000 with
                  | false =>
                    rw [hcm] at CI hT0
                    clear hcm
                    have m0 := Mt.2.1 0 _ rfl
                    have m1 := Mt.2.1 1 _ rfl
                    have m2 := Mt.2.1 2 _ rfl
                    have m3 := Mt.2.1 3 _ rfl
                    have m4 := Mt.2.1 4 _ rfl
                    go_wp2_with fail
                    refine (GX.out _ (RP.below hb)).mono ?_
                    rintro e w3 ⟨rfl, b3⟩
                    replace Mt := Mt.below b3
                    replace hb := hb.trans (b3.mono hb.size)
                    have m0 := Mt.2.1 0 _ rfl
                    have m1 := Mt.2.1 1 _ rfl
                    have m2 := Mt.2.1 2 _ rfl
                    have m3 := Mt.2.1 3 _ rfl
                    have m4 := Mt.2.1 4 _ rfl
                    go_wp2_with fail
                    refine (CI.out _).mono ?_
                    rintro e w_ ⟨rfl, hw_⟩
                    subst hw_
                    go_wp2_with fail
                    go_ret
                    exact ⟨by rw [hT0.out]; simp, hb⟩
                  | true =>
                    rw [hcm] at CI hT0
                    clear hcm
                    have m0 := Mt.2.1 0 _ rfl
                    have m1 := Mt.2.1 1 _ rfl
                    have m2 := Mt.2.1 2 _ rfl
                    have m3 := Mt.2.1 3 _ rfl
                    have m4 := Mt.2.1 4 _ rfl
                    go_wp2_with fail
                    refine (GX.out _ (RP.below hb)).mono ?_
                    rintro e w3 ⟨rfl, b3⟩
                    replace Mt := Mt.below b3
                    replace hb := hb.trans (b3.mono hb.size)
                    have m0 := Mt.2.1 0 _ rfl
                    have m1 := Mt.2.1 1 _ rfl
                    have m2 := Mt.2.1 2 _ rfl
                    have m3 := Mt.2.1 3 _ rfl
                    have m4 := Mt.2.1 4 _ rfl
                    go_wp2_with fail
                    refine (CI.out _).mono ?_
                    rintro e w_ ⟨rfl, hw_⟩
                    subst hw_
                    go_wp2_with fail
                    refine (VI.out _).mono ?_
                    rintro e w_ ⟨rfl, hw_⟩
                    subst hw_
                    go_wp2_with fail
                    go_ret
                    exact ⟨by rw [hT0.out]; simp, hb⟩
            · have h5' : ¬ (na : Int) ≤ 5 := by omega
              rw [decide_eq_false h5, Bool.and_false, Bool.false_and] at hT0
              clear h5 h6
              have m0 := Mt.2.1 0 _ rfl
              have m1 := Mt.2.1 1 _ rfl
              have m2 := Mt.2.1 2 _ rfl
              have m3 := Mt.2.1 3 _ rfl
              have m4 := Mt.2.1 4 _ rfl
              go_wp2_with fail
              go_ret
              exact ⟨by rw [hT0.out]; simp, hb⟩
          · have h6' : ¬ (nr : Int) ≤ 6 := by omega
            rw [decide_eq_false h6] at hT0
            clear h6
            have m0 := Mt.2.1 0 _ rfl
            have m1 := Mt.2.1 1 _ rfl
            have m2 := Mt.2.1 2 _ rfl
            have m3 := Mt.2.1 3 _ rfl
            have m4 := Mt.2.1 4 _ rfl
            go_wp2_with fail
            go_ret
            exact ⟨by rw [hT0.out]; simp, hb⟩
end Go.Proofs.Ytflakkbodbnndaa
