/- Good ranges and good acts of the program. -/
import Derived.Test.YtocgghhlfmgndaaGreatI7a
import Derived.Test.YtocgghhlfmgndaaGreatFlatRange
import Derived.Test.YtocgghhlfmgndaaGreatFlatAct
import Derived.Test.YtocgghhlfmgndaaGreatJD
import Derived.Lib.QuietBelow
namespace Go.Proofs.YtocgghhlfmgndaaGreat
open Go.RowKit

set_option maxRecDepth 100000 in
set_option maxHeartbeats 1600000 in
theorem i_goodActs (a : Option Addr) (n c : Nat) (g0 g1 : Nat → Int) (w : World) (hl : n ≤ 1048576) (hR : RowAct a n g0 g1 w) :
    Calls Tryz.prog 113 #[.slice a n c] w fun e w' => e = .returned (.bool (acsB n g0 g1 && decide (n ≤ 5))) ∧ Below w.heap.size w w' := by
  by_cases h5 : n ≤ 5
  · rw [decide_eq_true h5, Bool.and_true]
    have h5' : ¬ ((n : Int) > 5) := by omega
    go_enter Tryz.func113, Tryz.ntmps113
    go_wp2_with fail
    go_loopw [10] (fun y wr => ∃ k : Nat, y = .int .i64 k ∧ k ≤ n ∧ Hid (∀ i, i < k → acOk (g0 i) (g1 i) = true) ∧ Below w.heap.size w wr) (fun y _ => n - (intOf y).toNat)
    case atStart => exact ⟨0, rfl, Nat.zero_le _, fun i hi => absurd hi (by omega), Below.refl _ _⟩
    case round =>
      obtain ⟨k, rfl, hk, hall, hb⟩ := hrel
      by_cases hlt : k < n
      · obtain ⟨b, off, rfl, hbw, u0, u1⟩ := hR k hlt
        replace u0 := (hb.cell (p := ⟨b, off + k * 2, none⟩) hbw).trans u0
        replace u1 := (hb.cell (p := ⟨b, off + k * 2 + 1, none⟩) hbw).trans u1
        have hlt' : (k : Int) < (n : Int) := by omega
        have hyes := hide (fun e => all_nextN (n := n) (p := fun i => acOk (g0 i) (g1 i)) hall.out e hlt)
        have hno := hide (fun e => all_false (n := n) (p := fun i => acOk (g0 i) (g1 i)) hlt e)
        have GA := hide (fun w => i_goodAct (g0 k) (g1 k) w)
        have dX := hide (hb.alloc hb.size (.cells #[.int .i64 (g0 k), .int .i64 (g1 k)] 88))
        cases hg : acOk (g0 k) (g1 k) with
        | true =>
          have hN := hide (hyes.out hg)
          rw [hg] at GA
          clear hg hyes hno hall hR
          generalize g0 k = x0 at *
          generalize g1 k = x1 at *
          go_wp2_with fail
          refine (GA.out _).mono ?_
          rintro e w3 ⟨rfl, b3⟩
          go_wp2_with fail
          exact ⟨⟨k + 1, by go_num, by omega, hN.out, dX.out.trans (b3.mono dX.out.size)⟩, by simp [intOf]; omega⟩
        | false =>
          have hN := hide (hno.out hg)
          rw [hg] at GA
          clear hg hyes hno hall hR
          generalize g0 k = x0 at *
          generalize g1 k = x1 at *
          go_wp2_with fail
          refine (GA.out _).mono ?_
          rintro e w3 ⟨rfl, b3⟩
          go_wp2_with fail
          go_ret
          exact ⟨by rw [show acsB n g0 g1 = false from hN.out]; rfl, dX.out.trans (b3.mono dX.out.size)⟩
      · have hlt' : ¬ (k : Int) < (n : Int) := by omega
        have hN := hide (all_true (n := n) (p := fun i => acOk (g0 i) (g1 i)) (fun i hi => hall.out i (by omega)))
        clear hall
        go_wp2_with fail
        go_ret
        exact ⟨by rw [show acsB n g0 g1 = true from hN.out]; rfl, hb⟩
  · rw [decide_eq_false h5, Bool.and_false]
    have h5' : (n : Int) > 5 := by omega
    go_enter Tryz.func113, Tryz.ntmps113
    go_wp2_with fail
    go_ret
    exact ⟨rfl, Below.refl _ _⟩
set_option maxRecDepth 100000 in
set_option maxHeartbeats 3200000 in
theorem i_goodRanges (a : Option Addr) (n c : Nat) (f0 f1 f2 f3 : Nat → Int) (w : World) (hl : n ≤ 1048576) (hR : RowRange a n f0 f1 f2 f3 w) :
    Calls Tryz.prog 111 #[.slice a n c] w fun e w' => e = .returned (.bool (rgsB n f0 f1 f2 f3 && decide (n ≤ 6))) ∧ Below w.heap.size w w' := by
  by_cases h5 : n ≤ 6
  · rw [decide_eq_true h5, Bool.and_true]
    have h5' : ¬ ((n : Int) > 6) := by omega
    go_enter Tryz.func111, Tryz.ntmps111
    go_wp2_with fail
    go_loopw [10] (fun y wr => ∃ k : Nat, y = .int .i64 k ∧ k ≤ n ∧ Hid (∀ i, i < k → rgOk (f0 i) (f1 i) (f2 i) (f3 i) = true) ∧ Below w.heap.size w wr) (fun y _ => n - (intOf y).toNat)
    case atStart => exact ⟨0, rfl, Nat.zero_le _, fun i hi => absurd hi (by omega), Below.refl _ _⟩
    case round =>
      obtain ⟨k, rfl, hk, hall, hb⟩ := hrel
      by_cases hlt : k < n
      · obtain ⟨b, off, rfl, hbw, u0, u1, u2, u3⟩ := hR k hlt
        replace u0 := (hb.cell (p := ⟨b, off + k * 4, none⟩) hbw).trans u0
        replace u1 := (hb.cell (p := ⟨b, off + k * 4 + 1, none⟩) hbw).trans u1
        replace u2 := (hb.cell (p := ⟨b, off + k * 4 + 2, none⟩) hbw).trans u2
        replace u3 := (hb.cell (p := ⟨b, off + k * 4 + 3, none⟩) hbw).trans u3
        have hlt' : (k : Int) < (n : Int) := by omega
        have hyes := hide (fun e => all_nextN (n := n) (p := fun i => rgOk (f0 i) (f1 i) (f2 i) (f3 i)) hall.out e hlt)
        have hno := hide (fun e => all_false (n := n) (p := fun i => rgOk (f0 i) (f1 i) (f2 i) (f3 i)) hlt e)
        have hok : Hid (rgOk (f0 k) (f1 k) (f2 k) (f3 k) = (goodB (f0 k) (f1 k) && inB (f2 k) (f1 k) 32 && inB (f3 k) (f2 k) 32)) := rfl
        have s1 := hide (fun w => i_good (f0 k) (f1 k) w)
        have h99 : Hid (rgsB n f0 f1 f2 f3 = (List.range n).all fun i => rgOk (f0 i) (f1 i) (f2 i) (f3 i)) := rfl
        generalize f0 k = x0 at *
        generalize f1 k = x1 at *
        generalize f2 k = x2 at *
        generalize f3 k = x3 at *
        clear hall hR
        cases hg : goodB x0 x1 with
        | false =>
          have hN := hide (hno.out (by rw [hok.out, hg]; rfl))
          rw [hg] at s1
          clear hg hyes hno hok
          go_wp2_with fail
          have MX := Mut.new wr #[.int .i64 x0, .int .i64 x1, .int .i64 x2, .int .i64 x3] 148
          have dX : Below w.heap.size w (wr.alloc (.cells #[.int .i64 x0, .int .i64 x1, .int .i64 x2, .int .i64 x3] 148)) := hb.alloc hb.size _
          refine (s1.out _).mono ?_
          rintro e wq ⟨rfl, bq⟩
          replace MX := MX.below bq
          have k0 := MX.2.1 0 _ rfl
          have k1 := MX.2.1 1 _ rfl
          have k2 := MX.2.1 2 _ rfl
          have k3 := MX.2.1 3 _ rfl
          have hbq := dX.trans (bq.mono dX.size)
          clear MX dX bq
          go_wp2_with fail
          go_ret
          exact ⟨by rw [h99.out, hN.out]; rfl, hbq⟩
        | true =>
          rw [hg] at s1
          rw [hg, Bool.true_and] at hok
          by_cases h1 : x2 < x1
          · have hN := hide (hno.out (by rw [hok.out, inB_f1 (by omega)]; rfl))
            clear hg hyes hno hok
            go_wp2_with fail
            have MX := Mut.new wr #[.int .i64 x0, .int .i64 x1, .int .i64 x2, .int .i64 x3] 148
            have dX : Below w.heap.size w (wr.alloc (.cells #[.int .i64 x0, .int .i64 x1, .int .i64 x2, .int .i64 x3] 148)) := hb.alloc hb.size _
            refine (s1.out _).mono ?_
            rintro e wq ⟨rfl, bq⟩
            replace MX := MX.below bq
            have k0 := MX.2.1 0 _ rfl
            have k1 := MX.2.1 1 _ rfl
            have k2 := MX.2.1 2 _ rfl
            have k3 := MX.2.1 3 _ rfl
            have hbq := dX.trans (bq.mono dX.size)
            clear MX dX bq
            go_wp2_with fail
            go_ret
            exact ⟨by rw [h99.out, hN.out]; rfl, hbq⟩
          · have h1' : decide (x2 < x1) = false := decide_eq_false h1
            by_cases h2 : x3 < x2
            · have hN := hide (hno.out (by rw [hok.out, inB_f1 (n := x3) (by omega), Bool.and_false]))
              clear hg hyes hno hok
              go_wp2_with fail
              have MX := Mut.new wr #[.int .i64 x0, .int .i64 x1, .int .i64 x2, .int .i64 x3] 148
              have dX : Below w.heap.size w (wr.alloc (.cells #[.int .i64 x0, .int .i64 x1, .int .i64 x2, .int .i64 x3] 148)) := hb.alloc hb.size _
              refine (s1.out _).mono ?_
              rintro e wq ⟨rfl, bq⟩
              replace MX := MX.below bq
              have k0 := MX.2.1 0 _ rfl
              have k1 := MX.2.1 1 _ rfl
              have k2 := MX.2.1 2 _ rfl
              have k3 := MX.2.1 3 _ rfl
              have hbq := dX.trans (bq.mono dX.size)
              clear MX dX bq
              go_wp2_with fail
              go_ret
              exact ⟨by rw [h99.out, hN.out]; rfl, hbq⟩
            · have h2' : decide (x3 < x2) = false := decide_eq_false h2
              by_cases h3 : x3 > 32
              · have hN := hide (hno.out (by rw [hok.out, inB_f2 (n := x3) (by omega), Bool.and_false]))
                clear hg hyes hno hok
                go_wp2_with fail
                have MX := Mut.new wr #[.int .i64 x0, .int .i64 x1, .int .i64 x2, .int .i64 x3] 148
                have dX : Below w.heap.size w (wr.alloc (.cells #[.int .i64 x0, .int .i64 x1, .int .i64 x2, .int .i64 x3] 148)) := hb.alloc hb.size _
                refine (s1.out _).mono ?_
                rintro e wq ⟨rfl, bq⟩
                replace MX := MX.below bq
                have k0 := MX.2.1 0 _ rfl
                have k1 := MX.2.1 1 _ rfl
                have k2 := MX.2.1 2 _ rfl
                have k3 := MX.2.1 3 _ rfl
                have hbq := dX.trans (bq.mono dX.size)
                clear MX dX bq
                go_wp2_with fail
                go_ret
                exact ⟨by rw [h99.out, hN.out]; rfl, hbq⟩
              · have h3' : decide (x3 > 32) = false := decide_eq_false h3
                have hN := hide (hyes.out (by rw [hok.out, inB_t (by omega) (by omega), inB_t (by omega) (by omega)]; rfl))
                clear hg hyes hno hok
                go_wp2_with fail
                have MX := Mut.new wr #[.int .i64 x0, .int .i64 x1, .int .i64 x2, .int .i64 x3] 148
                have dX : Below w.heap.size w (wr.alloc (.cells #[.int .i64 x0, .int .i64 x1, .int .i64 x2, .int .i64 x3] 148)) := hb.alloc hb.size _
                refine (s1.out _).mono ?_
                rintro e wq ⟨rfl, bq⟩
                replace MX := MX.below bq
                have k0 := MX.2.1 0 _ rfl
                have k1 := MX.2.1 1 _ rfl
                have k2 := MX.2.1 2 _ rfl
                have k3 := MX.2.1 3 _ rfl
                have hbq := dX.trans (bq.mono dX.size)
                clear MX dX bq
                go_wp2_with fail
                exact ⟨⟨k + 1, by go_num, by omega, hN.out, hbq⟩, by simp [intOf]; omega⟩
      · have hlt' : ¬ (k : Int) < (n : Int) := by omega
        have hN := hide (all_true (n := n) (p := fun i => rgOk (f0 i) (f1 i) (f2 i) (f3 i)) (fun i hi => hall.out i (by omega)))
        clear hall
        go_wp2_with fail
        go_ret
        exact ⟨by rw [show rgsB n f0 f1 f2 f3 = true from hN.out]; rfl, hb⟩
  · rw [decide_eq_false h5, Bool.and_false]
    have h5' : (n : Int) > 6 := by omega
    go_enter Tryz.func111, Tryz.ntmps111
    go_wp2_with fail
    go_ret
    exact ⟨rfl, Below.refl _ _⟩
end Go.Proofs.YtocgghhlfmgndaaGreat
