/- The law on WeightOf: the program answers as the specification. -/
import Derived.Test.YteifconelofojaaAl9
import Derived.Test.YteifconelofojaaS9c
import Derived.Test.YteifconelofojaaI9e
import Derived.Deep.RegionHeld3
namespace Go.Proofs.Yteifconelofojaa
open Go.RowKit

set_option maxHeartbeats 400000 in
theorem w_szArcM (a : Option Addr) (len cap : Nat) (m : Int) (w : World) (hl : len ≤ maxLen) (hm : m ≤ 1048576) (hm0 : 0 ≤ m) :
    Calls Try.prog 23 #[.slice a len cap, .int .i64 m] w fun e w' => e = .returned (.int .i64 (if (len : Int) ≤ m then m - (len : Int) else -1)) ∧ w' = w := by
  unfold maxLen at hl
  by_cases h : (len : Int) ≤ m
  · rw [if_pos h]
    have h1 : ¬ (m - (len : Int) < 0) := by omega
    go_enter Try.func23, Try.ntmps23
    go_wp2_with fail
    go_ret
    exact ⟨rfl, rfl⟩
  · rw [if_neg h]
    have h1 : m - (len : Int) < 0 := by omega
    go_enter Try.func23, Try.ntmps23
    go_wp2_with fail
    go_ret
    exact ⟨rfl, rfl⟩
set_option maxRecDepth 100000 in
set_option maxHeartbeats 3200000 in
theorem w_weightOf (g : Int) (a : Option Addr) (m c : Nat) (T : Nat → Lc) (ra : Option Addr) (n rc : Nat) (f0 f1 f2 : Nat → Int) (pa : Option Addr) (pn pc : Nat) (pf : Nat → Int) (w : World) (hm : m ≤ maxLen) (hx : MaxL m T) (hR : RowLL a m T w) (hn : n ≤ maxLen) (hA : RowArc ra n f0 f1 f2 w) (hp : pn ≤ maxLen) (hP : RowInt pa pn pf w) :
    Calls Try.prog 7 #[.agg #[.int .i64 g, .slice a m c], .slice ra n rc, .slice pa pn pc] w fun e w' => e = .returned (.bool true) ∧ Below w.heap.size w w' := by
  have SZ := hide (fun w R => w_szAlgebra g a m c T 1048576 w hm hx (by omega) (by omega) R)
  have M0 := Mut.new w #[.int .i64 g, .slice a m c] 24
  have dd : Below w.heap.size w (w.alloc (.cells #[.int .i64 g, .slice a m c] 24)) := below_box (Below.refl _ _)
  have c0 := M0.2.1 0 _ rfl
  have c1 := M0.2.1 1 _ rfl
  unfold maxLen at hp
  by_cases hp1 : (pn : Int) > 1048576
  · clear SZ
    go_enter Try.func7, Try.ntmps7
    go_wp2_with fail
    go_ret
    exact ⟨rfl, dd⟩
  · by_cases hs : (m : Int) + (totL T m : Int) ≤ 1048576
    · rw [if_pos hs] at SZ
      have hlt : ¬ (1048576 - (m : Int) - (totL T m : Int) < 0) := by omega
      have SZ2 := hide (fun w => w_szArcM ra n rc (1048576 - (m : Int) - (totL T m : Int)) w hn (by omega) (by omega))
      by_cases hs2 : (n : Int) ≤ 1048576 - (m : Int) - (totL T m : Int)
      · rw [if_pos hs2] at SZ2
        have hlt2 : ¬ (1048576 - (m : Int) - (totL T m : Int) - (n : Int) < 0) := by omega
        have hm1 : m ≤ 1048576 := by omega
        have hn1 : n ≤ 1048576 := by omega
        have hpp : pn ≤ 1048576 := by omega
        have hl : LowL m T := lowL_of (by omega)
        have TP := hide (fun w R => w_toAlgebra g a m c T w hm1 hl R)
        have TA := hide (fun w R => w_toArcS ra n rc f0 f1 f2 w hn1 R)
        have TI := hide (fun w R => w_toIntS pa pn pc pf w hpp R)
        have SG := hide (fun a c ra rc pa w R A P => s_weightOf g a m c T ra n rc f0 f1 f2 pa pn pn pf w hm1 hl R hn1 A hpp (Nat.le_refl _) P)
        have IG := hide (fun a c ra rc pa w R A P => i_weightOf g a m c T ra n rc f0 f1 f2 pa pn pn pf w hm1 hl R hn1 A hpp (Nat.le_refl _) P)
        have E := hide (fun a a' c c' w R Q => w_eqAlgebra g a a' m c c' T w hm1 hl R Q)
        have EA := hide (fun a a' c c' w R Q => w_eqArcS a a' n c c' f0 f1 f2 w hn1 R Q)
        have EI := hide (fun a a' c c' w R Q => w_eqIntS a a' pn c c' pf w (by omega) R Q)
        generalize (wgR g m T n f0 f1 f2 pn pf).getD 0 = r0 at SG IG
        generalize (wgR g m T n f0 f1 f2 pn pf).isSome = r1 at SG IG
        have k0 : (r0 != r0) = false := by simp
        have k1 : (r1 != r1) = false := by simp
        generalize totL T m = tt at *
        clear hm hx hs hs2 hm1 hn1 hl hn
        go_enter Try.func7, Try.ntmps7
        go_wp2_with fail
        generalize w.alloc (.cells #[.int .i64 g, .slice a m c] 24) = wz at *
        refine (SZ.out _ (hR.below dd)).mono ?_
        rintro e w0 ⟨rfl, d0⟩
        have M1 := M0.below d0
        replace c0 := M1.2.1 0 _ rfl
        replace c1 := M1.2.1 1 _ rfl
        replace d0 := dd.trans (d0.mono dd.size)
        clear M0 dd
        go_wp2_with fail
        refine (SZ2.out _).mono ?_
        rintro e w1 ⟨rfl, hw1⟩
        rw [hw1]; clear hw1 w1
        go_wp2_with fail
        refine (TP.out _ (hR.below d0)).mono ?_
        rintro e w1 ⟨q1, rfl, h1, ⟨X1, o1⟩, _, b1⟩
        have d1 := d0.trans (b1.mono d0.size)
        replace M1 := M1.below b1
        clear b1 d0 c0 c1
        go_wp2_with fail
        refine (TA.out _ (hA.below d1)).mono ?_
        rintro e w2 ⟨rfl, b2, oa2⟩
        have d2 := d1.trans (b2.mono d1.size)
        replace M1 := M1.below b2
        replace o1 := o1.below b2
        clear b2 d1
        generalize w1.heap.size = q2 at *
        go_wp2_with fail
        refine (TI.out _ (hP.below d2)).mono ?_
        rintro e w3 ⟨rfl, b3, oi3⟩
        have d3 := d2.trans (b3.mono d2.size)
        replace M1 := M1.below b3
        replace o1 := o1.below b3
        replace oa2 := oa2.below b3
        clear b3 d2
        generalize w2.heap.size = q3 at *
        go_wp2_with fail
        refine (SG.out _ _ _ _ _ _ o1.row oa2.row oi3.row).mono ?_
        rintro e w4 ⟨rfl, b4⟩
        have d4 := d3.trans (b4.mono d3.size)
        replace M1 := M1.below b4
        have c0 := M1.2.1 0 _ rfl
        have c1 := M1.2.1 1 _ rfl
        clear b4 o1 oa2 oi3 d3
        go_wp2_with fail
        refine (TP.out _ (hR.below d4)).mono ?_
        rintro e w5 ⟨q5, rfl, h5, ⟨X5, o5⟩, _, b5⟩
        have d5 := d4.trans (b5.mono d4.size)
        replace M1 := M1.below b5
        clear b5 d4 c0 c1
        go_wp2_with fail
        have bB : Below w5.heap.size w5 (w5.alloc (.cells #[.int .i64 g, .slice (some ⟨q5, 0, none⟩) m m] 27)) := below_box (Below.refl _ _)
        have N := Mut.new w5 #[.int .i64 g, .slice (some ⟨q5, 0, none⟩) m m] 27
        have d6 := d5.trans (bB.mono d5.size)
        have M := M1.below bB
        replace o5 := o5.below bB
        clear bB d5 M1
        generalize w5.alloc (.cells #[.int .i64 g, .slice (some ⟨q5, 0, none⟩) m m] 27) = w6 at *
        generalize w5.heap.size = bx at *
        refine (TA.out _ (hA.below d6)).mono ?_
        rintro e w7 ⟨rfl, b7, oa7⟩
        have d7 := d6.trans (b7.mono d6.size)
        replace M := M.below b7
        replace N := N.below b7
        replace o5 := o5.below b7
        clear b7 d6
        generalize w6.heap.size = q7 at *
        go_wp2_with fail
        refine (TI.out _ (hP.below d7)).mono ?_
        rintro e w8 ⟨rfl, b8, oi8⟩
        have d8 := d7.trans (b8.mono d7.size)
        replace M := M.below b8
        replace N := N.below b8
        replace o5 := o5.below b8
        replace oa7 := oa7.below b8
        have v0 := N.2.1 0 _ rfl
        have v1 := N.2.1 1 _ rfl
        clear b8 d7
        generalize w7.heap.size = q8 at *
        go_wp2_with fail
        refine (IG.out _ _ _ _ _ _ o5.row oa7.row oi8.row).mono ?_
        rintro e w9 ⟨rfl, b9⟩
        have d9 := d8.trans (b9.mono d8.size)
        replace M := M.below b9
        replace N := N.below b9
        replace o5 := o5.below b9
        replace oa7 := oa7.below b9
        replace oi8 := oi8.below b9
        clear b9 d8 v0 v1
        go_wp2_with fail
        have dZ : Below w9.heap.size w9 w9 := Below.refl _ _
        have hR9 := hR.below d9
        have hltM := M.1
        have hltN := N.1
        have u0 := M.2.1 0 _ rfl
        have u1 := M.2.1 1 _ rfl
        have v0 := N.2.1 0 _ rfl
        have v1 := N.2.1 1 _ rfl
        go_region_held3 (fun w' => w'.cell? ⟨w.heap.size, 0, none⟩ = some (.int .i64 g) ∧ w'.cell? ⟨w.heap.size, 1, none⟩ = some (.slice a m c) ∧ w'.cell? ⟨bx, 0, none⟩ = some (.int .i64 g) ∧ w'.cell? ⟨bx, 1, none⟩ = some (.slice (some ⟨q5, 0, none⟩) m m)) (first | go_keep | exact ⟨(dE.cell (p := ⟨w.heap.size, 0, none⟩) hltM).trans u0, (dE.cell (p := ⟨w.heap.size, 1, none⟩) hltM).trans u1, (dE.cell (p := ⟨bx, 0, none⟩) hltN).trans v0, (dE.cell (p := ⟨bx, 1, none⟩) hltN).trans v1⟩ | exact ⟨(dE.drew.cell (p := ⟨w.heap.size, 0, none⟩) hltM).trans u0, (dE.drew.cell (p := ⟨w.heap.size, 1, none⟩) hltM).trans u1, (dE.drew.cell (p := ⟨bx, 0, none⟩) hltN).trans v0, (dE.drew.cell (p := ⟨bx, 1, none⟩) hltN).trans v1⟩ | exact ⟨(dT.cell (p := ⟨w.heap.size, 0, none⟩) hltM).trans u0, (dT.cell (p := ⟨w.heap.size, 1, none⟩) hltM).trans u1, (dT.cell (p := ⟨bx, 0, none⟩) hltN).trans v0, (dT.cell (p := ⟨bx, 1, none⟩) hltN).trans v1⟩ | exact ⟨(dT.drew.cell (p := ⟨w.heap.size, 0, none⟩) hltM).trans u0, (dT.drew.cell (p := ⟨w.heap.size, 1, none⟩) hltM).trans u1, (dT.drew.cell (p := ⟨bx, 0, none⟩) hltN).trans v0, (dT.drew.cell (p := ⟨bx, 1, none⟩) hltN).trans v1⟩ | exact ⟨(dZ.cell (p := ⟨w.heap.size, 0, none⟩) hltM).trans u0, (dZ.cell (p := ⟨w.heap.size, 1, none⟩) hltM).trans u1, (dZ.cell (p := ⟨bx, 0, none⟩) hltN).trans v0, (dZ.cell (p := ⟨bx, 1, none⟩) hltN).trans v1⟩ | exact ⟨(dZ.drew.cell (p := ⟨w.heap.size, 0, none⟩) hltM).trans u0, (dZ.drew.cell (p := ⟨w.heap.size, 1, none⟩) hltM).trans u1, (dZ.drew.cell (p := ⟨bx, 0, none⟩) hltN).trans v0, (dZ.drew.cell (p := ⟨bx, 1, none⟩) hltN).trans v1⟩) ((first | (go_at_call 16; refine (TP.out _ (hR9.below (by first | exact dZ | exact dZ.drew))).mono ?_; rintro e wT ⟨qT, rfl, _, ⟨XT, oT⟩, _, bT⟩; have dT : Below w9.heap.size w9 wT := (by first | exact below_step dZ bT | exact below_step dZ.drew bT)) | (go_at_call 18; refine (E.out _ _ _ _ _ (by first | exact (o5.below dT).row | exact (o5.below dT.drew).row) (by first | exact oT.row | exact (oT.below (Below.refl _ _).drew).row)).mono ?_; rintro e wE ⟨rfl, bE⟩; have dE : Below w9.heap.size w9 wE := (by first | exact below_step dT bE | exact below_step dT.drew bE))))
        all_goals
          have eE := d9.trans (dE.mono d9.size)
          replace oa7 := oa7.below dE
          replace oi8 := oi8.below dE
          clear u0 u1 v0 v1
          go_wp2_with fail
          refine (TA.out _ (hA.below eE)).mono ?_
          rintro e wF ⟨rfl, bF, oaF⟩
          have eF := eE.trans (bF.mono eE.size)
          replace oa7 := oa7.below bF
          replace oi8 := oi8.below bF
          go_wp2_with fail
          refine (EA.out _ _ _ _ _ oa7.row oaF.row).mono ?_
          rintro e wG ⟨rfl, bG⟩
          have eG := eF.trans (bG.mono eF.size)
          replace oi8 := oi8.below bG
          go_wp2_with fail
          refine (TI.out _ (hP.below eG)).mono ?_
          rintro e wH ⟨rfl, bH, oiH⟩
          have eH := eG.trans (bH.mono eG.size)
          replace oi8 := oi8.below bH
          go_wp2_with fail
          refine (EI.out _ _ _ _ _ oi8.row oiH.row).mono ?_
          rintro e wI ⟨rfl, bI⟩
          have eI := eH.trans (bI.mono eH.size)
          go_wp2_with fail
          go_ret
          exact ⟨rfl, eI⟩
      · rw [if_neg hs2] at SZ2
        clear hs2 hn hx hs
        generalize totL T m = tt at *
        go_enter Try.func7, Try.ntmps7
        go_wp2_with fail
        generalize w.alloc (.cells #[.int .i64 g, .slice a m c] 24) = wz at *
        refine (SZ.out _ (hR.below dd)).mono ?_
        rintro e w0 ⟨rfl, d0⟩
        go_wp2_with fail
        refine (SZ2.out _).mono ?_
        rintro e w1 ⟨rfl, hw1⟩
        rw [hw1]; clear hw1 w1
        go_wp2_with fail
        go_ret
        exact ⟨rfl, dd.trans (d0.mono dd.size)⟩
    · rw [if_neg hs] at SZ
      clear hs hn hx
      go_enter Try.func7, Try.ntmps7
      go_wp2_with fail
      refine (SZ.out _ (hR.below dd)).mono ?_
      rintro e w0 ⟨rfl, d0⟩
      go_wp2_with fail
      go_ret
      exact ⟨rfl, dd.trans (d0.mono dd.size)⟩
end Go.Proofs.Yteifconelofojaa
