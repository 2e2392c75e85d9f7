/- The law on ranges, walked out of what the functions answer. -/
import Derived.Test.YtlflfloopomaiaaW3v
import Derived.Test.YtlflfloopomaiaaW3w
import Derived.Test.YtlflfloopomaiaaDraw3e
import Derived.Test.YtlflfloopomaiaaI1b
import Derived.Deep.RegionHeld3
namespace Go.Proofs.Ytlflfloopomaiaa
open Go.RowKit

set_option maxRecDepth 100000 in
set_option maxHeartbeats 12800000 in
theorem w_ranges (v1 v2 : Value) (len1 len2 : Nat) (w : World) (hby1 : BytesAt w.heap.size w v1 len1) (hby2 : BytesAt w.heap.size w v2 len2) :
    Calls Try.prog 4 #[v1, v2] w fun e w' => e = .returned (.bool true) ∧ Below w.heap.size w w' := by
  have hA := hide (fun w' (k : Below w.heap.size w w') => bytes_to3 hby1 k k.size)
  have hM := hide (fun w' (k : Below w.heap.size w w') => bytes_to3 hby2 k k.size)
  obtain ⟨p1, cap1, rfl, hl1, _⟩ := hby1
  obtain ⟨p2, cap2, rfl, hl2, _⟩ := hby2
  unfold maxLen at hl1 hl2
  have sR := hide (fun w h => d_range (.slice p1 len1 cap1) len1 w h)
  have sD := hide (fun w h => d_cut (.slice p1 len1 cap1) len1 w h)
  have sM := hide (fun w h => d_meet (.slice p2 len2 cap2) len2 w h)
  have sN := hide (fun w h => w_numberOf (.slice p2 len2 cap2) len2 w h)
  have d0 : Below w.heap.size w w := Below.refl _ _
  go_enter Try.func4, Try.ntmps4
  go_wp2_with fail
  · go_ret
    exact ⟨rfl, d0⟩
  clear hl1 hl2
  refine (sR.out _ (hA.out _ d0)).mono ?_
  rintro e w1 ⟨x, y, hx, hy, rfl, b1⟩
  obtain ⟨fl, R, hRl, kS, kI, hF⟩ := rng_ans x y
  have cS := hide kS
  have cI := hide kI
  have hF := hide hF
  clear kS kI sR d0
  go_wp2_with fail
  refine (cI.out _).mono ?_
  rintro e w2 ⟨u2, rfl, o2, b2⟩
  have d2 := below_step b1 b2
  clear b1 b2
  go_wp2_with fail
  refine (cS.out _).mono ?_
  rintro e w3 ⟨u3, rfl, o3, b3⟩
  have d3 := below_step d2 b3
  obtain ⟨ra, rc, rfl, hS2⟩ := SrcP.own (ownP_below o2 b3)
  obtain ⟨qa, qc, rfl, hS3⟩ := SrcP.own o3
  have sP := hide (w_samePrefixes ra qa rc qc R w3 (by omega) hS2.1 hS3.1)
  have hne : (fl != fl) = false := by simp
  clear d2 b3 o2 o3 cS cI
  go_wp2_with fail
  refine sP.out.mono ?_
  rintro e w4 ⟨rfl, b4⟩
  have d4 := below_step d3 b4
  have hS4 : SrcP ra R rc w4 := ⟨hS2.1.below b4, hS2.2⟩
  clear sP hS2 hS3 b4 d3 hne
  cases fl with
  | false =>
    go_wp2_with fail
    refine (sD.out _ (hA.out _ d4)).mono ?_
    rintro e t1 ⟨la, lc, pa, pl, L, rfl, hLl, hSL, b1⟩
    have e1 := below_step d4 b1
    obtain ⟨f2, C, hCl, kS, kI, hF2⟩ := cut_ans L pa pl hLl
    have cS := hide kS
    have cI := hide kI
    have hF2 := hide hF2
    have hx1 := below_box (o := .cells #[.int .i64 pa, .int .i64 pl] 34) (Below.refl (t1.alloc (.cells #[.int .i64 pa, .int .i64 pl] 34)).heap.size (t1.alloc (.cells #[.int .i64 pa, .int .i64 pl] 34)))
    have hSx : SrcP la L lc (t1.alloc (.cells #[.int .i64 pa, .int .i64 pl] 34)) := ⟨hSL.1.below hx1, hSL.2⟩
    clear kS kI b1
    go_wp2_with fail
    refine (cI.out _ _ _ hSx).mono ?_
    rintro e t2 ⟨u2, rfl, o2, b2⟩
    have hBp := (Bk.new t1 #[.int .i64 pa, .int .i64 pl] 34).below b2
    have b2' := below_box b2
    have e2 := below_step e1 b2'
    have hSL := (⟨hSL.1.below b2', hSL.2⟩ : SrcP la L lc t2)
    have c0 := (hBp.cell 0).trans (show _ = some (.int .i64 pa) from rfl)
    have c1 := (hBp.cell 1).trans (show _ = some (.int .i64 pl) from rfl)
    clear b2 b2' hSx hx1 e1 cI
    go_wp2_with fail
    refine (cS.out _ _ _ hSL).mono ?_
    rintro e t3 ⟨u3, rfl, o3, b3⟩
    have e3 := below_step e2 b3
    have o2 := ownP_below o2 b3
    have hBp := hBp.below b3
    have hSL := (⟨hSL.1.below b3, hSL.2⟩ : SrcP la L lc t3)
    clear b3 c0 c1 e2 cS
    go_wp2_with fail
    refine (sM.out _ (hM.out _ e3)).mono ?_
    rintro e t4 ⟨ma, mc, A, na, nc, B, rfl, hAl, hBl, hSA, hSB, b4⟩
    have e4 := below_step e3 b4
    have o2 := ownP_below o2 b4
    have o3 := ownP_below o3 b4
    have hBp := hBp.below b4
    have hSL := (⟨hSL.1.below b4, hSL.2⟩ : SrcP la L lc t4)
    obtain ⟨f3, D, hDl, kS, kI, hF3⟩ := meet_ans A B hAl hBl
    have cS := hide kS
    have cI := hide kI
    have hF3 := hide hF3
    clear kS kI b4 e3
    go_wp2_with fail
    refine (cI.out _ _ _ _ _ hSA hSB).mono ?_
    rintro e t5 ⟨u5, rfl, o5, b5⟩
    have e5 := below_step e4 b5
    have o2 := ownP_below o2 b5
    have o3 := ownP_below o3 b5
    have hBp := hBp.below b5
    have hSL := (⟨hSL.1.below b5, hSL.2⟩ : SrcP la L lc t5)
    have hSA := (⟨hSA.1.below b5, hSA.2⟩ : SrcP ma A mc t5)
    have hSB := (⟨hSB.1.below b5, hSB.2⟩ : SrcP na B nc t5)
    clear b5 e4 cI
    go_wp2_with fail
    refine (cS.out _ _ _ _ _ hSA hSB).mono ?_
    rintro e t6 ⟨u6, rfl, o6, b6⟩
    have e6 := below_step e5 b6
    have o2 := ownP_below o2 b6
    have o3 := ownP_below o3 b6
    have o5 := ownP_below o5 b6
    have hBp := hBp.below b6
    have hSL := (⟨hSL.1.below b6, hSL.2⟩ : SrcP la L lc t6)
    have hSA := (⟨hSA.1.below b6, hSA.2⟩ : SrcP ma A mc t6)
    have hSB := (⟨hSB.1.below b6, hSB.2⟩ : SrcP na B nc t6)
    obtain ⟨ga, gc, rfl, hC⟩ := SrcP.own o2
    obtain ⟨ha, hc, rfl, hC3⟩ := SrcP.own o3
    obtain ⟨ja, jc, rfl, hD⟩ := SrcP.own o5
    obtain ⟨ka, kc, rfl, hD6⟩ := SrcP.own o6
    clear b6 e5 cS o2 o3 o5 o6
    have sP := hide (w_samePrefixes ga ha gc hc C t6 (by omega) hC.1 hC3.1)
    have sQ := hide (fun w' (k : Below t6.heap.size t6 w') => w_samePrefixes ja ka jc kc D w' (by omega) (hD.1.below k) (hD6.1.below k))
    have hne2 : (f2 != f2) = false := by simp
    have hne3 : (f3 != f3) = false := by simp
    go_wp2_with fail
    refine sP.out.mono ?_
    rintro e t7 ⟨rfl, b7⟩
    go_wp2_with fail
    refine (sQ.out _ b7).mono ?_
    rintro e t8 ⟨rfl, b8⟩
    have b8 := below_step b7 b8
    have e8 := below_step e6 b8
    have hBp := hBp.below b8
    have hSL : SrcP la L lc t8 := ⟨hSL.1.below b8, hSL.2⟩
    have hSA : SrcP ma A mc t8 := ⟨hSA.1.below b8, hSA.2⟩
    have hSB : SrcP na B nc t8 := ⟨hSB.1.below b8, hSB.2⟩
    have hC : SrcP ga C gc t8 := ⟨hC.1.below b8, hC.2⟩
    have hD : SrcP ja D jc t8 := ⟨hD.1.below b8, hD.2⟩
    have c0 := (hBp.cell 0).trans (show _ = some (.int .i64 pa) from rfl)
    clear hC3 hD6 sP sQ b7 b8 hne2 hne3 e6
    go_wp2_with fail
    have hlt := hBp.lt
    have dZ : Below t8.heap.size t8 t8 := Below.refl _ _
    go_region_held3 (fun w' => w'.cell? ⟨t1.heap.size, 0, none⟩ = some (.int .i64 pa)) (first | go_keep) ((first | (go_at_call 36; refine (sN.out _ (by first | exact hM.out _ e8 | exact hM.out _ e8.drew | exact hM.out _ (below_drewN e8 _))).mono ?_; rintro e wn ⟨r, hr0, hr1, rfl, hwn⟩; subst hwn)))
    generalize hzz : (IntKind.i64.wrap (IntKind.i64.wrap (r * 4099) + pa)).tmod 4294967296 = z at *
    have hz1 : z < 4294967296 := by rw [← hzz]; exact Int.tmod_lt_of_pos _ (by omega)
    clear hzz hr0 hr1 c0 dZ hlt
    have bT : Below t8.heap.size t8 t8.drew := (Below.refl _ _).drew
    have e9 := below_step e8 bT
    have hBp := hBp.below bT
    have hSL : SrcP la L lc t8.drew := ⟨hSL.1.below bT, hSL.2⟩
    have hSA : SrcP ma A mc t8.drew := ⟨hSA.1.below bT, hSA.2⟩
    have hSB : SrcP na B nc t8.drew := ⟨hSB.1.below bT, hSB.2⟩
    have hC : SrcP ga C gc t8.drew := ⟨hC.1.below bT, hC.2⟩
    have hD : SrcP ja D jc t8.drew := ⟨hD.1.below bT, hD.2⟩
    clear bT e8
    generalize t8.drew = T at *
    by_cases hneg : z < 0
    · have hneg2 : z < 0 := hneg
      have hin : inB 0 0 4294967295 = true := inB_t (by omega) (by omega)
      cases f2 with
      | false =>
        cases f3 with
        | false =>
          go_wp2_with fail
          go_ret
          exact ⟨rfl, e9⟩
        | true =>
          obtain ⟨a1, a2, a3, a4, a5⟩ := hF3.out rfl
          have a5 := a5 0
          have sx := hide (fun w h => i_setHas ma mc A 0 w (by omega) h)
          have sy := hide (fun w h => i_setHas na nc B 0 w (by omega) h)
          have sz := hide (fun w h => i_setHas ja jc D 0 w (by omega) h)
          have sg := hide (fun w h => i_goodSet ja jc D w (by omega) h)
          rw [a1, hin] at sx
          rw [a2, hin] at sy
          rw [a3, hin, a5] at sz
          rw [a3, a4] at sg
          clear a1 a2 a3 a4 a5 hF3
          generalize hasL A 0 = b1 at *
          generalize hasL B 0 = b2 at *
          simp only [Bool.true_and, Bool.and_true] at sx sy sz sg
          have hbb : (b2 != b2) = false := by simp
          cases b1 with
          | false =>
            simp only [Bool.false_and] at sz
            go_wp2_with fail
            refine (sx.out _ hSA.1).mono ?_
            rintro e m1 ⟨rfl, h1⟩
            have k1 := below_step e9 h1
            go_wp2_with fail
            refine (sy.out _ (hSB.1.below h1)).mono ?_
            rintro e m2 ⟨rfl, h2⟩
            have k2 := below_step k1 h2
            have h12 := below_step h1 h2
            go_wp2_with fail
            refine (sz.out _ (hD.1.below h12)).mono ?_
            rintro e m3 ⟨rfl, h3⟩
            have k3 := below_step k2 h3
            have h13 := below_step h12 h3
            go_wp2_with fail
            refine (sg.out _ ⟨hD.1.below h13, hD.2⟩).mono ?_
            rintro e m4 ⟨rfl, h4⟩
            have k4 := below_step k3 h4
            go_wp2_with fail
            go_ret
            exact ⟨rfl, k4⟩
          | true =>
            simp only [Bool.true_and] at sz
            go_wp2_with fail
            refine (sx.out _ hSA.1).mono ?_
            rintro e m1 ⟨rfl, h1⟩
            have k1 := below_step e9 h1
            go_wp2_with fail
            refine (sy.out _ (hSB.1.below h1)).mono ?_
            rintro e m2 ⟨rfl, h2⟩
            have k2 := below_step k1 h2
            have h12 := below_step h1 h2
            go_wp2_with fail
            refine (sz.out _ (hD.1.below h12)).mono ?_
            rintro e m3 ⟨rfl, h3⟩
            have k3 := below_step k2 h3
            have h13 := below_step h12 h3
            go_wp2_with fail
            refine (sg.out _ ⟨hD.1.below h13, hD.2⟩).mono ?_
            rintro e m4 ⟨rfl, h4⟩
            have k4 := below_step k3 h4
            go_wp2_with fail
            go_ret
            exact ⟨rfl, k4⟩
      | true =>
        obtain ⟨a1, a2, a3, a4, a5⟩ := hF2.out rfl
        have a5 := a5 0
        have sx := hide (fun w h => i_setHas la lc L 0 w (by omega) h)
        have sy := hide (fun w => i_hasAddr pa pl 0 w)
        have sz := hide (fun w h => i_setHas ga gc C 0 w (by omega) h)
        have sg := hide (fun w h => i_goodSet ga gc C w (by omega) h)
        rw [a1, hin] at sx
        rw [a2, hin] at sy
        rw [a3, hin, a5] at sz
        rw [a3, a4] at sg
        clear a1 a2 a3 a4 a5 hF2
        generalize hasL L 0 = b1 at *
        generalize hasB pa pl 0 = b2 at *
        simp only [Bool.true_and, Bool.and_true] at sx sy sz sg
        have hbb : ((!b2) != (!b2)) = false := by simp
        cases b1 with
        | false =>
          simp only [Bool.false_and] at sz
          go_wp2_with fail
          refine (sx.out _ hSL.1).mono ?_
          rintro e n1 ⟨rfl, h1⟩
          have k1 := below_step e9 h1
          have hB1 := hBp.below h1
          have c0 := (hB1.cell 0).trans (show _ = some (.int .i64 pa) from rfl)
          have c1 := (hB1.cell 1).trans (show _ = some (.int .i64 pl) from rfl)
          go_wp2_with fail
          refine (sy.out _).mono ?_
          rintro e n2 ⟨rfl, h2⟩
          have k2 := below_step k1 h2
          have h12 := below_step h1 h2
          clear c0 c1 hB1
          go_wp2_with fail
          refine (sz.out _ (hC.1.below h12)).mono ?_
          rintro e n3 ⟨rfl, h3⟩
          have k3 := below_step k2 h3
          have h13 := below_step h12 h3
          go_wp2_with fail
          refine (sg.out _ ⟨hC.1.below h13, hC.2⟩).mono ?_
          rintro e n4 ⟨rfl, h4⟩
          have k4 := below_step k3 h4
          have h14 := below_step h13 h4
          have hSA : SrcP ma A mc n4 := ⟨hSA.1.below h14, hSA.2⟩
          have hSB : SrcP na B nc n4 := ⟨hSB.1.below h14, hSB.2⟩
          have hD : SrcP ja D jc n4 := ⟨hD.1.below h14, hD.2⟩
          clear h1 h2 h3 h4 h12 h13 h14 k1 k2 k3 sx sy sz sg hbb
          cases f3 with
          | false =>
            go_wp2_with fail
            go_ret
            exact ⟨rfl, k4⟩
          | true =>
            obtain ⟨a1, a2, a3, a4, a5⟩ := hF3.out rfl
            have a5 := a5 0
            have sx := hide (fun w h => i_setHas ma mc A 0 w (by omega) h)
            have sy := hide (fun w h => i_setHas na nc B 0 w (by omega) h)
            have sz := hide (fun w h => i_setHas ja jc D 0 w (by omega) h)
            have sg := hide (fun w h => i_goodSet ja jc D w (by omega) h)
            rw [a1, hin] at sx
            rw [a2, hin] at sy
            rw [a3, hin, a5] at sz
            rw [a3, a4] at sg
            clear a1 a2 a3 a4 a5 hF3
            generalize hasL A 0 = b1 at *
            generalize hasL B 0 = b2 at *
            simp only [Bool.true_and, Bool.and_true] at sx sy sz sg
            have hbb : (b2 != b2) = false := by simp
            cases b1 with
            | false =>
              simp only [Bool.false_and] at sz
              go_wp2_with fail
              refine (sx.out _ hSA.1).mono ?_
              rintro e m1 ⟨rfl, h1⟩
              have k1 := below_step k4 h1
              go_wp2_with fail
              refine (sy.out _ (hSB.1.below h1)).mono ?_
              rintro e m2 ⟨rfl, h2⟩
              have k2 := below_step k1 h2
              have h12 := below_step h1 h2
              go_wp2_with fail
              refine (sz.out _ (hD.1.below h12)).mono ?_
              rintro e m3 ⟨rfl, h3⟩
              have k3 := below_step k2 h3
              have h13 := below_step h12 h3
              go_wp2_with fail
              refine (sg.out _ ⟨hD.1.below h13, hD.2⟩).mono ?_
              rintro e m4 ⟨rfl, h4⟩
              have k4 := below_step k3 h4
              go_wp2_with fail
              go_ret
              exact ⟨rfl, k4⟩
            | true =>
              simp only [Bool.true_and] at sz
              go_wp2_with fail
              refine (sx.out _ hSA.1).mono ?_
              rintro e m1 ⟨rfl, h1⟩
              have k1 := below_step k4 h1
              go_wp2_with fail
              refine (sy.out _ (hSB.1.below h1)).mono ?_
              rintro e m2 ⟨rfl, h2⟩
              have k2 := below_step k1 h2
              have h12 := below_step h1 h2
              go_wp2_with fail
              refine (sz.out _ (hD.1.below h12)).mono ?_
              rintro e m3 ⟨rfl, h3⟩
              have k3 := below_step k2 h3
              have h13 := below_step h12 h3
              go_wp2_with fail
              refine (sg.out _ ⟨hD.1.below h13, hD.2⟩).mono ?_
              rintro e m4 ⟨rfl, h4⟩
              have k4 := below_step k3 h4
              go_wp2_with fail
              go_ret
              exact ⟨rfl, k4⟩
        | true =>
          simp only [Bool.true_and] at sz
          go_wp2_with fail
          refine (sx.out _ hSL.1).mono ?_
          rintro e n1 ⟨rfl, h1⟩
          have k1 := below_step e9 h1
          have hB1 := hBp.below h1
          have c0 := (hB1.cell 0).trans (show _ = some (.int .i64 pa) from rfl)
          have c1 := (hB1.cell 1).trans (show _ = some (.int .i64 pl) from rfl)
          go_wp2_with fail
          refine (sy.out _).mono ?_
          rintro e n2 ⟨rfl, h2⟩
          have k2 := below_step k1 h2
          have h12 := below_step h1 h2
          clear c0 c1 hB1
          go_wp2_with fail
          refine (sz.out _ (hC.1.below h12)).mono ?_
          rintro e n3 ⟨rfl, h3⟩
          have k3 := below_step k2 h3
          have h13 := below_step h12 h3
          go_wp2_with fail
          refine (sg.out _ ⟨hC.1.below h13, hC.2⟩).mono ?_
          rintro e n4 ⟨rfl, h4⟩
          have k4 := below_step k3 h4
          have h14 := below_step h13 h4
          have hSA : SrcP ma A mc n4 := ⟨hSA.1.below h14, hSA.2⟩
          have hSB : SrcP na B nc n4 := ⟨hSB.1.below h14, hSB.2⟩
          have hD : SrcP ja D jc n4 := ⟨hD.1.below h14, hD.2⟩
          clear h1 h2 h3 h4 h12 h13 h14 k1 k2 k3 sx sy sz sg hbb
          cases f3 with
          | false =>
            go_wp2_with fail
            go_ret
            exact ⟨rfl, k4⟩
          | true =>
            obtain ⟨a1, a2, a3, a4, a5⟩ := hF3.out rfl
            have a5 := a5 0
            have sx := hide (fun w h => i_setHas ma mc A 0 w (by omega) h)
            have sy := hide (fun w h => i_setHas na nc B 0 w (by omega) h)
            have sz := hide (fun w h => i_setHas ja jc D 0 w (by omega) h)
            have sg := hide (fun w h => i_goodSet ja jc D w (by omega) h)
            rw [a1, hin] at sx
            rw [a2, hin] at sy
            rw [a3, hin, a5] at sz
            rw [a3, a4] at sg
            clear a1 a2 a3 a4 a5 hF3
            generalize hasL A 0 = b1 at *
            generalize hasL B 0 = b2 at *
            simp only [Bool.true_and, Bool.and_true] at sx sy sz sg
            have hbb : (b2 != b2) = false := by simp
            cases b1 with
            | false =>
              simp only [Bool.false_and] at sz
              go_wp2_with fail
              refine (sx.out _ hSA.1).mono ?_
              rintro e m1 ⟨rfl, h1⟩
              have k1 := below_step k4 h1
              go_wp2_with fail
              refine (sy.out _ (hSB.1.below h1)).mono ?_
              rintro e m2 ⟨rfl, h2⟩
              have k2 := below_step k1 h2
              have h12 := below_step h1 h2
              go_wp2_with fail
              refine (sz.out _ (hD.1.below h12)).mono ?_
              rintro e m3 ⟨rfl, h3⟩
              have k3 := below_step k2 h3
              have h13 := below_step h12 h3
              go_wp2_with fail
              refine (sg.out _ ⟨hD.1.below h13, hD.2⟩).mono ?_
              rintro e m4 ⟨rfl, h4⟩
              have k4 := below_step k3 h4
              go_wp2_with fail
              go_ret
              exact ⟨rfl, k4⟩
            | true =>
              simp only [Bool.true_and] at sz
              go_wp2_with fail
              refine (sx.out _ hSA.1).mono ?_
              rintro e m1 ⟨rfl, h1⟩
              have k1 := below_step k4 h1
              go_wp2_with fail
              refine (sy.out _ (hSB.1.below h1)).mono ?_
              rintro e m2 ⟨rfl, h2⟩
              have k2 := below_step k1 h2
              have h12 := below_step h1 h2
              go_wp2_with fail
              refine (sz.out _ (hD.1.below h12)).mono ?_
              rintro e m3 ⟨rfl, h3⟩
              have k3 := below_step k2 h3
              have h13 := below_step h12 h3
              go_wp2_with fail
              refine (sg.out _ ⟨hD.1.below h13, hD.2⟩).mono ?_
              rintro e m4 ⟨rfl, h4⟩
              have k4 := below_step k3 h4
              go_wp2_with fail
              go_ret
              exact ⟨rfl, k4⟩
    · have hneg2 : ¬ z < 0 := hneg
      have hin : inB z 0 4294967295 = true := inB_t (by omega) (by omega)
      cases f2 with
      | false =>
        cases f3 with
        | false =>
          go_wp2_with fail
          go_ret
          exact ⟨rfl, e9⟩
        | true =>
          obtain ⟨a1, a2, a3, a4, a5⟩ := hF3.out rfl
          have a5 := a5 z
          have sx := hide (fun w h => i_setHas ma mc A z w (by omega) h)
          have sy := hide (fun w h => i_setHas na nc B z w (by omega) h)
          have sz := hide (fun w h => i_setHas ja jc D z w (by omega) h)
          have sg := hide (fun w h => i_goodSet ja jc D w (by omega) h)
          rw [a1, hin] at sx
          rw [a2, hin] at sy
          rw [a3, hin, a5] at sz
          rw [a3, a4] at sg
          clear a1 a2 a3 a4 a5 hF3
          generalize hasL A z = b1 at *
          generalize hasL B z = b2 at *
          simp only [Bool.true_and, Bool.and_true] at sx sy sz sg
          have hbb : (b2 != b2) = false := by simp
          cases b1 with
          | false =>
            simp only [Bool.false_and] at sz
            go_wp2_with fail
            refine (sx.out _ hSA.1).mono ?_
            rintro e m1 ⟨rfl, h1⟩
            have k1 := below_step e9 h1
            go_wp2_with fail
            refine (sy.out _ (hSB.1.below h1)).mono ?_
            rintro e m2 ⟨rfl, h2⟩
            have k2 := below_step k1 h2
            have h12 := below_step h1 h2
            go_wp2_with fail
            refine (sz.out _ (hD.1.below h12)).mono ?_
            rintro e m3 ⟨rfl, h3⟩
            have k3 := below_step k2 h3
            have h13 := below_step h12 h3
            go_wp2_with fail
            refine (sg.out _ ⟨hD.1.below h13, hD.2⟩).mono ?_
            rintro e m4 ⟨rfl, h4⟩
            have k4 := below_step k3 h4
            go_wp2_with fail
            go_ret
            exact ⟨rfl, k4⟩
          | true =>
            simp only [Bool.true_and] at sz
            go_wp2_with fail
            refine (sx.out _ hSA.1).mono ?_
            rintro e m1 ⟨rfl, h1⟩
            have k1 := below_step e9 h1
            go_wp2_with fail
            refine (sy.out _ (hSB.1.below h1)).mono ?_
            rintro e m2 ⟨rfl, h2⟩
            have k2 := below_step k1 h2
            have h12 := below_step h1 h2
            go_wp2_with fail
            refine (sz.out _ (hD.1.below h12)).mono ?_
            rintro e m3 ⟨rfl, h3⟩
            have k3 := below_step k2 h3
            have h13 := below_step h12 h3
            go_wp2_with fail
            refine (sg.out _ ⟨hD.1.below h13, hD.2⟩).mono ?_
            rintro e m4 ⟨rfl, h4⟩
            have k4 := below_step k3 h4
            go_wp2_with fail
            go_ret
            exact ⟨rfl, k4⟩
      | true =>
        obtain ⟨a1, a2, a3, a4, a5⟩ := hF2.out rfl
        have a5 := a5 z
        have sx := hide (fun w h => i_setHas la lc L z w (by omega) h)
        have sy := hide (fun w => i_hasAddr pa pl z w)
        have sz := hide (fun w h => i_setHas ga gc C z w (by omega) h)
        have sg := hide (fun w h => i_goodSet ga gc C w (by omega) h)
        rw [a1, hin] at sx
        rw [a2, hin] at sy
        rw [a3, hin, a5] at sz
        rw [a3, a4] at sg
        clear a1 a2 a3 a4 a5 hF2
        generalize hasL L z = b1 at *
        generalize hasB pa pl z = b2 at *
        simp only [Bool.true_and, Bool.and_true] at sx sy sz sg
        have hbb : ((!b2) != (!b2)) = false := by simp
        cases b1 with
        | false =>
          simp only [Bool.false_and] at sz
          go_wp2_with fail
          refine (sx.out _ hSL.1).mono ?_
          rintro e n1 ⟨rfl, h1⟩
          have k1 := below_step e9 h1
          have hB1 := hBp.below h1
          have c0 := (hB1.cell 0).trans (show _ = some (.int .i64 pa) from rfl)
          have c1 := (hB1.cell 1).trans (show _ = some (.int .i64 pl) from rfl)
          go_wp2_with fail
          refine (sy.out _).mono ?_
          rintro e n2 ⟨rfl, h2⟩
          have k2 := below_step k1 h2
          have h12 := below_step h1 h2
          clear c0 c1 hB1
          go_wp2_with fail
          refine (sz.out _ (hC.1.below h12)).mono ?_
          rintro e n3 ⟨rfl, h3⟩
          have k3 := below_step k2 h3
          have h13 := below_step h12 h3
          go_wp2_with fail
          refine (sg.out _ ⟨hC.1.below h13, hC.2⟩).mono ?_
          rintro e n4 ⟨rfl, h4⟩
          have k4 := below_step k3 h4
          have h14 := below_step h13 h4
          have hSA : SrcP ma A mc n4 := ⟨hSA.1.below h14, hSA.2⟩
          have hSB : SrcP na B nc n4 := ⟨hSB.1.below h14, hSB.2⟩
          have hD : SrcP ja D jc n4 := ⟨hD.1.below h14, hD.2⟩
          clear h1 h2 h3 h4 h12 h13 h14 k1 k2 k3 sx sy sz sg hbb
          cases f3 with
          | false =>
            go_wp2_with fail
            go_ret
            exact ⟨rfl, k4⟩
          | true =>
            obtain ⟨a1, a2, a3, a4, a5⟩ := hF3.out rfl
            have a5 := a5 z
            have sx := hide (fun w h => i_setHas ma mc A z w (by omega) h)
            have sy := hide (fun w h => i_setHas na nc B z w (by omega) h)
            have sz := hide (fun w h => i_setHas ja jc D z w (by omega) h)
            have sg := hide (fun w h => i_goodSet ja jc D w (by omega) h)
            rw [a1, hin] at sx
            rw [a2, hin] at sy
            rw [a3, hin, a5] at sz
            rw [a3, a4] at sg
            clear a1 a2 a3 a4 a5 hF3
            generalize hasL A z = b1 at *
            generalize hasL B z = b2 at *
            simp only [Bool.true_and, Bool.and_true] at sx sy sz sg
            have hbb : (b2 != b2) = false := by simp
            cases b1 with
            | false =>
              simp only [Bool.false_and] at sz
              go_wp2_with fail
              refine (sx.out _ hSA.1).mono ?_
              rintro e m1 ⟨rfl, h1⟩
              have k1 := below_step k4 h1
              go_wp2_with fail
              refine (sy.out _ (hSB.1.below h1)).mono ?_
              rintro e m2 ⟨rfl, h2⟩
              have k2 := below_step k1 h2
              have h12 := below_step h1 h2
              go_wp2_with fail
              refine (sz.out _ (hD.1.below h12)).mono ?_
              rintro e m3 ⟨rfl, h3⟩
              have k3 := below_step k2 h3
              have h13 := below_step h12 h3
              go_wp2_with fail
              refine (sg.out _ ⟨hD.1.below h13, hD.2⟩).mono ?_
              rintro e m4 ⟨rfl, h4⟩
              have k4 := below_step k3 h4
              go_wp2_with fail
              go_ret
              exact ⟨rfl, k4⟩
            | true =>
              simp only [Bool.true_and] at sz
              go_wp2_with fail
              refine (sx.out _ hSA.1).mono ?_
              rintro e m1 ⟨rfl, h1⟩
              have k1 := below_step k4 h1
              go_wp2_with fail
              refine (sy.out _ (hSB.1.below h1)).mono ?_
              rintro e m2 ⟨rfl, h2⟩
              have k2 := below_step k1 h2
              have h12 := below_step h1 h2
              go_wp2_with fail
              refine (sz.out _ (hD.1.below h12)).mono ?_
              rintro e m3 ⟨rfl, h3⟩
              have k3 := below_step k2 h3
              have h13 := below_step h12 h3
              go_wp2_with fail
              refine (sg.out _ ⟨hD.1.below h13, hD.2⟩).mono ?_
              rintro e m4 ⟨rfl, h4⟩
              have k4 := below_step k3 h4
              go_wp2_with fail
              go_ret
              exact ⟨rfl, k4⟩
        | true =>
          simp only [Bool.true_and] at sz
          go_wp2_with fail
          refine (sx.out _ hSL.1).mono ?_
          rintro e n1 ⟨rfl, h1⟩
          have k1 := below_step e9 h1
          have hB1 := hBp.below h1
          have c0 := (hB1.cell 0).trans (show _ = some (.int .i64 pa) from rfl)
          have c1 := (hB1.cell 1).trans (show _ = some (.int .i64 pl) from rfl)
          go_wp2_with fail
          refine (sy.out _).mono ?_
          rintro e n2 ⟨rfl, h2⟩
          have k2 := below_step k1 h2
          have h12 := below_step h1 h2
          clear c0 c1 hB1
          go_wp2_with fail
          refine (sz.out _ (hC.1.below h12)).mono ?_
          rintro e n3 ⟨rfl, h3⟩
          have k3 := below_step k2 h3
          have h13 := below_step h12 h3
          go_wp2_with fail
          refine (sg.out _ ⟨hC.1.below h13, hC.2⟩).mono ?_
          rintro e n4 ⟨rfl, h4⟩
          have k4 := below_step k3 h4
          have h14 := below_step h13 h4
          have hSA : SrcP ma A mc n4 := ⟨hSA.1.below h14, hSA.2⟩
          have hSB : SrcP na B nc n4 := ⟨hSB.1.below h14, hSB.2⟩
          have hD : SrcP ja D jc n4 := ⟨hD.1.below h14, hD.2⟩
          clear h1 h2 h3 h4 h12 h13 h14 k1 k2 k3 sx sy sz sg hbb
          cases f3 with
          | false =>
            go_wp2_with fail
            go_ret
            exact ⟨rfl, k4⟩
          | true =>
            obtain ⟨a1, a2, a3, a4, a5⟩ := hF3.out rfl
            have a5 := a5 z
            have sx := hide (fun w h => i_setHas ma mc A z w (by omega) h)
            have sy := hide (fun w h => i_setHas na nc B z w (by omega) h)
            have sz := hide (fun w h => i_setHas ja jc D z w (by omega) h)
            have sg := hide (fun w h => i_goodSet ja jc D w (by omega) h)
            rw [a1, hin] at sx
            rw [a2, hin] at sy
            rw [a3, hin, a5] at sz
            rw [a3, a4] at sg
            clear a1 a2 a3 a4 a5 hF3
            generalize hasL A z = b1 at *
            generalize hasL B z = b2 at *
            simp only [Bool.true_and, Bool.and_true] at sx sy sz sg
            have hbb : (b2 != b2) = false := by simp
            cases b1 with
            | false =>
              simp only [Bool.false_and] at sz
              go_wp2_with fail
              refine (sx.out _ hSA.1).mono ?_
              rintro e m1 ⟨rfl, h1⟩
              have k1 := below_step k4 h1
              go_wp2_with fail
              refine (sy.out _ (hSB.1.below h1)).mono ?_
              rintro e m2 ⟨rfl, h2⟩
              have k2 := below_step k1 h2
              have h12 := below_step h1 h2
              go_wp2_with fail
              refine (sz.out _ (hD.1.below h12)).mono ?_
              rintro e m3 ⟨rfl, h3⟩
              have k3 := below_step k2 h3
              have h13 := below_step h12 h3
              go_wp2_with fail
              refine (sg.out _ ⟨hD.1.below h13, hD.2⟩).mono ?_
              rintro e m4 ⟨rfl, h4⟩
              have k4 := below_step k3 h4
              go_wp2_with fail
              go_ret
              exact ⟨rfl, k4⟩
            | true =>
              simp only [Bool.true_and] at sz
              go_wp2_with fail
              refine (sx.out _ hSA.1).mono ?_
              rintro e m1 ⟨rfl, h1⟩
              have k1 := below_step k4 h1
              go_wp2_with fail
              refine (sy.out _ (hSB.1.below h1)).mono ?_
              rintro e m2 ⟨rfl, h2⟩
              have k2 := below_step k1 h2
              have h12 := below_step h1 h2
              go_wp2_with fail
              refine (sz.out _ (hD.1.below h12)).mono ?_
              rintro e m3 ⟨rfl, h3⟩
              have k3 := below_step k2 h3
              have h13 := below_step h12 h3
              go_wp2_with fail
              refine (sg.out _ ⟨hD.1.below h13, hD.2⟩).mono ?_
              rintro e m4 ⟨rfl, h4⟩
              have k4 := below_step k3 h4
              go_wp2_with fail
              go_ret
              exact ⟨rfl, k4⟩
  | true =>
    obtain ⟨a1, a2, a3, a4⟩ := hF.out rfl
    have sC := hide (fun w h => i_countAddrs ra rc R w (by omega) h)
    have sG := hide (fun w h => i_goodSet ra rc R w (by omega) h)
    have sH := hide (fun z w h => i_setHas ra rc R z w (by omega) h)
    rw [a1, if_pos rfl, a3] at sC
    rw [a1, a2] at sG
    have sH2 : Hid (∀ (z : Int) (w : World), RowP ra R w → Calls Try.prog 23 #[.slice ra R.length rc, .int .i64 z] w fun e w' => e = .returned (.tuple #[.bool (inB z 0 4294967295 && (decide (x ≤ z) && decide (z ≤ y))), .bool (inB z 0 4294967295)]) ∧ Below w.heap.size w w') := hide (fun z w h => by have k := sH.out z w h; rw [a1, a4, Bool.true_and] at k; exact k)
    clear a1 a2 a3 a4 hF sH
    have hne2 : ((y - x + 1) != (y - x + 1)) = false := by simp
    go_wp2_with fail
    refine (sC.out _ hS4).mono ?_
    rintro e w5 ⟨rfl, b5⟩
    have d5 := below_step d4 b5
    have hS5 : SrcP ra R rc w5 := ⟨hS4.1.below b5, hS4.2⟩
    clear b5 d4 hS4 sC
    go_wp2_with fail
    refine (sG.out _ hS5).mono ?_
    rintro e w6 ⟨rfl, b6⟩
    have d6 := below_step d5 b6
    have hS6 : SrcP ra R rc w6 := ⟨hS5.1.below b6, hS5.2⟩
    have hBn : Bk (w6.alloc (.cells #[.int .i64 (x - 1), .int .i64 x, .int .i64 y, .int .i64 (y + 1)] 3)) w6.heap.size #[.int .i64 (x - 1), .int .i64 x, .int .i64 y, .int .i64 (y + 1)] 3 := Bk.new w6 _ _
    have dn := d6.trans ((below_box (o := .cells #[.int .i64 (x - 1), .int .i64 x, .int .i64 y, .int .i64 (y + 1)] 3) (Below.refl _ _)).mono d6.size)
    have hSn := hS6.1.below (below_box (o := .cells #[.int .i64 (x - 1), .int .i64 x, .int .i64 y, .int .i64 (y + 1)] 3) (Below.refl _ _))
    clear b6 d5 hS5 sG d6 hne2
    go_wp2_with fail
    generalize w6.alloc (.cells #[.int .i64 (x - 1), .int .i64 x, .int .i64 y, .int .i64 (y + 1)] 3) = wn at *
    go_loopw [103] (fun i wr => ∃ k : Nat, k ≤ 4 ∧ i = .int .i64 k ∧ Below wn.heap.size wn wr) (fun i _ => 4 - (intOf i).toNat)
    case atStart => exact ⟨0, by omega, rfl, Below.refl _ _⟩
    case round =>
      obtain ⟨k, hk, rfl, hb⟩ := hrel
      have dr := below_step dn hb
      by_cases hlt : k < 4
      · have hlt' : (k : Int) < 4 := by omega
        have hBr := hBn.below hb
        obtain ⟨z, hz⟩ : ∃ z : Int, wr.cell? ⟨w6.heap.size, k, none⟩ = some (.int .i64 z) := by
          have h := hBr.cell k
          obtain rfl | rfl | rfl | rfl : k = 0 ∨ k = 1 ∨ k = 2 ∨ k = 3 := by omega
          all_goals exact ⟨_, h.trans rfl⟩
        have s9 := hide (sH2.out z wr (hSn.below hb))
        clear sH2 hA hM sD sM sN hBr hSn
        generalize inB z 0 4294967295 = t at *
        cases t with
        | false =>
          simp only [Bool.false_and] at s9
          go_wp2_with fail
          refine s9.out.mono ?_
          rintro e w7 ⟨rfl, b7⟩
          have hb7 := below_step hb b7
          go_wp2_with fail
          exact ⟨⟨k + 1, by omega, by go_num, hb7⟩, by simp [intOf]; omega⟩
        | true =>
          simp only [Bool.true_and] at s9
          by_cases hxz : x ≤ z
          · have q1 : decide (x ≤ z) = true := by simpa using hxz
            rw [q1, Bool.true_and] at s9
            have hdd : (decide (z ≤ y) != decide (z ≤ y)) = false := by simp
            generalize hdz : decide (z ≤ y) = dz at *
            go_wp2_with fail
            refine s9.out.mono ?_
            rintro e w7 ⟨rfl, b7⟩
            have hb7 := below_step hb b7
            go_wp2_with fail
            exact ⟨⟨k + 1, by omega, by go_num, hb7⟩, by simp [intOf]; omega⟩
          · have q1 : decide (x ≤ z) = false := by simpa using hxz
            rw [q1, Bool.false_and] at s9
            go_wp2_with fail
            refine s9.out.mono ?_
            rintro e w7 ⟨rfl, b7⟩
            have hb7 := below_step hb b7
            go_wp2_with fail
            exact ⟨⟨k + 1, by omega, by go_num, hb7⟩, by simp [intOf]; omega⟩
      · have hk' : k = 4 := by omega
        subst hk'
        clear sH2 hb
        go_wp2_with fail
        refine (sD.out _ (hA.out _ dr)).mono ?_
        rintro e t1 ⟨la, lc, pa, pl, L, rfl, hLl, hSL, b1⟩
        have e1 := below_step dr b1
        obtain ⟨f2, C, hCl, kS, kI, hF2⟩ := cut_ans L pa pl hLl
        have cS := hide kS
        have cI := hide kI
        have hF2 := hide hF2
        have hx1 := below_box (o := .cells #[.int .i64 pa, .int .i64 pl] 34) (Below.refl (t1.alloc (.cells #[.int .i64 pa, .int .i64 pl] 34)).heap.size (t1.alloc (.cells #[.int .i64 pa, .int .i64 pl] 34)))
        have hSx : SrcP la L lc (t1.alloc (.cells #[.int .i64 pa, .int .i64 pl] 34)) := ⟨hSL.1.below hx1, hSL.2⟩
        clear kS kI b1
        go_wp2_with fail
        refine (cI.out _ _ _ hSx).mono ?_
        rintro e t2 ⟨u2, rfl, o2, b2⟩
        have hBp := (Bk.new t1 #[.int .i64 pa, .int .i64 pl] 34).below b2
        have b2' := below_box b2
        have e2 := below_step e1 b2'
        have hSL := (⟨hSL.1.below b2', hSL.2⟩ : SrcP la L lc t2)
        have c0 := (hBp.cell 0).trans (show _ = some (.int .i64 pa) from rfl)
        have c1 := (hBp.cell 1).trans (show _ = some (.int .i64 pl) from rfl)
        clear b2 b2' hSx hx1 e1 cI
        go_wp2_with fail
        refine (cS.out _ _ _ hSL).mono ?_
        rintro e t3 ⟨u3, rfl, o3, b3⟩
        have e3 := below_step e2 b3
        have o2 := ownP_below o2 b3
        have hBp := hBp.below b3
        have hSL := (⟨hSL.1.below b3, hSL.2⟩ : SrcP la L lc t3)
        clear b3 c0 c1 e2 cS
        go_wp2_with fail
        refine (sM.out _ (hM.out _ e3)).mono ?_
        rintro e t4 ⟨ma, mc, A, na, nc, B, rfl, hAl, hBl, hSA, hSB, b4⟩
        have e4 := below_step e3 b4
        have o2 := ownP_below o2 b4
        have o3 := ownP_below o3 b4
        have hBp := hBp.below b4
        have hSL := (⟨hSL.1.below b4, hSL.2⟩ : SrcP la L lc t4)
        obtain ⟨f3, D, hDl, kS, kI, hF3⟩ := meet_ans A B hAl hBl
        have cS := hide kS
        have cI := hide kI
        have hF3 := hide hF3
        clear kS kI b4 e3
        go_wp2_with fail
        refine (cI.out _ _ _ _ _ hSA hSB).mono ?_
        rintro e t5 ⟨u5, rfl, o5, b5⟩
        have e5 := below_step e4 b5
        have o2 := ownP_below o2 b5
        have o3 := ownP_below o3 b5
        have hBp := hBp.below b5
        have hSL := (⟨hSL.1.below b5, hSL.2⟩ : SrcP la L lc t5)
        have hSA := (⟨hSA.1.below b5, hSA.2⟩ : SrcP ma A mc t5)
        have hSB := (⟨hSB.1.below b5, hSB.2⟩ : SrcP na B nc t5)
        clear b5 e4 cI
        go_wp2_with fail
        refine (cS.out _ _ _ _ _ hSA hSB).mono ?_
        rintro e t6 ⟨u6, rfl, o6, b6⟩
        have e6 := below_step e5 b6
        have o2 := ownP_below o2 b6
        have o3 := ownP_below o3 b6
        have o5 := ownP_below o5 b6
        have hBp := hBp.below b6
        have hSL := (⟨hSL.1.below b6, hSL.2⟩ : SrcP la L lc t6)
        have hSA := (⟨hSA.1.below b6, hSA.2⟩ : SrcP ma A mc t6)
        have hSB := (⟨hSB.1.below b6, hSB.2⟩ : SrcP na B nc t6)
        obtain ⟨ga, gc, rfl, hC⟩ := SrcP.own o2
        obtain ⟨ha, hc, rfl, hC3⟩ := SrcP.own o3
        obtain ⟨ja, jc, rfl, hD⟩ := SrcP.own o5
        obtain ⟨ka, kc, rfl, hD6⟩ := SrcP.own o6
        clear b6 e5 cS o2 o3 o5 o6
        have sP := hide (w_samePrefixes ga ha gc hc C t6 (by omega) hC.1 hC3.1)
        have sQ := hide (fun w' (k : Below t6.heap.size t6 w') => w_samePrefixes ja ka jc kc D w' (by omega) (hD.1.below k) (hD6.1.below k))
        have hne2 : (f2 != f2) = false := by simp
        have hne3 : (f3 != f3) = false := by simp
        go_wp2_with fail
        refine sP.out.mono ?_
        rintro e t7 ⟨rfl, b7⟩
        go_wp2_with fail
        refine (sQ.out _ b7).mono ?_
        rintro e t8 ⟨rfl, b8⟩
        have b8 := below_step b7 b8
        have e8 := below_step e6 b8
        have hBp := hBp.below b8
        have hSL : SrcP la L lc t8 := ⟨hSL.1.below b8, hSL.2⟩
        have hSA : SrcP ma A mc t8 := ⟨hSA.1.below b8, hSA.2⟩
        have hSB : SrcP na B nc t8 := ⟨hSB.1.below b8, hSB.2⟩
        have hC : SrcP ga C gc t8 := ⟨hC.1.below b8, hC.2⟩
        have hD : SrcP ja D jc t8 := ⟨hD.1.below b8, hD.2⟩
        have c0 := (hBp.cell 0).trans (show _ = some (.int .i64 pa) from rfl)
        clear hC3 hD6 sP sQ b7 b8 hne2 hne3 e6
        go_wp2_with fail
        have hlt := hBp.lt
        have dZ : Below t8.heap.size t8 t8 := Below.refl _ _
        go_region_held3 (fun w' => w'.cell? ⟨t1.heap.size, 0, none⟩ = some (.int .i64 pa)) (first | go_keep) ((first | (go_at_call 36; refine (sN.out _ (by first | exact hM.out _ e8 | exact hM.out _ e8.drew | exact hM.out _ (below_drewN e8 _))).mono ?_; rintro e wn ⟨r, hr0, hr1, rfl, hwn⟩; subst hwn)))
        generalize hzz : (IntKind.i64.wrap (IntKind.i64.wrap (r * 4099) + pa)).tmod 4294967296 = z at *
        have hz1 : z < 4294967296 := by rw [← hzz]; exact Int.tmod_lt_of_pos _ (by omega)
        clear hzz hr0 hr1 c0 dZ hlt
        have bT : Below t8.heap.size t8 t8.drew := (Below.refl _ _).drew
        have e9 := below_step e8 bT
        have hBp := hBp.below bT
        have hSL : SrcP la L lc t8.drew := ⟨hSL.1.below bT, hSL.2⟩
        have hSA : SrcP ma A mc t8.drew := ⟨hSA.1.below bT, hSA.2⟩
        have hSB : SrcP na B nc t8.drew := ⟨hSB.1.below bT, hSB.2⟩
        have hC : SrcP ga C gc t8.drew := ⟨hC.1.below bT, hC.2⟩
        have hD : SrcP ja D jc t8.drew := ⟨hD.1.below bT, hD.2⟩
        clear bT e8
        generalize t8.drew = T at *
        by_cases hneg : z < 0
        · have hneg2 : z < 0 := hneg
          have hin : inB 0 0 4294967295 = true := inB_t (by omega) (by omega)
          cases f2 with
          | false =>
            cases f3 with
            | false =>
              go_wp2_with fail
              go_ret
              exact ⟨rfl, e9⟩
            | true =>
              obtain ⟨a1, a2, a3, a4, a5⟩ := hF3.out rfl
              have a5 := a5 0
              have sx := hide (fun w h => i_setHas ma mc A 0 w (by omega) h)
              have sy := hide (fun w h => i_setHas na nc B 0 w (by omega) h)
              have sz := hide (fun w h => i_setHas ja jc D 0 w (by omega) h)
              have sg := hide (fun w h => i_goodSet ja jc D w (by omega) h)
              rw [a1, hin] at sx
              rw [a2, hin] at sy
              rw [a3, hin, a5] at sz
              rw [a3, a4] at sg
              clear a1 a2 a3 a4 a5 hF3
              generalize hasL A 0 = b1 at *
              generalize hasL B 0 = b2 at *
              simp only [Bool.true_and, Bool.and_true] at sx sy sz sg
              have hbb : (b2 != b2) = false := by simp
              cases b1 with
              | false =>
                simp only [Bool.false_and] at sz
                go_wp2_with fail
                refine (sx.out _ hSA.1).mono ?_
                rintro e m1 ⟨rfl, h1⟩
                have k1 := below_step e9 h1
                go_wp2_with fail
                refine (sy.out _ (hSB.1.below h1)).mono ?_
                rintro e m2 ⟨rfl, h2⟩
                have k2 := below_step k1 h2
                have h12 := below_step h1 h2
                go_wp2_with fail
                refine (sz.out _ (hD.1.below h12)).mono ?_
                rintro e m3 ⟨rfl, h3⟩
                have k3 := below_step k2 h3
                have h13 := below_step h12 h3
                go_wp2_with fail
                refine (sg.out _ ⟨hD.1.below h13, hD.2⟩).mono ?_
                rintro e m4 ⟨rfl, h4⟩
                have k4 := below_step k3 h4
                go_wp2_with fail
                go_ret
                exact ⟨rfl, k4⟩
              | true =>
                simp only [Bool.true_and] at sz
                go_wp2_with fail
                refine (sx.out _ hSA.1).mono ?_
                rintro e m1 ⟨rfl, h1⟩
                have k1 := below_step e9 h1
                go_wp2_with fail
                refine (sy.out _ (hSB.1.below h1)).mono ?_
                rintro e m2 ⟨rfl, h2⟩
                have k2 := below_step k1 h2
                have h12 := below_step h1 h2
                go_wp2_with fail
                refine (sz.out _ (hD.1.below h12)).mono ?_
                rintro e m3 ⟨rfl, h3⟩
                have k3 := below_step k2 h3
                have h13 := below_step h12 h3
                go_wp2_with fail
                refine (sg.out _ ⟨hD.1.below h13, hD.2⟩).mono ?_
                rintro e m4 ⟨rfl, h4⟩
                have k4 := below_step k3 h4
                go_wp2_with fail
                go_ret
                exact ⟨rfl, k4⟩
          | true =>
            obtain ⟨a1, a2, a3, a4, a5⟩ := hF2.out rfl
            have a5 := a5 0
            have sx := hide (fun w h => i_setHas la lc L 0 w (by omega) h)
            have sy := hide (fun w => i_hasAddr pa pl 0 w)
            have sz := hide (fun w h => i_setHas ga gc C 0 w (by omega) h)
            have sg := hide (fun w h => i_goodSet ga gc C w (by omega) h)
            rw [a1, hin] at sx
            rw [a2, hin] at sy
            rw [a3, hin, a5] at sz
            rw [a3, a4] at sg
            clear a1 a2 a3 a4 a5 hF2
            generalize hasL L 0 = b1 at *
            generalize hasB pa pl 0 = b2 at *
            simp only [Bool.true_and, Bool.and_true] at sx sy sz sg
            have hbb : ((!b2) != (!b2)) = false := by simp
            cases b1 with
            | false =>
              simp only [Bool.false_and] at sz
              go_wp2_with fail
              refine (sx.out _ hSL.1).mono ?_
              rintro e n1 ⟨rfl, h1⟩
              have k1 := below_step e9 h1
              have hB1 := hBp.below h1
              have c0 := (hB1.cell 0).trans (show _ = some (.int .i64 pa) from rfl)
              have c1 := (hB1.cell 1).trans (show _ = some (.int .i64 pl) from rfl)
              go_wp2_with fail
              refine (sy.out _).mono ?_
              rintro e n2 ⟨rfl, h2⟩
              have k2 := below_step k1 h2
              have h12 := below_step h1 h2
              clear c0 c1 hB1
              go_wp2_with fail
              refine (sz.out _ (hC.1.below h12)).mono ?_
              rintro e n3 ⟨rfl, h3⟩
              have k3 := below_step k2 h3
              have h13 := below_step h12 h3
              go_wp2_with fail
              refine (sg.out _ ⟨hC.1.below h13, hC.2⟩).mono ?_
              rintro e n4 ⟨rfl, h4⟩
              have k4 := below_step k3 h4
              have h14 := below_step h13 h4
              have hSA : SrcP ma A mc n4 := ⟨hSA.1.below h14, hSA.2⟩
              have hSB : SrcP na B nc n4 := ⟨hSB.1.below h14, hSB.2⟩
              have hD : SrcP ja D jc n4 := ⟨hD.1.below h14, hD.2⟩
              clear h1 h2 h3 h4 h12 h13 h14 k1 k2 k3 sx sy sz sg hbb
              cases f3 with
              | false =>
                go_wp2_with fail
                go_ret
                exact ⟨rfl, k4⟩
              | true =>
                obtain ⟨a1, a2, a3, a4, a5⟩ := hF3.out rfl
                have a5 := a5 0
                have sx := hide (fun w h => i_setHas ma mc A 0 w (by omega) h)
                have sy := hide (fun w h => i_setHas na nc B 0 w (by omega) h)
                have sz := hide (fun w h => i_setHas ja jc D 0 w (by omega) h)
                have sg := hide (fun w h => i_goodSet ja jc D w (by omega) h)
                rw [a1, hin] at sx
                rw [a2, hin] at sy
                rw [a3, hin, a5] at sz
                rw [a3, a4] at sg
                clear a1 a2 a3 a4 a5 hF3
                generalize hasL A 0 = b1 at *
                generalize hasL B 0 = b2 at *
                simp only [Bool.true_and, Bool.and_true] at sx sy sz sg
                have hbb : (b2 != b2) = false := by simp
                cases b1 with
                | false =>
                  simp only [Bool.false_and] at sz
                  go_wp2_with fail
                  refine (sx.out _ hSA.1).mono ?_
                  rintro e m1 ⟨rfl, h1⟩
                  have k1 := below_step k4 h1
                  go_wp2_with fail
                  refine (sy.out _ (hSB.1.below h1)).mono ?_
                  rintro e m2 ⟨rfl, h2⟩
                  have k2 := below_step k1 h2
                  have h12 := below_step h1 h2
                  go_wp2_with fail
                  refine (sz.out _ (hD.1.below h12)).mono ?_
                  rintro e m3 ⟨rfl, h3⟩
                  have k3 := below_step k2 h3
                  have h13 := below_step h12 h3
                  go_wp2_with fail
                  refine (sg.out _ ⟨hD.1.below h13, hD.2⟩).mono ?_
                  rintro e m4 ⟨rfl, h4⟩
                  have k4 := below_step k3 h4
                  go_wp2_with fail
                  go_ret
                  exact ⟨rfl, k4⟩
                | true =>
                  simp only [Bool.true_and] at sz
                  go_wp2_with fail
                  refine (sx.out _ hSA.1).mono ?_
                  rintro e m1 ⟨rfl, h1⟩
                  have k1 := below_step k4 h1
                  go_wp2_with fail
                  refine (sy.out _ (hSB.1.below h1)).mono ?_
                  rintro e m2 ⟨rfl, h2⟩
                  have k2 := below_step k1 h2
                  have h12 := below_step h1 h2
                  go_wp2_with fail
                  refine (sz.out _ (hD.1.below h12)).mono ?_
                  rintro e m3 ⟨rfl, h3⟩
                  have k3 := below_step k2 h3
                  have h13 := below_step h12 h3
                  go_wp2_with fail
                  refine (sg.out _ ⟨hD.1.below h13, hD.2⟩).mono ?_
                  rintro e m4 ⟨rfl, h4⟩
                  have k4 := below_step k3 h4
                  go_wp2_with fail
                  go_ret
                  exact ⟨rfl, k4⟩
            | true =>
              simp only [Bool.true_and] at sz
              go_wp2_with fail
              refine (sx.out _ hSL.1).mono ?_
              rintro e n1 ⟨rfl, h1⟩
              have k1 := below_step e9 h1
              have hB1 := hBp.below h1
              have c0 := (hB1.cell 0).trans (show _ = some (.int .i64 pa) from rfl)
              have c1 := (hB1.cell 1).trans (show _ = some (.int .i64 pl) from rfl)
              go_wp2_with fail
              refine (sy.out _).mono ?_
              rintro e n2 ⟨rfl, h2⟩
              have k2 := below_step k1 h2
              have h12 := below_step h1 h2
              clear c0 c1 hB1
              go_wp2_with fail
              refine (sz.out _ (hC.1.below h12)).mono ?_
              rintro e n3 ⟨rfl, h3⟩
              have k3 := below_step k2 h3
              have h13 := below_step h12 h3
              go_wp2_with fail
              refine (sg.out _ ⟨hC.1.below h13, hC.2⟩).mono ?_
              rintro e n4 ⟨rfl, h4⟩
              have k4 := below_step k3 h4
              have h14 := below_step h13 h4
              have hSA : SrcP ma A mc n4 := ⟨hSA.1.below h14, hSA.2⟩
              have hSB : SrcP na B nc n4 := ⟨hSB.1.below h14, hSB.2⟩
              have hD : SrcP ja D jc n4 := ⟨hD.1.below h14, hD.2⟩
              clear h1 h2 h3 h4 h12 h13 h14 k1 k2 k3 sx sy sz sg hbb
              cases f3 with
              | false =>
                go_wp2_with fail
                go_ret
                exact ⟨rfl, k4⟩
              | true =>
                obtain ⟨a1, a2, a3, a4, a5⟩ := hF3.out rfl
                have a5 := a5 0
                have sx := hide (fun w h => i_setHas ma mc A 0 w (by omega) h)
                have sy := hide (fun w h => i_setHas na nc B 0 w (by omega) h)
                have sz := hide (fun w h => i_setHas ja jc D 0 w (by omega) h)
                have sg := hide (fun w h => i_goodSet ja jc D w (by omega) h)
                rw [a1, hin] at sx
                rw [a2, hin] at sy
                rw [a3, hin, a5] at sz
                rw [a3, a4] at sg
                clear a1 a2 a3 a4 a5 hF3
                generalize hasL A 0 = b1 at *
                generalize hasL B 0 = b2 at *
                simp only [Bool.true_and, Bool.and_true] at sx sy sz sg
                have hbb : (b2 != b2) = false := by simp
                cases b1 with
                | false =>
                  simp only [Bool.false_and] at sz
                  go_wp2_with fail
                  refine (sx.out _ hSA.1).mono ?_
                  rintro e m1 ⟨rfl, h1⟩
                  have k1 := below_step k4 h1
                  go_wp2_with fail
                  refine (sy.out _ (hSB.1.below h1)).mono ?_
                  rintro e m2 ⟨rfl, h2⟩
                  have k2 := below_step k1 h2
                  have h12 := below_step h1 h2
                  go_wp2_with fail
                  refine (sz.out _ (hD.1.below h12)).mono ?_
                  rintro e m3 ⟨rfl, h3⟩
                  have k3 := below_step k2 h3
                  have h13 := below_step h12 h3
                  go_wp2_with fail
                  refine (sg.out _ ⟨hD.1.below h13, hD.2⟩).mono ?_
                  rintro e m4 ⟨rfl, h4⟩
                  have k4 := below_step k3 h4
                  go_wp2_with fail
                  go_ret
                  exact ⟨rfl, k4⟩
                | true =>
                  simp only [Bool.true_and] at sz
                  go_wp2_with fail
                  refine (sx.out _ hSA.1).mono ?_
                  rintro e m1 ⟨rfl, h1⟩
                  have k1 := below_step k4 h1
                  go_wp2_with fail
                  refine (sy.out _ (hSB.1.below h1)).mono ?_
                  rintro e m2 ⟨rfl, h2⟩
                  have k2 := below_step k1 h2
                  have h12 := below_step h1 h2
                  go_wp2_with fail
                  refine (sz.out _ (hD.1.below h12)).mono ?_
                  rintro e m3 ⟨rfl, h3⟩
                  have k3 := below_step k2 h3
                  have h13 := below_step h12 h3
                  go_wp2_with fail
                  refine (sg.out _ ⟨hD.1.below h13, hD.2⟩).mono ?_
                  rintro e m4 ⟨rfl, h4⟩
                  have k4 := below_step k3 h4
                  go_wp2_with fail
                  go_ret
                  exact ⟨rfl, k4⟩
        · have hneg2 : ¬ z < 0 := hneg
          have hin : inB z 0 4294967295 = true := inB_t (by omega) (by omega)
          cases f2 with
          | false =>
            cases f3 with
            | false =>
              go_wp2_with fail
              go_ret
              exact ⟨rfl, e9⟩
            | true =>
              obtain ⟨a1, a2, a3, a4, a5⟩ := hF3.out rfl
              have a5 := a5 z
              have sx := hide (fun w h => i_setHas ma mc A z w (by omega) h)
              have sy := hide (fun w h => i_setHas na nc B z w (by omega) h)
              have sz := hide (fun w h => i_setHas ja jc D z w (by omega) h)
              have sg := hide (fun w h => i_goodSet ja jc D w (by omega) h)
              rw [a1, hin] at sx
              rw [a2, hin] at sy
              rw [a3, hin, a5] at sz
              rw [a3, a4] at sg
              clear a1 a2 a3 a4 a5 hF3
              generalize hasL A z = b1 at *
              generalize hasL B z = b2 at *
              simp only [Bool.true_and, Bool.and_true] at sx sy sz sg
              have hbb : (b2 != b2) = false := by simp
              cases b1 with
              | false =>
                simp only [Bool.false_and] at sz
                go_wp2_with fail
                refine (sx.out _ hSA.1).mono ?_
                rintro e m1 ⟨rfl, h1⟩
                have k1 := below_step e9 h1
                go_wp2_with fail
                refine (sy.out _ (hSB.1.below h1)).mono ?_
                rintro e m2 ⟨rfl, h2⟩
                have k2 := below_step k1 h2
                have h12 := below_step h1 h2
                go_wp2_with fail
                refine (sz.out _ (hD.1.below h12)).mono ?_
                rintro e m3 ⟨rfl, h3⟩
                have k3 := below_step k2 h3
                have h13 := below_step h12 h3
                go_wp2_with fail
                refine (sg.out _ ⟨hD.1.below h13, hD.2⟩).mono ?_
                rintro e m4 ⟨rfl, h4⟩
                have k4 := below_step k3 h4
                go_wp2_with fail
                go_ret
                exact ⟨rfl, k4⟩
              | true =>
                simp only [Bool.true_and] at sz
                go_wp2_with fail
                refine (sx.out _ hSA.1).mono ?_
                rintro e m1 ⟨rfl, h1⟩
                have k1 := below_step e9 h1
                go_wp2_with fail
                refine (sy.out _ (hSB.1.below h1)).mono ?_
                rintro e m2 ⟨rfl, h2⟩
                have k2 := below_step k1 h2
                have h12 := below_step h1 h2
                go_wp2_with fail
                refine (sz.out _ (hD.1.below h12)).mono ?_
                rintro e m3 ⟨rfl, h3⟩
                have k3 := below_step k2 h3
                have h13 := below_step h12 h3
                go_wp2_with fail
                refine (sg.out _ ⟨hD.1.below h13, hD.2⟩).mono ?_
                rintro e m4 ⟨rfl, h4⟩
                have k4 := below_step k3 h4
                go_wp2_with fail
                go_ret
                exact ⟨rfl, k4⟩
          | true =>
            obtain ⟨a1, a2, a3, a4, a5⟩ := hF2.out rfl
            have a5 := a5 z
            have sx := hide (fun w h => i_setHas la lc L z w (by omega) h)
            have sy := hide (fun w => i_hasAddr pa pl z w)
            have sz := hide (fun w h => i_setHas ga gc C z w (by omega) h)
            have sg := hide (fun w h => i_goodSet ga gc C w (by omega) h)
            rw [a1, hin] at sx
            rw [a2, hin] at sy
            rw [a3, hin, a5] at sz
            rw [a3, a4] at sg
            clear a1 a2 a3 a4 a5 hF2
            generalize hasL L z = b1 at *
            generalize hasB pa pl z = b2 at *
            simp only [Bool.true_and, Bool.and_true] at sx sy sz sg
            have hbb : ((!b2) != (!b2)) = false := by simp
            cases b1 with
            | false =>
              simp only [Bool.false_and] at sz
              go_wp2_with fail
              refine (sx.out _ hSL.1).mono ?_
              rintro e n1 ⟨rfl, h1⟩
              have k1 := below_step e9 h1
              have hB1 := hBp.below h1
              have c0 := (hB1.cell 0).trans (show _ = some (.int .i64 pa) from rfl)
              have c1 := (hB1.cell 1).trans (show _ = some (.int .i64 pl) from rfl)
              go_wp2_with fail
              refine (sy.out _).mono ?_
              rintro e n2 ⟨rfl, h2⟩
              have k2 := below_step k1 h2
              have h12 := below_step h1 h2
              clear c0 c1 hB1
              go_wp2_with fail
              refine (sz.out _ (hC.1.below h12)).mono ?_
              rintro e n3 ⟨rfl, h3⟩
              have k3 := below_step k2 h3
              have h13 := below_step h12 h3
              go_wp2_with fail
              refine (sg.out _ ⟨hC.1.below h13, hC.2⟩).mono ?_
              rintro e n4 ⟨rfl, h4⟩
              have k4 := below_step k3 h4
              have h14 := below_step h13 h4
              have hSA : SrcP ma A mc n4 := ⟨hSA.1.below h14, hSA.2⟩
              have hSB : SrcP na B nc n4 := ⟨hSB.1.below h14, hSB.2⟩
              have hD : SrcP ja D jc n4 := ⟨hD.1.below h14, hD.2⟩
              clear h1 h2 h3 h4 h12 h13 h14 k1 k2 k3 sx sy sz sg hbb
              cases f3 with
              | false =>
                go_wp2_with fail
                go_ret
                exact ⟨rfl, k4⟩
              | true =>
                obtain ⟨a1, a2, a3, a4, a5⟩ := hF3.out rfl
                have a5 := a5 z
                have sx := hide (fun w h => i_setHas ma mc A z w (by omega) h)
                have sy := hide (fun w h => i_setHas na nc B z w (by omega) h)
                have sz := hide (fun w h => i_setHas ja jc D z w (by omega) h)
                have sg := hide (fun w h => i_goodSet ja jc D w (by omega) h)
                rw [a1, hin] at sx
                rw [a2, hin] at sy
                rw [a3, hin, a5] at sz
                rw [a3, a4] at sg
                clear a1 a2 a3 a4 a5 hF3
                generalize hasL A z = b1 at *
                generalize hasL B z = b2 at *
                simp only [Bool.true_and, Bool.and_true] at sx sy sz sg
                have hbb : (b2 != b2) = false := by simp
                cases b1 with
                | false =>
                  simp only [Bool.false_and] at sz
                  go_wp2_with fail
                  refine (sx.out _ hSA.1).mono ?_
                  rintro e m1 ⟨rfl, h1⟩
                  have k1 := below_step k4 h1
                  go_wp2_with fail
                  refine (sy.out _ (hSB.1.below h1)).mono ?_
                  rintro e m2 ⟨rfl, h2⟩
                  have k2 := below_step k1 h2
                  have h12 := below_step h1 h2
                  go_wp2_with fail
                  refine (sz.out _ (hD.1.below h12)).mono ?_
                  rintro e m3 ⟨rfl, h3⟩
                  have k3 := below_step k2 h3
                  have h13 := below_step h12 h3
                  go_wp2_with fail
                  refine (sg.out _ ⟨hD.1.below h13, hD.2⟩).mono ?_
                  rintro e m4 ⟨rfl, h4⟩
                  have k4 := below_step k3 h4
                  go_wp2_with fail
                  go_ret
                  exact ⟨rfl, k4⟩
                | true =>
                  simp only [Bool.true_and] at sz
                  go_wp2_with fail
                  refine (sx.out _ hSA.1).mono ?_
                  rintro e m1 ⟨rfl, h1⟩
                  have k1 := below_step k4 h1
                  go_wp2_with fail
                  refine (sy.out _ (hSB.1.below h1)).mono ?_
                  rintro e m2 ⟨rfl, h2⟩
                  have k2 := below_step k1 h2
                  have h12 := below_step h1 h2
                  go_wp2_with fail
                  refine (sz.out _ (hD.1.below h12)).mono ?_
                  rintro e m3 ⟨rfl, h3⟩
                  have k3 := below_step k2 h3
                  have h13 := below_step h12 h3
                  go_wp2_with fail
                  refine (sg.out _ ⟨hD.1.below h13, hD.2⟩).mono ?_
                  rintro e m4 ⟨rfl, h4⟩
                  have k4 := below_step k3 h4
                  go_wp2_with fail
                  go_ret
                  exact ⟨rfl, k4⟩
            | true =>
              simp only [Bool.true_and] at sz
              go_wp2_with fail
              refine (sx.out _ hSL.1).mono ?_
              rintro e n1 ⟨rfl, h1⟩
              have k1 := below_step e9 h1
              have hB1 := hBp.below h1
              have c0 := (hB1.cell 0).trans (show _ = some (.int .i64 pa) from rfl)
              have c1 := (hB1.cell 1).trans (show _ = some (.int .i64 pl) from rfl)
              go_wp2_with fail
              refine (sy.out _).mono ?_
              rintro e n2 ⟨rfl, h2⟩
              have k2 := below_step k1 h2
              have h12 := below_step h1 h2
              clear c0 c1 hB1
              go_wp2_with fail
              refine (sz.out _ (hC.1.below h12)).mono ?_
              rintro e n3 ⟨rfl, h3⟩
              have k3 := below_step k2 h3
              have h13 := below_step h12 h3
              go_wp2_with fail
              refine (sg.out _ ⟨hC.1.below h13, hC.2⟩).mono ?_
              rintro e n4 ⟨rfl, h4⟩
              have k4 := below_step k3 h4
              have h14 := below_step h13 h4
              have hSA : SrcP ma A mc n4 := ⟨hSA.1.below h14, hSA.2⟩
              have hSB : SrcP na B nc n4 := ⟨hSB.1.below h14, hSB.2⟩
              have hD : SrcP ja D jc n4 := ⟨hD.1.below h14, hD.2⟩
              clear h1 h2 h3 h4 h12 h13 h14 k1 k2 k3 sx sy sz sg hbb
              cases f3 with
              | false =>
                go_wp2_with fail
                go_ret
                exact ⟨rfl, k4⟩
              | true =>
                obtain ⟨a1, a2, a3, a4, a5⟩ := hF3.out rfl
                have a5 := a5 z
                have sx := hide (fun w h => i_setHas ma mc A z w (by omega) h)
                have sy := hide (fun w h => i_setHas na nc B z w (by omega) h)
                have sz := hide (fun w h => i_setHas ja jc D z w (by omega) h)
                have sg := hide (fun w h => i_goodSet ja jc D w (by omega) h)
                rw [a1, hin] at sx
                rw [a2, hin] at sy
                rw [a3, hin, a5] at sz
                rw [a3, a4] at sg
                clear a1 a2 a3 a4 a5 hF3
                generalize hasL A z = b1 at *
                generalize hasL B z = b2 at *
                simp only [Bool.true_and, Bool.and_true] at sx sy sz sg
                have hbb : (b2 != b2) = false := by simp
                cases b1 with
                | false =>
                  simp only [Bool.false_and] at sz
                  go_wp2_with fail
                  refine (sx.out _ hSA.1).mono ?_
                  rintro e m1 ⟨rfl, h1⟩
                  have k1 := below_step k4 h1
                  go_wp2_with fail
                  refine (sy.out _ (hSB.1.below h1)).mono ?_
                  rintro e m2 ⟨rfl, h2⟩
                  have k2 := below_step k1 h2
                  have h12 := below_step h1 h2
                  go_wp2_with fail
                  refine (sz.out _ (hD.1.below h12)).mono ?_
                  rintro e m3 ⟨rfl, h3⟩
                  have k3 := below_step k2 h3
                  have h13 := below_step h12 h3
                  go_wp2_with fail
                  refine (sg.out _ ⟨hD.1.below h13, hD.2⟩).mono ?_
                  rintro e m4 ⟨rfl, h4⟩
                  have k4 := below_step k3 h4
                  go_wp2_with fail
                  go_ret
                  exact ⟨rfl, k4⟩
                | true =>
                  simp only [Bool.true_and] at sz
                  go_wp2_with fail
                  refine (sx.out _ hSA.1).mono ?_
                  rintro e m1 ⟨rfl, h1⟩
                  have k1 := below_step k4 h1
                  go_wp2_with fail
                  refine (sy.out _ (hSB.1.below h1)).mono ?_
                  rintro e m2 ⟨rfl, h2⟩
                  have k2 := below_step k1 h2
                  have h12 := below_step h1 h2
                  go_wp2_with fail
                  refine (sz.out _ (hD.1.below h12)).mono ?_
                  rintro e m3 ⟨rfl, h3⟩
                  have k3 := below_step k2 h3
                  have h13 := below_step h12 h3
                  go_wp2_with fail
                  refine (sg.out _ ⟨hD.1.below h13, hD.2⟩).mono ?_
                  rintro e m4 ⟨rfl, h4⟩
                  have k4 := below_step k3 h4
                  go_wp2_with fail
                  go_ret
                  exact ⟨rfl, k4⟩
end Go.Proofs.Ytlflfloopomaiaa
