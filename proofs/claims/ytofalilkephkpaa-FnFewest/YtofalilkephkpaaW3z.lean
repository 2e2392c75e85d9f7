/- The law on the fewest prefixes, walked out of what the functions answer. -/
import Derived.Test.YtofalilkephkpaaW3v
import Derived.Test.YtofalilkephkpaaW3y
import Derived.Test.YtofalilkephkpaaW3za
import Derived.Test.YtofalilkephkpaaDraw3e
import Derived.Test.YtofalilkephkpaaDraw3f
namespace Go.Proofs.Ytofalilkephkpaa
open Go.RowKit

theorem pw_shift (l : Int) (h0 : 0 ≤ l) (_h1 : l ≤ 32) : IntKind.i64.wrap (2 ^ (32 - l).toNat) = pw l := by
  rw [wrapk_in _ ?_]
  · rfl
  · have := pw_le l h0
    have := pw_pos l
    unfold pw at this
    unfold pw at *
    omega
set_option maxRecDepth 100000 in
set_option maxHeartbeats 25600000 in
theorem w_fewest (v1 v2 : Value) (len1 len2 : Nat) (w : World) (hby1 : BytesAt w.heap.size w v1 len1) (hby2 : BytesAt w.heap.size w v2 len2) :
    Calls Try.prog 3 #[v1, v2] w fun e w' => e = .returned (.bool true) ∧ Below w.heap.size w w' := by
  have hA := hide (fun w' (k : Below w.heap.size w w') => bytes_to3 hby1 k k.size)
  have hM := hide (fun w' (k : Below w.heap.size w w') => bytes_to3 hby2 k k.size)
  obtain ⟨p1, cap1, rfl, hl1, _⟩ := hby1
  obtain ⟨p2, cap2, rfl, hl2, _⟩ := hby2
  unfold maxLen at hl1 hl2
  have sD := hide (fun w h => d_same (.slice p1 len1 cap1) len1 w h)
  have sH := hide (fun w h => d_setHas (.slice p2 len2 cap2) len2 w h)
  have sG := hide (fun w h => d_goodSet (.slice p2 len2 cap2) len2 w h)
  have d0 : Below w.heap.size w w := Below.refl _ _
  go_enter Try.func3, Try.ntmps3
  go_wp2_with fail
  · go_ret
    exact ⟨rfl, d0⟩
  clear hl1 hl2
  refine (sD.out _ (hA.out _ d0)).mono ?_
  rintro e w1 ⟨aa, ac, A, ba, bc, B, rfl, hAl, hBl, SA, SB, b1⟩
  obtain ⟨sm, ok, kS, kI, hok, hsm, hsn⟩ := same_ans A B hAl hBl
  obtain ⟨R, hRl, fS, fI, hF⟩ := few_ans A hAl
  have cSs := hide kS
  have cSi := hide kI
  have cFs := hide fS
  have cFi := hide fI
  have cCi := hide (fun w h => i_countAddrs aa ac A w (by omega) h)
  have cCs := hide (fun w h => s_countAddrs aa ac A w (by omega) h)
  have hFh := hide hF
  clear hF
  have hokh := hide hok
  have hsmh := hide hsm
  have hsnh := hide hsn
  have hcnt : Hid (∀ h : goodL A = true, (if goodL A then sumP (fewS A) else 0) = sumP R) := fun h => by rw [if_pos h, (hFh.out h).1]
  have dW := below_step d0 b1
  clear kS kI fS fI hok hsm hsn sD hA b1 d0
  generalize hgA : goodL A = gA at *
  have hgAh := hide hgA
  clear hgA
  generalize (if gA = true then sumP (fewS A) else 0) = cnt at *
  have n1 : (ok != ok) = false := by simp
  have n2 : (sm != sm) = false := by simp
  have n3 : (gA != gA) = false := by simp
  have n4 : (cnt != cnt) = false := by simp
  go_wp2_with fail
  refine (cSi.out _ _ _ _ _ SA SB).mono ?_
  rintro e w2 ⟨rfl, b2⟩
  have d2 := below_step dW b2
  have SA : SrcP aa A ac w2 := ⟨SA.1.below b2, SA.2⟩
  have SB : SrcP ba B bc w2 := ⟨SB.1.below b2, SB.2⟩
  clear b2
  go_wp2_with fail
  refine (cSs.out _ _ _ _ _ SA SB).mono ?_
  rintro e w3 ⟨rfl, b3⟩
  have d3 := below_step d2 b3
  have SA : SrcP aa A ac w3 := ⟨SA.1.below b3, SA.2⟩
  have SB : SrcP ba B bc w3 := ⟨SB.1.below b3, SB.2⟩
  clear b3
  go_wp2_with fail
  refine (cFi.out _ _ _ SA).mono ?_
  rintro e w4 ⟨u4, rfl, o4, b4⟩
  obtain ⟨ra, rc, rfl, SR⟩ := SrcP.own o4
  have d4 := below_step d3 b4
  have SA : SrcP aa A ac w4 := ⟨SA.1.below b4, SA.2⟩
  have SB : SrcP ba B bc w4 := ⟨SB.1.below b4, SB.2⟩
  clear b4 o4
  go_wp2_with fail
  refine (cFs.out _ _ _ SA).mono ?_
  rintro e w5 ⟨u5, rfl, o5, b5⟩
  obtain ⟨qa, qc, rfl, SQ⟩ := SrcP.own o5
  have d5 := below_step d4 b5
  have SA : SrcP aa A ac w5 := ⟨SA.1.below b5, SA.2⟩
  have SB : SrcP ba B bc w5 := ⟨SB.1.below b5, SB.2⟩
  have SR : SrcP ra R rc w5 := ⟨SR.1.below b5, SR.2⟩
  clear b5 o5
  go_wp2_with fail
  refine (cCi.out _ SA).mono ?_
  rintro e w6 ⟨rfl, b6⟩
  have d6 := below_step d5 b6
  have SA : SrcP aa A ac w6 := ⟨SA.1.below b6, SA.2⟩
  have SB : SrcP ba B bc w6 := ⟨SB.1.below b6, SB.2⟩
  have SR : SrcP ra R rc w6 := ⟨SR.1.below b6, SR.2⟩
  have SQ : SrcP qa R qc w6 := ⟨SQ.1.below b6, SQ.2⟩
  clear b6
  go_wp2_with fail
  refine (cCs.out _ SA.1).mono ?_
  rintro e w7 ⟨rfl, b7⟩
  have d7 := below_step d6 b7
  have SA : SrcP aa A ac w7 := ⟨SA.1.below b7, SA.2⟩
  have SB : SrcP ba B bc w7 := ⟨SB.1.below b7, SB.2⟩
  have SR : SrcP ra R rc w7 := ⟨SR.1.below b7, SR.2⟩
  have SQ : SrcP qa R qc w7 := ⟨SQ.1.below b7, SQ.2⟩
  clear b7
  have sP := hide (fun w h1 h2 => w_samePrefixes ra qa rc qc R w (by omega) h1 h2)
  go_wp2_with fail
  refine (sP.out _ SR.1 SQ.1).mono ?_
  rintro e w8 ⟨rfl, b8⟩
  have d8 := below_step d7 b8
  have SA : SrcP aa A ac w8 := ⟨SA.1.below b8, SA.2⟩
  have SB : SrcP ba B bc w8 := ⟨SB.1.below b8, SB.2⟩
  have SR : SrcP ra R rc w8 := ⟨SR.1.below b8, SR.2⟩
  have SQ : SrcP qa R qc w8 := ⟨SQ.1.below b8, SQ.2⟩
  clear b8
  clear SQ sP cSs cFs cCi cCs
  cases gA with
  | false =>
    obtain rfl : ok = false := by rw [hokh.out]; rfl
    clear cFi cSi hFh hcnt hokh hsmh hsnh SA SB SR hgAh
    go_wp2_with fail
    refine (sH.out _ (hM.out _ d8)).mono ?_
    rintro e t1 ⟨la, lc, z, L, rfl, hz, hLl, SL, c1⟩
    have e1 := below_step d8 c1
    have iH := hide (fun w h => i_setHas la lc L z w (by omega) h)
    have kH := hide (fun w h => s_setHas la lc L z w (by omega) h)
    obtain ⟨V, hVl, _, fV, hFV⟩ := few_ans L hLl
    have fVh := hide fV
    have hFVh := hide hFV
    clear c1 fV hFV
    generalize hgL : goodL L = gL at *
    have hgLh := hide hgL
    clear hgL
    have iX : Hid (gL = true → ∀ va vc w, SrcP va V vc w → Calls Try.prog 25 #[.slice va V.length vc, .int .i64 z] w fun e w' => e = .returned (.tuple #[.bool (gL && inB z 0 4294967295 && hasL L z), .bool (gL && inB z 0 4294967295)]) ∧ Below w.heap.size w w') := by
      intro h va vc w hS
      obtain ⟨_, v1, _, _, _, _, v2⟩ := hFVh.out h
      have k := i_setHas va vc V z w (by omega) hS.1
      rw [v1, v2] at k
      rw [h]
      exact k
    generalize hx1 : (gL && inB z 0 4294967295 && hasL L z) = x1 at *
    generalize hx2 : (gL && inB z 0 4294967295) = x2 at *
    have hx2h := hide hx2
    clear hx1 hx2 hFVh
    have m1 : (x1 != x1) = false := by simp
    have m2 : (x2 != x2) = false := by simp
    go_wp2_with fail
    refine (iH.out _ SL.1).mono ?_
    rintro e t2 ⟨rfl, c2⟩
    have e2 := below_step e1 c2
    have SL : SrcP la L lc t2 := ⟨SL.1.below c2, SL.2⟩
    clear c2
    go_wp2_with fail
    refine (kH.out _ SL.1).mono ?_
    rintro e t3 ⟨rfl, c3⟩
    have e3 := below_step e2 c3
    have SL : SrcP la L lc t3 := ⟨SL.1.below c3, SL.2⟩
    clear c3 iH kH
    cases x2 with
    | false =>
      go_wp2_with fail
      refine (sG.out _ (hM.out _ e3)).mono ?_
      rintro e r1 ⟨ga, gc, G, rfl, hGl, SG, c6⟩
      have f1 := below_step e3 c6
      have iG := hide (fun w h => i_goodSet ga gc G w (by omega) h)
      have kG := hide (fun w h => s_goodSet ga gc G w (by omega) h)
      generalize (goodL G && gsB G) = xg at *
      have mg : (xg == xg) = true := by simp
      clear c6
      go_wp2_with fail
      refine (iG.out _ SG).mono ?_
      rintro e r2 ⟨rfl, c7⟩
      have f2 := below_step f1 c7
      go_wp2_with fail
      refine (kG.out _ (SG.1.below c7)).mono ?_
      rintro e r3 ⟨rfl, c8⟩
      have f3 := below_step f2 c8
      go_wp2_with fail
      go_ret
      exact ⟨ret_bool (by first | rfl | simp), f3⟩
    | true =>
      have hgt : gL = true := by
        have := hx2h.out
        cases hq : gL with
        | true => rfl
        | false => rw [hq] at this; simp at this
      subst hgt
      have iY := hide (iX.out rfl)
      go_wp2_with fail
      refine (fVh.out _ _ _ SL).mono ?_
      rintro e t4 ⟨u4_, rfl, o4_, c4⟩
      obtain ⟨va, vc, rfl, SV⟩ := SrcP.own o4_
      have e4 := below_step e3 c4
      clear c4 o4_
      go_wp2_with fail
      refine (iY.out _ _ _ SV).mono ?_
      rintro e t5 ⟨rfl, c5⟩
      have e5 := below_step e4 c5
      clear c5
      go_wp2_with fail
      refine (sG.out _ (hM.out _ e5)).mono ?_
      rintro e r1 ⟨ga, gc, G, rfl, hGl, SG, c6⟩
      have f1 := below_step e5 c6
      have iG := hide (fun w h => i_goodSet ga gc G w (by omega) h)
      have kG := hide (fun w h => s_goodSet ga gc G w (by omega) h)
      generalize (goodL G && gsB G) = xg at *
      have mg : (xg == xg) = true := by simp
      clear c6
      go_wp2_with fail
      refine (iG.out _ SG).mono ?_
      rintro e r2 ⟨rfl, c7⟩
      have f2 := below_step f1 c7
      go_wp2_with fail
      refine (kG.out _ (SG.1.below c7)).mono ?_
      rintro e r3 ⟨rfl, c8⟩
      have f3 := below_step f2 c8
      go_wp2_with fail
      go_ret
      exact ⟨ret_bool (by first | rfl | simp), f3⟩
  | true =>
    obtain ⟨r1, r2, r3, r4, r5, r6, r7⟩   := hFh.out rfl
    have hcn := hide (hcnt.out rfl)
    have r1h := hide r1
    have fR := hide (fun w h => i_fewestOf_yes ra rc R w h r2)
    rw [r4] at fR
    have sR := hide (fun w h1 h2 => i_sameAddrs_yes aa ac A ra rc R w h1 h2 hgAh.out r2)
    rw [r4, ← r1] at sR
    simp only [decide_true] at sR
    have gR := hide (fun w h => i_goodSet ra rc R w (by omega) h)
    rw [r2, r3] at gR
    have r5i : ¬ ((R.length : Int) > (A.length : Int)) := by omega
    have r6h := hide r6
    clear r1 r2 r3 r4 r5 r6 r7 hFh hcnt
    go_wp2_with fail
    refine (fR.out _ SR).mono ?_
    rintro e w9 ⟨u9, rfl, o9, b9⟩
    obtain ⟨ta, tc, rfl, ST⟩ := SrcP.own o9
    have d9 := below_step d8 b9
    have SA : SrcP aa A ac w9 := ⟨SA.1.below b9, SA.2⟩
    have SB : SrcP ba B bc w9 := ⟨SB.1.below b9, SB.2⟩
    have SR : SrcP ra R rc w9 := ⟨SR.1.below b9, SR.2⟩
    clear b9 o9 fR
    go_wp2_with fail
    refine (sR.out _ SA SR).mono ?_
    rintro e w10 ⟨rfl, b10⟩
    have d10 := below_step d9 b10
    have SA : SrcP aa A ac w10 := ⟨SA.1.below b10, SA.2⟩
    have SB : SrcP ba B bc w10 := ⟨SB.1.below b10, SB.2⟩
    have SR : SrcP ra R rc w10 := ⟨SR.1.below b10, SR.2⟩
    have ST : SrcP ta R tc w10 := ⟨ST.1.below b10, ST.2⟩
    clear b10
    clear sR
    go_wp2_with fail
    go_loopw [23, 25, 125] (fun s _ i wr => ∃ k : Nat, k ≤ R.length ∧ i = .int .i64 k ∧ s = .int .i64 (sumP (R.take k)) ∧ Below w10.heap.size w10 wr) (fun _ _ i _ => R.length - (intOf i).toNat)
    case atStart => exact ⟨0, Nat.zero_le _, rfl, rfl, Below.refl _ _⟩
    case round =>
      obtain ⟨k, hk, rfl, rfl, hb⟩ := hrel
      by_cases hlt : k < R.length
      · obtain ⟨b, off, rfl, hbw2, e0, e1⟩ := (SR.1.below hb) k hlt
        have hlt' : (k : Int) < (R.length : Int) := by omega
        have gq := r6h.out _ (pAt_mem hlt)
        have hN := hide (sum_next hlt)
        have hbd := sum_bd0 (R.take k) 0 (fun q hq => (r6h.out q (List.mem_of_mem_take hq)).1)
        have hsm_ : Hid (sumP (R.take k) = (R.take k).foldl (fun n p => n + pw p.2) 0) := rfl
        rw [← hsm_.out] at hbd
        clear hsm_
        have hkl : (R.take k).length ≤ 64 := by rw [List.length_take]; omega
        have hpp := pw_le (pAt R k).2 gq.1
        have hpp1 := pw_pos (pAt R k).2
        have hpw := hide (pw_shift (pAt R k).2 gq.1 gq.2)
        have hq1 := gq.1
        have hq2 := gq.2
        clear gq SR ST SA SB r6h sH sG hM cSi cFi gR
        generalize (pAt R k).1 = qa at *
        generalize (pAt R k).2 = ql at *
        generalize sumP (R.take k) = n0 at *
        have wr1 : IntKind.i64.wrap (n0 + pw ql) = n0 + pw ql := wrapk_in _ (by omega)
        have hpw2 : IntKind.i64.wrap (2 ^ (32 - ql).toNat) = pw ql := hpw.out
        go_wp2_with fail
        have hbA : Below w10.heap.size w10 (wr.alloc (.cells #[.int .i64 qa, .int .i64 ql] 34)) := hb.trans ((below_box (Below.refl _ _)).mono hb.size)
        refine ⟨⟨k + 1, by omega, by go_num, ?_, hbA⟩, by simp [intOf]; omega⟩
        first
          | rw [hN.out]
          | (rw [hN.out]; congr 1; first | rfl | omega)
      · have hk' : k = R.length := by omega
        subst hk'
        rw [List.take_length]
        clear hlt hk r6h
        have d11 := below_step d10 hb
        have SA : SrcP aa A ac wr := ⟨SA.1.below hb, SA.2⟩
        have SB : SrcP ba B bc wr := ⟨SB.1.below hb, SB.2⟩
        have SR : SrcP ra R rc wr := ⟨SR.1.below hb, SR.2⟩
        have ST : SrcP ta R tc wr := ⟨ST.1.below hb, ST.2⟩
        clear hb
        have hss : (sumP R != cnt) = false := by
          have h := hcn.out
          rw [h]
          simp
        have hssh := hide hcn
        have sP1 := hide (fun w h1 h2 => w_samePrefixes ta ra tc rc R w (by omega) h1 h2)
        generalize sumP R = sR at *
        go_wp2_with fail
        refine (gR.out _ SR).mono ?_
        rintro e w12 ⟨rfl, b12⟩
        have d12 := below_step d11 b12
        have SA : SrcP aa A ac w12 := ⟨SA.1.below b12, SA.2⟩
        have SB : SrcP ba B bc w12 := ⟨SB.1.below b12, SB.2⟩
        have SR : SrcP ra R rc w12 := ⟨SR.1.below b12, SR.2⟩
        have ST : SrcP ta R tc w12 := ⟨ST.1.below b12, ST.2⟩
        clear b12
        go_wp2_with fail
        refine (sP1.out _ ST.1 SR.1).mono ?_
        rintro e w13 ⟨rfl, b13⟩
        have d13 := below_step d12 b13
        have SA : SrcP aa A ac w13 := ⟨SA.1.below b13, SA.2⟩
        have SB : SrcP ba B bc w13 := ⟨SB.1.below b13, SB.2⟩
        have SR : SrcP ra R rc w13 := ⟨SR.1.below b13, SR.2⟩
        have ST : SrcP ta R tc w13 := ⟨ST.1.below b13, ST.2⟩
        clear b13
        clear ST gR sP1
        cases ok with
        | false =>
          clear cFi cSi hokh hsmh hsnh SA SB SR hssh hcn r1h
          go_wp2_with fail
          refine (sH.out _ (hM.out _ d13)).mono ?_
          rintro e t1 ⟨la, lc, z, L, rfl, hz, hLl, SL, c1⟩
          have e1 := below_step d13 c1
          have iH := hide (fun w h => i_setHas la lc L z w (by omega) h)
          have kH := hide (fun w h => s_setHas la lc L z w (by omega) h)
          obtain ⟨V, hVl, _, fV, hFV⟩ := few_ans L hLl
          have fVh := hide fV
          have hFVh := hide hFV
          clear c1 fV hFV
          generalize hgL : goodL L = gL at *
          have hgLh := hide hgL
          clear hgL
          have iX : Hid (gL = true → ∀ va vc w, SrcP va V vc w → Calls Try.prog 25 #[.slice va V.length vc, .int .i64 z] w fun e w' => e = .returned (.tuple #[.bool (gL && inB z 0 4294967295 && hasL L z), .bool (gL && inB z 0 4294967295)]) ∧ Below w.heap.size w w') := by
            intro h va vc w hS
            obtain ⟨_, v1, _, _, _, _, v2⟩ := hFVh.out h
            have k := i_setHas va vc V z w (by omega) hS.1
            rw [v1, v2] at k
            rw [h]
            exact k
          generalize hx1 : (gL && inB z 0 4294967295 && hasL L z) = x1 at *
          generalize hx2 : (gL && inB z 0 4294967295) = x2 at *
          have hx2h := hide hx2
          clear hx1 hx2 hFVh
          have m1 : (x1 != x1) = false := by simp
          have m2 : (x2 != x2) = false := by simp
          go_wp2_with fail
          refine (iH.out _ SL.1).mono ?_
          rintro e t2 ⟨rfl, c2⟩
          have e2 := below_step e1 c2
          have SL : SrcP la L lc t2 := ⟨SL.1.below c2, SL.2⟩
          clear c2
          go_wp2_with fail
          refine (kH.out _ SL.1).mono ?_
          rintro e t3 ⟨rfl, c3⟩
          have e3 := below_step e2 c3
          have SL : SrcP la L lc t3 := ⟨SL.1.below c3, SL.2⟩
          clear c3 iH kH
          cases x2 with
          | false =>
            go_wp2_with fail
            refine (sG.out _ (hM.out _ e3)).mono ?_
            rintro e r1 ⟨ga, gc, G, rfl, hGl, SG, c6⟩
            have f1 := below_step e3 c6
            have iG := hide (fun w h => i_goodSet ga gc G w (by omega) h)
            have kG := hide (fun w h => s_goodSet ga gc G w (by omega) h)
            generalize (goodL G && gsB G) = xg at *
            have mg : (xg == xg) = true := by simp
            clear c6
            go_wp2_with fail
            refine (iG.out _ SG).mono ?_
            rintro e r2 ⟨rfl, c7⟩
            have f2 := below_step f1 c7
            go_wp2_with fail
            refine (kG.out _ (SG.1.below c7)).mono ?_
            rintro e r3 ⟨rfl, c8⟩
            have f3 := below_step f2 c8
            go_wp2_with fail
            go_ret
            exact ⟨ret_bool (by first | rfl | simp), f3⟩
          | true =>
            have hgt : gL = true := by
              have := hx2h.out
              cases hq : gL with
              | true => rfl
              | false => rw [hq] at this; simp at this
            subst hgt
            have iY := hide (iX.out rfl)
            go_wp2_with fail
            refine (fVh.out _ _ _ SL).mono ?_
            rintro e t4 ⟨u4_, rfl, o4_, c4⟩
            obtain ⟨va, vc, rfl, SV⟩ := SrcP.own o4_
            have e4 := below_step e3 c4
            clear c4 o4_
            go_wp2_with fail
            refine (iY.out _ _ _ SV).mono ?_
            rintro e t5 ⟨rfl, c5⟩
            have e5 := below_step e4 c5
            clear c5
            go_wp2_with fail
            refine (sG.out _ (hM.out _ e5)).mono ?_
            rintro e r1 ⟨ga, gc, G, rfl, hGl, SG, c6⟩
            have f1 := below_step e5 c6
            have iG := hide (fun w h => i_goodSet ga gc G w (by omega) h)
            have kG := hide (fun w h => s_goodSet ga gc G w (by omega) h)
            generalize (goodL G && gsB G) = xg at *
            have mg : (xg == xg) = true := by simp
            clear c6
            go_wp2_with fail
            refine (iG.out _ SG).mono ?_
            rintro e r2 ⟨rfl, c7⟩
            have f2 := below_step f1 c7
            go_wp2_with fail
            refine (kG.out _ (SG.1.below c7)).mono ?_
            rintro e r3 ⟨rfl, c8⟩
            have f3 := below_step f2 c8
            go_wp2_with fail
            go_ret
            exact ⟨ret_bool (by first | rfl | simp), f3⟩
        | true =>
          have hgB : goodL B = true := by
            have := hokh.out
            simpa using this.symm
          have hsE := hsmh.out rfl
          obtain ⟨U, hUl, _, fU, hFU⟩ := few_ans B hBl
          obtain ⟨t1_, _, _, _, t5_, _, _⟩ := hFU hgB
          rw [hgB] at fU
          have fUh := hide fU
          have hle := hide (show sm = true → R.length ≤ B.length by
            intro h
            rw [hsE, ← r1h.out, ← t1_] at h
            rw [of_decide_eq_true h]
            exact t5_)
          have sP2 := hide (fun ua uc w h1 h2 => w_samePrefixes2 ra ua rc uc R U w (by omega) (by omega) h1 h2)
          have hsE2 : decide (R = U) = sm := by rw [hsE, r1h.out, t1_]
          rw [hsE2] at sP2
          clear fU hFU t1_ t5_ hsE hsE2 hgB hokh hsmh hsnh cFi cSi r1h hssh hcn
          go_wp2_with fail
          refine (fUh.out _ _ _ SB).mono ?_
          rintro e w14 ⟨u14, rfl, o14, b14⟩
          obtain ⟨ua, uc, rfl, SU⟩ := SrcP.own o14
          have d14 := below_step d13 b14
          have SA : SrcP aa A ac w14 := ⟨SA.1.below b14, SA.2⟩
          have SB : SrcP ba B bc w14 := ⟨SB.1.below b14, SB.2⟩
          have SR : SrcP ra R rc w14 := ⟨SR.1.below b14, SR.2⟩
          clear b14 o14 fUh
          cases sm with
          | false =>
            go_wp2_with fail
            refine (sP2.out _ _ _ SR.1 SU.1).mono ?_
            rintro e w15 ⟨rfl, b15⟩
            have d15 := below_step d14 b15
            clear b15 hle SA SB SR SU sP2
            go_wp2_with fail
            refine (sH.out _ (hM.out _ d15)).mono ?_
            rintro e t1 ⟨la, lc, z, L, rfl, hz, hLl, SL, c1⟩
            have e1 := below_step d15 c1
            have iH := hide (fun w h => i_setHas la lc L z w (by omega) h)
            have kH := hide (fun w h => s_setHas la lc L z w (by omega) h)
            obtain ⟨V, hVl, _, fV, hFV⟩ := few_ans L hLl
            have fVh := hide fV
            have hFVh := hide hFV
            clear c1 fV hFV
            generalize hgL : goodL L = gL at *
            have hgLh := hide hgL
            clear hgL
            have iX : Hid (gL = true → ∀ va vc w, SrcP va V vc w → Calls Try.prog 25 #[.slice va V.length vc, .int .i64 z] w fun e w' => e = .returned (.tuple #[.bool (gL && inB z 0 4294967295 && hasL L z), .bool (gL && inB z 0 4294967295)]) ∧ Below w.heap.size w w') := by
              intro h va vc w hS
              obtain ⟨_, v1, _, _, _, _, v2⟩ := hFVh.out h
              have k := i_setHas va vc V z w (by omega) hS.1
              rw [v1, v2] at k
              rw [h]
              exact k
            generalize hx1 : (gL && inB z 0 4294967295 && hasL L z) = x1 at *
            generalize hx2 : (gL && inB z 0 4294967295) = x2 at *
            have hx2h := hide hx2
            clear hx1 hx2 hFVh
            have m1 : (x1 != x1) = false := by simp
            have m2 : (x2 != x2) = false := by simp
            go_wp2_with fail
            refine (iH.out _ SL.1).mono ?_
            rintro e t2 ⟨rfl, c2⟩
            have e2 := below_step e1 c2
            have SL : SrcP la L lc t2 := ⟨SL.1.below c2, SL.2⟩
            clear c2
            go_wp2_with fail
            refine (kH.out _ SL.1).mono ?_
            rintro e t3 ⟨rfl, c3⟩
            have e3 := below_step e2 c3
            have SL : SrcP la L lc t3 := ⟨SL.1.below c3, SL.2⟩
            clear c3 iH kH
            cases x2 with
            | false =>
              go_wp2_with fail
              refine (sG.out _ (hM.out _ e3)).mono ?_
              rintro e r1 ⟨ga, gc, G, rfl, hGl, SG, c6⟩
              have f1 := below_step e3 c6
              have iG := hide (fun w h => i_goodSet ga gc G w (by omega) h)
              have kG := hide (fun w h => s_goodSet ga gc G w (by omega) h)
              generalize (goodL G && gsB G) = xg at *
              have mg : (xg == xg) = true := by simp
              clear c6
              go_wp2_with fail
              refine (iG.out _ SG).mono ?_
              rintro e r2 ⟨rfl, c7⟩
              have f2 := below_step f1 c7
              go_wp2_with fail
              refine (kG.out _ (SG.1.below c7)).mono ?_
              rintro e r3 ⟨rfl, c8⟩
              have f3 := below_step f2 c8
              go_wp2_with fail
              go_ret
              exact ⟨ret_bool (by first | rfl | simp), f3⟩
            | true =>
              have hgt : gL = true := by
                have := hx2h.out
                cases hq : gL with
                | true => rfl
                | false => rw [hq] at this; simp at this
              subst hgt
              have iY := hide (iX.out rfl)
              go_wp2_with fail
              refine (fVh.out _ _ _ SL).mono ?_
              rintro e t4 ⟨u4_, rfl, o4_, c4⟩
              obtain ⟨va, vc, rfl, SV⟩ := SrcP.own o4_
              have e4 := below_step e3 c4
              clear c4 o4_
              go_wp2_with fail
              refine (iY.out _ _ _ SV).mono ?_
              rintro e t5 ⟨rfl, c5⟩
              have e5 := below_step e4 c5
              clear c5
              go_wp2_with fail
              refine (sG.out _ (hM.out _ e5)).mono ?_
              rintro e r1 ⟨ga, gc, G, rfl, hGl, SG, c6⟩
              have f1 := below_step e5 c6
              have iG := hide (fun w h => i_goodSet ga gc G w (by omega) h)
              have kG := hide (fun w h => s_goodSet ga gc G w (by omega) h)
              generalize (goodL G && gsB G) = xg at *
              have mg : (xg == xg) = true := by simp
              clear c6
              go_wp2_with fail
              refine (iG.out _ SG).mono ?_
              rintro e r2 ⟨rfl, c7⟩
              have f2 := below_step f1 c7
              go_wp2_with fail
              refine (kG.out _ (SG.1.below c7)).mono ?_
              rintro e r3 ⟨rfl, c8⟩
              have f3 := below_step f2 c8
              go_wp2_with fail
              go_ret
              exact ⟨ret_bool (by first | rfl | simp), f3⟩
          | true =>
            have hle2 : ¬ ((B.length : Int) < (R.length : Int)) := by have := hle.out rfl; omega
            go_wp2_with fail
            refine (sP2.out _ _ _ SR.1 SU.1).mono ?_
            rintro e w15 ⟨rfl, b15⟩
            have d15 := below_step d14 b15
            clear b15 hle SA SB SR SU sP2
            go_wp2_with fail
            refine (sH.out _ (hM.out _ d15)).mono ?_
            rintro e t1 ⟨la, lc, z, L, rfl, hz, hLl, SL, c1⟩
            have e1 := below_step d15 c1
            have iH := hide (fun w h => i_setHas la lc L z w (by omega) h)
            have kH := hide (fun w h => s_setHas la lc L z w (by omega) h)
            obtain ⟨V, hVl, _, fV, hFV⟩ := few_ans L hLl
            have fVh := hide fV
            have hFVh := hide hFV
            clear c1 fV hFV
            generalize hgL : goodL L = gL at *
            have hgLh := hide hgL
            clear hgL
            have iX : Hid (gL = true → ∀ va vc w, SrcP va V vc w → Calls Try.prog 25 #[.slice va V.length vc, .int .i64 z] w fun e w' => e = .returned (.tuple #[.bool (gL && inB z 0 4294967295 && hasL L z), .bool (gL && inB z 0 4294967295)]) ∧ Below w.heap.size w w') := by
              intro h va vc w hS
              obtain ⟨_, v1, _, _, _, _, v2⟩ := hFVh.out h
              have k := i_setHas va vc V z w (by omega) hS.1
              rw [v1, v2] at k
              rw [h]
              exact k
            generalize hx1 : (gL && inB z 0 4294967295 && hasL L z) = x1 at *
            generalize hx2 : (gL && inB z 0 4294967295) = x2 at *
            have hx2h := hide hx2
            clear hx1 hx2 hFVh
            have m1 : (x1 != x1) = false := by simp
            have m2 : (x2 != x2) = false := by simp
            go_wp2_with fail
            refine (iH.out _ SL.1).mono ?_
            rintro e t2 ⟨rfl, c2⟩
            have e2 := below_step e1 c2
            have SL : SrcP la L lc t2 := ⟨SL.1.below c2, SL.2⟩
            clear c2
            go_wp2_with fail
            refine (kH.out _ SL.1).mono ?_
            rintro e t3 ⟨rfl, c3⟩
            have e3 := below_step e2 c3
            have SL : SrcP la L lc t3 := ⟨SL.1.below c3, SL.2⟩
            clear c3 iH kH
            cases x2 with
            | false =>
              go_wp2_with fail
              refine (sG.out _ (hM.out _ e3)).mono ?_
              rintro e r1 ⟨ga, gc, G, rfl, hGl, SG, c6⟩
              have f1 := below_step e3 c6
              have iG := hide (fun w h => i_goodSet ga gc G w (by omega) h)
              have kG := hide (fun w h => s_goodSet ga gc G w (by omega) h)
              generalize (goodL G && gsB G) = xg at *
              have mg : (xg == xg) = true := by simp
              clear c6
              go_wp2_with fail
              refine (iG.out _ SG).mono ?_
              rintro e r2 ⟨rfl, c7⟩
              have f2 := below_step f1 c7
              go_wp2_with fail
              refine (kG.out _ (SG.1.below c7)).mono ?_
              rintro e r3 ⟨rfl, c8⟩
              have f3 := below_step f2 c8
              go_wp2_with fail
              go_ret
              exact ⟨ret_bool (by first | rfl | simp), f3⟩
            | true =>
              have hgt : gL = true := by
                have := hx2h.out
                cases hq : gL with
                | true => rfl
                | false => rw [hq] at this; simp at this
              subst hgt
              have iY := hide (iX.out rfl)
              go_wp2_with fail
              refine (fVh.out _ _ _ SL).mono ?_
              rintro e t4 ⟨u4_, rfl, o4_, c4⟩
              obtain ⟨va, vc, rfl, SV⟩ := SrcP.own o4_
              have e4 := below_step e3 c4
              clear c4 o4_
              go_wp2_with fail
              refine (iY.out _ _ _ SV).mono ?_
              rintro e t5 ⟨rfl, c5⟩
              have e5 := below_step e4 c5
              clear c5
              go_wp2_with fail
              refine (sG.out _ (hM.out _ e5)).mono ?_
              rintro e r1 ⟨ga, gc, G, rfl, hGl, SG, c6⟩
              have f1 := below_step e5 c6
              have iG := hide (fun w h => i_goodSet ga gc G w (by omega) h)
              have kG := hide (fun w h => s_goodSet ga gc G w (by omega) h)
              generalize (goodL G && gsB G) = xg at *
              have mg : (xg == xg) = true := by simp
              clear c6
              go_wp2_with fail
              refine (iG.out _ SG).mono ?_
              rintro e r2 ⟨rfl, c7⟩
              have f2 := below_step f1 c7
              go_wp2_with fail
              refine (kG.out _ (SG.1.below c7)).mono ?_
              rintro e r3 ⟨rfl, c8⟩
              have f3 := below_step f2 c8
              go_wp2_with fail
              go_ret
              exact ⟨ret_bool (by first | rfl | simp), f3⟩
end Go.Proofs.Ytofalilkephkpaa
