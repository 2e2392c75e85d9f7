/- The law on StableOnes: the program answers as the specification, in memory of its own. -/
import Derived.Test.YtcnlabedlcmilaaSp10
import Derived.Test.YtcnlabedlcmilaaAnsS10
import Derived.Deep.RegionHeld3
namespace Go.Proofs.Ytcnlabedlcmilaa
open Go.RowKit
set_option maxRecDepth 100000 in
set_option maxHeartbeats 6400000 in
theorem w_stableOnesE (a : Option Addr) (n c : Nat) (U : Nat → Pl) (w : World) (hn : n ≤ maxLen) (hx : MaxS n U) (hR : RowS3 a n U w) :
    Calls Try.prog 8 #[.agg #[.slice a n c]] w fun e w' => e = .returned (.bool true) ∧ Below w.heap.size w w' := by
  have SZ := hide (fun w R => w_szSpp a n c U 1048576 w hn hx (by omega) (by omega) R)
  have M0 := Mut.new w #[.slice a n c] 24
  have dd : Below w.heap.size w (w.alloc (.cells #[.slice a n c] 24)) := below_box (Below.refl _ _)
  have hw0 : w.heap.size < (w.alloc (.cells #[.slice a n c] 24)).heap.size := by simp
  by_cases hs : (n : Int) + (totS U n : Int) ≤ 1048576
  · rw [if_pos hs] at SZ
    have hlt : ¬ (1048576 - (n : Int) - (totS U n : Int) < 0) := by omega
    have hn1 : n ≤ 1048576 := by omega
    have ht1 : totS U n ≤ 1048576 := by omega
    have hl : LowS n U := lowS_of (by omega)
    have TP := hide (fun w R => w_toSpp a n c U w hn1 hl R)
    have SG : Hid (∀ a c w, RowK3 a n U w → Calls Try.prog 33 #[.agg #[.slice a n c]] w fun e w' => ∃ ya yc, e = .returned (.tuple #[.slice ya (soR n U).length yc, .bool (gsB n U)]) ∧ RowLL ya (soR n U).length (fun i => ⟨n, atR (soR n U) i⟩) w' ∧ Below w.heap.size w w') := fun a c w R => (s_stableOnesE a n c U w hn1 hl R).mono (by
      rintro e w' ⟨v, L, rfl, hv, hL, b⟩
      obtain ⟨va, cap, X, C, rfl, hA⟩ := all_of hL hv
      exact ⟨va, cap, rfl, hA.row, b⟩)
    have IG : Hid (∀ a c w, RowK3 a n U w → Calls Try.prog 34 #[.agg #[.slice a n c]] w fun e w' => ∃ ya yc X C, e = .returned (.tuple #[.slice ya (soR n U).length yc, .bool (gsB n U)]) ∧ ALL n w.heap.size ya (soR n U).length X C (atR (soR n U)) w' ∧ Below w.heap.size w w') := fun a c w R => (i_stableOnesE a n c U w hn1 hl R).mono (by
      rintro e w' ⟨v, L, rfl, hv, hL, b⟩
      obtain ⟨va, cap, X, C, rfl, hA⟩ := all_of (R := soR n U) hL hv
      exact ⟨va, cap, X, C, rfl, hA, b⟩)
    have hDn : (soR n U).length ≤ 16807 ∧ ((soR n U).length = 0 ∨ n ≤ 5) := by
      unfold soR
      by_cases hG : GS n U
      · rw [show gsB n U = true from pB_t hG]
        exact ⟨onesR_all hG, .inr hG.2.1⟩
      · rw [show gsB n U = false from pB_f hG]
        exact ⟨by simp, .inl (by simp)⟩
    have E := hide (fun a a' c c' w R Q => w_eqSpp a a' n c c' U w hn1 hl R Q)
    have ED := hide (fun a a' c c' w R Q => w_eqIntSS a a' (soR n U).length c c' (fun i => ⟨n, atR (soR n U) i⟩) w (by omega) (fun i _ => by show n ≤ _; omega) R Q)
    have MK := hide (fun c cap X H hi w R => w_markSpp c n cap X H hi U w hn1 hl ht1 R)
    have MA := hide (fun base ga gc X C w hb hA => w_markALL n base ga (soR n U).length gc X C (atR (soR n U)) w hDn.1 hDn.2 hb hA)
    have HA := hide (fun a cap w R => w_heldSS n a (soR n U).length cap w hDn.1 hDn.2 R)
    generalize gsB n U = r1 at SG IG
    have kr1 : (r1 != r1) = false := by simp
    have hDq : ((soR n U).length : Int) ≤ 16807 := by omega
    generalize atR (soR n U) = F at *
    generalize (soR n U).length = D at *
    generalize hDN : km n D = dn at *
    have hkd : ¬ ((1 + (dn : Int)) < 0) := by omega
    have hke : ((1 + (dn : Int)) != (1 + (dn : Int))) = false := by simp
    clear hDN
    generalize totS U n = q at *
    clear hn hx hs hn1 hl ht1 hDn
    go_enter Try.func8, Try.ntmps8
    go_wp2_with fail
    generalize w.alloc (.cells #[.slice a n c] 24) = wz at *
    refine (SZ.out _ (hR.below dd)).mono ?_
    rintro e w0 ⟨rfl, d0⟩
    have hz0 := d0.size
    have M1 := M0.below d0
    have c0 := M1.2.1 0 _ rfl
    replace d0 := dd.trans (d0.mono dd.size)
    have hzz := hz0
    clear M0 dd
    go_wp2_with fail
    refine (TP.out _ (hR.below d0)).mono ?_
    rintro e w1 ⟨q1, rfl, h1, _, ⟨X1, H1, o1⟩, b1⟩
    have hz1 := Nat.le_trans hzz b1.size
    have d1 := d0.trans (b1.mono d0.size)
    replace M1 := M1.below b1
    have c0 := M1.2.1 0 _ rfl
    clear b1 d0
    go_wp2_with fail
    refine (SG.out _ _ _ o1.rowK).mono ?_
    rintro e w3 ⟨wa, wc, rfl, RW, b3⟩
    have hz3f := Nat.le_trans hz1 b3.size
    have d3 := d1.trans (b3.mono d1.size)
    replace M1 := M1.below b3
    have c0 := M1.2.1 0 _ rfl
    clear b3 o1 d1
    go_wp2_with fail
    refine (TP.out _ (hR.below d3)).mono ?_
    rintro e w4 ⟨q4, rfl, h4, hq4, ⟨X4, H4, o4⟩, b4⟩
    have hz3 := hz3f
    have e4 : Below w3.heap.size w3 w4 := b4
    have d4 := d3.trans (b4.mono d3.size)
    replace M1 := M1.below b4
    clear b4
    go_wp2_with fail
    have bB : Below w4.heap.size w4 (w4.alloc (.cells #[.slice (some ⟨q4, 0, none⟩) n n] 27)) := below_box (Below.refl _ _)
    have N := Mut.new w4 #[.slice (some ⟨q4, 0, none⟩) n n] 27
    have d5 := d4.trans (bB.mono d4.size)
    have e5 := e4.trans (bB.mono e4.size)
    replace M1 := M1.below bB
    replace o4 := o4.below bB
    have hs5 : w4.heap.size < (w4.alloc (.cells #[.slice (some ⟨q4, 0, none⟩) n n] 27)).heap.size := by simp
    clear bB d4 e4 c0
    generalize w4.alloc (.cells #[.slice (some ⟨q4, 0, none⟩) n n] 27) = w5 at *
    generalize w4.heap.size = bx at *
    have c0 := M1.2.1 0 _ rfl
    have x0 := N.2.1 0 _ rfl
    refine (IG.out _ _ _ o4.rowK).mono ?_
    rintro e w7 ⟨ya, yc, X7, C7, rfl, hA, b7⟩
    have RG := hA.row
    have hA := hide hA
    have hw67 := b7.size
    have hz3i : w3.heap.size ≤ w5.heap.size := e5.size
    have d7 := d5.trans (b7.mono d5.size)
    have e7 := e5.trans (b7.mono e5.size)
    replace M1 := M1.below b7
    replace N := N.below b7
    replace o4 := o4.below b7
    have c0 := M1.2.1 0 _ rfl
    have x0 := N.2.1 0 _ rfl
    clear b7 d5 e5
    go_wp2_with fail
    refine (ED.out _ _ _ _ _ RG (RW.below e7)).mono ?_
    rintro e w8 ⟨rfl, b8⟩
    have d8 := d7.trans (b8.mono d7.size)
    have e8 := e7.trans (b8.mono e7.size)
    have gA : Below w7.heap.size w7 w8 := b8
    replace M1 := M1.below b8
    replace N := N.below b8
    replace o4 := o4.below b8
    have c0 := M1.2.1 0 _ rfl
    have x0 := N.2.1 0 _ rfl
    clear b8 d7 e7
    go_wp2_with fail
    have dZ : Below w8.heap.size w8 w8 := Below.refl _ _
    have hR8 := hR.below d8
    have hltM := M1.1
    have hltN := N.1
    have u0 := M1.2.1 0 _ rfl
    have v0 := N.2.1 0 _ rfl
    clear c0 x0
    go_region_held3 (fun w' => w'.cell? ⟨w.heap.size, 0, none⟩ = some (.slice a n c) ∧ w'.cell? ⟨bx, 0, none⟩ = some (.slice (some ⟨q4, 0, none⟩) n n)) (first | go_keep | exact ⟨(dE.cell (p := ⟨w.heap.size, 0, none⟩) hltM).trans u0, (dE.cell (p := ⟨bx, 0, none⟩) hltN).trans v0⟩ | exact ⟨(dE.drew.cell (p := ⟨w.heap.size, 0, none⟩) hltM).trans u0, (dE.drew.cell (p := ⟨bx, 0, none⟩) hltN).trans v0⟩ | exact ⟨(dT.cell (p := ⟨w.heap.size, 0, none⟩) hltM).trans u0, (dT.cell (p := ⟨bx, 0, none⟩) hltN).trans v0⟩ | exact ⟨(dT.drew.cell (p := ⟨w.heap.size, 0, none⟩) hltM).trans u0, (dT.drew.cell (p := ⟨bx, 0, none⟩) hltN).trans v0⟩ | exact ⟨(dZ.cell (p := ⟨w.heap.size, 0, none⟩) hltM).trans u0, (dZ.cell (p := ⟨bx, 0, none⟩) hltN).trans v0⟩ | exact ⟨(dZ.drew.cell (p := ⟨w.heap.size, 0, none⟩) hltM).trans u0, (dZ.drew.cell (p := ⟨bx, 0, none⟩) hltN).trans v0⟩) ((first | (go_at_call 17; refine (TP.out _ (hR8.below (by first | exact dZ | exact dZ.drew))).mono ?_; rintro e wT ⟨qT, rfl, _, _, ⟨XT, HT, oT⟩, bT⟩; have dT : Below w8.heap.size w8 wT := (by first | exact below_step dZ bT | exact below_step dZ.drew bT)) | (go_at_call 19; refine (E.out _ _ _ _ _ (by first | exact (o4.below dT).row | exact (o4.below dT.drew).row) (by first | exact oT.row | exact (oT.below (Below.refl _ _).drew).row)).mono ?_; rintro e wE ⟨rfl, bE⟩; have dE : Below w8.heap.size w8 wE := (by first | exact below_step dT bE | exact below_step dT.drew bE))))
    all_goals
      have d9 := d8.trans (dE.mono d8.size)
      have e9 := e8.trans (dE.mono e8.size)
      replace gA := gA.trans (dE.mono gA.size)
      replace M1 := M1.below dE
      replace N := N.below dE
      replace o4 := o4.below dE
      have c0 := M1.2.1 0 _ rfl
      have x0 := N.2.1 0 _ rfl
      clear u0 v0 d8 e8 dT oT
      go_wp2_with fail
      have hA0 := hide (hA.out.below gA)
      refine (MK.out _ _ _ _ _ _ o4).mono ?_
      rintro e wH ⟨r, rfl, hr0, hr1, OS⟩
      have fH : Below w3.heap.size wE wH := OS.below (fun k hk => by omega) e9.size
      have eH := e9.trans fH
      have dH := d9.trans (fH.mono d3.size)
      have hM3 : w.heap.size < w3.heap.size := Nat.lt_of_lt_of_le hw0 hz3
      replace M1 := M1.base hM3 fH
      have hAH := hide (hA0.out.onlyS OS (fun k hk hb => by omega))
      have hsH : w5.heap.size ≤ wH.heap.size := Nat.le_trans (Nat.le_trans hw67 gA.size) fH.size
      clear OS o4 N hA hA0 RG fH d9 e9 gA x0 c0
      have c0 := M1.2.1 0 _ rfl
      have hr0' : ¬ (r < 0) := by omega
      have RG8 := hide hAH.out.row
      go_wp2_with fail
      refine (ED.out _ _ _ _ _ RG8.out (RW.below eH)).mono ?_
      rintro e wJ ⟨rfl, bJ⟩
      have eJ := eH.trans (bJ.mono eH.size)
      have dJ := dH.trans (bJ.mono dH.size)
      have hAJ := hide (hAH.out.below bJ)
      have hsJ := Nat.le_trans hsH bJ.size
      replace M1 := M1.below bJ
      have c0 := M1.2.1 0 _ rfl
      clear hAH RG8 bJ eH dH hsH
      go_wp2_with fail
      refine (MA.out w5.heap.size _ _ _ _ _ hsJ hAJ.out).mono ?_
      rintro e wK ⟨rfl, RH, bK⟩
      have eK := eJ.trans (bK.mono hz3i)
      have dK := dJ.trans (bK.mono (Nat.le_trans d3.size hz3i))
      replace M1 := M1.base (Nat.lt_of_lt_of_le hM3 hz3i) bK
      have c0 := M1.2.1 0 _ rfl
      clear hAJ hsJ bK eJ dJ
      go_wp2_with fail
      refine (HA.out _ _ _ RH).mono ?_
      rintro e wL ⟨rfl, hwL⟩
      rw [hwL]; clear hwL wL
      go_wp2_with fail
      refine (TP.out _ (hR.below dK)).mono ?_
      rintro e wM ⟨qM, rfl, _, _, ⟨XM, HM, oM⟩, bM⟩
      have eM := eK.trans (bM.mono eK.size)
      have dM := dK.trans (bM.mono dK.size)
      replace RH := RH.below bM
      clear bM eK dK c0 M1
      go_wp2_with fail
      refine (IG.out _ _ _ oM.rowK).mono ?_
      rintro e wO ⟨za, zc, XO, CO, rfl, hB, bO⟩
      have RB := hB.row
      have eO := eM.trans (bO.mono eM.size)
      have dO := dM.trans (bO.mono dM.size)
      replace RH := RH.below bO
      clear bO eM dM oM hB
      go_wp2_with fail
      refine (ED.out _ _ _ _ _ RB (RW.below eO)).mono ?_
      rintro e wP ⟨rfl, bP⟩
      have dP := dO.trans (bP.mono dO.size)
      replace RH := RH.below bP
      clear bP eO dO RB
      go_wp2_with fail
      refine (HA.out _ _ _ RH).mono ?_
      rintro e wQ ⟨rfl, hwQ⟩
      rw [hwQ]; clear hwQ wQ
      go_wp2_with fail
      go_ret
      exact ⟨rfl, dP⟩
  · rw [if_neg hs] at SZ
    clear hs hn hx
    go_enter Try.func8, Try.ntmps8
    go_wp2_with fail
    refine (SZ.out _ (hR.below dd)).mono ?_
    rintro e w0 ⟨rfl, d0⟩
    go_wp2_with fail
    go_ret
    exact ⟨rfl, dd.trans (d0.mono dd.size)⟩
end Go.Proofs.Ytcnlabedlcmilaa
