/- The law on BestRows: the program answers as the specification, in memory of its own. -/
import Derived.Test.YtjjdfniemlcnnabLawR
import Derived.Test.YtjjdfniemlcnnabAll9
import Derived.Test.YtjjdfniemlcnnabS13r
import Derived.Test.YtjjdfniemlcnnabI13r
import Derived.Deep.DeepCutAuto
import Derived.Deep.CutRange
import Derived.Deep.RegionHeld3
namespace Go.Proofs.Ytjjdfniemlcnnab
open Go.RowKit

set_option maxRecDepth 100000 in
set_option maxHeartbeats 12800000 in
theorem w_bestRows (ow : Int) (a : Option Addr) (n c : Nat) (U : Nat → Rc) (w : World) (hn : n ≤ maxLen) (hx : MaxR n U) (hR0 : RowR a n U w) :
    Calls Try.prog 3 #[.agg #[.int .i64 ow, .slice a n c]] w fun e w' => e = .returned (.bool true) ∧ Below w.heap.size w w' := by
  have SZ := hide (fun w R => w_szRib ow a n c U 1048576 w hn hx (by omega) (by omega) R)
  have MB := Mut.new w #[.int .i64 ow, .slice a n c] 24
  have hB0 : Below w.heap.size w (w.alloc (.cells #[.int .i64 ow, .slice a n c] 24)) := below_box (Below.refl _ _)
  have hR := hide hR0
  clear hR0
  by_cases hs : (n : Int) + (totR U n : Int) ≤ 1048576
  · rw [if_pos hs] at SZ
    have hlt : ¬ (1048576 - (n : Int) - (totR U n : Int) < 0) := by omega
    have hn1 : n ≤ 1048576 := by omega
    have hl : LowR n U := lowR_of (by omega)
    have TP := hide (fun w R => w_toRib ow a n c U w hn1 hl R)
    have SB := hide (fun a c w R => s_bestRows ow a n c U w hn1 hl R)
    have IB := hide (fun a c w R => i_bestRows ow a n c U w hn1 hl R)
    have ER := hide (fun a a' c c' w R Q => w_eqRib ow a a' n c c' U w hn1 hl R Q)
    have SRC := hide (fun c X H hi w (h : RowRO c n X H hi U w) => h.src hl)
    have MK := hide (fun c X H hi w hc R F => w_markRib ow c n n X H hi U w (by omega) hc R F)
    have t0 := rr_tot ow n U
    have t1 := rr_len ow n U
    have t2 : totO (TL (rrO ow n U)) (rrO ow n U).length ≤ 1048576 := by omega
    have hD1 : (rrO ow n U).length ≤ 1048576 := by omega
    have hD2 : (rrP ow n U).length ≤ 1048576 := by omega
    have hANS := hide (fun base v M u w (h : OPs base v M u (rrP ow n U) w) (hM : M.map (·.t) = rrO ow n U) => h.ans hM)
    generalize rrO ow n U = DD at *
    generalize rrP ow n U = RR at *
    generalize rbB ow n U = bb at *
    have EO := hide (fun a b c e w R Q => w_eqOfferS a b DD.length c e (TL DD) w hD1 (lowO_of t2) R Q)
    have EP := hide (fun a b c e w R Q => w_eqPrefixS a b RR.length c e (fun i => (pAt RR i).1) (fun i => (pAt RR i).2) w (by omega) R Q)
    have MO := hide (fun va vc P w h => w_markOffT va vc DD.length (TL DD) P w hD1 t2 h)
    have hkm := kmO_le (TL DD) (Nat.le_refl _) hD1 t2
    have MPx := hide (fun ua uc Q w h => w_markPreT ua uc RR.length (fun i => (pAt RR i).1) (fun i => (pAt RR i).2) Q (kmO (TL DD) DD.length : Int) w hD2 (by omega) (by omega) h)
    have HO := hide (fun a cap w R => w_heldOfferS a DD.length cap (TL DD) w hD1 t2 R)
    have HP := hide (fun a cap w R => w_heldPrefixS a RR.length cap (kmO (TL DD) DD.length : Int) w (by omega) (by omega) (by omega) R)
    generalize TL DD = TD at *
    generalize kmO TD DD.length = km at *
    generalize halfO TD DD.length = HT at *
    generalize (fun i => (pAt RR i).1) = p0 at *
    generalize (fun i => (pAt RR i).2) = p1 at *
    generalize (fun i : Nat => (km : Int) + 2 * (i : Int) + 0) = s0 at *
    generalize (fun i : Nat => (km : Int) + 2 * (i : Int) + 1) = s1 at *
    generalize DD.length = nD at *
    generalize RR.length = nR at *
    have kb0 : (bb != bb) = false := by simp
    have km0 : (((km : Int) + 2 * (nR : Int)) != ((km : Int) + 2 * (nR : Int))) = false := by simp
    have km1 : ¬ ((km : Int) + 2 * (nR : Int) < 0) := by omega
    have km2 : ¬ ((km : Int) < 0) := by omega
    generalize totR U n = qq at *
    clear hn hx hs hn1 hl t0 t1 t2
    go_enter Try.func3, Try.ntmps3
    go_wp2_with fail
    generalize w.alloc (.cells #[.int .i64 ow, .slice a n c] 24) = W0 at *
    refine (SZ.out _ (hR.out.below hB0)).mono ?_
    rintro e w0 ⟨rfl, d0⟩
    replace MB := MB.below d0
    have dW := hB0.trans (d0.mono hB0.size)
    clear d0 SZ hB0
    have m0 := MB.2.1 0 _ rfl
    have m1 := MB.2.1 1 _ rfl
    go_wp2_with fail
    refine (TP.out _ (hR.out.below dW)).mono ?_
    rintro e w1 ⟨qT, rfl, _, ⟨XT, HTT, oT⟩, _, b1⟩
    replace MB := MB.below b1
    replace dW := dW.trans (b1.mono dW.size)
    clear b1 m0 m1
    go_wp2_with fail
    refine (SB.out _ _ _ (SRC.out _ _ _ _ _ oT)).mono ?_
    rintro e wA ⟨v, u, M, rfl, hM, hO, b2⟩
    replace MB := MB.below b2
    replace dW := dW.trans (b2.mono dW.size)
    obtain ⟨va, vc, ua, uc, P, Q, rfl, rfl, hOW, hPW, _, _⟩ := hANS.out _ _ _ _ _ hO hM
    have OW := hide hOW.1
    have PW := hide hPW.1
    have hWA := dW.size
    have hBA : w.heap.size < wA.heap.size := MB.1
    clear b2 hM hO hOW hPW oT
    have m0 := MB.2.1 0 _ rfl
    have m1 := MB.2.1 1 _ rfl
    go_wp2_with fail
    refine (TP.out _ (hR.out.below dW)).mono ?_
    rintro e w3 ⟨q3, rfl, hq3, ⟨X3, H3, o3⟩, F3, b3⟩
    clear m0 m1
    have bB : Below w3.heap.size w3 (w3.alloc (.cells #[.int .i64 ow, .slice (some ⟨q3, 0, none⟩) n n] 32)) := below_box (Below.refl _ _)
    have MX := Mut.new w3 #[.int .i64 ow, .slice (some ⟨q3, 0, none⟩) n n] 32
    have hq3l : q3 < w3.heap.size := F3.1
    have DA := below_step b3 bB
    have hA6 := DA.size
    replace MB := MB.below DA
    replace dW := dW.trans (DA.mono dW.size)
    have hw6 := dW.size
    replace o3 := o3.below bB
    replace F3 := F3.below bB
    have hz6 : w3.heap.size < (w3.alloc (.cells #[.int .i64 ow, .slice (some ⟨q3, 0, none⟩) n n] 32)).heap.size := MX.1
    clear b3 bB
    go_wp2_with fail
    generalize w3.alloc (.cells #[.int .i64 ow, .slice (some ⟨q3, 0, none⟩) n n] 32) = w6 at *
    generalize w3.heap.size = bx at *
    refine (IB.out _ _ _ (SRC.out _ _ _ _ _ o3)).mono ?_
    rintro e wB ⟨v, u, M, rfl, hM, hO, eB⟩
    obtain ⟨ga, gc, ka, kc, GP, GQ, rfl, rfl, hOG, hPG, hPd, hQd⟩ := hANS.out _ _ _ _ _ hO hM
    have hPd := hide hPd
    have hQd := hide hQd
    clear hM hO
    replace DA := DA.trans (eB.mono DA.size)
    replace dW := dW.trans (eB.mono dW.size)
    replace MX := MX.below eB
    replace o3 := o3.below eB
    replace F3 := F3.below eB
    replace MB := MB.below eB
    clear eB
    go_wp2_with fail
    refine (EO.out _ _ _ _ _ hOG.1 (OW.out.below DA)).mono ?_
    rintro e w7 ⟨rfl, b7⟩
    replace DA := DA.trans (b7.mono DA.size)
    replace dW := dW.trans (b7.mono dW.size)
    replace MX := MX.below b7
    replace o3 := o3.below b7
    replace F3 := F3.below b7
    replace MB := MB.below b7
    replace hOG := hOG.below b7
    replace hPG := hPG.below b7
    clear b7
    go_wp2_with fail
    refine (EP.out _ _ _ _ _ hPG.1 (PW.out.below DA)).mono ?_
    rintro e w8 ⟨rfl, b8⟩
    replace DA := DA.trans (b8.mono DA.size)
    replace dW := dW.trans (b8.mono dW.size)
    replace MX := MX.below b8
    replace o3 := o3.below b8
    replace F3 := F3.below b8
    replace MB := MB.below b8
    replace hOG := hOG.below b8
    replace hPG := hPG.below b8
    clear b8
    go_upto_region 10 with fail
    have dZ : Below w8.heap.size w8 w8 := Below.refl _ _
    have hRW := hR.out.below dW
    have hltM := MB.1
    have hltN := MX.1
    have v0 := MB.2.1 0 _ rfl
    have v1 := MB.2.1 1 _ rfl
    have v2 := MX.2.1 0 _ rfl
    have v3 := MX.2.1 1 _ rfl
    go_region_held3 (fun w' => w'.cell? ⟨w.heap.size, 0, none⟩ = some (.int .i64 ow) ∧ w'.cell? ⟨w.heap.size, 1, none⟩ = some (.slice a n c) ∧ w'.cell? ⟨bx, 0, none⟩ = some (.int .i64 ow) ∧ w'.cell? ⟨bx, 1, none⟩ = some (.slice (some ⟨q3, 0, none⟩) n n)) (first | go_keep | exact ⟨(dE.cell (p := ⟨w.heap.size, 0, none⟩) hltM).trans v0, (dE.cell (p := ⟨w.heap.size, 1, none⟩) hltM).trans v1, (dE.cell (p := ⟨bx, 0, none⟩) hltN).trans v2, (dE.cell (p := ⟨bx, 1, none⟩) hltN).trans v3⟩ | exact ⟨(dE.drew.cell (p := ⟨w.heap.size, 0, none⟩) hltM).trans v0, (dE.drew.cell (p := ⟨w.heap.size, 1, none⟩) hltM).trans v1, (dE.drew.cell (p := ⟨bx, 0, none⟩) hltN).trans v2, (dE.drew.cell (p := ⟨bx, 1, none⟩) hltN).trans v3⟩ | exact ⟨(dT.cell (p := ⟨w.heap.size, 0, none⟩) hltM).trans v0, (dT.cell (p := ⟨w.heap.size, 1, none⟩) hltM).trans v1, (dT.cell (p := ⟨bx, 0, none⟩) hltN).trans v2, (dT.cell (p := ⟨bx, 1, none⟩) hltN).trans v3⟩ | exact ⟨(dT.drew.cell (p := ⟨w.heap.size, 0, none⟩) hltM).trans v0, (dT.drew.cell (p := ⟨w.heap.size, 1, none⟩) hltM).trans v1, (dT.drew.cell (p := ⟨bx, 0, none⟩) hltN).trans v2, (dT.drew.cell (p := ⟨bx, 1, none⟩) hltN).trans v3⟩ | exact ⟨(dZ.cell (p := ⟨w.heap.size, 0, none⟩) hltM).trans v0, (dZ.cell (p := ⟨w.heap.size, 1, none⟩) hltM).trans v1, (dZ.cell (p := ⟨bx, 0, none⟩) hltN).trans v2, (dZ.cell (p := ⟨bx, 1, none⟩) hltN).trans v3⟩ | exact ⟨(dZ.drew.cell (p := ⟨w.heap.size, 0, none⟩) hltM).trans v0, (dZ.drew.cell (p := ⟨w.heap.size, 1, none⟩) hltM).trans v1, (dZ.drew.cell (p := ⟨bx, 0, none⟩) hltN).trans v2, (dZ.drew.cell (p := ⟨bx, 1, none⟩) hltN).trans v3⟩) ((first | (go_at_call 6; refine (TP.out _ (hRW.below (by first | exact dZ | exact dZ.drew))).mono ?_; rintro e wT ⟨qT, rfl, _, ⟨XT, HTT, oT⟩, _, bT⟩; have dT : Below w8.heap.size w8 wT := (by first | exact below_step dZ bT | exact below_step dZ.drew bT)) | (go_at_call 10; refine (ER.out _ _ _ _ _ (by first | exact (o3.below dT).row | exact (o3.below dT.drew).row) (by first | exact oT.row | exact (oT.below (Below.refl _ _).drew).row)).mono ?_; rintro e wE ⟨rfl, bE⟩; have dE : Below w8.heap.size w8 wE := (by first | exact below_step dT bE | exact below_step dT.drew bE))))
    all_goals
      clear v0 v1 v2 v3 hltM hltN dZ dT bT bE oT hRW
      replace DA := DA.trans (dE.mono DA.size)
      replace dW := dW.trans (dE.mono dW.size)
      replace MX := MX.below dE
      replace o3 := o3.below dE
      replace F3 := F3.below dE
      replace MB := MB.below dE
      replace hOG := hOG.below dE
      replace hPG := hPG.below dE
      clear dE
      generalize wE = w9 at *
      have v2 := MX.2.1 0 _ rfl
      have v3 := MX.2.1 1 _ rfl
      go_upto_region 13 with fail
      go_wp2_with fail
      refine (MK.out _ _ _ _ _ hq3l o3 F3).mono ?_
      rintro e w10 ⟨r, rfl, b10⟩
      have hr0 : ¬ ((r : Int) < 0) := by omega
      replace DA := DA.trans (b10.below (base := wA.heap.size) (fun k hk => Nat.le_trans hq3 hk.1) DA.size)
      replace dW := dW.trans (b10.below (base := w.heap.size) (fun k hk => Nat.le_trans hWA (Nat.le_trans hq3 hk.1)) dW.size)
      replace MB := MB.onlyS13 b10 (fun h => by have h1 := h.1; omega)
      replace hOG := hOG.onlyS b10 (fun k hk h => by have h1 := h.2; have h2 := (hPd.out k hk).1; omega)
      replace hPG := hPG.onlyS b10 (fun k hk h => by have h1 := h.2; have h2 := hQd.out k hk; omega)
      clear v2 v3 b10 MX o3 F3
      go_upto_region 14 with fail
      go_wp2_with fail
      refine (EO.out _ _ _ _ _ hOG.1 (OW.out.below DA)).mono ?_
      rintro e w11 ⟨rfl, b11⟩
      replace DA := DA.trans (b11.mono DA.size)
      replace dW := dW.trans (b11.mono dW.size)
      replace MB := MB.below b11
      replace hOG := hOG.below b11
      replace hPG := hPG.below b11
      clear b11
      go_wp2_with fail
      refine (EP.out _ _ _ _ _ hPG.1 (PW.out.below DA)).mono ?_
      rintro e w12 ⟨rfl, b12⟩
      replace DA := DA.trans (b12.mono DA.size)
      replace dW := dW.trans (b12.mono dW.size)
      replace MB := MB.below b12
      replace hOG := hOG.below b12
      replace hPG := hPG.below b12
      clear b12
      go_upto_region 17 with fail
      go_wp2_with fail
      refine (MO.out _ _ _ _ hOG).mono ?_
      rintro e w13 ⟨rfl, hOM, b13⟩
      replace DA := DA.trans (b13.below (base := wA.heap.size) (fun k hk => Nat.le_trans hA6 (hPd.out k hk).1) DA.size)
      replace dW := dW.trans (b13.below (base := w.heap.size) (fun k hk => Nat.le_trans hw6 (hPd.out k hk).1) dW.size)
      replace MB := MB.onlyS13 b13 (fun h => by have h2 := (hPd.out _ h).1; omega)
      replace hPG := hPG.onlyS b13 (fun k hk h => (hPd.out k h).2 hk)
      clear b13 hOG
      go_wp2_with fail
      refine (MPx.out _ _ _ _ hPG).mono ?_
      rintro e w14 ⟨rfl, hPM, b14⟩
      replace DA := DA.trans (b14.below (base := wA.heap.size) (fun k hk => Nat.le_trans hA6 (hQd.out k hk)) DA.size)
      replace dW := dW.trans (b14.below (base := w.heap.size) (fun k hk => Nat.le_trans hw6 (hQd.out k hk)) dW.size)
      replace MB := MB.onlyS13 b14 (fun h => by have h2 := hQd.out _ h; omega)
      replace hOM := hOM.onlyS b14 (fun k hk h => (hPd.out k hk).2 h)
      clear b14 hPG
      go_wp2_with fail
      refine (HO.out _ _ _ hOM.1).mono ?_
      rintro e w15 ⟨rfl, b15⟩
      replace DA := DA.trans (b15.mono DA.size)
      replace dW := dW.trans (b15.mono dW.size)
      replace MB := MB.below b15
      replace hOM := hOM.below b15
      replace hPM := hPM.below b15
      clear b15
      go_wp2_with fail
      refine (HP.out _ _ _ hPM.1).mono ?_
      rintro e w16 ⟨rfl, rfl⟩
      have m0 := MB.2.1 0 _ rfl
      have m1 := MB.2.1 1 _ rfl
      go_wp2_with fail
      refine (TP.out _ (hR.out.below dW)).mono ?_
      rintro e w17 ⟨qT, rfl, _, ⟨XT, HTT, oT⟩, _, b17⟩
      replace DA := DA.trans (b17.mono DA.size)
      replace dW := dW.trans (b17.mono dW.size)
      replace hOM := hOM.below b17
      replace hPM := hPM.below b17
      clear b17 m0 m1 MB
      go_wp2_with fail
      refine (IB.out _ _ _ (SRC.out _ _ _ _ _ oT)).mono ?_
      rintro e w18 ⟨v, u, M, rfl, hM, hO, b18⟩
      obtain ⟨ha, hc, ja, jc, _, _, rfl, rfl, hOH, hPH, _, _⟩ := hANS.out _ _ _ _ _ hO hM
      replace DA := DA.trans (b18.mono DA.size)
      replace dW := dW.trans (b18.mono dW.size)
      replace hOM := hOM.below b18
      replace hPM := hPM.below b18
      clear b18 hM hO oT
      go_wp2_with fail
      refine (EO.out _ _ _ _ _ hOH.1 (OW.out.below DA)).mono ?_
      rintro e w19 ⟨rfl, b19⟩
      replace DA := DA.trans (b19.mono DA.size)
      replace dW := dW.trans (b19.mono dW.size)
      replace hOM := hOM.below b19
      replace hPM := hPM.below b19
      replace hPH := hPH.below b19
      clear b19 hOH
      go_wp2_with fail
      refine (EP.out _ _ _ _ _ hPH.1 (PW.out.below DA)).mono ?_
      rintro e w20 ⟨rfl, b20⟩
      replace dW := dW.trans (b20.mono dW.size)
      replace hOM := hOM.below b20
      replace hPM := hPM.below b20
      clear b20 hPH DA
      go_wp2_with fail
      refine (HO.out _ _ _ hOM.1).mono ?_
      rintro e w21 ⟨rfl, b21⟩
      replace dW := dW.trans (b21.mono dW.size)
      replace hPM := hPM.below b21
      clear b21
      go_wp2_with fail
      refine (HP.out _ _ _ hPM.1).mono ?_
      rintro e w22 ⟨rfl, rfl⟩
      go_wp2_with fail
      go_ret
      exact ⟨rfl, dW⟩
  · rw [if_neg hs] at SZ
    clear hs hn hx
    go_enter Try.func3, Try.ntmps3
    go_wp2_with fail
    refine (SZ.out _ (hR.out.below hB0)).mono ?_
    rintro e w0 ⟨rfl, d0⟩
    go_wp2_with fail
    go_ret
    exact ⟨rfl, hB0.trans (d0.mono hB0.size)⟩
end Go.Proofs.Ytjjdfniemlcnnab
