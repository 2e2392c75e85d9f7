/- The law on HeardFrom: the program answers as the specification, in memory of its own. -/
import Derived.Test.YtjjdfniemlcnnaaLawR
import Derived.Test.YtjjdfniemlcnnaaAll11
import Derived.Test.YtjjdfniemlcnnaaS13h
import Derived.Test.YtjjdfniemlcnnaaI13h
import Derived.Deep.DeepCutAuto
import Derived.Deep.CutRange
import Derived.Deep.RegionHeld3
namespace Go.Proofs.Ytjjdfniemlcnnaa
open Go.RowKit

set_option maxRecDepth 100000 in
set_option maxHeartbeats 12800000 in
theorem w_heardFrom (ow : Int) (a : Option Addr) (n c : Nat) (U : Nat → Rc) (x : Int) (w : World) (hn : n ≤ maxLen) (hx : MaxR n U) (hR0 : RowR a n U w) :
    Calls Try.prog 5 #[.agg #[.int .i64 ow, .slice a n c], .int .i64 x] w fun e w' => e = .returned (.bool true) ∧ Below w.heap.size w w' := by
  have SZ := hide (fun w R => w_szRib ow a n c U 1048576 w hn hx (by omega) (by omega) R)
  have MB := Mut.new w #[.int .i64 ow, .slice a n c] 32
  have hB0 : Below w.heap.size w (w.alloc (.cells #[.int .i64 ow, .slice a n c] 32)) := below_box (Below.refl _ _)
  have hR := hide hR0
  clear hR0
  by_cases hs : (n : Int) + (totR U n : Int) ≤ 1048576
  · rw [if_pos hs] at SZ
    have hlt : ¬ (1048576 - (n : Int) - (totR U n : Int) < 0) := by omega
    have hn1 : n ≤ 1048576 := by omega
    have hl : LowR n U := lowR_of (by omega)
    have TP := hide (fun w R => w_toRib ow a n c U w hn1 hl R)
    have SB := hide (fun a c w R => s_heardFrom ow a n c U x w hn1 hl R)
    have IB := hide (fun a c w R => i_heardFrom ow a n c U x w hn1 hl R)
    have ER := hide (fun a a' c c' w R Q => w_eqRib ow a a' n c c' U w hn1 hl R Q)
    have SRC := hide (fun c X H hi w (h : RowRO c n X H hi U w) => h.src hl)
    have MK := hide (fun c X H hi w hc R F => w_markRib ow c n n X H hi U w (by omega) hc R F)
    have t0 := he_tot ow n U x
    have t1 := he_len ow n U x
    have t2 : totG (TG (heL ow n U x)) (heL ow n U x).length ≤ 1048576 := by omega
    have hD1 : (heL ow n U x).length ≤ 1048576 := by omega
    have hANS := hide (fun base v M w (h : LsG base v M w) (hM : M.map (·.t) = heL ow n U x) => h.ans hM)
    generalize heL ow n U x = DD at *
    generalize heB ow n U x = bb at *
    have EO := hide (fun a b c e w R Q => w_eqRouteS a b DD.length c e (TG DD) w hD1 (lowG_of t2) R Q)
    have MO := hide (fun va vc P w h => w_markRouT va vc DD.length (TG DD) P w hD1 t2 h)
    have HO := hide (fun a cap w R => w_heldRouteS a DD.length cap (TG DD) w hD1 t2 R)
    generalize TG DD = TD at *
    generalize kmG TD DD.length = km at *
    generalize halfG TD DD.length = HT at *
    generalize DD.length = nD at *
    have kb0 : (bb != bb) = false := by simp
    have km0 : ((km : Int) != (km : Int)) = false := by simp
    have km1 : ¬ ((km : Int) < 0) := by omega
    generalize totR U n = qq at *
    clear hn hx hs hn1 hl t0 t1 t2
    go_enter Try.func5, Try.ntmps5
    go_wp2_with fail
    generalize w.alloc (.cells #[.int .i64 ow, .slice a n c] 32) = W0 at *
    refine (SZ.out _ (hR.out.below hB0)).mono ?_
    rintro e w0 ⟨rfl, d0⟩
    replace MB := MB.below d0
    have dW := hB0.trans (d0.mono hB0.size)
    clear d0 SZ hB0
    have m0 := MB.2.1 0 _ rfl
    have m1 := MB.2.1 1 _ rfl
    go_wp2_with fail
    refine (TP.out _ (hR.out.below dW)).mono ?_
    rintro e w1 ⟨qT, rfl, _, ⟨XT, HTT, oT⟩, _, b1⟩
    replace MB := MB.below b1
    replace dW := dW.trans (b1.mono dW.size)
    clear b1 m0 m1
    go_wp2_with fail
    refine (SB.out _ _ _ (SRC.out _ _ _ _ _ oT)).mono ?_
    rintro e wA ⟨v, M, rfl, hM, hO, b2⟩
    replace MB := MB.below b2
    replace dW := dW.trans (b2.mono dW.size)
    obtain ⟨va, vc, P, rfl, hOW, _⟩ := hANS.out _ _ _ _ hO hM
    have OW := hide hOW.1
    have hWA := dW.size
    have hBA : w.heap.size < wA.heap.size := MB.1
    clear b2 hM hO hOW oT
    have m0 := MB.2.1 0 _ rfl
    have m1 := MB.2.1 1 _ rfl
    go_wp2_with fail
    refine (TP.out _ (hR.out.below dW)).mono ?_
    rintro e w3 ⟨q3, rfl, hq3, ⟨X3, H3, o3⟩, F3, b3⟩
    clear m0 m1
    have bB : Below w3.heap.size w3 (w3.alloc (.cells #[.int .i64 ow, .slice (some ⟨q3, 0, none⟩) n n] 24)) := below_box (Below.refl _ _)
    have MX := Mut.new w3 #[.int .i64 ow, .slice (some ⟨q3, 0, none⟩) n n] 24
    have hq3l : q3 < w3.heap.size := F3.1
    have DA := below_step b3 bB
    have hA6 := DA.size
    replace MB := MB.below DA
    replace dW := dW.trans (DA.mono dW.size)
    have hw6 := dW.size
    replace o3 := o3.below bB
    replace F3 := F3.below bB
    have hz6 : w3.heap.size < (w3.alloc (.cells #[.int .i64 ow, .slice (some ⟨q3, 0, none⟩) n n] 24)).heap.size := MX.1
    clear b3 bB
    go_wp2_with fail
    generalize w3.alloc (.cells #[.int .i64 ow, .slice (some ⟨q3, 0, none⟩) n n] 24) = w6 at *
    generalize w3.heap.size = bx at *
    refine (IB.out _ _ _ (SRC.out _ _ _ _ _ o3)).mono ?_
    rintro e wB ⟨v, M, rfl, hM, hO, eB⟩
    obtain ⟨ga, gc, GP, rfl, hOG, hPd⟩ := hANS.out _ _ _ _ hO hM
    have hPd := hide hPd
    clear hM hO
    replace DA := DA.trans (eB.mono DA.size)
    replace dW := dW.trans (eB.mono dW.size)
    replace MX := MX.below eB
    replace o3 := o3.below eB
    replace F3 := F3.below eB
    replace MB := MB.below eB
    clear eB
    go_wp2_with fail
    refine (EO.out _ _ _ _ _ hOG.1 (OW.out.below DA)).mono ?_
    rintro e w7 ⟨rfl, b7⟩
    replace DA := DA.trans (b7.mono DA.size)
    replace dW := dW.trans (b7.mono dW.size)
    replace MX := MX.below b7
    replace o3 := o3.below b7
    replace F3 := F3.below b7
    replace MB := MB.below b7
    replace hOG := hOG.below b7
    clear b7
    generalize w7 = w8 at *
    go_upto_region 10 with fail
    have dZ : Below w8.heap.size w8 w8 := Below.refl _ _
    have hRW := hR.out.below dW
    have hltM := MB.1
    have hltN := MX.1
    have v0 := MB.2.1 0 _ rfl
    have v1 := MB.2.1 1 _ rfl
    have v2 := MX.2.1 0 _ rfl
    have v3 := MX.2.1 1 _ rfl
    go_region_held3 (fun w' => w'.cell? ⟨w.heap.size, 0, none⟩ = some (.int .i64 ow) ∧ w'.cell? ⟨w.heap.size, 1, none⟩ = some (.slice a n c) ∧ w'.cell? ⟨bx, 0, none⟩ = some (.int .i64 ow) ∧ w'.cell? ⟨bx, 1, none⟩ = some (.slice (some ⟨q3, 0, none⟩) n n)) (first | go_keep | exact ⟨(dE.cell (p := ⟨w.heap.size, 0, none⟩) hltM).trans v0, (dE.cell (p := ⟨w.heap.size, 1, none⟩) hltM).trans v1, (dE.cell (p := ⟨bx, 0, none⟩) hltN).trans v2, (dE.cell (p := ⟨bx, 1, none⟩) hltN).trans v3⟩ | exact ⟨(dE.drew.cell (p := ⟨w.heap.size, 0, none⟩) hltM).trans v0, (dE.drew.cell (p := ⟨w.heap.size, 1, none⟩) hltM).trans v1, (dE.drew.cell (p := ⟨bx, 0, none⟩) hltN).trans v2, (dE.drew.cell (p := ⟨bx, 1, none⟩) hltN).trans v3⟩ | exact ⟨(dT.cell (p := ⟨w.heap.size, 0, none⟩) hltM).trans v0, (dT.cell (p := ⟨w.heap.size, 1, none⟩) hltM).trans v1, (dT.cell (p := ⟨bx, 0, none⟩) hltN).trans v2, (dT.cell (p := ⟨bx, 1, none⟩) hltN).trans v3⟩ | exact ⟨(dT.drew.cell (p := ⟨w.heap.size, 0, none⟩) hltM).trans v0, (dT.drew.cell (p := ⟨w.heap.size, 1, none⟩) hltM).trans v1, (dT.drew.cell (p := ⟨bx, 0, none⟩) hltN).trans v2, (dT.drew.cell (p := ⟨bx, 1, none⟩) hltN).trans v3⟩ | exact ⟨(dZ.cell (p := ⟨w.heap.size, 0, none⟩) hltM).trans v0, (dZ.cell (p := ⟨w.heap.size, 1, none⟩) hltM).trans v1, (dZ.cell (p := ⟨bx, 0, none⟩) hltN).trans v2, (dZ.cell (p := ⟨bx, 1, none⟩) hltN).trans v3⟩ | exact ⟨(dZ.drew.cell (p := ⟨w.heap.size, 0, none⟩) hltM).trans v0, (dZ.drew.cell (p := ⟨w.heap.size, 1, none⟩) hltM).trans v1, (dZ.drew.cell (p := ⟨bx, 0, none⟩) hltN).trans v2, (dZ.drew.cell (p := ⟨bx, 1, none⟩) hltN).trans v3⟩) ((first | (go_at_call 14; refine (TP.out _ (hRW.below (by first | exact dZ | exact dZ.drew))).mono ?_; rintro e wT ⟨qT, rfl, _, ⟨XT, HTT, oT⟩, _, bT⟩; have dT : Below w8.heap.size w8 wT := (by first | exact below_step dZ bT | exact below_step dZ.drew bT)) | (go_at_call 9; refine (ER.out _ _ _ _ _ (by first | exact (o3.below dT).row | exact (o3.below dT.drew).row) (by first | exact oT.row | exact (oT.below (Below.refl _ _).drew).row)).mono ?_; rintro e wE ⟨rfl, bE⟩; have dE : Below w8.heap.size w8 wE := (by first | exact below_step dT bE | exact below_step dT.drew bE))))
    all_goals
      clear v0 v1 v2 v3 hltM hltN dZ dT bT bE oT hRW
      replace DA := DA.trans (dE.mono DA.size)
      replace dW := dW.trans (dE.mono dW.size)
      replace MX := MX.below dE
      replace o3 := o3.below dE
      replace F3 := F3.below dE
      replace MB := MB.below dE
      replace hOG := hOG.below dE
      clear dE
      generalize wE = w9 at *
      have v2 := MX.2.1 0 _ rfl
      have v3 := MX.2.1 1 _ rfl
      go_upto_region 13 with fail
      go_wp2_with fail
      refine (MK.out _ _ _ _ _ hq3l o3 F3).mono ?_
      rintro e w10 ⟨r, rfl, b10⟩
      have hr0 : ¬ ((r : Int) < 0) := by omega
      replace DA := DA.trans (b10.below (base := wA.heap.size) (fun k hk => Nat.le_trans hq3 hk.1) DA.size)
      replace dW := dW.trans (b10.below (base := w.heap.size) (fun k hk => Nat.le_trans hWA (Nat.le_trans hq3 hk.1)) dW.size)
      replace MB := MB.onlyS13h b10 (fun h => by have h1 := h.1; omega)
      replace hOG := hOG.onlyS b10 (fun k hk h => by have h1 := h.2; have h2 := hPd.out k hk; omega)
      clear v2 v3 b10 MX o3 F3
      go_upto_region 14 with fail
      go_wp2_with fail
      refine (EO.out _ _ _ _ _ hOG.1 (OW.out.below DA)).mono ?_
      rintro e w11 ⟨rfl, b11⟩
      replace DA := DA.trans (b11.mono DA.size)
      replace dW := dW.trans (b11.mono dW.size)
      replace MB := MB.below b11
      replace hOG := hOG.below b11
      clear b11
      go_upto_region 17 with fail
      go_wp2_with fail
      refine (MO.out _ _ _ _ hOG).mono ?_
      rintro e w13 ⟨rfl, hOM, b13⟩
      replace DA := DA.trans (b13.below (base := wA.heap.size) (fun k hk => Nat.le_trans hA6 (hPd.out k hk)) DA.size)
      replace dW := dW.trans (b13.below (base := w.heap.size) (fun k hk => Nat.le_trans hw6 (hPd.out k hk)) dW.size)
      replace MB := MB.onlyS13h b13 (fun h => by have h2 := hPd.out _ h; omega)
      clear b13 hOG
      go_wp2_with fail
      refine (HO.out _ _ _ hOM.1).mono ?_
      rintro e w15 ⟨rfl, b15⟩
      replace DA := DA.trans (b15.mono DA.size)
      replace dW := dW.trans (b15.mono dW.size)
      replace MB := MB.below b15
      replace hOM := hOM.below b15
      clear b15
      have m0 := MB.2.1 0 _ rfl
      have m1 := MB.2.1 1 _ rfl
      go_wp2_with fail
      refine (TP.out _ (hR.out.below dW)).mono ?_
      rintro e w17 ⟨qT, rfl, _, ⟨XT, HTT, oT⟩, _, b17⟩
      replace DA := DA.trans (b17.mono DA.size)
      replace dW := dW.trans (b17.mono dW.size)
      replace hOM := hOM.below b17
      clear b17 m0 m1 MB
      go_wp2_with fail
      refine (IB.out _ _ _ (SRC.out _ _ _ _ _ oT)).mono ?_
      rintro e w18 ⟨v, M, rfl, hM, hO, b18⟩
      obtain ⟨ha, hc, _, rfl, hOH, _⟩ := hANS.out _ _ _ _ hO hM
      replace DA := DA.trans (b18.mono DA.size)
      replace dW := dW.trans (b18.mono dW.size)
      replace hOM := hOM.below b18
      clear b18 hM hO oT
      go_wp2_with fail
      refine (EO.out _ _ _ _ _ hOH.1 (OW.out.below DA)).mono ?_
      rintro e w19 ⟨rfl, b19⟩
      replace dW := dW.trans (b19.mono dW.size)
      replace hOM := hOM.below b19
      clear b19 hOH DA
      go_wp2_with fail
      refine (HO.out _ _ _ hOM.1).mono ?_
      rintro e w21 ⟨rfl, b21⟩
      replace dW := dW.trans (b21.mono dW.size)
      clear b21
      go_wp2_with fail
      go_ret
      exact ⟨rfl, dW⟩
  · rw [if_neg hs] at SZ
    clear hs hn hx
    go_enter Try.func5, Try.ntmps5
    go_wp2_with fail
    refine (SZ.out _ (hR.out.below hB0)).mono ?_
    rintro e w0 ⟨rfl, d0⟩
    go_wp2_with fail
    go_ret
    exact ⟨rfl, hB0.trans (d0.mono hB0.size)⟩
end Go.Proofs.Ytjjdfniemlcnnaa
