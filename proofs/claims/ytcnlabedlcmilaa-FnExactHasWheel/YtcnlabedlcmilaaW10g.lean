/- The law on HasWheel: the program answers as the specification. -/
import Derived.Test.YtcnlabedlcmilaaSp10
import Derived.Deep.RegionHeld3
import Derived.Test.YtcnlabedlcmilaaS10y
import Derived.Test.YtcnlabedlcmilaaI10w
namespace Go.Proofs.Ytcnlabedlcmilaa
open Go.RowKit
set_option maxRecDepth 100000 in
set_option maxHeartbeats 6400000 in
theorem w_hasWheelE (a : Option Addr) (n c : Nat) (U : Nat → Pl) (w : World) (hn : n ≤ maxLen) (hx : MaxS n U) (hR : RowS3 a n U w) :
    Calls Try.prog 9 #[.agg #[.slice a n c]] w fun e w' => e = .returned (.bool true) ∧ Below w.heap.size w w' := by
  have SZ := hide (fun w R => w_szSpp a n c U 1048576 w hn hx (by omega) (by omega) R)
  have M0 := Mut.new w #[.slice a n c] 24
  have dd : Below w.heap.size w (w.alloc (.cells #[.slice a n c] 24)) := below_box (Below.refl _ _)
  have hw0 : w.heap.size < (w.alloc (.cells #[.slice a n c] 24)).heap.size := by simp
  by_cases hs : (n : Int) + (totS U n : Int) ≤ 1048576
  · rw [if_pos hs] at SZ
    have hlt : ¬ (1048576 - (n : Int) - (totS U n : Int) < 0) := by omega
    have hn1 : n ≤ 1048576 := by omega
    have hl : LowS n U := lowS_of (by omega)
    have TP := hide (fun w R => w_toSpp a n c U w hn1 hl R)
    have SG := hide (fun a c w R => s_hasWheelE a n c U w hn1 hl R)
    have IG := hide (fun a c w R => i_hasWheelE a n c U w hn1 hl R)
    have E := hide (fun a a' c c' w R Q => w_eqSpp a a' n c c' U w hn1 hl R Q)
    generalize whB n U = r0 at SG IG
    have kr0 : (r0 != r0) = false := by simp
    generalize gsB n U = r1 at SG IG
    have kr1 : (r1 != r1) = false := by simp
    generalize totS U n = q at *
    clear hn hx hs hn1 hl
    go_enter Try.func9, Try.ntmps9
    go_wp2_with fail
    generalize w.alloc (.cells #[.slice a n c] 24) = wz at *
    refine (SZ.out _ (hR.below (dd))).mono ?_
    rintro e w0 ⟨rfl, d0⟩
    have M1 := M0.below d0
    have c0 := M1.2.1 0 _ rfl
    replace d0 := dd.trans (d0.mono dd.size)
    clear M0 dd
    go_wp2_with fail
    refine (TP.out _ (hR.below (d0))).mono ?_
    rintro e w1 ⟨q1, rfl, h1, _, ⟨X1, H1, o1⟩, b1⟩
    have d1 := d0.trans (b1.mono d0.size)
    replace M1 := M1.below b1
    have c0 := M1.2.1 0 _ rfl
    clear b1 d0
    go_wp2_with fail
    refine (SG.out _ _ _ o1.rowK).mono ?_
    rintro e w3 ⟨rfl, b3⟩
    have d3 := d1.trans (b3.mono d1.size)
    replace M1 := M1.below b3
    have c0 := M1.2.1 0 _ rfl
    clear b3 d1
    clear o1
    go_wp2_with fail
    refine (TP.out _ (hR.below (d3))).mono ?_
    rintro e w4 ⟨q4, rfl, h4, _, ⟨X4, H4, o4⟩, b4⟩
    have d4 := d3.trans (b4.mono d3.size)
    replace M1 := M1.below b4
    have c0 := M1.2.1 0 _ rfl
    clear b4 d3
    go_wp2_with fail
    have bB : Below w4.heap.size w4 (w4.alloc (.cells #[.slice (some ⟨q4, 0, none⟩) n n] 27)) := below_box (Below.refl _ _)
    have N := Mut.new w4 #[.slice (some ⟨q4, 0, none⟩) n n] 27
    have d5 := d4.trans (bB.mono d4.size)
    replace M1 := M1.below bB
    replace o4 := o4.below bB
    clear bB d4 c0
    generalize w4.alloc (.cells #[.slice (some ⟨q4, 0, none⟩) n n] 27) = w5 at *
    generalize w4.heap.size = bx at *
    have c0 := M1.2.1 0 _ rfl
    have x0 := N.2.1 0 _ rfl
    refine (IG.out _ _ _ o4.rowK).mono ?_
    rintro e w7 ⟨rfl, b7⟩
    have d7 := d5.trans (b7.mono d5.size)
    replace M1 := M1.below b7
    replace N := N.below b7
    replace o4 := o4.below b7
    have c0 := M1.2.1 0 _ rfl
    have x0 := N.2.1 0 _ rfl
    clear b7 d5
    go_wp2_with fail
    have dZ : Below w7.heap.size w7 w7 := Below.refl _ _
    have hR7 := hR.below (d7)
    have hltM := M1.1
    have hltN := N.1
    have u0 := M1.2.1 0 _ rfl
    have v0 := N.2.1 0 _ rfl
    clear c0 x0
    go_region_held3 (fun w' => w'.cell? ⟨w.heap.size, 0, none⟩ = some (.slice a n c) ∧ w'.cell? ⟨bx, 0, none⟩ = some (.slice (some ⟨q4, 0, none⟩) n n)) (first | go_keep | exact ⟨(dE.cell (p := ⟨w.heap.size, 0, none⟩) hltM).trans u0, (dE.cell (p := ⟨bx, 0, none⟩) hltN).trans v0⟩ | exact ⟨(dE.drew.cell (p := ⟨w.heap.size, 0, none⟩) hltM).trans u0, (dE.drew.cell (p := ⟨bx, 0, none⟩) hltN).trans v0⟩ | exact ⟨(dT.cell (p := ⟨w.heap.size, 0, none⟩) hltM).trans u0, (dT.cell (p := ⟨bx, 0, none⟩) hltN).trans v0⟩ | exact ⟨(dT.drew.cell (p := ⟨w.heap.size, 0, none⟩) hltM).trans u0, (dT.drew.cell (p := ⟨bx, 0, none⟩) hltN).trans v0⟩ | exact ⟨(dZ.cell (p := ⟨w.heap.size, 0, none⟩) hltM).trans u0, (dZ.cell (p := ⟨bx, 0, none⟩) hltN).trans v0⟩ | exact ⟨(dZ.drew.cell (p := ⟨w.heap.size, 0, none⟩) hltM).trans u0, (dZ.drew.cell (p := ⟨bx, 0, none⟩) hltN).trans v0⟩) ((first | (go_at_call 17; refine (TP.out _ (hR7.below (by first | exact dZ | exact dZ.drew))).mono ?_; rintro e wT ⟨qT, rfl, _, _, ⟨XT, HT, oT⟩, bT⟩; have dT : Below w7.heap.size w7 wT := (by first | exact below_step dZ bT | exact below_step dZ.drew bT)) | (go_at_call 19; refine (E.out _ _ _ _ _ (by first | exact (o4.below dT).row | exact (o4.below dT.drew).row) (by first | exact oT.row | exact (oT.below (Below.refl _ _).drew).row)).mono ?_; rintro e wE ⟨rfl, bE⟩; have dE : Below w7.heap.size w7 wE := (by first | exact below_step dT bE | exact below_step dT.drew bE))))
    all_goals
      have d8 := d7.trans (dE.mono d7.size)
      clear u0 v0
      go_wp2_with fail
      go_ret
      exact ⟨rfl, d8⟩
  · rw [if_neg hs] at SZ
    clear hs hn hx
    go_enter Try.func9, Try.ntmps9
    go_wp2_with fail
    refine (SZ.out _ (hR.below dd)).mono ?_
    rintro e w0 ⟨rfl, d0⟩
    go_wp2_with fail
    go_ret
    exact ⟨rfl, dd.trans (d0.mono dd.size)⟩
end Go.Proofs.Ytcnlabedlcmilaa
