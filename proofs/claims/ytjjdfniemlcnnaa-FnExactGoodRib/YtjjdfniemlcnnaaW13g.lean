/- The law on GoodRib: the program answers as the specification. -/
import Derived.Test.YtjjdfniemlcnnaaLawR
import Derived.Test.YtjjdfniemlcnnaaS13g
import Derived.Deep.RegionHeld3
import Derived.Test.YtjjdfniemlcnnaaI13g
namespace Go.Proofs.Ytjjdfniemlcnnaa
open Go.RowKit

set_option maxRecDepth 100000 in
set_option maxHeartbeats 3200000 in
theorem w_goodRib (ow : Int) (a : Option Addr) (n c : Nat) (U : Nat → Rc) (w : World) (hn : n ≤ maxLen) (hx : MaxR n U) (hR : RowR a n U w) :
    Calls Try.prog 4 #[.agg #[.int .i64 ow, .slice a n c]] w fun e w' => e = .returned (.bool true) ∧ Below w.heap.size w w' := by
  have SZ := hide (fun w R => w_szRib ow a n c U 1048576 w hn hx (by omega) (by omega) R)
  have M0 := Mut.new w #[.int .i64 ow, .slice a n c] 32
  have dd : Below w.heap.size w (w.alloc (.cells #[.int .i64 ow, .slice a n c] 32)) := below_box (Below.refl _ _)
  have hw0 : w.heap.size < (w.alloc (.cells #[.int .i64 ow, .slice a n c] 32)).heap.size := by simp
  by_cases hs : (n : Int) + (totR U n : Int) ≤ 1048576
  · rw [if_pos hs] at SZ
    have hlt : ¬ (1048576 - (n : Int) - (totR U n : Int) < 0) := by omega
    have hn1 : n ≤ 1048576 := by omega
    have hl : LowR n U := lowR_of (by omega)
    have TP := hide (fun w R => w_toRib ow a n c U w hn1 hl R)
    have SG := hide (fun a c w R => s_goodRib ow a n c U w hn1 hl R)
    have IG := hide (fun a c w R => i_goodRib ow a n c U w hn1 hl R)
    have E := hide (fun a a' c c' w R Q => w_eqRib ow a a' n c c' U w hn1 hl R Q)
    generalize rbB ow n U = r0 at SG IG
    have k0 : (r0 != r0) = false := by simp
    generalize totR U n = q at *
    clear hn hx hs hn1 hl
    go_enter Try.func4, Try.ntmps4
    go_wp2_with fail
    generalize w.alloc (.cells #[.int .i64 ow, .slice a n c] 32) = wz at *
    refine (SZ.out _ (hR.below dd)).mono ?_
    rintro e w0 ⟨rfl, d0⟩
    have M1 := M0.below d0
    have c0 := M1.2.1 0 _ rfl
    have c1 := M1.2.1 1 _ rfl
    replace d0 := dd.trans (d0.mono dd.size)
    clear M0 dd
    go_wp2_with fail
    refine (TP.out _ (hR.below d0)).mono ?_
    rintro e w1 ⟨q1, rfl, h1, ⟨X1, H1, o1⟩, _, b1⟩
    have d1 := d0.trans (b1.mono d0.size)
    replace M1 := M1.below b1
    have c0 := M1.2.1 0 _ rfl
    have c1 := M1.2.1 1 _ rfl
    clear b1 d0
    go_wp2_with fail
    refine (SG.out _ _ _ o1.row).mono ?_
    rintro e w2 ⟨rfl, b2⟩
    have d2 := d1.trans (b2.mono d1.size)
    replace M1 := M1.below b2
    have c0 := M1.2.1 0 _ rfl
    have c1 := M1.2.1 1 _ rfl
    clear b2 o1 d1
    go_wp2_with fail
    refine (TP.out _ (hR.below d2)).mono ?_
    rintro e w3 ⟨q3, rfl, h3, ⟨X3, H3, o3⟩, _, b3⟩
    have d3 := d2.trans (b3.mono d2.size)
    replace M1 := M1.below b3
    have c0 := M1.2.1 0 _ rfl
    have c1 := M1.2.1 1 _ rfl
    clear b3 d2
    go_wp2_with fail
    have bB : Below w3.heap.size w3 (w3.alloc (.cells #[.int .i64 ow, .slice (some ⟨q3, 0, none⟩) n n] 24)) := below_box (Below.refl _ _)
    have N := Mut.new w3 #[.int .i64 ow, .slice (some ⟨q3, 0, none⟩) n n] 24
    have d6 := d3.trans (bB.mono d3.size)
    have M := M1.below bB
    have o3 := o3.below bB
    clear bB d3 M1 c0 c1
    generalize w3.alloc (.cells #[.int .i64 ow, .slice (some ⟨q3, 0, none⟩) n n] 24) = w6 at *
    generalize w3.heap.size = bx at *
    refine (IG.out _ _ _ o3.row).mono ?_
    rintro e w7 ⟨rfl, b7⟩
    have d7 := d6.trans (b7.mono d6.size)
    have M := M.below b7
    have N := N.below b7
    have o3 := o3.below b7
    clear b7 d6
    go_wp2_with fail
    have dZ : Below w7.heap.size w7 w7 := Below.refl _ _
    have hR := hR.below d7
    have hltM := M.1
    have hltN := N.1
    have u0 := M.2.1 0 _ rfl
    have u1 := M.2.1 1 _ rfl
    have v0 := N.2.1 0 _ rfl
    have v1 := N.2.1 1 _ rfl
    go_region_held3 (fun w' => w'.cell? ⟨w.heap.size, 0, none⟩ = some (.int .i64 ow) ∧ w'.cell? ⟨w.heap.size, 1, none⟩ = some (.slice a n c) ∧ w'.cell? ⟨bx, 0, none⟩ = some (.int .i64 ow) ∧ w'.cell? ⟨bx, 1, none⟩ = some (.slice (some ⟨q3, 0, none⟩) n n)) (first | go_keep | exact ⟨(dE.cell (p := ⟨w.heap.size, 0, none⟩) hltM).trans u0, (dE.cell (p := ⟨w.heap.size, 1, none⟩) hltM).trans u1, (dE.cell (p := ⟨bx, 0, none⟩) hltN).trans v0, (dE.cell (p := ⟨bx, 1, none⟩) hltN).trans v1⟩ | exact ⟨(dE.drew.cell (p := ⟨w.heap.size, 0, none⟩) hltM).trans u0, (dE.drew.cell (p := ⟨w.heap.size, 1, none⟩) hltM).trans u1, (dE.drew.cell (p := ⟨bx, 0, none⟩) hltN).trans v0, (dE.drew.cell (p := ⟨bx, 1, none⟩) hltN).trans v1⟩ | exact ⟨(dT.cell (p := ⟨w.heap.size, 0, none⟩) hltM).trans u0, (dT.cell (p := ⟨w.heap.size, 1, none⟩) hltM).trans u1, (dT.cell (p := ⟨bx, 0, none⟩) hltN).trans v0, (dT.cell (p := ⟨bx, 1, none⟩) hltN).trans v1⟩ | exact ⟨(dT.drew.cell (p := ⟨w.heap.size, 0, none⟩) hltM).trans u0, (dT.drew.cell (p := ⟨w.heap.size, 1, none⟩) hltM).trans u1, (dT.drew.cell (p := ⟨bx, 0, none⟩) hltN).trans v0, (dT.drew.cell (p := ⟨bx, 1, none⟩) hltN).trans v1⟩ | exact ⟨(dZ.cell (p := ⟨w.heap.size, 0, none⟩) hltM).trans u0, (dZ.cell (p := ⟨w.heap.size, 1, none⟩) hltM).trans u1, (dZ.cell (p := ⟨bx, 0, none⟩) hltN).trans v0, (dZ.cell (p := ⟨bx, 1, none⟩) hltN).trans v1⟩ | exact ⟨(dZ.drew.cell (p := ⟨w.heap.size, 0, none⟩) hltM).trans u0, (dZ.drew.cell (p := ⟨w.heap.size, 1, none⟩) hltM).trans u1, (dZ.drew.cell (p := ⟨bx, 0, none⟩) hltN).trans v0, (dZ.drew.cell (p := ⟨bx, 1, none⟩) hltN).trans v1⟩) ((first | (go_at_call 14; refine (TP.out _ (hR.below (by first | exact dZ | exact dZ.drew))).mono ?_; rintro e wT ⟨qT, rfl, _, ⟨XT, HT, oT⟩, _, bT⟩; have dT : Below w7.heap.size w7 wT := (by first | exact below_step dZ bT | exact below_step dZ.drew bT)) | (go_at_call 9; refine (E.out _ _ _ _ _ (by first | exact (o3.below dT).row | exact (o3.below dT.drew).row) (by first | exact oT.row | exact (oT.below (Below.refl _ _).drew).row)).mono ?_; rintro e wE ⟨rfl, bE⟩; have dE : Below w7.heap.size w7 wE := (by first | exact below_step dT bE | exact below_step dT.drew bE))))
    all_goals
      have d8 := d7.trans (dE.mono d7.size)
      go_wp2_with fail
      go_ret
      exact ⟨rfl, d8⟩
  · rw [if_neg hs] at SZ
    clear hs hn hx
    go_enter Try.func4, Try.ntmps4
    go_wp2_with fail
    refine (SZ.out _ (hR.below dd)).mono ?_
    rintro e w0 ⟨rfl, d0⟩
    go_wp2_with fail
    go_ret
    exact ⟨rfl, dd.trans (d0.mono dd.size)⟩
end Go.Proofs.Ytjjdfniemlcnnaa
