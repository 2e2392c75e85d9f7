/- Laws on a list of nodes and a prefix whose answer is a list of nodes of its own (RemoveFrom), walked out of what the specification's and the program's functions answer. -/
import Derived.Test.YtjmflkheaioboabW2f
import Derived.Deep.RegionHeld3
namespace Go.Proofs.Ytjmflkheaioboab
open Go.RowKit

set_option maxRecDepth 100000 in
set_option maxHeartbeats 6400000 in
theorem w_removeFrom_yes (a0 : Option Addr) (len cap : Nat) (f0 f1 : Nat → Int) (f2 : Nat → Bool) (f3 : Nat → Int) (pa pl : Int) (n : Nat) (F0 F1 : Nat → Int) (F2 : Nat → Bool) (F3 : Nat → Int) (w : World) (h : len ≤ 1048576) (hn : n ≤ 1048576) (hRw : RowTrieNode a0 len f0 f1 f2 f3 w)
    (hS : Hid (∀ a cap w, RowTrieNode a len f0 f1 f2 f3 w → Calls Try.prog 37 #[.slice a len cap, .agg #[.int .i64 pa, .int .i64 pl]] w fun e w' => ∃ g c, e = .returned (.tuple #[.slice (some ⟨g, 0, none⟩) n c, .bool true]) ∧ w.heap.size ≤ g ∧ OutTrieNode g n n F0 F1 F2 F3 w' ∧ Below w.heap.size w w'))
    (hI : Hid (∀ a cap w, RowTrieNode a len f0 f1 f2 f3 w → Calls Try.prog 38 #[.slice a len cap, .agg #[.int .i64 pa, .int .i64 pl]] w fun e w' => ∃ g c, e = .returned (.tuple #[.slice (some ⟨g, 0, none⟩) n c, .bool true]) ∧ w.heap.size ≤ g ∧ OutTrieNode g n n F0 F1 F2 F3 w' ∧ Below w.heap.size w w')) :
    Calls Try.prog 10 #[.slice a0 len cap, .agg #[.int .i64 pa, .int .i64 pl]] w fun e w' => e = .returned (.bool true) ∧ Below w.heap.size w w' := by
  have hsz := hide (fun w => w_szTrieNodeS a0 len cap w (Nat.le_trans h (by decide)))
  rw [if_pos h] at hsz
  have hlt : ¬ (1048576 - (len : Int) < 0) := by omega
  have T := hide (fun w hR => w_toTrieNodeS a0 len cap f0 f1 f2 f3 w h hR)
  have PP := hide (fun w => w_toPrefix pa pl w)
  have EA := hide (fun a a' cap cap' w hR hR' => w_eqTrieNodeS a a' len cap cap' f0 f1 f2 f3 w h hR hR')
  have MA := hide (fun c cap w hO => w_markTrieNodeS c len cap f0 f1 f2 f3 1 w h (by omega) (by omega) hO)
  have k1 : ¬ (1 + 4 * (len : Int) < 0) := by omega
  have E := hide (fun a a' cap cap' w hR hR' => w_eqTrieNodeS a a' n cap cap' F0 F1 F2 F3 w hn hR hR')
  have MG := hide (fun c cap w hO => w_markTrieNodeS c n cap F0 F1 F2 F3 1 w hn (by omega) (by omega) hO)
  have HG := hide (fun a cap w hR => w_heldTrieNodeS a n cap 1 w hn (by omega) (by omega) hR)
  have k2 : ¬ (1 + 4 * (n : Int) < 0) := by omega
  have k3 : ((1 + 4 * (n : Int)) != (1 + 4 * (n : Int))) = false := by simp
  go_enter Try.func10, Try.ntmps10
  go_wp2_with fail
  refine (hsz.out _).mono ?_
  rintro e w0 ⟨rfl, hw0⟩
  have hB0 : Below w.heap.size w w0 := by rw [hw0]; exact below_box (Below.refl _ _)
  have q0 : w0.cell? ⟨w.heap.size, 0, none⟩ = some (.int .i64 pa) := by rw [hw0]; simp [go_sem]
  have q1 : w0.cell? ⟨w.heap.size, 1, none⟩ = some (.int .i64 pl) := by rw [hw0]; simp [go_sem]
  have hw1 : w.heap.size < w0.heap.size := by rw [hw0]; simp
  have hR := hRw.below hB0
  have d0 : Below w0.heap.size w0 w0 := Below.refl _ _
  clear hw0 hRw
  go_wp2_with fail
  go_region_held3 (fun w' => w'.cell? ⟨w.heap.size, 0, none⟩ = some (.int .i64 pa) ∧ w'.cell? ⟨w.heap.size, 1, none⟩ = some (.int .i64 pl)) (first | go_keep | exact ⟨(d2.cell (p := ⟨w.heap.size, 0, none⟩) hw1).trans q0, (d2.cell (p := ⟨w.heap.size, 1, none⟩) hw1).trans q1⟩ | exact ⟨(d2.drew.cell (p := ⟨w.heap.size, 0, none⟩) hw1).trans q0, (d2.drew.cell (p := ⟨w.heap.size, 1, none⟩) hw1).trans q1⟩ | exact ⟨(dP.cell (p := ⟨w.heap.size, 0, none⟩) hw1).trans q0, (dP.cell (p := ⟨w.heap.size, 1, none⟩) hw1).trans q1⟩ | exact ⟨(dP.drew.cell (p := ⟨w.heap.size, 0, none⟩) hw1).trans q0, (dP.drew.cell (p := ⟨w.heap.size, 1, none⟩) hw1).trans q1⟩ | exact ⟨(dT.cell (p := ⟨w.heap.size, 0, none⟩) hw1).trans q0, (dT.cell (p := ⟨w.heap.size, 1, none⟩) hw1).trans q1⟩ | exact ⟨(dT.drew.cell (p := ⟨w.heap.size, 0, none⟩) hw1).trans q0, (dT.drew.cell (p := ⟨w.heap.size, 1, none⟩) hw1).trans q1⟩ | exact ⟨(d0.cell (p := ⟨w.heap.size, 0, none⟩) hw1).trans q0, (d0.cell (p := ⟨w.heap.size, 1, none⟩) hw1).trans q1⟩ | exact ⟨(d0.drew.cell (p := ⟨w.heap.size, 0, none⟩) hw1).trans q0, (d0.drew.cell (p := ⟨w.heap.size, 1, none⟩) hw1).trans q1⟩) ((first | (go_at_call 27; refine (T.out _ (hR.below (by first | exact dP | exact dP.drew | exact d0 | exact d0.drew))).mono ?_; rintro e wT ⟨rfl, bT, oT⟩; have dT : Below w0.heap.size w0 wT := (by first | exact below_step dP bT | exact below_step dP.drew bT | exact below_step d0 bT | exact below_step d0.drew bT)) | (go_at_call 35; refine (PP.out _).mono ?_; rintro e wP ⟨rfl, bP⟩; have dP : Below w0.heap.size w0 wP := (by first | exact below_step dT bP | exact below_step dT.drew bP | exact below_step d0 bP | exact below_step d0.drew bP)) | (go_at_call 37; refine (hS.out _ _ _ (by first | exact oT.row | exact (oT.below (Below.refl _ _).drew).row | exact (oT.below bP).row | exact (oT.below ((Below.refl _ _).drew.trans bP)).row | exact (oT.below (bP.drew)).row | exact (oT.below (((Below.refl _ _).drew.trans bP).drew)).row)).mono ?_; rintro e w2 ⟨gs, cs, rfl, hgs, Os, b2⟩; have d2 : Below w0.heap.size w0 w2 := (by first | exact below_step dP b2 | exact below_step dP.drew b2 | exact below_step dT b2 | exact below_step dT.drew b2); have hgs0 : w0.heap.size ≤ gs := (by have e1 := dT.size; have e2 := dP.size; first | omega | (simp at hgs; omega)))))
  all_goals
    clear dT dP oT bT bP b2 d0 hgs
    have hgs1 : gs < w2.heap.size := Os.1
    go_wp2_with fail
    refine (T.out _ (hR.below d2)).mono ?_
    rintro e w3 ⟨rfl, b3, o3⟩
    have Os := Os.below b3
    have d3 := d2.trans (b3.mono d2.size)
    have hc3 : w0.heap.size ≤ w2.heap.size := d2.size
    have hz3 : w2.heap.size < w3.heap.size := o3.1
    clear b3
    have a0' := (d3.cell (p := ⟨w.heap.size, 0, none⟩) hw1).trans q0
    have a1' := (d3.cell (p := ⟨w.heap.size, 1, none⟩) hw1).trans q1
    go_wp2_with fail
    refine (PP.out _).mono ?_
    rintro e w3p ⟨rfl, bp⟩
    have Os := Os.below bp
    have o3 := o3.below bp
    have hz3p := bp.size
    have d3 := d3.trans (bp.mono d3.size)
    clear bp a0' a1'
    go_wp2_with fail
    refine (hI.out _ _ _ o3.row).mono ?_
    rintro e w4 ⟨gg, cg, rfl, hgg, Og, b4⟩
    have d4 := d3.trans (b4.mono d3.size)
    have o3 := o3.below b4
    have Os := Os.below b4
    have hgg0 : w0.heap.size ≤ gg := by omega
    have hgg1 : gg < w4.heap.size := Og.1
    clear b4
    go_wp2_with fail
    refine (E.out _ _ _ _ _ Og.row Os.row).mono ?_
    rintro e w5 ⟨rfl, b5⟩
    have d5 := d4.trans (b5.mono d4.size)
    have o3 := o3.below b5
    have Os := Os.below b5
    have Og := Og.below b5
    clear b5
    go_wp2_with fail
    refine (T.out _ (hR.below d5)).mono ?_
    rintro e w6 ⟨rfl, b6, o6⟩
    have d6 := d5.trans (b6.mono d5.size)
    have o3 := o3.below b6
    have Os := Os.below b6
    have Og := Og.below b6
    clear b6
    go_wp2_with fail
    refine (EA.out _ _ _ _ _ o3.row o6.row).mono ?_
    rintro e w7 ⟨rfl, b7⟩
    have d7 := d6.trans (b7.mono d6.size)
    have o3 := o3.below b7
    have Os := Os.below b7
    have Og := Og.below b7
    clear b7 o6
    go_wp2_with fail
    refine (MA.out _ _ _ o3).mono ?_
    rintro e w8 ⟨rfl, y8, _⟩
    have d8 := d7.trans (only_base y8 hc3 o3.1)
    have Os := Os.only y8 (by omega)
    have Og := Og.only y8 (by omega)
    clear y8 o3
    go_wp2_with fail
    refine (E.out _ _ _ _ _ Og.row Os.row).mono ?_
    rintro e w9 ⟨rfl, b9⟩
    have d9 := d8.trans (b9.mono d8.size)
    have Os := Os.below b9
    have Og := Og.below b9
    clear b9
    go_wp2_with fail
    refine (MG.out _ _ _ Og).mono ?_
    rintro e w10 ⟨rfl, y10, Og'⟩
    have d10 := d9.trans (only_base y10 hgg0 Og.1)
    have Os := Os.only y10 (by omega)
    clear y10 Og
    go_wp2_with fail
    refine (HG.out _ _ _ Og'.row).mono ?_
    rintro e w11 ⟨rfl, rfl⟩
    have hR10 := hR.below d10
    have x0 := (d10.cell (p := ⟨w.heap.size, 0, none⟩) hw1).trans q0
    have x1 := (d10.cell (p := ⟨w.heap.size, 1, none⟩) hw1).trans q1
    have hw10 : w.heap.size < w11.heap.size := Nat.lt_of_lt_of_le hw1 d10.size
    have e0 : Below w11.heap.size w11 w11 := Below.refl _ _
    go_wp2_with fail
    go_region_held3 (fun w' => w'.cell? ⟨w.heap.size, 0, none⟩ = some (.int .i64 pa) ∧ w'.cell? ⟨w.heap.size, 1, none⟩ = some (.int .i64 pl)) (first | go_keep | exact ⟨(e13.cell (p := ⟨w.heap.size, 0, none⟩) hw10).trans x0, (e13.cell (p := ⟨w.heap.size, 1, none⟩) hw10).trans x1⟩ | exact ⟨(e13.drew.cell (p := ⟨w.heap.size, 0, none⟩) hw10).trans x0, (e13.drew.cell (p := ⟨w.heap.size, 1, none⟩) hw10).trans x1⟩ | exact ⟨(dP.cell (p := ⟨w.heap.size, 0, none⟩) hw10).trans x0, (dP.cell (p := ⟨w.heap.size, 1, none⟩) hw10).trans x1⟩ | exact ⟨(dP.drew.cell (p := ⟨w.heap.size, 0, none⟩) hw10).trans x0, (dP.drew.cell (p := ⟨w.heap.size, 1, none⟩) hw10).trans x1⟩ | exact ⟨(dT.cell (p := ⟨w.heap.size, 0, none⟩) hw10).trans x0, (dT.cell (p := ⟨w.heap.size, 1, none⟩) hw10).trans x1⟩ | exact ⟨(dT.drew.cell (p := ⟨w.heap.size, 0, none⟩) hw10).trans x0, (dT.drew.cell (p := ⟨w.heap.size, 1, none⟩) hw10).trans x1⟩ | exact ⟨(e0.cell (p := ⟨w.heap.size, 0, none⟩) hw10).trans x0, (e0.cell (p := ⟨w.heap.size, 1, none⟩) hw10).trans x1⟩ | exact ⟨(e0.drew.cell (p := ⟨w.heap.size, 0, none⟩) hw10).trans x0, (e0.drew.cell (p := ⟨w.heap.size, 1, none⟩) hw10).trans x1⟩) ((first | (go_at_call 27; refine (T.out _ (hR10.below (by first | exact dP | exact dP.drew | exact e0 | exact e0.drew))).mono ?_; rintro e wT ⟨rfl, bT, oT⟩; have dT : Below w11.heap.size w11 wT := (by first | exact below_step dP bT | exact below_step dP.drew bT | exact below_step e0 bT | exact below_step e0.drew bT)) | (go_at_call 35; refine (PP.out _).mono ?_; rintro e wP ⟨rfl, bP⟩; have dP : Below w11.heap.size w11 wP := (by first | exact below_step dT bP | exact below_step dT.drew bP | exact below_step e0 bP | exact below_step e0.drew bP)) | (go_at_call 38; refine (hI.out _ _ _ (by first | exact oT.row | exact (oT.below (Below.refl _ _).drew).row | exact (oT.below bP).row | exact (oT.below ((Below.refl _ _).drew.trans bP)).row | exact (oT.below (bP.drew)).row | exact (oT.below (((Below.refl _ _).drew.trans bP).drew)).row)).mono ?_; rintro e w13 ⟨gh, ch, rfl, hgh, Oh, b13⟩; have e13 : Below w11.heap.size w11 w13 := (by first | exact below_step dP b13 | exact below_step dP.drew b13 | exact below_step dT b13 | exact below_step dT.drew b13))))
    all_goals
      have d13 := d10.trans (e13.mono d10.size)
      have Os := Os.below e13
      have Og' := Og'.below e13
      clear dT dP oT bT bP b13 e0 hR10 x0 x1
      go_wp2_with fail
      refine (E.out _ _ _ _ _ Oh.row Os.row).mono ?_
      rintro e w14 ⟨rfl, b14⟩
      have d14 := d13.trans (b14.mono d13.size)
      have Og' := Og'.below b14
      clear b14
      go_wp2_with fail
      refine (HG.out _ _ _ Og'.row).mono ?_
      rintro e w15 ⟨rfl, rfl⟩
      go_wp2_with fail
      go_ret
      exact ⟨rfl, hB0.trans (d14.mono hB0.size)⟩

set_option maxRecDepth 100000 in
set_option maxHeartbeats 6400000 in
theorem w_removeFrom_no (a0 : Option Addr) (len cap : Nat) (f0 f1 : Nat → Int) (f2 : Nat → Bool) (f3 : Nat → Int) (pa pl : Int) (w : World) (h : len ≤ 1048576) (hRw : RowTrieNode a0 len f0 f1 f2 f3 w)
    (hS : Hid (∀ a cap w, RowTrieNode a len f0 f1 f2 f3 w → Calls Try.prog 37 #[.slice a len cap, .agg #[.int .i64 pa, .int .i64 pl]] w fun e w' => e = .returned (.tuple #[.slice none 0 0, .bool false]) ∧ Below w.heap.size w w'))
    (hI : Hid (∀ a cap w, RowTrieNode a len f0 f1 f2 f3 w → Calls Try.prog 38 #[.slice a len cap, .agg #[.int .i64 pa, .int .i64 pl]] w fun e w' => e = .returned (.tuple #[.slice none 0 0, .bool false]) ∧ Below w.heap.size w w')) :
    Calls Try.prog 10 #[.slice a0 len cap, .agg #[.int .i64 pa, .int .i64 pl]] w fun e w' => e = .returned (.bool true) ∧ Below w.heap.size w w' := by
  have hsz := hide (fun w => w_szTrieNodeS a0 len cap w (Nat.le_trans h (by decide)))
  rw [if_pos h] at hsz
  have hlt : ¬ (1048576 - (len : Int) < 0) := by omega
  have T := hide (fun w hR => w_toTrieNodeS a0 len cap f0 f1 f2 f3 w h hR)
  have PP := hide (fun w => w_toPrefix pa pl w)
  have EA := hide (fun a a' cap cap' w hR hR' => w_eqTrieNodeS a a' len cap cap' f0 f1 f2 f3 w h hR hR')
  have MA := hide (fun c cap w hO => w_markTrieNodeS c len cap f0 f1 f2 f3 1 w h (by omega) (by omega) hO)
  have k1 : ¬ (1 + 4 * (len : Int) < 0) := by omega
  have hnone : ∀ w, RowTrieNode none 0 (fun _ => 0) (fun _ => 0) (fun _ => false) (fun _ => 0) w := fun w i hi => absurd hi (Nat.not_lt_zero _)
  have hnone1 : ∀ w, RowTrieNode none 0 (fun i => 1 + 4 * (i : Int) + 0) (fun i => 1 + 4 * (i : Int) + 1) (fun i => ((1 + 4 * (i : Int) + 2) % 3 == 0)) (fun i => 1 + 4 * (i : Int) + 3) w := fun w i hi => absurd hi (Nat.not_lt_zero _)
  have E := hide (fun w => w_eqTrieNodeS none none 0 0 0 (fun _ => 0) (fun _ => 0) (fun _ => false) (fun _ => 0) w (by omega) (hnone w) (hnone w))
  have MG := hide (fun w => w_markTrieNodeS_nil 1 w)
  have HG := hide (fun w => w_heldTrieNodeS none 0 0 1 w (by omega) (by omega) (by omega) (hnone1 w))
  clear hnone hnone1
  simp only [Int.natCast_zero, Int.mul_zero, Int.add_zero] at HG
  go_enter Try.func10, Try.ntmps10
  go_wp2_with fail
  refine (hsz.out _).mono ?_
  rintro e w0 ⟨rfl, hw0⟩
  have hB0 : Below w.heap.size w w0 := by rw [hw0]; exact below_box (Below.refl _ _)
  have q0 : w0.cell? ⟨w.heap.size, 0, none⟩ = some (.int .i64 pa) := by rw [hw0]; simp [go_sem]
  have q1 : w0.cell? ⟨w.heap.size, 1, none⟩ = some (.int .i64 pl) := by rw [hw0]; simp [go_sem]
  have hw1 : w.heap.size < w0.heap.size := by rw [hw0]; simp
  have hR := hRw.below hB0
  have d0 : Below w0.heap.size w0 w0 := Below.refl _ _
  clear hw0 hRw
  go_wp2_with fail
  go_region_held3 (fun w' => w'.cell? ⟨w.heap.size, 0, none⟩ = some (.int .i64 pa) ∧ w'.cell? ⟨w.heap.size, 1, none⟩ = some (.int .i64 pl)) (first | go_keep | exact ⟨(d2.cell (p := ⟨w.heap.size, 0, none⟩) hw1).trans q0, (d2.cell (p := ⟨w.heap.size, 1, none⟩) hw1).trans q1⟩ | exact ⟨(d2.drew.cell (p := ⟨w.heap.size, 0, none⟩) hw1).trans q0, (d2.drew.cell (p := ⟨w.heap.size, 1, none⟩) hw1).trans q1⟩ | exact ⟨(dP.cell (p := ⟨w.heap.size, 0, none⟩) hw1).trans q0, (dP.cell (p := ⟨w.heap.size, 1, none⟩) hw1).trans q1⟩ | exact ⟨(dP.drew.cell (p := ⟨w.heap.size, 0, none⟩) hw1).trans q0, (dP.drew.cell (p := ⟨w.heap.size, 1, none⟩) hw1).trans q1⟩ | exact ⟨(dT.cell (p := ⟨w.heap.size, 0, none⟩) hw1).trans q0, (dT.cell (p := ⟨w.heap.size, 1, none⟩) hw1).trans q1⟩ | exact ⟨(dT.drew.cell (p := ⟨w.heap.size, 0, none⟩) hw1).trans q0, (dT.drew.cell (p := ⟨w.heap.size, 1, none⟩) hw1).trans q1⟩ | exact ⟨(d0.cell (p := ⟨w.heap.size, 0, none⟩) hw1).trans q0, (d0.cell (p := ⟨w.heap.size, 1, none⟩) hw1).trans q1⟩ | exact ⟨(d0.drew.cell (p := ⟨w.heap.size, 0, none⟩) hw1).trans q0, (d0.drew.cell (p := ⟨w.heap.size, 1, none⟩) hw1).trans q1⟩) ((first | (go_at_call 27; refine (T.out _ (hR.below (by first | exact dP | exact dP.drew | exact d0 | exact d0.drew))).mono ?_; rintro e wT ⟨rfl, bT, oT⟩; have dT : Below w0.heap.size w0 wT := (by first | exact below_step dP bT | exact below_step dP.drew bT | exact below_step d0 bT | exact below_step d0.drew bT)) | (go_at_call 35; refine (PP.out _).mono ?_; rintro e wP ⟨rfl, bP⟩; have dP : Below w0.heap.size w0 wP := (by first | exact below_step dT bP | exact below_step dT.drew bP | exact below_step d0 bP | exact below_step d0.drew bP)) | (go_at_call 37; refine (hS.out _ _ _ (by first | exact oT.row | exact (oT.below (Below.refl _ _).drew).row | exact (oT.below bP).row | exact (oT.below ((Below.refl _ _).drew.trans bP)).row | exact (oT.below (bP.drew)).row | exact (oT.below (((Below.refl _ _).drew.trans bP).drew)).row)).mono ?_; rintro e w2 ⟨rfl, b2⟩; have d2 : Below w0.heap.size w0 w2 := (by first | exact below_step dP b2 | exact below_step dP.drew b2 | exact below_step dT b2 | exact below_step dT.drew b2))))
  all_goals
    clear dT dP oT bT bP b2 d0
    go_wp2_with fail
    refine (T.out _ (hR.below d2)).mono ?_
    rintro e w3 ⟨rfl, b3, o3⟩
    have d3 := d2.trans (b3.mono d2.size)
    have hc3 : w0.heap.size ≤ w2.heap.size := d2.size
    clear b3
    have a0' := (d3.cell (p := ⟨w.heap.size, 0, none⟩) hw1).trans q0
    have a1' := (d3.cell (p := ⟨w.heap.size, 1, none⟩) hw1).trans q1
    go_wp2_with fail
    refine (PP.out _).mono ?_
    rintro e w3p ⟨rfl, bp⟩
    have o3 := o3.below bp
    have d3 := d3.trans (bp.mono d3.size)
    clear bp a0' a1'
    go_wp2_with fail
    refine (hI.out _ _ _ o3.row).mono ?_
    rintro e w4 ⟨rfl, b4⟩
    have d4 := d3.trans (b4.mono d3.size)
    have o3 := o3.below b4
    clear b4
    go_wp2_with fail
    refine (E.out _).mono ?_
    rintro e w5 ⟨rfl, b5⟩
    have d5 := d4.trans (b5.mono d4.size)
    have o3 := o3.below b5
    clear b5
    go_wp2_with fail
    refine (T.out _ (hR.below d5)).mono ?_
    rintro e w6 ⟨rfl, b6, o6⟩
    have d6 := d5.trans (b6.mono d5.size)
    have o3 := o3.below b6
    clear b6
    go_wp2_with fail
    refine (EA.out _ _ _ _ _ o3.row o6.row).mono ?_
    rintro e w7 ⟨rfl, b7⟩
    have d7 := d6.trans (b7.mono d6.size)
    have o3 := o3.below b7
    clear b7 o6
    go_wp2_with fail
    refine (MA.out _ _ _ o3).mono ?_
    rintro e w8 ⟨rfl, y8, _⟩
    have d8 := d7.trans (only_base y8 hc3 o3.1)
    clear y8 o3
    go_wp2_with fail
    refine (E.out _).mono ?_
    rintro e w9 ⟨rfl, b9⟩
    have d10 := d8.trans (b9.mono d8.size)
    clear b9
    go_wp2_with fail
    refine (MG.out _).mono ?_
    rintro e w10 ⟨rfl, rfl⟩
    go_wp2_with fail
    refine (HG.out _).mono ?_
    rintro e w11 ⟨rfl, rfl⟩
    have hR10 := hR.below d10
    have x0 := (d10.cell (p := ⟨w.heap.size, 0, none⟩) hw1).trans q0
    have x1 := (d10.cell (p := ⟨w.heap.size, 1, none⟩) hw1).trans q1
    have hw10 : w.heap.size < w11.heap.size := Nat.lt_of_lt_of_le hw1 d10.size
    have e0 : Below w11.heap.size w11 w11 := Below.refl _ _
    go_wp2_with fail
    go_region_held3 (fun w' => w'.cell? ⟨w.heap.size, 0, none⟩ = some (.int .i64 pa) ∧ w'.cell? ⟨w.heap.size, 1, none⟩ = some (.int .i64 pl)) (first | go_keep | exact ⟨(e13.cell (p := ⟨w.heap.size, 0, none⟩) hw10).trans x0, (e13.cell (p := ⟨w.heap.size, 1, none⟩) hw10).trans x1⟩ | exact ⟨(e13.drew.cell (p := ⟨w.heap.size, 0, none⟩) hw10).trans x0, (e13.drew.cell (p := ⟨w.heap.size, 1, none⟩) hw10).trans x1⟩ | exact ⟨(dP.cell (p := ⟨w.heap.size, 0, none⟩) hw10).trans x0, (dP.cell (p := ⟨w.heap.size, 1, none⟩) hw10).trans x1⟩ | exact ⟨(dP.drew.cell (p := ⟨w.heap.size, 0, none⟩) hw10).trans x0, (dP.drew.cell (p := ⟨w.heap.size, 1, none⟩) hw10).trans x1⟩ | exact ⟨(dT.cell (p := ⟨w.heap.size, 0, none⟩) hw10).trans x0, (dT.cell (p := ⟨w.heap.size, 1, none⟩) hw10).trans x1⟩ | exact ⟨(dT.drew.cell (p := ⟨w.heap.size, 0, none⟩) hw10).trans x0, (dT.drew.cell (p := ⟨w.heap.size, 1, none⟩) hw10).trans x1⟩ | exact ⟨(e0.cell (p := ⟨w.heap.size, 0, none⟩) hw10).trans x0, (e0.cell (p := ⟨w.heap.size, 1, none⟩) hw10).trans x1⟩ | exact ⟨(e0.drew.cell (p := ⟨w.heap.size, 0, none⟩) hw10).trans x0, (e0.drew.cell (p := ⟨w.heap.size, 1, none⟩) hw10).trans x1⟩) ((first | (go_at_call 27; refine (T.out _ (hR10.below (by first | exact dP | exact dP.drew | exact e0 | exact e0.drew))).mono ?_; rintro e wT ⟨rfl, bT, oT⟩; have dT : Below w11.heap.size w11 wT := (by first | exact below_step dP bT | exact below_step dP.drew bT | exact below_step e0 bT | exact below_step e0.drew bT)) | (go_at_call 35; refine (PP.out _).mono ?_; rintro e wP ⟨rfl, bP⟩; have dP : Below w11.heap.size w11 wP := (by first | exact below_step dT bP | exact below_step dT.drew bP | exact below_step e0 bP | exact below_step e0.drew bP)) | (go_at_call 38; refine (hI.out _ _ _ (by first | exact oT.row | exact (oT.below (Below.refl _ _).drew).row | exact (oT.below bP).row | exact (oT.below ((Below.refl _ _).drew.trans bP)).row | exact (oT.below (bP.drew)).row | exact (oT.below (((Below.refl _ _).drew.trans bP).drew)).row)).mono ?_; rintro e w13 ⟨rfl, b13⟩; have e13 : Below w11.heap.size w11 w13 := (by first | exact below_step dP b13 | exact below_step dP.drew b13 | exact below_step dT b13 | exact below_step dT.drew b13))))
    all_goals
      have d13 := d10.trans (e13.mono d10.size)
      clear dT dP oT bT bP b13 e0 hR10 x0 x1
      go_wp2_with fail
      refine (E.out _).mono ?_
      rintro e w14 ⟨rfl, b14⟩
      have d14 := d13.trans (b14.mono d13.size)
      clear b14
      go_wp2_with fail
      refine (HG.out _).mono ?_
      rintro e w15 ⟨rfl, rfl⟩
      go_wp2_with fail
      go_ret
      exact ⟨rfl, hB0.trans (d14.mono hB0.size)⟩

set_option maxRecDepth 100000 in
set_option maxHeartbeats 800000 in
theorem w_removeFrom_over (a0 : Option Addr) (len cap : Nat) (pa pl : Int) (w : World) (hl : len ≤ maxLen) (h : ¬ len ≤ 1048576) :
    Calls Try.prog 10 #[.slice a0 len cap, .agg #[.int .i64 pa, .int .i64 pl]] w fun e w' => e = .returned (.bool true) ∧ Below w.heap.size w w' := by
  have hsz := hide (fun w => w_szTrieNodeS a0 len cap w hl)
  rw [if_neg h] at hsz
  go_enter Try.func10, Try.ntmps10
  go_wp2_with fail
  refine (hsz.out _).mono ?_
  rintro e w0 ⟨rfl, rfl⟩
  go_wp2_with fail
  go_ret
  exact ⟨rfl, below_box (Below.refl _ _)⟩
end Go.Proofs.Ytjmflkheaioboab
