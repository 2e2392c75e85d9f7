/- The law on PlayEvents: the program answers as the specification, in memory of its own. -/
import Derived.Test.YtcapbljknpggkabS12p
import Derived.Test.YtcapbljknpggkabI12p
import Derived.Test.YtcapbljknpggkabFlatSession
import Derived.Test.YtcapbljknpggkabFlatEvent
namespace Go.Proofs.Ytcapbljknpggkab
open Go.RowKit
theorem w_markAnsI (base : Nat) (ga : Option Addr) (gc : Nat) (R : List Int) (w : World) (hn : R.length ≤ 1048576) (hb : base ≤ w.heap.size)
    (hA : R = [] ∨ ∃ g, ga = some ⟨g, 0, none⟩ ∧ base ≤ g ∧ OutInt g R.length R.length (fun i => R.getD i 0) w) :
    Calls Try.prog 13 #[.slice ga R.length gc, .int .i64 1] w fun e w' => e = .returned (.int .i64 (1 + (R.length : Int))) ∧ RowInt ga R.length (fun i => 1 + (i : Int)) w' ∧ Below base w w' := by
  rcases hA with rfl | ⟨g, rfl, hg, hO⟩
  · refine (w_markIntS_nil ga gc 1 w).mono ?_
    rintro e w' ⟨rfl, rfl⟩
    exact ⟨rfl, fun i hi => absurd hi (Nat.not_lt_zero _), Below.refl _ _⟩
  · refine (w_markIntS g R.length gc _ 1 w (by omega) (by omega) (by omega) hO).mono ?_
    rintro e w' ⟨rfl, ho, hO'⟩
    exact ⟨rfl, hO'.row, ⟨ho.1, ho.2.1, ho.2.2.1, ho.2.2.2.1, fun k hk => ho.2.2.2.2 k (by omega) (by omega)⟩⟩
set_option maxRecDepth 100000 in
set_option maxHeartbeats 6400000 in
theorem w_playEvents (h : Int) (ra : Option Addr) (n rc : Nat) (f0 f1 : Nat → Int) (w : World) (hn : n ≤ maxLen) (hA : RowEvent ra n f0 f1 w) :
    Calls Try.prog 3 #[.int .i64 h, .slice ra n rc] w fun e w' => e = .returned (.bool true) ∧ Below w.heap.size w w' := by
  have SZ := hide (fun w => w_szEventS ra n rc w hn)
  by_cases hs : n ≤ 1048576
  · rw [if_pos hs] at SZ
    have hlt : ¬ (1048576 - (n : Int) < 0) := by omega
    have TA := hide (fun w R => w_toEventS ra n rc f0 f1 w hs R)
    have EA := hide (fun a a' c c' w R Q => w_eqEventS a a' n c c' f0 f1 w hs R Q)
    have MK := hide (fun c cap w O => w_markEventS c n cap f0 f1 1 w hs (by omega) (by omega) O)
    have SG := hide (fun ra rc w R => s_playEvents h ra n rc f0 f1 w hs R)
    have IG := hide (fun ra rc w R => i_playEvents h ra n rc f0 f1 w hs R)
    have hDn : (peL h n f0 f1).length ≤ 1048576 := by have := peL_len h n f0 f1; omega
    have ED := hide (fun a a' c c' w R Q => w_eqIntS a a' (peL h n f0 f1).length c c' (fun i => (peL h n f0 f1).getD i 0) w (by omega) R Q)
    have MA := hide (fun base ga gc w hb hA => w_markAnsI base ga gc (peL h n f0 f1) w hDn hb hA)
    have HA := hide (fun a cap w R => w_heldIntS a (peL h n f0 f1).length cap 1 w (by omega) (by omega) (by omega) R)
    generalize peB h n f0 f1 = g at *
    generalize peL h n f0 f1 = D at *
    generalize peS h n f0 f1 = Y at *
    obtain ⟨y0, y1, y2, y3, y4⟩ := Y
    have ES := hide (fun w => w_eqSession y0 y1 y2 y3 y4 w)
    have hgg : (g != g) = false := by simp
    have hkd : ¬ ((1 + (D.length : Int)) < 0) := by omega
    have hke : ((1 + (D.length : Int)) != (1 + (D.length : Int))) = false := by simp
    have hkn : ¬ ((1 : Int) + 2 * (n : Int) < 0) := by omega
    have hDq : (D.length : Int) ≤ 1048576 := by omega
    clear hn hDn
    go_enter Try.func3, Try.ntmps3
    go_wp2_with fail
    refine (SZ.out _).mono ?_
    rintro e w0 ⟨rfl, hw0⟩
    rw [hw0]; clear hw0 w0
    go_wp2_with fail
    refine (TA.out _ hA).mono ?_
    rintro e w1 ⟨rfl, b1, o1⟩
    go_wp2_with fail
    refine (SG.out _ _ _ o1.row).mono ?_
    rintro e w2 ⟨v2, rfl, hW, b2⟩
    obtain ⟨wa, wc, rfl, RW, _⟩ := hW
    have d2 := b1.trans (b2.mono b1.size)
    have MW := Mut.new w2 #[.int .i64 y0, .int .i64 y1, .int .i64 y2, .int .i64 y3, .int .i64 y4] 25
    have bW : Below w2.heap.size w2 (w2.alloc (.cells #[.int .i64 y0, .int .i64 y1, .int .i64 y2, .int .i64 y3, .int .i64 y4] 25)) := below_box (Below.refl _ _)
    replace RW := RW.below bW
    have dA := d2.trans (bW.mono d2.size)
    clear b1 b2 o1 d2 bW
    go_wp2_with fail
    generalize w2.alloc (.cells #[.int .i64 y0, .int .i64 y1, .int .i64 y2, .int .i64 y3, .int .i64 y4] 25) = wA at *
    generalize w2.heap.size = qW at *
    refine (TA.out _ (hA.below dA)).mono ?_
    rintro e w3 ⟨rfl, b3, o3⟩
    have e3 : Below wA.heap.size wA w3 := b3
    have hq3 : wA.heap.size < w3.heap.size := o3.1
    clear b3
    go_wp2_with fail
    refine (IG.out _ _ _ o3.row).mono ?_
    rintro e w4 ⟨v4, rfl, hG, b4⟩
    obtain ⟨ga, gc, rfl, RG, hG⟩ := hG
    have hG0 := hide hG
    have e4 := e3.trans (b4.mono e3.size)
    have hz34 := b4.size
    replace o3 := o3.below b4
    have MG := Mut.new w4 #[.int .i64 y0, .int .i64 y1, .int .i64 y2, .int .i64 y3, .int .i64 y4] 25
    have bG : Below w4.heap.size w4 (w4.alloc (.cells #[.int .i64 y0, .int .i64 y1, .int .i64 y2, .int .i64 y3, .int .i64 y4] 25)) := below_box (Below.refl _ _)
    have eB := e4.trans (bG.mono e4.size)
    replace o3 := o3.below bG
    have gB : Below w4.heap.size w4 (w4.alloc (.cells #[.int .i64 y0, .int .i64 y1, .int .i64 y2, .int .i64 y3, .int .i64 y4] 25)) := bG
    have MWb := MW.below eB
    have ca0 := MWb.2.1 0 _ rfl
    have ca1 := MWb.2.1 1 _ rfl
    have ca2 := MWb.2.1 2 _ rfl
    have ca3 := MWb.2.1 3 _ rfl
    have ca4 := MWb.2.1 4 _ rfl
    have cb0 := MG.2.1 0 _ rfl
    have cb1 := MG.2.1 1 _ rfl
    have cb2 := MG.2.1 2 _ rfl
    have cb3 := MG.2.1 3 _ rfl
    have cb4 := MG.2.1 4 _ rfl
    clear b4 e4 e3 bG hG
    go_wp2_with fail
    generalize w4.alloc (.cells #[.int .i64 y0, .int .i64 y1, .int .i64 y2, .int .i64 y3, .int .i64 y4] 25) = wB at *
    have hqG : w4.heap.size ≠ wA.heap.size := by omega
    refine (ES.out _).mono ?_
    rintro e w5 ⟨rfl, b5⟩
    have e5 := eB.trans (b5.mono eB.size)
    have g5 := gB.trans (b5.mono gB.size)
    replace o3 := o3.below b5
    replace MG := MG.below b5
    clear b5 eB gB MWb ca0 ca1 ca2 ca3 ca4 cb0 cb1 cb2 cb3 cb4
    go_wp2_with fail
    refine (ED.out _ _ _ _ _ (RG.below g5) (RW.below e5)).mono ?_
    rintro e w6 ⟨rfl, b6⟩
    have e6 := e5.trans (b6.mono e5.size)
    have g6 := g5.trans (b6.mono g5.size)
    replace o3 := o3.below b6
    replace MG := MG.below b6
    clear b6 e5 g5
    go_wp2_with fail
    refine (TA.out _ (hA.below (dA.trans (e6.mono dA.size)))).mono ?_
    rintro e w7 ⟨rfl, b7, o7⟩
    have e7 := e6.trans (b7.mono e6.size)
    have g7 := g6.trans (b7.mono g6.size)
    replace o3 := o3.below b7
    replace MG := MG.below b7
    clear b7 e6 g6
    go_wp2_with fail
    refine (EA.out _ _ _ _ _ o3.row o7.row).mono ?_
    rintro e w8 ⟨rfl, b8⟩
    have e8 := e7.trans (b8.mono e7.size)
    have g8 := g7.trans (b8.mono g7.size)
    replace o3 := o3.below b8
    replace MG := MG.below b8
    clear b8 e7 g7 o7
    go_wp2_with fail
    refine (MK.out _ _ _ o3).mono ?_
    rintro e w9 ⟨rfl, oK, _⟩
    have hG9 : Hid (D = [] ∨ ∃ g, ga = some ⟨g, 0, none⟩ ∧ w3.heap.size ≤ g ∧ OutInt g D.length D.length (fun i => D.getD i 0) w9) := by
      rcases hG0.out with h | ⟨g, h1, h2, h3⟩
      · exact .inl h
      · exact .inr ⟨g, h1, h2, (h3.below g8).only oK (by omega)⟩
    have e9 := e8.trans (oK.below (Nat.le_of_lt o3.1))
    have MG9 := MG.only oK hqG
    have hz8 := e8.size
    have hz38 : w3.heap.size ≤ w9.heap.size := Nat.le_trans (Nat.le_trans hz34 g8.size) oK.2.2.2.1
    have RG9 : Hid (RowInt ga D.length (fun i => D.getD i 0) w9) := by
      rcases hG9.out with h | ⟨g, h1, _, h2⟩
      · rw [Hid, h]; exact fun i hi => absurd hi (Nat.not_lt_zero _)
      · rw [Hid, h1]; exact h2.row
    have MW9 := MW.below e9
    have ca0 := MW9.2.1 0 _ rfl
    have ca1 := MW9.2.1 1 _ rfl
    have ca2 := MW9.2.1 2 _ rfl
    have ca3 := MW9.2.1 3 _ rfl
    have ca4 := MW9.2.1 4 _ rfl
    have cb0 := MG9.2.1 0 _ rfl
    have cb1 := MG9.2.1 1 _ rfl
    have cb2 := MG9.2.1 2 _ rfl
    have cb3 := MG9.2.1 3 _ rfl
    have cb4 := MG9.2.1 4 _ rfl
    clear oK o3 MG hG0 RG e8 g8
    go_wp2_with fail
    refine (ES.out _).mono ?_
    rintro e wa1 ⟨rfl, c1⟩
    have ea := e9.trans (c1.mono e9.size)
    have ga9 : Below w9.heap.size w9 wa1 := c1
    clear c1 e9 MW9 MG9 ca0 ca1 ca2 ca3 ca4 cb0 cb1 cb2 cb3 cb4
    go_wp2_with fail
    refine (ED.out _ _ _ _ _ (RG9.out.below ga9) (RW.below ea)).mono ?_
    rintro e wb1 ⟨rfl, c2⟩
    have eb := ea.trans (c2.mono ea.size)
    have gb := ga9.trans (c2.mono ga9.size)
    clear c2 ea ga9 RG9
    have hGb : D = [] ∨ ∃ g, ga = some ⟨g, 0, none⟩ ∧ w3.heap.size ≤ g ∧ OutInt g D.length D.length (fun i => D.getD i 0) wb1 := by
      rcases hG9.out with h | ⟨g, h1, h2, h3⟩
      · exact .inl h
      · exact .inr ⟨g, h1, h2, h3.below gb⟩
    have hGb' := hide hGb
    clear hGb hG9
    go_wp2_with fail
    refine (MA.out _ _ _ _ (Nat.le_trans hz38 gb.size) hGb'.out).mono ?_
    rintro e wc1 ⟨rfl, RD, bD⟩
    have ec := eb.trans (bD.mono (Nat.le_of_lt hq3))
    clear hGb' bD eb gb
    go_wp2_with fail
    refine (HA.out _ _ _ RD).mono ?_
    rintro e wx ⟨rfl, hwx⟩
    rw [hwx]; clear hwx wx
    go_wp2_with fail
    refine (TA.out _ (hA.below (dA.trans (ec.mono dA.size)))).mono ?_
    rintro e wd1 ⟨rfl, c4, o9⟩
    have ed := ec.trans (c4.mono ec.size)
    replace RD := RD.below c4
    clear c4 ec
    go_wp2_with fail
    refine (IG.out _ _ _ o9.row).mono ?_
    rintro e we1 ⟨v9, rfl, hB, c5⟩
    obtain ⟨za, zc, rfl, RB, _⟩ := hB
    have ee := ed.trans (c5.mono ed.size)
    replace RD := RD.below c5
    have MH := Mut.new we1 #[.int .i64 y0, .int .i64 y1, .int .i64 y2, .int .i64 y3, .int .i64 y4] 25
    have bH : Below we1.heap.size we1 (we1.alloc (.cells #[.int .i64 y0, .int .i64 y1, .int .i64 y2, .int .i64 y3, .int .i64 y4] 25)) := below_box (Below.refl _ _)
    have ef := ee.trans (bH.mono ee.size)
    replace RD := RD.below bH
    replace RB := RB.below bH
    have MWh := MW.below ef
    have ca0 := MWh.2.1 0 _ rfl
    have ca1 := MWh.2.1 1 _ rfl
    have ca2 := MWh.2.1 2 _ rfl
    have ca3 := MWh.2.1 3 _ rfl
    have ca4 := MWh.2.1 4 _ rfl
    have cb0 := MH.2.1 0 _ rfl
    have cb1 := MH.2.1 1 _ rfl
    have cb2 := MH.2.1 2 _ rfl
    have cb3 := MH.2.1 3 _ rfl
    have cb4 := MH.2.1 4 _ rfl
    clear c5 ed ee bH o9 MH MWh
    go_wp2_with fail
    generalize we1.alloc (.cells #[.int .i64 y0, .int .i64 y1, .int .i64 y2, .int .i64 y3, .int .i64 y4] 25) = wH at *
    refine (ES.out _).mono ?_
    rintro e wI ⟨rfl, c6⟩
    have eI := ef.trans (c6.mono ef.size)
    replace RD := RD.below c6
    replace RB := RB.below c6
    clear c6 ef ca0 ca1 ca2 ca3 ca4 cb0 cb1 cb2 cb3 cb4
    go_wp2_with fail
    refine (ED.out _ _ _ _ _ RB (RW.below eI)).mono ?_
    rintro e wJ ⟨rfl, c7⟩
    have eJ := eI.trans (c7.mono eI.size)
    replace RD := RD.below c7
    clear c7 eI RB
    go_wp2_with fail
    refine (HA.out _ _ _ RD).mono ?_
    rintro e wx ⟨rfl, hwx⟩
    rw [hwx]; clear hwx wx
    go_wp2_with fail
    go_ret
    exact ⟨rfl, dA.trans (eJ.mono dA.size)⟩
  · rw [if_neg hs] at SZ
    clear hs hn
    go_enter Try.func3, Try.ntmps3
    go_wp2_with fail
    refine (SZ.out _).mono ?_
    rintro e w1 ⟨rfl, hw1⟩
    rw [hw1]; clear hw1 w1
    go_wp2_with fail
    go_ret
    exact ⟨rfl, Below.refl _ _⟩
end Go.Proofs.Ytcapbljknpggkab
