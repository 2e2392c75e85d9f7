/- The law on BestTo: the program answers as the specification, in memory of its own. -/
import Derived.Test.YtelehmkmdbhcfaaSp10
import Derived.Test.YtelehmkmdbhcfaaAll3
import Derived.Test.YtelehmkmdbhcfaaS9h
import Derived.Test.YtelehmkmdbhcfaaI9t
import Derived.Test.YtelehmkmdbhcfaaAll7
import Derived.Deep.RegionHeld3
namespace Go.Proofs.Ytelehmkmdbhcfaa
open Go.RowKit
theorem OutArc.onlyS9 {P : Nat → Prop} {c n k : Nat} {f0 f1 f2 : Nat → Int} {w w' : World} (h : OutArc c n k f0 f1 f2 w) (hb : OnlyS P w w') (hn : ¬ P c) : OutArc c n k f0 f1 f2 w' := by
  refine ⟨Nat.lt_of_lt_of_le h.1 hb.2.2.2.1, ?_⟩
  have hc := h.1
  have e := fun o => hb.cell (o := o) hc hn
  have f := fun o => hb.frozen (o := o) hc hn
  intro i hi
  have := h.2 i hi
  simpa only [e, f] using this
set_option maxHeartbeats 400000 in
theorem w_markAlgebra (g : Int) (c n cap : Nat) (X : Nat → Nat) (hi : Nat) (T : Nat → Lc) (w : World) (hn : n ≤ 1048576) (hl : LowL n T) (h1 : totL T n ≤ 1048576) (hR : RowLO c n X hi T w) :
    Calls Try.prog 13 #[.agg #[.int .i64 g, .slice (some ⟨c, 0, none⟩) n cap], .int .i64 1] w fun e w' => ∃ r : Int, e = .returned (.int .i64 r) ∧ 0 ≤ r ∧ r ≤ 1048577 ∧ OnlyS (fun b => c < b ∧ b < hi) w w' := by
  have M := hide (fun w R => w_markIntSS c n cap X hi T 1 w hn hl (by omega) (by omega) R)
  have d0 : Below w.heap.size w (w.alloc (.cells #[.int .i64 g, .slice (some ⟨c, 0, none⟩) n cap] 31)) := below_box (Below.refl _ _)
  have hd : OnlyS (fun b => c < b ∧ b < hi) w (w.alloc (.cells #[.int .i64 g, .slice (some ⟨c, 0, none⟩) n cap] 31)) := ⟨d0.os, d0.tape, d0.output, d0.size, fun k hk _ => d0.block k hk⟩
  go_enter Try.func13, Try.ntmps13
  go_wp2_with fail
  refine (M.out _ (hR.below d0)).mono ?_
  rintro e w1 ⟨rfl, b1⟩
  have b2 := hd.trans b1
  clear b1 M hd
  go_wp2_with fail
  go_ret
  exact ⟨_, rfl, by omega, by omega, b2⟩
set_option maxRecDepth 100000 in
set_option maxHeartbeats 6400000 in
theorem w_bestToE (g : Int) (a : Option Addr) (n c : Nat) (T : Nat → Lc) (ga : Option Addr) (gn gc : Nat) (f0 f1 f2 : Nat → Int) (t : Int) (w : World) (hn : n ≤ maxLen) (hx : MaxL n T) (hR : RowLL a n T w) (hgn : gn ≤ maxLen) (hG : RowArc ga gn f0 f1 f2 w) :
    Calls Try.prog 3 #[.agg #[.int .i64 g, .slice a n c], .slice ga gn gc, .int .i64 t] w fun e w' => e = .returned (.bool true) ∧ Below w.heap.size w w' := by
  have SZ := hide (fun w R => w_szAlgebra g a n c T 1048576 w hn hx (by omega) (by omega) R)
  have M0 := Mut.new w #[.int .i64 g, .slice a n c] 24
  have dd : Below w.heap.size w (w.alloc (.cells #[.int .i64 g, .slice a n c] 24)) := below_box (Below.refl _ _)
  have hw0 : w.heap.size < (w.alloc (.cells #[.int .i64 g, .slice a n c] 24)).heap.size := by simp
  by_cases hs : (n : Int) + (totL T n : Int) ≤ 1048576
  · rw [if_pos hs] at SZ
    have hlt : ¬ (1048576 - (n : Int) - (totL T n : Int) < 0) := by omega
    have SZ2 := hide (fun w => w_szArcM ga gn gc (1048576 - (n : Int) - (totL T n : Int)) w hgn (by omega) (by omega))
    by_cases hs2 : (gn : Int) ≤ 1048576 - (n : Int) - (totL T n : Int)
    · rw [if_pos hs2] at SZ2
      have hlt2 : ¬ (1048576 - (n : Int) - (totL T n : Int) - (gn : Int) < 0) := by omega
      have hn1 : n ≤ 1048576 := by omega
      have hgl : gn ≤ 1048576 := by omega
      have ht1 : totL T n ≤ 1048576 := by omega
      have hl : LowL n T := lowL_of (by omega)
      have TP := hide (fun w R => w_toAlgebra g a n c T w hn1 hl R)
      have TI := hide (fun w R => w_toArcS ga gn gc f0 f1 f2 w hgl R)
      have EI := hide (fun a a' c c' w R Q => w_eqArcS a a' gn c c' f0 f1 f2 w hgl R Q)
      have MI := hide (fun c cap k0 w h0 h1 O => w_markArcS c gn cap f0 f1 f2 k0 w hgl h0 h1 O)
      have SG := hide (fun a c ga gc w R G => s_bestToE g a n c T ga gn gc f0 f1 f2 t w hn1 hl R hgl G)
      have IG := hide (fun a c ga gc w R G => i_bestToE g a n c T ga gn gc f0 f1 f2 t w hn1 hl R hgl G)
      have hDn : (btR g n T gn f0 f1 f2 t).length ≤ 1048576 := by have := btR_len g n T gn f0 f1 f2 t; omega
      have E := hide (fun a a' c c' w R Q => w_eqAlgebra g a a' n c c' T w hn1 hl R Q)
      have ED := hide (fun a a' c c' w R Q => w_eqIntS a a' (btR g n T gn f0 f1 f2 t).length c c' (fun i => (btR g n T gn f0 f1 f2 t).getD i 0) w (by omega) R Q)
      have MK := hide (fun c cap X hi w R => w_markAlgebra g c n cap X hi T w hn1 hl ht1 R)
      have MA := hide (fun base ga gc w hb hA => w_markAnsL base ga gc (btR g n T gn f0 f1 f2 t) w hDn hb hA)
      have HA := hide (fun a cap w R => w_heldIntS a (btR g n T gn f0 f1 f2 t).length cap 1 w (by omega) (by omega) (by omega) R)
      generalize ptB g n T gn f0 f1 f2 t = r1 at SG IG
      have kr1 : (r1 != r1) = false := by simp
      generalize btR g n T gn f0 f1 f2 t = D at *
      have hkd : ¬ ((1 + (D.length : Int)) < 0) := by omega
      have hke : ((1 + (D.length : Int)) != (1 + (D.length : Int))) = false := by simp
      have hDq : (D.length : Int) ≤ 1048576 := by omega
      generalize totL T n = q at *
      have hgi : (gn : Int) ≤ 1048576 := by omega
      clear hn hx hs hs2 hn1 hl ht1 hDn hgn
      go_enter Try.func3, Try.ntmps3
      go_wp2_with fail
      generalize w.alloc (.cells #[.int .i64 g, .slice a n c] 24) = wz at *
      refine (SZ.out _ (hR.below dd)).mono ?_
      rintro e w0 ⟨rfl, d0⟩
      have hz0 := d0.size
      have M1 := M0.below d0
      have c0 := M1.2.1 0 _ rfl
      have c1 := M1.2.1 1 _ rfl
      replace d0 := dd.trans (d0.mono dd.size)
      have hzz := hz0
      clear M0 dd
      go_wp2_with fail
      refine (SZ2.out _).mono ?_
      rintro e wS ⟨rfl, hwS⟩
      rw [hwS]; clear hwS wS
      go_wp2_with fail
      refine (TP.out _ (hR.below d0)).mono ?_
      rintro e w1 ⟨q1, rfl, h1, ⟨X1, o1⟩, _, b1⟩
      have hz1 := Nat.le_trans hzz b1.size
      have d1 := d0.trans (b1.mono d0.size)
      replace M1 := M1.below b1
      have c0 := M1.2.1 0 _ rfl
      have c1 := M1.2.1 1 _ rfl
      clear b1 d0
      go_wp2_with fail
      refine (TI.out _ (hG.below d1)).mono ?_
      rintro e w2 ⟨rfl, b2, g2⟩
      have hz2 := Nat.le_trans hz1 b2.size
      have d2 := d1.trans (b2.mono d1.size)
      replace M1 := M1.below b2
      replace o1 := o1.below b2
      have c0 := M1.2.1 0 _ rfl
      have c1 := M1.2.1 1 _ rfl
      clear b2 d1
      go_wp2_with fail
      refine (SG.out _ _ _ _ _ o1.row g2.row).mono ?_
      rintro e w3 ⟨v3, rfl, hW, b3⟩
      obtain ⟨wa, wc, rfl, RW, _⟩ := hW
      have hz3f := Nat.le_trans hz2 b3.size
      have d3 := d2.trans (b3.mono d2.size)
      replace M1 := M1.below b3
      have c0 := M1.2.1 0 _ rfl
      have c1 := M1.2.1 1 _ rfl
      clear b3 o1 d2 g2
      go_wp2_with fail
      refine (TP.out _ (hR.below d3)).mono ?_
      rintro e w4 ⟨q4, rfl, h4, ⟨X4, o4⟩, _, b4⟩
      have hz3 := hz3f
      have e4 : Below w3.heap.size w3 w4 := b4
      have d4 := d3.trans (b4.mono d3.size)
      replace M1 := M1.below b4
      clear b4
      go_wp2_with fail
      have bB : Below w4.heap.size w4 (w4.alloc (.cells #[.int .i64 g, .slice (some ⟨q4, 0, none⟩) n n] 31)) := below_box (Below.refl _ _)
      have N := Mut.new w4 #[.int .i64 g, .slice (some ⟨q4, 0, none⟩) n n] 31
      have d5 := d4.trans (bB.mono d4.size)
      have e5 := e4.trans (bB.mono e4.size)
      replace M1 := M1.below bB
      replace o4 := o4.below bB
      have hs5 : w4.heap.size < (w4.alloc (.cells #[.int .i64 g, .slice (some ⟨q4, 0, none⟩) n n] 31)).heap.size := by simp
      clear bB d4 e4 c0 c1
      generalize w4.alloc (.cells #[.int .i64 g, .slice (some ⟨q4, 0, none⟩) n n] 31) = w5 at *
      generalize w4.heap.size = bx at *
      have c0 := M1.2.1 0 _ rfl
      have c1 := M1.2.1 1 _ rfl
      have x0 := N.2.1 0 _ rfl
      have x1 := N.2.1 1 _ rfl
      refine (TI.out _ (hG.below d5)).mono ?_
      rintro e w6 ⟨rfl, b6, g6⟩
      have d6 := d5.trans (b6.mono d5.size)
      have e6 := e5.trans (b6.mono e5.size)
      replace M1 := M1.below b6
      replace N := N.below b6
      replace o4 := o4.below b6
      have hs6 : w5.heap.size < w6.heap.size := g6.1
      have e5z := e5.size
      have c0 := M1.2.1 0 _ rfl
      have c1 := M1.2.1 1 _ rfl
      have x0 := N.2.1 0 _ rfl
      have x1 := N.2.1 1 _ rfl
      clear b6 d5 e5
      go_wp2_with fail
      refine (IG.out _ _ _ _ _ o4.row g6.row).mono ?_
      rintro e w7 ⟨v7, rfl, hA, b7⟩
      obtain ⟨ya, yc, rfl, RG, hA⟩ := hA
      have hA := hide hA
      have hw67 := b7.size
      have e5s : w3.heap.size ≤ w5.heap.size := e5z
      have hz3i : w3.heap.size ≤ w6.heap.size := e6.size
      have d7 := d6.trans (b7.mono d6.size)
      have e7 := e6.trans (b7.mono e6.size)
      replace M1 := M1.below b7
      replace N := N.below b7
      replace o4 := o4.below b7
      replace g6 := g6.below b7
      have c0 := M1.2.1 0 _ rfl
      have c1 := M1.2.1 1 _ rfl
      have x0 := N.2.1 0 _ rfl
      have x1 := N.2.1 1 _ rfl
      clear b7 d6 e6
      go_wp2_with fail
      refine (ED.out _ _ _ _ _ RG (RW.below e7)).mono ?_
      rintro e w8 ⟨rfl, b8⟩
      have d8 := d7.trans (b8.mono d7.size)
      have e8 := e7.trans (b8.mono e7.size)
      have gA : Below w7.heap.size w7 w8 := b8
      replace M1 := M1.below b8
      replace N := N.below b8
      replace o4 := o4.below b8
      replace g6 := g6.below b8
      have c0 := M1.2.1 0 _ rfl
      have c1 := M1.2.1 1 _ rfl
      have x0 := N.2.1 0 _ rfl
      have x1 := N.2.1 1 _ rfl
      clear b8 d7 e7
      go_wp2_with fail
      have dZ : Below w8.heap.size w8 w8 := Below.refl _ _
      have hR8 := hR.below d8
      have hltM := M1.1
      have hltN := N.1
      have u0 := M1.2.1 0 _ rfl
      have u1 := M1.2.1 1 _ rfl
      have v0 := N.2.1 0 _ rfl
      have v1 := N.2.1 1 _ rfl
      clear c0 c1 x0 x1
      go_region_held3 (fun w' => w'.cell? ⟨w.heap.size, 0, none⟩ = some (.int .i64 g) ∧ w'.cell? ⟨w.heap.size, 1, none⟩ = some (.slice a n c) ∧ w'.cell? ⟨bx, 0, none⟩ = some (.int .i64 g) ∧ w'.cell? ⟨bx, 1, none⟩ = some (.slice (some ⟨q4, 0, none⟩) n n)) (first | go_keep | exact ⟨(dE.cell (p := ⟨w.heap.size, 0, none⟩) hltM).trans u0, (dE.cell (p := ⟨w.heap.size, 1, none⟩) hltM).trans u1, (dE.cell (p := ⟨bx, 0, none⟩) hltN).trans v0, (dE.cell (p := ⟨bx, 1, none⟩) hltN).trans v1⟩ | exact ⟨(dE.drew.cell (p := ⟨w.heap.size, 0, none⟩) hltM).trans u0, (dE.drew.cell (p := ⟨w.heap.size, 1, none⟩) hltM).trans u1, (dE.drew.cell (p := ⟨bx, 0, none⟩) hltN).trans v0, (dE.drew.cell (p := ⟨bx, 1, none⟩) hltN).trans v1⟩ | exact ⟨(dT.cell (p := ⟨w.heap.size, 0, none⟩) hltM).trans u0, (dT.cell (p := ⟨w.heap.size, 1, none⟩) hltM).trans u1, (dT.cell (p := ⟨bx, 0, none⟩) hltN).trans v0, (dT.cell (p := ⟨bx, 1, none⟩) hltN).trans v1⟩ | exact ⟨(dT.drew.cell (p := ⟨w.heap.size, 0, none⟩) hltM).trans u0, (dT.drew.cell (p := ⟨w.heap.size, 1, none⟩) hltM).trans u1, (dT.drew.cell (p := ⟨bx, 0, none⟩) hltN).trans v0, (dT.drew.cell (p := ⟨bx, 1, none⟩) hltN).trans v1⟩ | exact ⟨(dZ.cell (p := ⟨w.heap.size, 0, none⟩) hltM).trans u0, (dZ.cell (p := ⟨w.heap.size, 1, none⟩) hltM).trans u1, (dZ.cell (p := ⟨bx, 0, none⟩) hltN).trans v0, (dZ.cell (p := ⟨bx, 1, none⟩) hltN).trans v1⟩ | exact ⟨(dZ.drew.cell (p := ⟨w.heap.size, 0, none⟩) hltM).trans u0, (dZ.drew.cell (p := ⟨w.heap.size, 1, none⟩) hltM).trans u1, (dZ.drew.cell (p := ⟨bx, 0, none⟩) hltN).trans v0, (dZ.drew.cell (p := ⟨bx, 1, none⟩) hltN).trans v1⟩) ((first | (go_at_call 7; refine (TP.out _ (hR8.below (by first | exact dZ | exact dZ.drew))).mono ?_; rintro e wT ⟨qT, rfl, _, ⟨XT, oT⟩, _, bT⟩; have dT : Below w8.heap.size w8 wT := (by first | exact below_step dZ bT | exact below_step dZ.drew bT)) | (go_at_call 11; refine (E.out _ _ _ _ _ (by first | exact (o4.below dT).row | exact (o4.below dT.drew).row) (by first | exact oT.row | exact (oT.below (Below.refl _ _).drew).row)).mono ?_; rintro e wE ⟨rfl, bE⟩; have dE : Below w8.heap.size w8 wE := (by first | exact below_step dT bE | exact below_step dT.drew bE))))
      all_goals
        have d9 := d8.trans (dE.mono d8.size)
        have e9 := e8.trans (dE.mono e8.size)
        replace gA := gA.trans (dE.mono gA.size)
        replace M1 := M1.below dE
        replace N := N.below dE
        replace o4 := o4.below dE
        have c0 := M1.2.1 0 _ rfl
        have c1 := M1.2.1 1 _ rfl
        have x0 := N.2.1 0 _ rfl
        have x1 := N.2.1 1 _ rfl
        clear u0 u1 v0 v1 d8 e8 dT oT
        replace g6 := g6.below dE
        go_wp2_with fail
        refine (TI.out _ (hG.below d9)).mono ?_
        rintro e wF ⟨rfl, bF, gF⟩
        have dF := d9.trans (bF.mono d9.size)
        have eF := e9.trans (bF.mono e9.size)
        replace gA := gA.trans (bF.mono gA.size)
        replace M1 := M1.below bF
        replace N := N.below bF
        replace o4 := o4.below bF
        replace g6 := g6.below bF
        have c0 := M1.2.1 0 _ rfl
        have c1 := M1.2.1 1 _ rfl
        have x0 := N.2.1 0 _ rfl
        have x1 := N.2.1 1 _ rfl
        clear bF d9 e9
        go_wp2_with fail
        refine (EI.out _ _ _ _ _ g6.row gF.row).mono ?_
        rintro e wG ⟨rfl, bG⟩
        have dG := dF.trans (bG.mono dF.size)
        have eG := eF.trans (bG.mono eF.size)
        replace gA := gA.trans (bG.mono gA.size)
        replace M1 := M1.below bG
        replace N := N.below bG
        replace o4 := o4.below bG
        replace g6 := g6.below bG
        have c0 := M1.2.1 0 _ rfl
        have c1 := M1.2.1 1 _ rfl
        have x0 := N.2.1 0 _ rfl
        have x1 := N.2.1 1 _ rfl
        clear bG dF eF gF
        go_wp2_with fail
        have hA0 : Hid (D = [] ∨ ∃ g, ya = some ⟨g, 0, none⟩ ∧ w6.heap.size ≤ g ∧ OutInt g D.length D.length (fun i => D.getD i 0) wG) := by
          rcases hA.out with h | ⟨g, h1, h2, h3⟩
          · exact .inl h
          · exact .inr ⟨g, h1, h2, h3.below gA⟩
        refine (MK.out _ _ _ _ _ o4).mono ?_
        rintro e wH ⟨r, rfl, hr0, hr1, OS⟩
        have fH : Below w3.heap.size wG wH := OS.below (fun k hk => by omega) eG.size
        have eH := eG.trans fH
        have dH := dG.trans (fH.mono d3.size)
        have hM3 : w.heap.size < w3.heap.size := Nat.lt_of_lt_of_le hw0 hz3
        replace M1 := M1.base hM3 fH
        have hAH : Hid (D = [] ∨ ∃ g, ya = some ⟨g, 0, none⟩ ∧ w6.heap.size ≤ g ∧ OutInt g D.length D.length (fun i => D.getD i 0) wH) := by
          rcases hA0.out with h | ⟨g, h1, h2, h3⟩
          · exact .inl h
          · exact .inr ⟨g, h1, h2, h3.onlyS OS (fun hb => by omega)⟩
        have hsH : w6.heap.size ≤ wH.heap.size := Nat.le_trans (Nat.le_trans hw67 gA.size) fH.size
        replace g6 := g6.onlyS9 OS (fun hb => by omega)
        clear OS o4 N hA hA0 RG fH dG eG gA x0 x1 c0 c1
        have c0 := M1.2.1 0 _ rfl
        have c1 := M1.2.1 1 _ rfl
        have hr0' : ¬ (r < 0) := by omega
        go_wp2_with fail
        refine (MI.out _ _ _ _ hr0 (by omega) g6).mono ?_
        rintro e wI ⟨rfl, oI, g9⟩
        have fI : Below w5.heap.size wH wI := (oI.below (Nat.le_of_lt g6.1)).mono (Nat.le_refl _)
        have hz5 : w3.heap.size ≤ w5.heap.size := e5s
        have eI := eH.trans (fI.mono hz5)
        have dI := dH.trans (fI.mono (Nat.le_trans d3.size hz5))
        replace M1 := M1.base (Nat.lt_of_lt_of_le hM3 hz5) fI
        have hAI : Hid (D = [] ∨ ∃ g, ya = some ⟨g, 0, none⟩ ∧ w6.heap.size ≤ g ∧ OutInt g D.length D.length (fun i => D.getD i 0) wI) := by
          rcases hAH.out with h | ⟨g, h1, h2, h3⟩
          · exact .inl h
          · exact .inr ⟨g, h1, h2, h3.only oI (by omega)⟩
        have hsI : w6.heap.size ≤ wI.heap.size := Nat.le_trans hsH fI.size
        have hrn : ¬ (r + 3 * (gn : Int) < 0) := by omega
        clear oI g9 g6 hAH fI eH dH c0 c1 hsH
        have c0 := M1.2.1 0 _ rfl
        have c1 := M1.2.1 1 _ rfl
        have RG8 : Hid (RowInt ya D.length (fun i => D.getD i 0) wI) := by
          rcases hAI.out with h | ⟨g, h1, _, h2⟩
          · rw [Hid, h]; exact fun i hi => absurd hi (Nat.not_lt_zero _)
          · rw [Hid, h1]; exact h2.row
        go_wp2_with fail
        refine (ED.out _ _ _ _ _ RG8.out (RW.below eI)).mono ?_
        rintro e wJ ⟨rfl, bJ⟩
        have eJ := eI.trans (bJ.mono eI.size)
        have dJ := dI.trans (bJ.mono dI.size)
        have hAJ : Hid (D = [] ∨ ∃ g, ya = some ⟨g, 0, none⟩ ∧ w6.heap.size ≤ g ∧ OutInt g D.length D.length (fun i => D.getD i 0) wJ) := by
          rcases hAI.out with h | ⟨g, h1, h2, h3⟩
          · exact .inl h
          · exact .inr ⟨g, h1, h2, h3.below bJ⟩
        have hsJ := Nat.le_trans hsI bJ.size
        replace M1 := M1.below bJ
        have c0 := M1.2.1 0 _ rfl
        have c1 := M1.2.1 1 _ rfl
        clear hAI RG8 bJ eI dI hsI
        go_wp2_with fail
        refine (MA.out w6.heap.size _ _ _ hsJ hAJ.out).mono ?_
        rintro e wK ⟨rfl, RH, bK⟩
        have eK := eJ.trans (bK.mono hz3i)
        have dK := dJ.trans (bK.mono (Nat.le_trans d3.size hz3i))
        replace M1 := M1.base (Nat.lt_of_lt_of_le hM3 hz3i) bK
        have c0 := M1.2.1 0 _ rfl
        have c1 := M1.2.1 1 _ rfl
        clear hAJ hsJ bK eJ dJ
        go_wp2_with fail
        refine (HA.out _ _ _ RH).mono ?_
        rintro e wL ⟨rfl, hwL⟩
        rw [hwL]; clear hwL wL
        go_wp2_with fail
        refine (TP.out _ (hR.below dK)).mono ?_
        rintro e wM ⟨qM, rfl, _, ⟨XM, oM⟩, _, bM⟩
        have eM := eK.trans (bM.mono eK.size)
        have dM := dK.trans (bM.mono dK.size)
        replace RH := RH.below bM
        clear bM eK dK c0 c1 M1
        go_wp2_with fail
        refine (TI.out _ (hG.below dM)).mono ?_
        rintro e wN ⟨rfl, bN, gN⟩
        have eN := eM.trans (bN.mono eM.size)
        have dN := dM.trans (bN.mono dM.size)
        replace RH := RH.below bN
        replace oM := oM.below bN
        clear bN eM dM
        go_wp2_with fail
        refine (IG.out _ _ _ _ _ oM.row gN.row).mono ?_
        rintro e wO ⟨vO, rfl, hB, bO⟩
        obtain ⟨za, zc, rfl, RB, _⟩ := hB
        have eO := eN.trans (bO.mono eN.size)
        have dO := dN.trans (bO.mono dN.size)
        replace RH := RH.below bO
        clear bO eN dN oM gN
        go_wp2_with fail
        refine (ED.out _ _ _ _ _ RB (RW.below eO)).mono ?_
        rintro e wP ⟨rfl, bP⟩
        have dP := dO.trans (bP.mono dO.size)
        replace RH := RH.below bP
        clear bP eO dO RB
        go_wp2_with fail
        refine (HA.out _ _ _ RH).mono ?_
        rintro e wQ ⟨rfl, hwQ⟩
        rw [hwQ]; clear hwQ wQ
        go_wp2_with fail
        go_ret
        exact ⟨rfl, dP⟩
    · rw [if_neg hs2] at SZ2
      clear hs2 hn hx hs hgn
      generalize totL T n = q at *
      have c0 := M0.2.1 0 _ rfl
      have c1 := M0.2.1 1 _ rfl
      go_enter Try.func3, Try.ntmps3
      go_wp2_with fail
      generalize w.alloc (.cells #[.int .i64 g, .slice a n c] 24) = wz at *
      refine (SZ.out _ (hR.below dd)).mono ?_
      rintro e w0 ⟨rfl, d0⟩
      go_wp2_with fail
      refine (SZ2.out _).mono ?_
      rintro e w1 ⟨rfl, hw1⟩
      rw [hw1]; clear hw1 w1
      go_wp2_with fail
      go_ret
      exact ⟨rfl, dd.trans (d0.mono dd.size)⟩
  · rw [if_neg hs] at SZ
    clear hs hn hx hgn
    go_enter Try.func3, Try.ntmps3
    go_wp2_with fail
    refine (SZ.out _ (hR.below dd)).mono ?_
    rintro e w0 ⟨rfl, d0⟩
    go_wp2_with fail
    go_ret
    exact ⟨rfl, dd.trans (d0.mono dd.size)⟩
end Go.Proofs.Ytelehmkmdbhcfaa
