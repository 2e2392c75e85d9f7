/- The law on BuildNfa, walked out of what the specification's and the program's functions answer. -/
import Derived.Test.YtdbaonpkdcmglaaLaw6m
namespace Go.Proofs.Ytdbaonpkdcmglaa
open Go.RowKit

set_option maxRecDepth 100000 in
set_option maxHeartbeats 6400000 in
theorem w_buildNfa_law (fl : Bool) (s en : Int) (a0 : Option Addr) (len cap : Nat) (f0 f1 : Nat → Int) (n : Nat) (F0 F1 : Nat → Int) (F2 F3 : Nat → Bool) (F4 : Nat → Int) (w : World) (ha : len ≤ 1048576) (hn : n ≤ 1048576) (Ra : RowReCell a0 len f0 f1 w)
    (hS : Hid (∀ (a ca : Nat) (w : World), len ≤ ca → a < w.heap.size → RowReCell (some ⟨a, 0, none⟩) len f0 f1 w → Calls Try.prog 29 #[.slice (some ⟨a, 0, none⟩) len ca] w fun e w' => ∃ a' c' g, e = .returned (.tuple #[.agg #[.int .i64 s, .int .i64 0, .int .i64 en, .slice a' n c'], .bool fl]) ∧ (n ≠ 0 → w.heap.size ≤ g) ∧ WrG a' g n F0 F1 F2 F3 F4 w' ∧ Below w.heap.size w w'))
    (hI : Hid (∀ (a ca : Nat) (w : World), len ≤ ca → a < w.heap.size → RowReCell (some ⟨a, 0, none⟩) len f0 f1 w → Calls Try.prog 30 #[.slice (some ⟨a, 0, none⟩) len ca] w fun e w' => ∃ a' c' g, e = .returned (.tuple #[.agg #[.int .i64 s, .int .i64 0, .int .i64 en, .slice a' n c'], .bool fl]) ∧ (n ≠ 0 → w.heap.size ≤ g) ∧ WrG a' g n F0 F1 F2 F3 F4 w' ∧ Below w.heap.size w w')) :
    Calls Try.prog 8 #[.slice a0 len cap] w fun e w' => e = .returned (.bool true) ∧ Below w.heap.size w w' := by
  have hsza := hide (fun w => w_szReCellS a0 len cap w (Nat.le_trans ha (by decide)))
  rw [if_pos ha] at hsza
  have hlta : ¬ (1048576 - (len : Int) < 0) := by omega
  have Ta := hide (fun w hR => w_toReCellS a0 len cap f0 f1 w ha hR)
  have Ea := hide (fun a a' cap cap' w hR hR' => w_eqReCellS a a' len cap cap' f0 f1 w ha hR hR')
  have Ma := hide (fun c cap w hO => w_markReCellS c len cap f0 f1 1 w ha (by omega) (by omega) hO)
  have k1 : ¬ (1 + 2 * (len : Int) < 0) := by omega
  have k2 : ¬ (1 + 5 * (n : Int) < 0) := by omega
  have k3 : ((1 + 5 * (n : Int)) != (1 + 5 * (n : Int))) = false := by simp
  have k4 : (fl != fl) = false := by simp
  have EN := hide (fun a a' cap cap' w hR hR' => w_eqNfa s 0 en a a' n cap cap' F0 F1 F2 F3 F4 w hn hR hR')
  have MG := hide (fun a c cap w h hc => w_markNfa s en a c n cap F0 F1 F2 F3 F4 w hn h hc)
  have HG := hide (fun a cap w hR => w_heldNfa s en a n cap w hn hR)
  clear ha hn
  have d0 : Below w.heap.size w w := Below.refl _ _
  go_enter Try.func8, Try.ntmps8
  go_wp2_with fail
  refine (hsza.out _).mono ?_
  rintro e w_ ⟨rfl, hw_⟩
  rw [hw_]
  clear hw_ w_
  go_wp2_with fail
  refine (Ta.out _ (Ra.below d0)).mono ?_
  rintro e W1 ⟨rfl, bb, q⟩
  have yq := d0.size
  have yyq := q.1
  have d1 := d0.trans (bb.mono d0.size)
  have z1 := bb.size
  clear bb
  go_wp2_with fail
  refine (hS.out _ _ _ (Nat.le_refl _) q.1 q.row).mono ?_
  rintro e W2 ⟨aw, cw, gw, rfl, hw, Gw, bb⟩
  have lw : n ≠ 0 → w.heap.size ≤ gw := fun e => Nat.le_trans d1.size (hw e)
  have d2 := d1.trans (bb.mono d1.size)
  replace q := q.below bb
  have z2 := bb.size
  clear bb
  have iw : n ≠ 0 → gw < W2.heap.size := fun e => Gw.lt e
  have bb : Below W2.heap.size W2 (W2.alloc (.cells #[.int .i64 s, .int .i64 0, .int .i64 en, .slice aw n cw] 43)) := below_box (Below.refl _ _)
  have Mw := Mut.new W2 #[.int .i64 s, .int .i64 0, .int .i64 en, .slice aw n cw] 43
  have d3 := d2.trans (bb.mono d2.size)
  replace Gw := Gw.below bb
  replace q := q.below bb
  have z3 := bb.size
  have zbw : W2.heap.size < (W2.alloc (.cells #[.int .i64 s, .int .i64 0, .int .i64 en, .slice aw n cw] 43)).heap.size := by simp
  clear bb
  go_wp2_with fail
  generalize hWW : W2.alloc (.cells #[.int .i64 s, .int .i64 0, .int .i64 en, .slice aw n cw] 43) = W3 at *
  clear hWW
  clear q yq
  refine (Ta.out _ (Ra.below d3)).mono ?_
  rintro e W4 ⟨rfl, bb, x⟩
  have yx := d3.size
  have yyx := x.1
  have d4 := d3.trans (bb.mono d3.size)
  replace Mw := Mw.below bb
  replace Gw := Gw.below bb
  have z4 := bb.size
  clear bb
  go_wp2_with fail
  refine (hI.out _ _ _ (Nat.le_refl _) x.1 x.row).mono ?_
  rintro e W5 ⟨ag, cg, gg, rfl, hg, Gg, bb⟩
  have lg : n ≠ 0 → w.heap.size ≤ gg := fun e => Nat.le_trans d4.size (hg e)
  have d5 := d4.trans (bb.mono d4.size)
  replace Mw := Mw.below bb
  replace Gw := Gw.below bb
  replace x := x.below bb
  have z5 := bb.size
  clear bb
  have ig : n ≠ 0 → gg < W5.heap.size := fun e => Gg.lt e
  have vMw0 := Mw.2.1 0 _ rfl
  have vMw1 := Mw.2.1 1 _ rfl
  have vMw2 := Mw.2.1 2 _ rfl
  have vMw3 := Mw.2.1 3 _ rfl
  have nMw : ¬ W2.heap.size = W5.heap.size := by omega
  have bb : Below W5.heap.size W5 (W5.alloc (.cells #[.int .i64 s, .int .i64 0, .int .i64 en, .slice ag n cg] 43)) := below_box (Below.refl _ _)
  have Mg := Mut.new W5 #[.int .i64 s, .int .i64 0, .int .i64 en, .slice ag n cg] 43
  have d6 := d5.trans (bb.mono d5.size)
  replace Mw := Mw.below bb
  replace Gw := Gw.below bb
  replace Gg := Gg.below bb
  replace x := x.below bb
  have xMw0 := Mw.2.1 0 _ rfl
  have xMw1 := Mw.2.1 1 _ rfl
  have xMw2 := Mw.2.1 2 _ rfl
  have xMw3 := Mw.2.1 3 _ rfl
  have z6 := bb.size
  have zbg : W5.heap.size < (W5.alloc (.cells #[.int .i64 s, .int .i64 0, .int .i64 en, .slice ag n cg] 43)).heap.size := by simp
  clear bb
  go_wp2_with fail
  clear vMw0 vMw1 vMw2 vMw3 nMw xMw0 xMw1 xMw2 xMw3
  generalize hWW : W5.alloc (.cells #[.int .i64 s, .int .i64 0, .int .i64 en, .slice ag n cg] 43) = W6 at *
  clear hWW
  refine (EN.out _ _ _ _ _ Gg.row Gw.row).mono ?_
  rintro e W7 ⟨rfl, bb⟩
  have d7 := d6.trans (bb.mono d6.size)
  replace Mw := Mw.below bb
  replace Mg := Mg.below bb
  replace Gw := Gw.below bb
  replace Gg := Gg.below bb
  replace x := x.below bb
  have z7 := bb.size
  clear bb
  go_wp2_with fail
  refine (Ta.out _ (Ra.below d7)).mono ?_
  rintro e W8 ⟨rfl, bb, t⟩
  have yt := d7.size
  have yyt := t.1
  have d8 := d7.trans (bb.mono d7.size)
  replace Mw := Mw.below bb
  replace Mg := Mg.below bb
  replace Gw := Gw.below bb
  replace Gg := Gg.below bb
  replace x := x.below bb
  have z8 := bb.size
  clear bb
  go_wp2_with fail
  refine (Ea.out _ _ _ _ _ x.row t.row).mono ?_
  rintro e W9 ⟨rfl, bb⟩
  have d9 := d8.trans (bb.mono d8.size)
  replace Mw := Mw.below bb
  replace Mg := Mg.below bb
  replace Gw := Gw.below bb
  replace Gg := Gg.below bb
  replace x := x.below bb
  replace t := t.below bb
  have z9 := bb.size
  clear bb
  clear t yt
  go_wp2_with fail
  refine (Ma.out _ _ _ x).mono ?_
  rintro e W10 ⟨rfl, yy, _⟩
  have zx := x.1
  have d10 := d9.trans (only_base6 yy (by omega) x.1)
  have z10 := yy.2.2.2.1
  replace Mw := Mw.only yy (by omega)
  replace Mg := Mg.only yy (by omega)
  replace Gw := Gw.only yy (fun e => by have := iw e; have := hw e; omega)
  replace Gg := Gg.only yy (fun e => by have := ig e; have := hg e; omega)
  clear yy x
  have ug0 := Mg.2.1 0 _ rfl
  have ug1 := Mg.2.1 1 _ rfl
  have ug2 := Mg.2.1 2 _ rfl
  have ug3 := Mg.2.1 3 _ rfl
  have uw0 := Mw.2.1 0 _ rfl
  have uw1 := Mw.2.1 1 _ rfl
  have uw2 := Mw.2.1 2 _ rfl
  have uw3 := Mw.2.1 3 _ rfl
  go_wp2_with fail
  refine (EN.out _ _ _ _ _ Gg.row Gw.row).mono ?_
  rintro e W11 ⟨rfl, bb⟩
  clear ug0 ug1 ug2 ug3 uw0 uw1 uw2 uw3
  have d11 := d10.trans (bb.mono d10.size)
  replace Mw := Mw.below bb
  replace Mg := Mg.below bb
  replace Gw := Gw.below bb
  replace Gg := Gg.below bb
  have z11 := bb.size
  clear bb
  have ug0 := Mg.2.1 0 _ rfl
  have ug1 := Mg.2.1 1 _ rfl
  have ug2 := Mg.2.1 2 _ rfl
  have ug3 := Mg.2.1 3 _ rfl
  go_wp2_with fail
  refine (MG.out _ _ _ _ Gg (fun e => by have := ig e; omega)).mono ?_
  rintro e W12 ⟨rfl, ⟨wm, bm, yy⟩, Gm⟩
  clear ug0 ug1 ug2 ug3
  have dm := d11.trans (bm.mono d11.size)
  have zm := bm.size
  have d12 := dm.trans (yy.base (fun e => ⟨lg e, by have := ig e; omega⟩))
  have z12 := (yy.base (base := 0) (fun e => ⟨Nat.zero_le _, by have := ig e; omega⟩)).size
  replace Mw := (Mw.below bm).onG yy (fun e => by have := ig e; have := hg e; omega)
  replace Mg := (Mg.below bm).onG yy (fun e => by have := ig e; have := hg e; omega)
  replace Gw := (Gw.below bm).on yy (fun e => by have := iw e; have := hg e; omega)
  clear yy bm Gg dm
  have ug0 := Mg.2.1 0 _ rfl
  have ug1 := Mg.2.1 1 _ rfl
  have ug2 := Mg.2.1 2 _ rfl
  have ug3 := Mg.2.1 3 _ rfl
  go_wp2_with fail
  refine (HG.out _ _ _ Gm.row).mono ?_
  rintro e W13 ⟨rfl, bb⟩
  clear ug0 ug1 ug2 ug3
  have d13 := d12.trans (bb.mono d12.size)
  replace Mw := Mw.below bb
  replace Mg := Mg.below bb
  replace Gw := Gw.below bb
  replace Gm := Gm.below bb
  have z13 := bb.size
  clear bb
  go_wp2_with fail
  refine (Ta.out _ (Ra.below d13)).mono ?_
  rintro e W14 ⟨rfl, bb, r⟩
  have yr := d13.size
  have yyr := r.1
  have d14 := d13.trans (bb.mono d13.size)
  replace Mw := Mw.below bb
  replace Mg := Mg.below bb
  replace Gw := Gw.below bb
  replace Gm := Gm.below bb
  have z14 := bb.size
  clear bb
  go_wp2_with fail
  refine (hI.out _ _ _ (Nat.le_refl _) r.1 r.row).mono ?_
  rintro e W15 ⟨ah, ch, gh, rfl, hh, Gh, bb⟩
  have lh : n ≠ 0 → w.heap.size ≤ gh := fun e => Nat.le_trans d14.size (hh e)
  have d15 := d14.trans (bb.mono d14.size)
  replace Mw := Mw.below bb
  replace Mg := Mg.below bb
  replace Gw := Gw.below bb
  replace Gm := Gm.below bb
  replace r := r.below bb
  have z15 := bb.size
  clear bb
  have ih : n ≠ 0 → gh < W15.heap.size := fun e => Gh.lt e
  have vMw0 := Mw.2.1 0 _ rfl
  have vMw1 := Mw.2.1 1 _ rfl
  have vMw2 := Mw.2.1 2 _ rfl
  have vMw3 := Mw.2.1 3 _ rfl
  have nMw : ¬ W2.heap.size = W15.heap.size := by omega
  have vMg0 := Mg.2.1 0 _ rfl
  have vMg1 := Mg.2.1 1 _ rfl
  have vMg2 := Mg.2.1 2 _ rfl
  have vMg3 := Mg.2.1 3 _ rfl
  have nMg : ¬ W5.heap.size = W15.heap.size := by omega
  have bb : Below W15.heap.size W15 (W15.alloc (.cells #[.int .i64 s, .int .i64 0, .int .i64 en, .slice ah n ch] 43)) := below_box (Below.refl _ _)
  have Mh := Mut.new W15 #[.int .i64 s, .int .i64 0, .int .i64 en, .slice ah n ch] 43
  have d16 := d15.trans (bb.mono d15.size)
  replace Mw := Mw.below bb
  replace Mg := Mg.below bb
  replace Gw := Gw.below bb
  replace Gm := Gm.below bb
  replace Gh := Gh.below bb
  replace r := r.below bb
  have xMw0 := Mw.2.1 0 _ rfl
  have xMw1 := Mw.2.1 1 _ rfl
  have xMw2 := Mw.2.1 2 _ rfl
  have xMw3 := Mw.2.1 3 _ rfl
  have xMg0 := Mg.2.1 0 _ rfl
  have xMg1 := Mg.2.1 1 _ rfl
  have xMg2 := Mg.2.1 2 _ rfl
  have xMg3 := Mg.2.1 3 _ rfl
  have z16 := bb.size
  have zbh : W15.heap.size < (W15.alloc (.cells #[.int .i64 s, .int .i64 0, .int .i64 en, .slice ah n ch] 43)).heap.size := by simp
  clear bb
  go_wp2_with fail
  clear vMw0 vMw1 vMw2 vMw3 nMw vMg0 vMg1 vMg2 vMg3 nMg xMw0 xMw1 xMw2 xMw3 xMg0 xMg1 xMg2 xMg3
  generalize hWW : W15.alloc (.cells #[.int .i64 s, .int .i64 0, .int .i64 en, .slice ah n ch] 43) = W16 at *
  clear hWW
  clear r yr
  refine (EN.out _ _ _ _ _ Gh.row Gw.row).mono ?_
  rintro e W17 ⟨rfl, bb⟩
  have d17 := d16.trans (bb.mono d16.size)
  replace Mw := Mw.below bb
  replace Mg := Mg.below bb
  replace Mh := Mh.below bb
  replace Gw := Gw.below bb
  replace Gm := Gm.below bb
  replace Gh := Gh.below bb
  have z17 := bb.size
  clear bb
  have ug0 := Mg.2.1 0 _ rfl
  have ug1 := Mg.2.1 1 _ rfl
  have ug2 := Mg.2.1 2 _ rfl
  have ug3 := Mg.2.1 3 _ rfl
  go_wp2_with fail
  refine (HG.out _ _ _ Gm.row).mono ?_
  rintro e W18 ⟨rfl, bb⟩
  clear ug0 ug1 ug2 ug3
  have d18 := d17.trans (bb.mono d17.size)
  replace Mw := Mw.below bb
  replace Mg := Mg.below bb
  replace Mh := Mh.below bb
  replace Gw := Gw.below bb
  replace Gm := Gm.below bb
  replace Gh := Gh.below bb
  have z18 := bb.size
  clear bb
  go_wp2_with fail
  go_ret
  exact ⟨rfl, d18⟩
set_option maxRecDepth 100000 in
set_option maxHeartbeats 800000 in
theorem w_buildNfa_over (a0 : Option Addr) (len cap : Nat) (w : World) (hl : len ≤ maxLen) (h : ¬ len ≤ 1048576) :
    Calls Try.prog 8 #[.slice a0 len cap] w fun e w' => e = .returned (.bool true) ∧ Below w.heap.size w w' := by
  have hsz := hide (fun w => w_szReCellS a0 len cap w hl)
  rw [if_neg h] at hsz
  go_enter Try.func8, Try.ntmps8
  go_wp2_with fail
  refine (hsz.out _).mono ?_
  rintro e w0 ⟨rfl, rfl⟩
  go_wp2_with fail
  go_ret
  exact ⟨rfl, Below.refl _ _⟩
theorem w_buildNfa (a0 : Option Addr) (len cap : Nat) (f0 f1 : Nat → Int) (w : World) (hl : len ≤ maxLen) (Ra : RowReCell a0 len f0 f1 w) :
    Calls Try.prog 8 #[.slice a0 len cap] w fun e w' => e = .returned (.bool true) ∧ Below w.heap.size w w' := by
  by_cases h : len ≤ 1048576
  · have e := listQ_len len f0 f1
    refine w_buildNfa_law (rgB (listQ len f0 f1)) (bnS (listQ len f0 f1)) (bnE (listQ len f0 f1)) a0 len cap f0 f1 (bnA (listQ len f0 f1)).length (fun i => (gAt (bnA (listQ len f0 f1)) i).1) (fun i => (gAt (bnA (listQ len f0 f1)) i).2.1) (fun i => (gAt (bnA (listQ len f0 f1)) i).2.2.1) (fun i => (gAt (bnA (listQ len f0 f1)) i).2.2.2.1) (fun i => (gAt (bnA (listQ len f0 f1)) i).2.2.2.2) w h (Nat.le_trans (bnA_len _) (by decide)) Ra (fun a ca w q hb r => ?_) (fun a ca w q hb r => ?_)
    · have k := s_buildNfa a 0 ca (listQ len f0 f1) w (by omega) hb (RowQ.of r)
      rw [e] at k
      exact k.mono fun _ _ h => h.wr
    · have k := i_buildNfa (some ⟨a, 0, none⟩) ca (listQ len f0 f1) w (by omega) (by omega) (RowQ.of r)
      rw [e] at k
      exact k.mono fun _ _ h => h.wr
  · exact w_buildNfa_over a0 len cap w hl h
end Go.Proofs.Ytdbaonpkdcmglaa
