/- The law on PrependPath: the program answers as the specification. -/
import Derived.Test.YtofalilkephkpaaI4q
namespace Go.Proofs.Ytofalilkephkpaa
open Go.RowKit

set_option maxRecDepth 100000 in
set_option maxHeartbeats 800000 in
theorem w_markAttrs_nil (w : World) :
    Calls Try.prog 64 #[.agg #[.int .i64 0, .slice none 0 0, .int .i64 0, .int .i64 0, .int .i64 0, .slice none 0 0], .int .i64 1] w fun e w' => e = .returned (.int .i64 1) ∧ Below w.heap.size w w' := by
  have s0 := hide (fun k w => w_markIntS_nil none 0 k w)
  have d : Below w.heap.size w (w.alloc (.cells #[.int .i64 0, .slice none 0 0, .int .i64 0, .int .i64 0, .int .i64 0, .slice none 0 0] 75)) := below_box (Below.refl _ _)
  go_enter Try.func64, Try.ntmps64
  go_wp2_with fail
  refine (s0.out _ _).mono ?_
  rintro e w2 ⟨rfl, rfl⟩
  go_wp2_with fail
  refine (s0.out _ _).mono ?_
  rintro e w2 ⟨rfl, rfl⟩
  go_wp2_with fail
  go_ret
  exact ⟨rfl, d⟩
theorem below_only2 {c base : Nat} {w w' : World} (h : Only c w w') (hc : base ≤ c) (hb : base ≤ w.heap.size) : Below base w w' := ⟨h.1, h.2.1, h.2.2.1, h.2.2.2.1, fun k hk => h.2.2.2.2 k (by omega) (by omega)⟩
set_option maxRecDepth 100000 in
set_option maxHeartbeats 6400000 in
theorem w_prepend_full (o nx md pf : Int) (a0 : Option Addr) (n0 c0 : Nat) (f : Nat → Int) (a1 : Option Addr) (n1 c1 : Nat) (g : Nat → Int) (asn many : Int) (N : Nat) (F : Nat → Int) (w : World) (h0 : n0 ≤ maxLen) (h1 : n1 ≤ maxLen) (hsum : (n0 : Int) + n1 ≤ 1048576) (hN : N ≤ 1048576) (R0 : RowInt a0 n0 f w) (R1 : RowInt a1 n1 g w)
    (hS : Hid (∀ (x c0 y c1 : Nat) (w : World), RowInt (some ⟨x, 0, none⟩) n0 f w → RowInt (some ⟨y, 0, none⟩) n1 g w → Calls Try.prog 62 #[.agg #[.int .i64 o, .slice (some ⟨x, 0, none⟩) n0 c0, .int .i64 nx, .int .i64 md, .int .i64 pf, .slice (some ⟨y, 0, none⟩) n1 c1], .int .i64 asn, .int .i64 many] w fun e w' => AnsA w.heap.size o nx md pf N F n1 g e w w'))
    (hI : Hid (∀ (x c0 y c1 : Nat) (w : World), RowInt (some ⟨x, 0, none⟩) n0 f w → RowInt (some ⟨y, 0, none⟩) n1 g w → Calls Try.prog 63 #[.agg #[.int .i64 o, .slice (some ⟨x, 0, none⟩) n0 c0, .int .i64 nx, .int .i64 md, .int .i64 pf, .slice (some ⟨y, 0, none⟩) n1 c1], .int .i64 asn, .int .i64 many] w fun e w' => AnsA w.heap.size o nx md pf N F n1 g e w w')) :
    Calls Try.prog 8 #[.agg #[.int .i64 o, .slice a0 n0 c0, .int .i64 nx, .int .i64 md, .int .i64 pf, .slice a1 n1 c1], .int .i64 asn, .int .i64 many] w fun e w' => e = .returned (.bool true) ∧ Below w.heap.size w w' := by
  have SZ := hide (fun w => w_szAttrs o nx md pf a0 n0 c0 a1 n1 c1 1048576 w h0 h1 (by omega) (by omega))
  rw [if_pos hsum] at SZ
  have hlt : ¬ (1048576 - (n0 : Int) - n1 < 0) := by omega
  have T := hide (fun w R0 R1 => w_toAttrs o nx md pf a0 n0 c0 f a1 n1 c1 g w (by omega) (by omega) R0 R1)
  have E := hide (fun a0 b0 c0 e0 a1 b1 c1 e1 w R0 R1 Q0 Q1 => w_eqAttrs o nx md pf a0 b0 n0 c0 e0 f a1 b1 n1 c1 e1 g w (by omega) (by omega) R0 R1 Q0 Q1)
  have MX := hide (fun x c0 y c1 w hn O0 O1 => w_markAttrs o nx md pf x n0 c0 f y n1 c1 g w (by omega) (by omega) hn O0 O1)
  have kx : ¬ (1 + (n0 : Int) + (n1 : Int) < 0) := by omega
  have M := Mut.new w #[.int .i64 o, .slice a0 n0 c0, .int .i64 nx, .int .i64 md, .int .i64 pf, .slice a1 n1 c1] 72
  have d0 : Below w.heap.size w (w.alloc (.cells #[.int .i64 o, .slice a0 n0 c0, .int .i64 nx, .int .i64 md, .int .i64 pf, .slice a1 n1 c1] 72)) := below_box (Below.refl _ _)
  have EA := hide (fun a0 b0 c0 e0 a1 b1 c1 e1 w R0 R1 Q0 Q1 => w_eqAttrs o nx md pf a0 b0 N c0 e0 F a1 b1 n1 c1 e1 g w (by omega) (by omega) R0 R1 Q0 Q1)
  have MG := hide (fun x c0 y c1 w hn O0 O1 => w_markAttrs o nx md pf x N c0 F y n1 c1 g w hN (by omega) hn O0 O1)
  have HG := hide (fun a0 c0 a1 c1 w R0 R1 => w_heldAttrs o nx md pf a0 N c0 a1 n1 c1 w hN (by omega) R0 R1)
  have kg : ¬ (1 + (N : Int) + (n1 : Int) < 0) := by omega
  have kq : ((1 + (N : Int) + (n1 : Int)) != (1 + (N : Int) + (n1 : Int))) = false := by simp
  clear h0 h1 hsum
  go_enter Try.func8, Try.ntmps8
  go_wp2_with fail
  generalize hW0 : w.alloc (.cells #[.int .i64 o, .slice a0 n0 c0, .int .i64 nx, .int .i64 md, .int .i64 pf, .slice a1 n1 c1] 72) = W0 at *
  clear hW0
  refine (SZ.out _).mono ?_
  rintro e W1 ⟨rfl, bb⟩
  have d1 := d0.trans (bb.mono d0.size)
  have s1 := bb.size
  have t1 := d1.size
  have M := M.below bb
  clear bb
  have u0 := M.2.1 0 _ rfl
  have u1 := M.2.1 1 _ rfl
  have u2 := M.2.1 2 _ rfl
  have u3 := M.2.1 3 _ rfl
  have u4 := M.2.1 4 _ rfl
  have u5 := M.2.1 5 _ rfl
  go_wp2_with fail
  refine (T.out _ (R0.below d1) (R1.below d1)).mono ?_
  rintro e W2 ⟨xs, ys, rfl, lxs, lys, OXs, OYs, bb⟩
  have hxs := OXs.1
  have hys := OYs.1
  have d2 := d1.trans (bb.mono d1.size)
  have s2 := bb.size
  have t2 := d2.size
  have M := M.below bb
  clear bb
  clear u0 u1 u2 u3 u4 u5
  go_wp2_with fail
  refine (hS.out _ _ _ _ _ OXs.row OYs.row).mono ?_
  rintro e W3 ⟨ps, pcs, qs, qcs, rfl, lps, lqs, nes, OPs, OQs, bb⟩
  have hps := OPs.1
  have hqs := OQs.1
  have d3 := d2.trans (bb.mono d2.size)
  have s3 := bb.size
  have t3 := d3.size
  have M := M.below bb
  have OXs := OXs.below bb
  have OYs := OYs.below bb
  clear bb
  clear OXs OYs
  have u0 := (M.alloc (.cells #[.int .i64 o, .slice (some ⟨ps, 0, none⟩) N pcs, .int .i64 nx, .int .i64 md, .int .i64 pf, .slice (some ⟨qs, 0, none⟩) n1 qcs] 75)).2.1 0 _ rfl
  have u1 := (M.alloc (.cells #[.int .i64 o, .slice (some ⟨ps, 0, none⟩) N pcs, .int .i64 nx, .int .i64 md, .int .i64 pf, .slice (some ⟨qs, 0, none⟩) n1 qcs] 75)).2.1 1 _ rfl
  have u2 := (M.alloc (.cells #[.int .i64 o, .slice (some ⟨ps, 0, none⟩) N pcs, .int .i64 nx, .int .i64 md, .int .i64 pf, .slice (some ⟨qs, 0, none⟩) n1 qcs] 75)).2.1 2 _ rfl
  have u3 := (M.alloc (.cells #[.int .i64 o, .slice (some ⟨ps, 0, none⟩) N pcs, .int .i64 nx, .int .i64 md, .int .i64 pf, .slice (some ⟨qs, 0, none⟩) n1 qcs] 75)).2.1 3 _ rfl
  have u4 := (M.alloc (.cells #[.int .i64 o, .slice (some ⟨ps, 0, none⟩) N pcs, .int .i64 nx, .int .i64 md, .int .i64 pf, .slice (some ⟨qs, 0, none⟩) n1 qcs] 75)).2.1 4 _ rfl
  have u5 := (M.alloc (.cells #[.int .i64 o, .slice (some ⟨ps, 0, none⟩) N pcs, .int .i64 nx, .int .i64 md, .int .i64 pf, .slice (some ⟨qs, 0, none⟩) n1 qcs] 75)).2.1 5 _ rfl
  go_wp2_with fail
  have bb : Below W3.heap.size W3 (W3.alloc (.cells #[.int .i64 o, .slice (some ⟨ps, 0, none⟩) N pcs, .int .i64 nx, .int .i64 md, .int .i64 pf, .slice (some ⟨qs, 0, none⟩) n1 qcs] 75)) := below_box (Below.refl _ _)
  have BS := Mut.new W3 #[.int .i64 o, .slice (some ⟨ps, 0, none⟩) N pcs, .int .i64 nx, .int .i64 md, .int .i64 pf, .slice (some ⟨qs, 0, none⟩) n1 qcs] 75
  have hbs : W3.heap.size < (W3.alloc (.cells #[.int .i64 o, .slice (some ⟨ps, 0, none⟩) N pcs, .int .i64 nx, .int .i64 md, .int .i64 pf, .slice (some ⟨qs, 0, none⟩) n1 qcs] 75)).heap.size := by simp
  have d4 := d3.trans (bb.mono d3.size)
  have s4 := bb.size
  have t4 := d4.size
  have M := M.below bb
  have OPs := OPs.below bb
  have OQs := OQs.below bb
  clear bb
  generalize hWW : W3.alloc (.cells #[.int .i64 o, .slice (some ⟨ps, 0, none⟩) N pcs, .int .i64 nx, .int .i64 md, .int .i64 pf, .slice (some ⟨qs, 0, none⟩) n1 qcs] 75) = W4 at *
  clear hWW
  refine (T.out _ (R0.below d4) (R1.below d4)).mono ?_
  rintro e W5 ⟨x, y, rfl, lx, ly, OX, OY, bb⟩
  have hx := OX.1
  have hy := OY.1
  have d5 := d4.trans (bb.mono d4.size)
  have s5 := bb.size
  have t5 := d5.size
  have M := M.below bb
  have OPs := OPs.below bb
  have OQs := OQs.below bb
  have BS := BS.below bb
  clear bb
  clear u0 u1 u2 u3 u4 u5
  go_wp2_with fail
  have bb : Below W5.heap.size W5 (W5.alloc (.cells #[.int .i64 o, .slice (some ⟨x, 0, none⟩) n0 n0, .int .i64 nx, .int .i64 md, .int .i64 pf, .slice (some ⟨y, 0, none⟩) n1 n1] 75)) := below_box (Below.refl _ _)
  have BX := Mut.new W5 #[.int .i64 o, .slice (some ⟨x, 0, none⟩) n0 n0, .int .i64 nx, .int .i64 md, .int .i64 pf, .slice (some ⟨y, 0, none⟩) n1 n1] 75
  have hbx : W5.heap.size < (W5.alloc (.cells #[.int .i64 o, .slice (some ⟨x, 0, none⟩) n0 n0, .int .i64 nx, .int .i64 md, .int .i64 pf, .slice (some ⟨y, 0, none⟩) n1 n1] 75)).heap.size := by simp
  have d6 := d5.trans (bb.mono d5.size)
  have s6 := bb.size
  have t6 := d6.size
  have M := M.below bb
  have OPs := OPs.below bb
  have OQs := OQs.below bb
  have BS := BS.below bb
  have OX := OX.below bb
  have OY := OY.below bb
  clear bb
  generalize hWW : W5.alloc (.cells #[.int .i64 o, .slice (some ⟨x, 0, none⟩) n0 n0, .int .i64 nx, .int .i64 md, .int .i64 pf, .slice (some ⟨y, 0, none⟩) n1 n1] 75) = W6 at *
  clear hWW
  refine (hI.out _ _ _ _ _ OX.row OY.row).mono ?_
  rintro e W7 ⟨pg, pcg, qg, qcg, rfl, lpg, lqg, neg, OPg, OQg, bb⟩
  have hpg := OPg.1
  have hqg := OQg.1
  have d7 := d6.trans (bb.mono d6.size)
  have s7 := bb.size
  have t7 := d7.size
  have M := M.below bb
  have OPs := OPs.below bb
  have OQs := OQs.below bb
  have BS := BS.below bb
  have OX := OX.below bb
  have OY := OY.below bb
  have BX := BX.below bb
  clear bb
  have v0 := (BS.alloc (.cells #[.int .i64 o, .slice (some ⟨pg, 0, none⟩) N pcg, .int .i64 nx, .int .i64 md, .int .i64 pf, .slice (some ⟨qg, 0, none⟩) n1 qcg] 75)).2.1 0 _ rfl
  have v1 := (BS.alloc (.cells #[.int .i64 o, .slice (some ⟨pg, 0, none⟩) N pcg, .int .i64 nx, .int .i64 md, .int .i64 pf, .slice (some ⟨qg, 0, none⟩) n1 qcg] 75)).2.1 1 _ rfl
  have v2 := (BS.alloc (.cells #[.int .i64 o, .slice (some ⟨pg, 0, none⟩) N pcg, .int .i64 nx, .int .i64 md, .int .i64 pf, .slice (some ⟨qg, 0, none⟩) n1 qcg] 75)).2.1 2 _ rfl
  have v3 := (BS.alloc (.cells #[.int .i64 o, .slice (some ⟨pg, 0, none⟩) N pcg, .int .i64 nx, .int .i64 md, .int .i64 pf, .slice (some ⟨qg, 0, none⟩) n1 qcg] 75)).2.1 3 _ rfl
  have v4 := (BS.alloc (.cells #[.int .i64 o, .slice (some ⟨pg, 0, none⟩) N pcg, .int .i64 nx, .int .i64 md, .int .i64 pf, .slice (some ⟨qg, 0, none⟩) n1 qcg] 75)).2.1 4 _ rfl
  have v5 := (BS.alloc (.cells #[.int .i64 o, .slice (some ⟨pg, 0, none⟩) N pcg, .int .i64 nx, .int .i64 md, .int .i64 pf, .slice (some ⟨qg, 0, none⟩) n1 qcg] 75)).2.1 5 _ rfl
  go_wp2_with fail
  have bb : Below W7.heap.size W7 (W7.alloc (.cells #[.int .i64 o, .slice (some ⟨pg, 0, none⟩) N pcg, .int .i64 nx, .int .i64 md, .int .i64 pf, .slice (some ⟨qg, 0, none⟩) n1 qcg] 75)) := below_box (Below.refl _ _)
  have BG := Mut.new W7 #[.int .i64 o, .slice (some ⟨pg, 0, none⟩) N pcg, .int .i64 nx, .int .i64 md, .int .i64 pf, .slice (some ⟨qg, 0, none⟩) n1 qcg] 75
  have hbg : W7.heap.size < (W7.alloc (.cells #[.int .i64 o, .slice (some ⟨pg, 0, none⟩) N pcg, .int .i64 nx, .int .i64 md, .int .i64 pf, .slice (some ⟨qg, 0, none⟩) n1 qcg] 75)).heap.size := by simp
  have d8 := d7.trans (bb.mono d7.size)
  have s8 := bb.size
  have t8 := d8.size
  have M := M.below bb
  have OPs := OPs.below bb
  have OQs := OQs.below bb
  have BS := BS.below bb
  have OX := OX.below bb
  have OY := OY.below bb
  have BX := BX.below bb
  have OPg := OPg.below bb
  have OQg := OQg.below bb
  clear bb
  generalize hWW : W7.alloc (.cells #[.int .i64 o, .slice (some ⟨pg, 0, none⟩) N pcg, .int .i64 nx, .int .i64 md, .int .i64 pf, .slice (some ⟨qg, 0, none⟩) n1 qcg] 75) = W8 at *
  clear hWW
  refine (EA.out _ _ _ _ _ _ _ _ _ OPg.row OQg.row OPs.row OQs.row).mono ?_
  rintro e W9 ⟨rfl, bb⟩
  have d9 := d8.trans (bb.mono d8.size)
  have s9 := bb.size
  have t9 := d9.size
  have M := M.below bb
  have OPs := OPs.below bb
  have OQs := OQs.below bb
  have BS := BS.below bb
  have OX := OX.below bb
  have OY := OY.below bb
  have BX := BX.below bb
  have OPg := OPg.below bb
  have OQg := OQg.below bb
  have BG := BG.below bb
  clear bb
  clear v0 v1 v2 v3 v4 v5
  go_wp2_with fail
  have dZ : Below W9.heap.size W9 W9 := Below.refl _ _
  have R09 := R0.below d9
  have R19 := R1.below d9
  have hltM := M.1
  have hltX := BX.1
  have u0 := M.2.1 0 _ rfl
  have u1 := M.2.1 1 _ rfl
  have u2 := M.2.1 2 _ rfl
  have u3 := M.2.1 3 _ rfl
  have u4 := M.2.1 4 _ rfl
  have u5 := M.2.1 5 _ rfl
  have v0 := BX.2.1 0 _ rfl
  have v1 := BX.2.1 1 _ rfl
  have v2 := BX.2.1 2 _ rfl
  have v3 := BX.2.1 3 _ rfl
  have v4 := BX.2.1 4 _ rfl
  have v5 := BX.2.1 5 _ rfl
  go_region_held3 (fun w' => w'.cell? ⟨w.heap.size, 0, none⟩ = some (.int .i64 o) ∧ w'.cell? ⟨w.heap.size, 1, none⟩ = some (.slice a0 n0 c0) ∧ w'.cell? ⟨w.heap.size, 2, none⟩ = some (.int .i64 nx) ∧ w'.cell? ⟨w.heap.size, 3, none⟩ = some (.int .i64 md) ∧ w'.cell? ⟨w.heap.size, 4, none⟩ = some (.int .i64 pf) ∧ w'.cell? ⟨w.heap.size, 5, none⟩ = some (.slice a1 n1 c1) ∧ w'.cell? ⟨W5.heap.size, 0, none⟩ = some (.int .i64 o) ∧ w'.cell? ⟨W5.heap.size, 1, none⟩ = some (.slice (some ⟨x, 0, none⟩) n0 n0) ∧ w'.cell? ⟨W5.heap.size, 2, none⟩ = some (.int .i64 nx) ∧ w'.cell? ⟨W5.heap.size, 3, none⟩ = some (.int .i64 md) ∧ w'.cell? ⟨W5.heap.size, 4, none⟩ = some (.int .i64 pf) ∧ w'.cell? ⟨W5.heap.size, 5, none⟩ = some (.slice (some ⟨y, 0, none⟩) n1 n1)) (first | go_keep | exact ⟨(dE.cell (p := ⟨w.heap.size, 0, none⟩) hltM).trans u0, (dE.cell (p := ⟨w.heap.size, 1, none⟩) hltM).trans u1, (dE.cell (p := ⟨w.heap.size, 2, none⟩) hltM).trans u2, (dE.cell (p := ⟨w.heap.size, 3, none⟩) hltM).trans u3, (dE.cell (p := ⟨w.heap.size, 4, none⟩) hltM).trans u4, (dE.cell (p := ⟨w.heap.size, 5, none⟩) hltM).trans u5, (dE.cell (p := ⟨W5.heap.size, 0, none⟩) hltX).trans v0, (dE.cell (p := ⟨W5.heap.size, 1, none⟩) hltX).trans v1, (dE.cell (p := ⟨W5.heap.size, 2, none⟩) hltX).trans v2, (dE.cell (p := ⟨W5.heap.size, 3, none⟩) hltX).trans v3, (dE.cell (p := ⟨W5.heap.size, 4, none⟩) hltX).trans v4, (dE.cell (p := ⟨W5.heap.size, 5, none⟩) hltX).trans v5⟩ | exact ⟨(dE.drew.cell (p := ⟨w.heap.size, 0, none⟩) hltM).trans u0, (dE.drew.cell (p := ⟨w.heap.size, 1, none⟩) hltM).trans u1, (dE.drew.cell (p := ⟨w.heap.size, 2, none⟩) hltM).trans u2, (dE.drew.cell (p := ⟨w.heap.size, 3, none⟩) hltM).trans u3, (dE.drew.cell (p := ⟨w.heap.size, 4, none⟩) hltM).trans u4, (dE.drew.cell (p := ⟨w.heap.size, 5, none⟩) hltM).trans u5, (dE.drew.cell (p := ⟨W5.heap.size, 0, none⟩) hltX).trans v0, (dE.drew.cell (p := ⟨W5.heap.size, 1, none⟩) hltX).trans v1, (dE.drew.cell (p := ⟨W5.heap.size, 2, none⟩) hltX).trans v2, (dE.drew.cell (p := ⟨W5.heap.size, 3, none⟩) hltX).trans v3, (dE.drew.cell (p := ⟨W5.heap.size, 4, none⟩) hltX).trans v4, (dE.drew.cell (p := ⟨W5.heap.size, 5, none⟩) hltX).trans v5⟩ | exact ⟨(dT.cell (p := ⟨w.heap.size, 0, none⟩) hltM).trans u0, (dT.cell (p := ⟨w.heap.size, 1, none⟩) hltM).trans u1, (dT.cell (p := ⟨w.heap.size, 2, none⟩) hltM).trans u2, (dT.cell (p := ⟨w.heap.size, 3, none⟩) hltM).trans u3, (dT.cell (p := ⟨w.heap.size, 4, none⟩) hltM).trans u4, (dT.cell (p := ⟨w.heap.size, 5, none⟩) hltM).trans u5, (dT.cell (p := ⟨W5.heap.size, 0, none⟩) hltX).trans v0, (dT.cell (p := ⟨W5.heap.size, 1, none⟩) hltX).trans v1, (dT.cell (p := ⟨W5.heap.size, 2, none⟩) hltX).trans v2, (dT.cell (p := ⟨W5.heap.size, 3, none⟩) hltX).trans v3, (dT.cell (p := ⟨W5.heap.size, 4, none⟩) hltX).trans v4, (dT.cell (p := ⟨W5.heap.size, 5, none⟩) hltX).trans v5⟩ | exact ⟨(dT.drew.cell (p := ⟨w.heap.size, 0, none⟩) hltM).trans u0, (dT.drew.cell (p := ⟨w.heap.size, 1, none⟩) hltM).trans u1, (dT.drew.cell (p := ⟨w.heap.size, 2, none⟩) hltM).trans u2, (dT.drew.cell (p := ⟨w.heap.size, 3, none⟩) hltM).trans u3, (dT.drew.cell (p := ⟨w.heap.size, 4, none⟩) hltM).trans u4, (dT.drew.cell (p := ⟨w.heap.size, 5, none⟩) hltM).trans u5, (dT.drew.cell (p := ⟨W5.heap.size, 0, none⟩) hltX).trans v0, (dT.drew.cell (p := ⟨W5.heap.size, 1, none⟩) hltX).trans v1, (dT.drew.cell (p := ⟨W5.heap.size, 2, none⟩) hltX).trans v2, (dT.drew.cell (p := ⟨W5.heap.size, 3, none⟩) hltX).trans v3, (dT.drew.cell (p := ⟨W5.heap.size, 4, none⟩) hltX).trans v4, (dT.drew.cell (p := ⟨W5.heap.size, 5, none⟩) hltX).trans v5⟩ | exact ⟨(dZ.cell (p := ⟨w.heap.size, 0, none⟩) hltM).trans u0, (dZ.cell (p := ⟨w.heap.size, 1, none⟩) hltM).trans u1, (dZ.cell (p := ⟨w.heap.size, 2, none⟩) hltM).trans u2, (dZ.cell (p := ⟨w.heap.size, 3, none⟩) hltM).trans u3, (dZ.cell (p := ⟨w.heap.size, 4, none⟩) hltM).trans u4, (dZ.cell (p := ⟨w.heap.size, 5, none⟩) hltM).trans u5, (dZ.cell (p := ⟨W5.heap.size, 0, none⟩) hltX).trans v0, (dZ.cell (p := ⟨W5.heap.size, 1, none⟩) hltX).trans v1, (dZ.cell (p := ⟨W5.heap.size, 2, none⟩) hltX).trans v2, (dZ.cell (p := ⟨W5.heap.size, 3, none⟩) hltX).trans v3, (dZ.cell (p := ⟨W5.heap.size, 4, none⟩) hltX).trans v4, (dZ.cell (p := ⟨W5.heap.size, 5, none⟩) hltX).trans v5⟩ | exact ⟨(dZ.drew.cell (p := ⟨w.heap.size, 0, none⟩) hltM).trans u0, (dZ.drew.cell (p := ⟨w.heap.size, 1, none⟩) hltM).trans u1, (dZ.drew.cell (p := ⟨w.heap.size, 2, none⟩) hltM).trans u2, (dZ.drew.cell (p := ⟨w.heap.size, 3, none⟩) hltM).trans u3, (dZ.drew.cell (p := ⟨w.heap.size, 4, none⟩) hltM).trans u4, (dZ.drew.cell (p := ⟨w.heap.size, 5, none⟩) hltM).trans u5, (dZ.drew.cell (p := ⟨W5.heap.size, 0, none⟩) hltX).trans v0, (dZ.drew.cell (p := ⟨W5.heap.size, 1, none⟩) hltX).trans v1, (dZ.drew.cell (p := ⟨W5.heap.size, 2, none⟩) hltX).trans v2, (dZ.drew.cell (p := ⟨W5.heap.size, 3, none⟩) hltX).trans v3, (dZ.drew.cell (p := ⟨W5.heap.size, 4, none⟩) hltX).trans v4, (dZ.drew.cell (p := ⟨W5.heap.size, 5, none⟩) hltX).trans v5⟩) ((first | (go_at_call 54; refine (T.out _ (R09.below (by first | exact dZ | exact dZ.drew)) (R19.below (by first | exact dZ | exact dZ.drew))).mono ?_; rintro e wT ⟨x2, y2, rfl, _, _, Px, Py, bT⟩; have dT : Below W9.heap.size W9 wT := (by first | exact below_step dZ bT | exact below_step dZ.drew bT)) | (go_at_call 56; refine (E.out _ _ _ _ _ _ _ _ _ (by first | exact (OX.below dT).row | exact (OX.below dT.drew).row) (by first | exact (OY.below dT).row | exact (OY.below dT.drew).row) (by first | exact Px.row | exact (Px.below (Below.refl _ _).drew).row) (by first | exact Py.row | exact (Py.below (Below.refl _ _).drew).row)).mono ?_; rintro e W10 ⟨rfl, bE⟩; have dE : Below W9.heap.size W9 W10 := (by first | exact below_step dT bE | exact below_step dT.drew bE))))
  clear u0 u1 u2 u3 u4 u5
  clear v0 v1 v2 v3 v4 v5
  clear dZ R09 R19 hltM hltX dT bT Px Py bE
  have d10 := d9.trans (dE.mono d9.size)
  have s10 := dE.size
  have t10 := d10.size
  have M := M.below dE
  have OPs := OPs.below dE
  have OQs := OQs.below dE
  have BS := BS.below dE
  have OX := OX.below dE
  have OY := OY.below dE
  have BX := BX.below dE
  have OPg := OPg.below dE
  have OQg := OQg.below dE
  have BG := BG.below dE
  clear dE
  have v0 := BX.2.1 0 _ rfl
  have v1 := BX.2.1 1 _ rfl
  have v2 := BX.2.1 2 _ rfl
  have v3 := BX.2.1 3 _ rfl
  have v4 := BX.2.1 4 _ rfl
  have v5 := BX.2.1 5 _ rfl
  go_wp2_with fail
  clear v0 v1 v2 v3 v4 v5
  refine (MX.out _ _ _ _ _ (by omega) OX OY).mono ?_
  rintro e W11 ⟨rfl, PX, PY, uu, y1, y2⟩
  have s11 := Nat.le_trans y1.2.2.2.1 y2.2.2.2.1
  have d11 := (d10.trans (below_only2 y1 (by omega) (by have := d10.size; omega))).trans (below_only2 y2 (by omega) (by have := d10.size; have := y1.2.2.2.1; omega))
  have M := (M.only y1 (by omega)).only y2 (by omega)
  have OPs := (OPs.only y1 (by omega)).only y2 (by omega)
  have OQs := (OQs.only y1 (by omega)).only y2 (by omega)
  have BS := (BS.only y1 (by omega)).only y2 (by omega)
  have BX := (BX.only y1 (by omega)).only y2 (by omega)
  have OPg := (OPg.only y1 (by omega)).only y2 (by omega)
  have OQg := (OQg.only y1 (by omega)).only y2 (by omega)
  have BG := (BG.only y1 (by omega)).only y2 (by omega)
  clear y1 y2
  clear PX PY
  have v0 := BG.2.1 0 _ rfl
  have v1 := BG.2.1 1 _ rfl
  have v2 := BG.2.1 2 _ rfl
  have v3 := BG.2.1 3 _ rfl
  have v4 := BG.2.1 4 _ rfl
  have v5 := BG.2.1 5 _ rfl
  have z0 := BS.2.1 0 _ rfl
  have z1 := BS.2.1 1 _ rfl
  have z2 := BS.2.1 2 _ rfl
  have z3 := BS.2.1 3 _ rfl
  have z4 := BS.2.1 4 _ rfl
  have z5 := BS.2.1 5 _ rfl
  go_wp2_with fail
  refine (EA.out _ _ _ _ _ _ _ _ _ OPg.row OQg.row OPs.row OQs.row).mono ?_
  rintro e W12 ⟨rfl, bb⟩
  have d12 := d11.trans (bb.mono d11.size)
  have s12 := bb.size
  have t12 := d12.size
  have M := M.below bb
  have OPs := OPs.below bb
  have OQs := OQs.below bb
  have BS := BS.below bb
  have OPg := OPg.below bb
  have OQg := OQg.below bb
  have BG := BG.below bb
  clear bb
  clear v0 v1 v2 v3 v4 v5
  clear z0 z1 z2 z3 z4 z5
  have v0 := BG.2.1 0 _ rfl
  have v1 := BG.2.1 1 _ rfl
  have v2 := BG.2.1 2 _ rfl
  have v3 := BG.2.1 3 _ rfl
  have v4 := BG.2.1 4 _ rfl
  have v5 := BG.2.1 5 _ rfl
  go_wp2_with fail
  refine (MG.out _ _ _ _ _ neg OPg OQg).mono ?_
  rintro e W13 ⟨rfl, PG, QG, uu, y1, y2⟩
  have s13 := Nat.le_trans y1.2.2.2.1 y2.2.2.2.1
  have d13 := (d12.trans (below_only2 y1 (by omega) (by have := d12.size; omega))).trans (below_only2 y2 (by omega) (by have := d12.size; have := y1.2.2.2.1; omega))
  have M := (M.only y1 (by omega)).only y2 (by omega)
  have OPs := (OPs.only y1 (by omega)).only y2 (by omega)
  have OQs := (OQs.only y1 (by omega)).only y2 (by omega)
  have BS := (BS.only y1 (by omega)).only y2 (by omega)
  have BG := (BG.only y1 (by omega)).only y2 (by omega)
  clear y1 y2
  clear v0 v1 v2 v3 v4 v5
  have v0 := BG.2.1 0 _ rfl
  have v1 := BG.2.1 1 _ rfl
  have v2 := BG.2.1 2 _ rfl
  have v3 := BG.2.1 3 _ rfl
  have v4 := BG.2.1 4 _ rfl
  have v5 := BG.2.1 5 _ rfl
  go_wp2_with fail
  refine (HG.out _ _ _ _ _ PG.row QG.row).mono ?_
  rintro e W14 ⟨rfl, bb⟩
  have d14 := d13.trans (bb.mono d13.size)
  have s14 := bb.size
  have t14 := d14.size
  have M := M.below bb
  have OPs := OPs.below bb
  have OQs := OQs.below bb
  have BS := BS.below bb
  have BG := BG.below bb
  have PG := PG.below bb
  have QG := QG.below bb
  clear bb
  clear v0 v1 v2 v3 v4 v5
  have u0 := M.2.1 0 _ rfl
  have u1 := M.2.1 1 _ rfl
  have u2 := M.2.1 2 _ rfl
  have u3 := M.2.1 3 _ rfl
  have u4 := M.2.1 4 _ rfl
  have u5 := M.2.1 5 _ rfl
  go_wp2_with fail
  refine (T.out _ (R0.below d14) (R1.below d14)).mono ?_
  rintro e W15 ⟨x3, y3, rfl, lx3, ly3, OX3, OY3, bb⟩
  have hx3 := OX3.1
  have hy3 := OY3.1
  have d15 := d14.trans (bb.mono d14.size)
  have s15 := bb.size
  have t15 := d15.size
  have M := M.below bb
  have OPs := OPs.below bb
  have OQs := OQs.below bb
  have BS := BS.below bb
  have BG := BG.below bb
  have PG := PG.below bb
  have QG := QG.below bb
  clear bb
  clear u0 u1 u2 u3 u4 u5
  go_wp2_with fail
  refine (hI.out _ _ _ _ _ OX3.row OY3.row).mono ?_
  rintro e W16 ⟨ph, pch, qh, qch, rfl, lph, lqh, neh, OPh, OQh, bb⟩
  have hph := OPh.1
  have hqh := OQh.1
  have d16 := d15.trans (bb.mono d15.size)
  have s16 := bb.size
  have t16 := d16.size
  have M := M.below bb
  have OPs := OPs.below bb
  have OQs := OQs.below bb
  have BS := BS.below bb
  have BG := BG.below bb
  have PG := PG.below bb
  have QG := QG.below bb
  have OX3 := OX3.below bb
  have OY3 := OY3.below bb
  clear bb
  clear OX3 OY3
  have z0 := (BS.alloc (.cells #[.int .i64 o, .slice (some ⟨ph, 0, none⟩) N pch, .int .i64 nx, .int .i64 md, .int .i64 pf, .slice (some ⟨qh, 0, none⟩) n1 qch] 75)).2.1 0 _ rfl
  have z1 := (BS.alloc (.cells #[.int .i64 o, .slice (some ⟨ph, 0, none⟩) N pch, .int .i64 nx, .int .i64 md, .int .i64 pf, .slice (some ⟨qh, 0, none⟩) n1 qch] 75)).2.1 1 _ rfl
  have z2 := (BS.alloc (.cells #[.int .i64 o, .slice (some ⟨ph, 0, none⟩) N pch, .int .i64 nx, .int .i64 md, .int .i64 pf, .slice (some ⟨qh, 0, none⟩) n1 qch] 75)).2.1 2 _ rfl
  have z3 := (BS.alloc (.cells #[.int .i64 o, .slice (some ⟨ph, 0, none⟩) N pch, .int .i64 nx, .int .i64 md, .int .i64 pf, .slice (some ⟨qh, 0, none⟩) n1 qch] 75)).2.1 3 _ rfl
  have z4 := (BS.alloc (.cells #[.int .i64 o, .slice (some ⟨ph, 0, none⟩) N pch, .int .i64 nx, .int .i64 md, .int .i64 pf, .slice (some ⟨qh, 0, none⟩) n1 qch] 75)).2.1 4 _ rfl
  have z5 := (BS.alloc (.cells #[.int .i64 o, .slice (some ⟨ph, 0, none⟩) N pch, .int .i64 nx, .int .i64 md, .int .i64 pf, .slice (some ⟨qh, 0, none⟩) n1 qch] 75)).2.1 5 _ rfl
  go_wp2_with fail
  have bb : Below W16.heap.size W16 (W16.alloc (.cells #[.int .i64 o, .slice (some ⟨ph, 0, none⟩) N pch, .int .i64 nx, .int .i64 md, .int .i64 pf, .slice (some ⟨qh, 0, none⟩) n1 qch] 75)) := below_box (Below.refl _ _)
  have BH := Mut.new W16 #[.int .i64 o, .slice (some ⟨ph, 0, none⟩) N pch, .int .i64 nx, .int .i64 md, .int .i64 pf, .slice (some ⟨qh, 0, none⟩) n1 qch] 75
  have hbh : W16.heap.size < (W16.alloc (.cells #[.int .i64 o, .slice (some ⟨ph, 0, none⟩) N pch, .int .i64 nx, .int .i64 md, .int .i64 pf, .slice (some ⟨qh, 0, none⟩) n1 qch] 75)).heap.size := by simp
  have d17 := d16.trans (bb.mono d16.size)
  have s17 := bb.size
  have t17 := d17.size
  have M := M.below bb
  have OPs := OPs.below bb
  have OQs := OQs.below bb
  have BS := BS.below bb
  have BG := BG.below bb
  have PG := PG.below bb
  have QG := QG.below bb
  have OPh := OPh.below bb
  have OQh := OQh.below bb
  clear bb
  generalize hWW : W16.alloc (.cells #[.int .i64 o, .slice (some ⟨ph, 0, none⟩) N pch, .int .i64 nx, .int .i64 md, .int .i64 pf, .slice (some ⟨qh, 0, none⟩) n1 qch] 75) = W17 at *
  clear hWW
  refine (EA.out _ _ _ _ _ _ _ _ _ OPh.row OQh.row OPs.row OQs.row).mono ?_
  rintro e W18 ⟨rfl, bb⟩
  have d18 := d17.trans (bb.mono d17.size)
  have s18 := bb.size
  have t18 := d18.size
  have M := M.below bb
  have OPs := OPs.below bb
  have OQs := OQs.below bb
  have BS := BS.below bb
  have BG := BG.below bb
  have PG := PG.below bb
  have QG := QG.below bb
  have OPh := OPh.below bb
  have OQh := OQh.below bb
  have BH := BH.below bb
  clear bb
  clear z0 z1 z2 z3 z4 z5
  have v0 := BG.2.1 0 _ rfl
  have v1 := BG.2.1 1 _ rfl
  have v2 := BG.2.1 2 _ rfl
  have v3 := BG.2.1 3 _ rfl
  have v4 := BG.2.1 4 _ rfl
  have v5 := BG.2.1 5 _ rfl
  go_wp2_with fail
  refine (HG.out _ _ _ _ _ PG.row QG.row).mono ?_
  rintro e W19 ⟨rfl, bb⟩
  have d19 := d18.trans (bb.mono d18.size)
  have s19 := bb.size
  have t19 := d19.size
  have M := M.below bb
  have OPs := OPs.below bb
  have OQs := OQs.below bb
  have BS := BS.below bb
  have BG := BG.below bb
  have PG := PG.below bb
  have QG := QG.below bb
  have OPh := OPh.below bb
  have OQh := OQh.below bb
  have BH := BH.below bb
  clear bb
  go_wp2_with fail
  go_ret
  exact ⟨rfl, d19⟩
set_option maxRecDepth 100000 in
set_option maxHeartbeats 6400000 in
theorem w_prepend_nil (o nx md pf : Int) (a0 : Option Addr) (n0 c0 : Nat) (f : Nat → Int) (a1 : Option Addr) (n1 c1 : Nat) (g : Nat → Int) (asn many : Int) (w : World) (h0 : n0 ≤ maxLen) (h1 : n1 ≤ maxLen) (hsum : (n0 : Int) + n1 ≤ 1048576) (R0 : RowInt a0 n0 f w) (R1 : RowInt a1 n1 g w)
    (hS : Hid (∀ (x c0 y c1 : Nat) (w : World), RowInt (some ⟨x, 0, none⟩) n0 f w → RowInt (some ⟨y, 0, none⟩) n1 g w → Calls Try.prog 62 #[.agg #[.int .i64 o, .slice (some ⟨x, 0, none⟩) n0 c0, .int .i64 nx, .int .i64 md, .int .i64 pf, .slice (some ⟨y, 0, none⟩) n1 c1], .int .i64 asn, .int .i64 many] w fun e w' => e = .returned (.tuple #[.agg #[.int .i64 0, .slice none 0 0, .int .i64 0, .int .i64 0, .int .i64 0, .slice none 0 0], .bool false]) ∧ Below w.heap.size w w'))
    (hI : Hid (∀ (x c0 y c1 : Nat) (w : World), RowInt (some ⟨x, 0, none⟩) n0 f w → RowInt (some ⟨y, 0, none⟩) n1 g w → Calls Try.prog 63 #[.agg #[.int .i64 o, .slice (some ⟨x, 0, none⟩) n0 c0, .int .i64 nx, .int .i64 md, .int .i64 pf, .slice (some ⟨y, 0, none⟩) n1 c1], .int .i64 asn, .int .i64 many] w fun e w' => e = .returned (.tuple #[.agg #[.int .i64 0, .slice none 0 0, .int .i64 0, .int .i64 0, .int .i64 0, .slice none 0 0], .bool false]) ∧ Below w.heap.size w w')) :
    Calls Try.prog 8 #[.agg #[.int .i64 o, .slice a0 n0 c0, .int .i64 nx, .int .i64 md, .int .i64 pf, .slice a1 n1 c1], .int .i64 asn, .int .i64 many] w fun e w' => e = .returned (.bool true) ∧ Below w.heap.size w w' := by
  have SZ := hide (fun w => w_szAttrs o nx md pf a0 n0 c0 a1 n1 c1 1048576 w h0 h1 (by omega) (by omega))
  rw [if_pos hsum] at SZ
  have hlt : ¬ (1048576 - (n0 : Int) - n1 < 0) := by omega
  have T := hide (fun w R0 R1 => w_toAttrs o nx md pf a0 n0 c0 f a1 n1 c1 g w (by omega) (by omega) R0 R1)
  have E := hide (fun a0 b0 c0 e0 a1 b1 c1 e1 w R0 R1 Q0 Q1 => w_eqAttrs o nx md pf a0 b0 n0 c0 e0 f a1 b1 n1 c1 e1 g w (by omega) (by omega) R0 R1 Q0 Q1)
  have MX := hide (fun x c0 y c1 w hn O0 O1 => w_markAttrs o nx md pf x n0 c0 f y n1 c1 g w (by omega) (by omega) hn O0 O1)
  have kx : ¬ (1 + (n0 : Int) + (n1 : Int) < 0) := by omega
  have M := Mut.new w #[.int .i64 o, .slice a0 n0 c0, .int .i64 nx, .int .i64 md, .int .i64 pf, .slice a1 n1 c1] 72
  have d0 : Below w.heap.size w (w.alloc (.cells #[.int .i64 o, .slice a0 n0 c0, .int .i64 nx, .int .i64 md, .int .i64 pf, .slice a1 n1 c1] 72)) := below_box (Below.refl _ _)
  have hnone : ∀ (a : Option Addr) (f : Nat → Int) (w : World), RowInt a 0 f w := fun _ _ _ i hi => absurd hi (Nat.not_lt_zero _)
  have EA := hide (fun w => w_eqAttrs 0 0 0 0 none none 0 0 0 (fun _ => 0) none none 0 0 0 (fun _ => 0) w (by omega) (by omega) (hnone _ _ _) (hnone _ _ _) (hnone _ _ _) (hnone _ _ _))
  have MG := hide (fun w => w_markAttrs_nil w)
  have HG := hide (fun w => w_heldAttrs 0 0 0 0 none 0 0 none 0 0 w (by omega) (by omega) (hnone _ _ _) (hnone _ _ _))
  simp only [Int.natCast_zero, Int.add_zero] at HG
  clear hnone
  clear h0 h1 hsum
  go_enter Try.func8, Try.ntmps8
  go_wp2_with fail
  generalize hW0 : w.alloc (.cells #[.int .i64 o, .slice a0 n0 c0, .int .i64 nx, .int .i64 md, .int .i64 pf, .slice a1 n1 c1] 72) = W0 at *
  clear hW0
  refine (SZ.out _).mono ?_
  rintro e W1 ⟨rfl, bb⟩
  have d1 := d0.trans (bb.mono d0.size)
  have s1 := bb.size
  have t1 := d1.size
  have M := M.below bb
  clear bb
  have u0 := M.2.1 0 _ rfl
  have u1 := M.2.1 1 _ rfl
  have u2 := M.2.1 2 _ rfl
  have u3 := M.2.1 3 _ rfl
  have u4 := M.2.1 4 _ rfl
  have u5 := M.2.1 5 _ rfl
  go_wp2_with fail
  refine (T.out _ (R0.below d1) (R1.below d1)).mono ?_
  rintro e W2 ⟨xs, ys, rfl, lxs, lys, OXs, OYs, bb⟩
  have hxs := OXs.1
  have hys := OYs.1
  have d2 := d1.trans (bb.mono d1.size)
  have s2 := bb.size
  have t2 := d2.size
  have M := M.below bb
  clear bb
  clear u0 u1 u2 u3 u4 u5
  go_wp2_with fail
  refine (hS.out _ _ _ _ _ OXs.row OYs.row).mono ?_
  rintro e W3 ⟨rfl, bb⟩
  have d3 := d2.trans (bb.mono d2.size)
  have s3 := bb.size
  have t3 := d3.size
  have M := M.below bb
  have OXs := OXs.below bb
  have OYs := OYs.below bb
  clear bb
  clear OXs OYs
  have u0 := (M.alloc (.cells #[.int .i64 0, .slice none 0 0, .int .i64 0, .int .i64 0, .int .i64 0, .slice none 0 0] 75)).2.1 0 _ rfl
  have u1 := (M.alloc (.cells #[.int .i64 0, .slice none 0 0, .int .i64 0, .int .i64 0, .int .i64 0, .slice none 0 0] 75)).2.1 1 _ rfl
  have u2 := (M.alloc (.cells #[.int .i64 0, .slice none 0 0, .int .i64 0, .int .i64 0, .int .i64 0, .slice none 0 0] 75)).2.1 2 _ rfl
  have u3 := (M.alloc (.cells #[.int .i64 0, .slice none 0 0, .int .i64 0, .int .i64 0, .int .i64 0, .slice none 0 0] 75)).2.1 3 _ rfl
  have u4 := (M.alloc (.cells #[.int .i64 0, .slice none 0 0, .int .i64 0, .int .i64 0, .int .i64 0, .slice none 0 0] 75)).2.1 4 _ rfl
  have u5 := (M.alloc (.cells #[.int .i64 0, .slice none 0 0, .int .i64 0, .int .i64 0, .int .i64 0, .slice none 0 0] 75)).2.1 5 _ rfl
  go_wp2_with fail
  have bb : Below W3.heap.size W3 (W3.alloc (.cells #[.int .i64 0, .slice none 0 0, .int .i64 0, .int .i64 0, .int .i64 0, .slice none 0 0] 75)) := below_box (Below.refl _ _)
  have BS := Mut.new W3 #[.int .i64 0, .slice none 0 0, .int .i64 0, .int .i64 0, .int .i64 0, .slice none 0 0] 75
  have hbs : W3.heap.size < (W3.alloc (.cells #[.int .i64 0, .slice none 0 0, .int .i64 0, .int .i64 0, .int .i64 0, .slice none 0 0] 75)).heap.size := by simp
  have d4 := d3.trans (bb.mono d3.size)
  have s4 := bb.size
  have t4 := d4.size
  have M := M.below bb
  clear bb
  generalize hWW : W3.alloc (.cells #[.int .i64 0, .slice none 0 0, .int .i64 0, .int .i64 0, .int .i64 0, .slice none 0 0] 75) = W4 at *
  clear hWW
  refine (T.out _ (R0.below d4) (R1.below d4)).mono ?_
  rintro e W5 ⟨x, y, rfl, lx, ly, OX, OY, bb⟩
  have hx := OX.1
  have hy := OY.1
  have d5 := d4.trans (bb.mono d4.size)
  have s5 := bb.size
  have t5 := d5.size
  have M := M.below bb
  have BS := BS.below bb
  clear bb
  clear u0 u1 u2 u3 u4 u5
  go_wp2_with fail
  have bb : Below W5.heap.size W5 (W5.alloc (.cells #[.int .i64 o, .slice (some ⟨x, 0, none⟩) n0 n0, .int .i64 nx, .int .i64 md, .int .i64 pf, .slice (some ⟨y, 0, none⟩) n1 n1] 75)) := below_box (Below.refl _ _)
  have BX := Mut.new W5 #[.int .i64 o, .slice (some ⟨x, 0, none⟩) n0 n0, .int .i64 nx, .int .i64 md, .int .i64 pf, .slice (some ⟨y, 0, none⟩) n1 n1] 75
  have hbx : W5.heap.size < (W5.alloc (.cells #[.int .i64 o, .slice (some ⟨x, 0, none⟩) n0 n0, .int .i64 nx, .int .i64 md, .int .i64 pf, .slice (some ⟨y, 0, none⟩) n1 n1] 75)).heap.size := by simp
  have d6 := d5.trans (bb.mono d5.size)
  have s6 := bb.size
  have t6 := d6.size
  have M := M.below bb
  have BS := BS.below bb
  have OX := OX.below bb
  have OY := OY.below bb
  clear bb
  generalize hWW : W5.alloc (.cells #[.int .i64 o, .slice (some ⟨x, 0, none⟩) n0 n0, .int .i64 nx, .int .i64 md, .int .i64 pf, .slice (some ⟨y, 0, none⟩) n1 n1] 75) = W6 at *
  clear hWW
  refine (hI.out _ _ _ _ _ OX.row OY.row).mono ?_
  rintro e W7 ⟨rfl, bb⟩
  have d7 := d6.trans (bb.mono d6.size)
  have s7 := bb.size
  have t7 := d7.size
  have M := M.below bb
  have BS := BS.below bb
  have OX := OX.below bb
  have OY := OY.below bb
  have BX := BX.below bb
  clear bb
  have v0 := (BS.alloc (.cells #[.int .i64 0, .slice none 0 0, .int .i64 0, .int .i64 0, .int .i64 0, .slice none 0 0] 75)).2.1 0 _ rfl
  have v1 := (BS.alloc (.cells #[.int .i64 0, .slice none 0 0, .int .i64 0, .int .i64 0, .int .i64 0, .slice none 0 0] 75)).2.1 1 _ rfl
  have v2 := (BS.alloc (.cells #[.int .i64 0, .slice none 0 0, .int .i64 0, .int .i64 0, .int .i64 0, .slice none 0 0] 75)).2.1 2 _ rfl
  have v3 := (BS.alloc (.cells #[.int .i64 0, .slice none 0 0, .int .i64 0, .int .i64 0, .int .i64 0, .slice none 0 0] 75)).2.1 3 _ rfl
  have v4 := (BS.alloc (.cells #[.int .i64 0, .slice none 0 0, .int .i64 0, .int .i64 0, .int .i64 0, .slice none 0 0] 75)).2.1 4 _ rfl
  have v5 := (BS.alloc (.cells #[.int .i64 0, .slice none 0 0, .int .i64 0, .int .i64 0, .int .i64 0, .slice none 0 0] 75)).2.1 5 _ rfl
  go_wp2_with fail
  have bb : Below W7.heap.size W7 (W7.alloc (.cells #[.int .i64 0, .slice none 0 0, .int .i64 0, .int .i64 0, .int .i64 0, .slice none 0 0] 75)) := below_box (Below.refl _ _)
  have BG := Mut.new W7 #[.int .i64 0, .slice none 0 0, .int .i64 0, .int .i64 0, .int .i64 0, .slice none 0 0] 75
  have hbg : W7.heap.size < (W7.alloc (.cells #[.int .i64 0, .slice none 0 0, .int .i64 0, .int .i64 0, .int .i64 0, .slice none 0 0] 75)).heap.size := by simp
  have d8 := d7.trans (bb.mono d7.size)
  have s8 := bb.size
  have t8 := d8.size
  have M := M.below bb
  have BS := BS.below bb
  have OX := OX.below bb
  have OY := OY.below bb
  have BX := BX.below bb
  clear bb
  generalize hWW : W7.alloc (.cells #[.int .i64 0, .slice none 0 0, .int .i64 0, .int .i64 0, .int .i64 0, .slice none 0 0] 75) = W8 at *
  clear hWW
  refine (EA.out _).mono ?_
  rintro e W9 ⟨rfl, bb⟩
  have d9 := d8.trans (bb.mono d8.size)
  have s9 := bb.size
  have t9 := d9.size
  have M := M.below bb
  have BS := BS.below bb
  have OX := OX.below bb
  have OY := OY.below bb
  have BX := BX.below bb
  have BG := BG.below bb
  clear bb
  clear v0 v1 v2 v3 v4 v5
  go_wp2_with fail
  have dZ : Below W9.heap.size W9 W9 := Below.refl _ _
  have R09 := R0.below d9
  have R19 := R1.below d9
  have hltM := M.1
  have hltX := BX.1
  have u0 := M.2.1 0 _ rfl
  have u1 := M.2.1 1 _ rfl
  have u2 := M.2.1 2 _ rfl
  have u3 := M.2.1 3 _ rfl
  have u4 := M.2.1 4 _ rfl
  have u5 := M.2.1 5 _ rfl
  have v0 := BX.2.1 0 _ rfl
  have v1 := BX.2.1 1 _ rfl
  have v2 := BX.2.1 2 _ rfl
  have v3 := BX.2.1 3 _ rfl
  have v4 := BX.2.1 4 _ rfl
  have v5 := BX.2.1 5 _ rfl
  go_region_held3 (fun w' => w'.cell? ⟨w.heap.size, 0, none⟩ = some (.int .i64 o) ∧ w'.cell? ⟨w.heap.size, 1, none⟩ = some (.slice a0 n0 c0) ∧ w'.cell? ⟨w.heap.size, 2, none⟩ = some (.int .i64 nx) ∧ w'.cell? ⟨w.heap.size, 3, none⟩ = some (.int .i64 md) ∧ w'.cell? ⟨w.heap.size, 4, none⟩ = some (.int .i64 pf) ∧ w'.cell? ⟨w.heap.size, 5, none⟩ = some (.slice a1 n1 c1) ∧ w'.cell? ⟨W5.heap.size, 0, none⟩ = some (.int .i64 o) ∧ w'.cell? ⟨W5.heap.size, 1, none⟩ = some (.slice (some ⟨x, 0, none⟩) n0 n0) ∧ w'.cell? ⟨W5.heap.size, 2, none⟩ = some (.int .i64 nx) ∧ w'.cell? ⟨W5.heap.size, 3, none⟩ = some (.int .i64 md) ∧ w'.cell? ⟨W5.heap.size, 4, none⟩ = some (.int .i64 pf) ∧ w'.cell? ⟨W5.heap.size, 5, none⟩ = some (.slice (some ⟨y, 0, none⟩) n1 n1)) (first | go_keep | exact ⟨(dE.cell (p := ⟨w.heap.size, 0, none⟩) hltM).trans u0, (dE.cell (p := ⟨w.heap.size, 1, none⟩) hltM).trans u1, (dE.cell (p := ⟨w.heap.size, 2, none⟩) hltM).trans u2, (dE.cell (p := ⟨w.heap.size, 3, none⟩) hltM).trans u3, (dE.cell (p := ⟨w.heap.size, 4, none⟩) hltM).trans u4, (dE.cell (p := ⟨w.heap.size, 5, none⟩) hltM).trans u5, (dE.cell (p := ⟨W5.heap.size, 0, none⟩) hltX).trans v0, (dE.cell (p := ⟨W5.heap.size, 1, none⟩) hltX).trans v1, (dE.cell (p := ⟨W5.heap.size, 2, none⟩) hltX).trans v2, (dE.cell (p := ⟨W5.heap.size, 3, none⟩) hltX).trans v3, (dE.cell (p := ⟨W5.heap.size, 4, none⟩) hltX).trans v4, (dE.cell (p := ⟨W5.heap.size, 5, none⟩) hltX).trans v5⟩ | exact ⟨(dE.drew.cell (p := ⟨w.heap.size, 0, none⟩) hltM).trans u0, (dE.drew.cell (p := ⟨w.heap.size, 1, none⟩) hltM).trans u1, (dE.drew.cell (p := ⟨w.heap.size, 2, none⟩) hltM).trans u2, (dE.drew.cell (p := ⟨w.heap.size, 3, none⟩) hltM).trans u3, (dE.drew.cell (p := ⟨w.heap.size, 4, none⟩) hltM).trans u4, (dE.drew.cell (p := ⟨w.heap.size, 5, none⟩) hltM).trans u5, (dE.drew.cell (p := ⟨W5.heap.size, 0, none⟩) hltX).trans v0, (dE.drew.cell (p := ⟨W5.heap.size, 1, none⟩) hltX).trans v1, (dE.drew.cell (p := ⟨W5.heap.size, 2, none⟩) hltX).trans v2, (dE.drew.cell (p := ⟨W5.heap.size, 3, none⟩) hltX).trans v3, (dE.drew.cell (p := ⟨W5.heap.size, 4, none⟩) hltX).trans v4, (dE.drew.cell (p := ⟨W5.heap.size, 5, none⟩) hltX).trans v5⟩ | exact ⟨(dT.cell (p := ⟨w.heap.size, 0, none⟩) hltM).trans u0, (dT.cell (p := ⟨w.heap.size, 1, none⟩) hltM).trans u1, (dT.cell (p := ⟨w.heap.size, 2, none⟩) hltM).trans u2, (dT.cell (p := ⟨w.heap.size, 3, none⟩) hltM).trans u3, (dT.cell (p := ⟨w.heap.size, 4, none⟩) hltM).trans u4, (dT.cell (p := ⟨w.heap.size, 5, none⟩) hltM).trans u5, (dT.cell (p := ⟨W5.heap.size, 0, none⟩) hltX).trans v0, (dT.cell (p := ⟨W5.heap.size, 1, none⟩) hltX).trans v1, (dT.cell (p := ⟨W5.heap.size, 2, none⟩) hltX).trans v2, (dT.cell (p := ⟨W5.heap.size, 3, none⟩) hltX).trans v3, (dT.cell (p := ⟨W5.heap.size, 4, none⟩) hltX).trans v4, (dT.cell (p := ⟨W5.heap.size, 5, none⟩) hltX).trans v5⟩ | exact ⟨(dT.drew.cell (p := ⟨w.heap.size, 0, none⟩) hltM).trans u0, (dT.drew.cell (p := ⟨w.heap.size, 1, none⟩) hltM).trans u1, (dT.drew.cell (p := ⟨w.heap.size, 2, none⟩) hltM).trans u2, (dT.drew.cell (p := ⟨w.heap.size, 3, none⟩) hltM).trans u3, (dT.drew.cell (p := ⟨w.heap.size, 4, none⟩) hltM).trans u4, (dT.drew.cell (p := ⟨w.heap.size, 5, none⟩) hltM).trans u5, (dT.drew.cell (p := ⟨W5.heap.size, 0, none⟩) hltX).trans v0, (dT.drew.cell (p := ⟨W5.heap.size, 1, none⟩) hltX).trans v1, (dT.drew.cell (p := ⟨W5.heap.size, 2, none⟩) hltX).trans v2, (dT.drew.cell (p := ⟨W5.heap.size, 3, none⟩) hltX).trans v3, (dT.drew.cell (p := ⟨W5.heap.size, 4, none⟩) hltX).trans v4, (dT.drew.cell (p := ⟨W5.heap.size, 5, none⟩) hltX).trans v5⟩ | exact ⟨(dZ.cell (p := ⟨w.heap.size, 0, none⟩) hltM).trans u0, (dZ.cell (p := ⟨w.heap.size, 1, none⟩) hltM).trans u1, (dZ.cell (p := ⟨w.heap.size, 2, none⟩) hltM).trans u2, (dZ.cell (p := ⟨w.heap.size, 3, none⟩) hltM).trans u3, (dZ.cell (p := ⟨w.heap.size, 4, none⟩) hltM).trans u4, (dZ.cell (p := ⟨w.heap.size, 5, none⟩) hltM).trans u5, (dZ.cell (p := ⟨W5.heap.size, 0, none⟩) hltX).trans v0, (dZ.cell (p := ⟨W5.heap.size, 1, none⟩) hltX).trans v1, (dZ.cell (p := ⟨W5.heap.size, 2, none⟩) hltX).trans v2, (dZ.cell (p := ⟨W5.heap.size, 3, none⟩) hltX).trans v3, (dZ.cell (p := ⟨W5.heap.size, 4, none⟩) hltX).trans v4, (dZ.cell (p := ⟨W5.heap.size, 5, none⟩) hltX).trans v5⟩ | exact ⟨(dZ.drew.cell (p := ⟨w.heap.size, 0, none⟩) hltM).trans u0, (dZ.drew.cell (p := ⟨w.heap.size, 1, none⟩) hltM).trans u1, (dZ.drew.cell (p := ⟨w.heap.size, 2, none⟩) hltM).trans u2, (dZ.drew.cell (p := ⟨w.heap.size, 3, none⟩) hltM).trans u3, (dZ.drew.cell (p := ⟨w.heap.size, 4, none⟩) hltM).trans u4, (dZ.drew.cell (p := ⟨w.heap.size, 5, none⟩) hltM).trans u5, (dZ.drew.cell (p := ⟨W5.heap.size, 0, none⟩) hltX).trans v0, (dZ.drew.cell (p := ⟨W5.heap.size, 1, none⟩) hltX).trans v1, (dZ.drew.cell (p := ⟨W5.heap.size, 2, none⟩) hltX).trans v2, (dZ.drew.cell (p := ⟨W5.heap.size, 3, none⟩) hltX).trans v3, (dZ.drew.cell (p := ⟨W5.heap.size, 4, none⟩) hltX).trans v4, (dZ.drew.cell (p := ⟨W5.heap.size, 5, none⟩) hltX).trans v5⟩) ((first | (go_at_call 54; refine (T.out _ (R09.below (by first | exact dZ | exact dZ.drew)) (R19.below (by first | exact dZ | exact dZ.drew))).mono ?_; rintro e wT ⟨x2, y2, rfl, _, _, Px, Py, bT⟩; have dT : Below W9.heap.size W9 wT := (by first | exact below_step dZ bT | exact below_step dZ.drew bT)) | (go_at_call 56; refine (E.out _ _ _ _ _ _ _ _ _ (by first | exact (OX.below dT).row | exact (OX.below dT.drew).row) (by first | exact (OY.below dT).row | exact (OY.below dT.drew).row) (by first | exact Px.row | exact (Px.below (Below.refl _ _).drew).row) (by first | exact Py.row | exact (Py.below (Below.refl _ _).drew).row)).mono ?_; rintro e W10 ⟨rfl, bE⟩; have dE : Below W9.heap.size W9 W10 := (by first | exact below_step dT bE | exact below_step dT.drew bE))))
  clear u0 u1 u2 u3 u4 u5
  clear v0 v1 v2 v3 v4 v5
  clear dZ R09 R19 hltM hltX dT bT Px Py bE
  have d10 := d9.trans (dE.mono d9.size)
  have s10 := dE.size
  have t10 := d10.size
  have M := M.below dE
  have BS := BS.below dE
  have OX := OX.below dE
  have OY := OY.below dE
  have BX := BX.below dE
  have BG := BG.below dE
  clear dE
  have v0 := BX.2.1 0 _ rfl
  have v1 := BX.2.1 1 _ rfl
  have v2 := BX.2.1 2 _ rfl
  have v3 := BX.2.1 3 _ rfl
  have v4 := BX.2.1 4 _ rfl
  have v5 := BX.2.1 5 _ rfl
  go_wp2_with fail
  clear v0 v1 v2 v3 v4 v5
  refine (MX.out _ _ _ _ _ (by omega) OX OY).mono ?_
  rintro e W11 ⟨rfl, PX, PY, uu, y1, y2⟩
  have s11 := Nat.le_trans y1.2.2.2.1 y2.2.2.2.1
  have d11 := (d10.trans (below_only2 y1 (by omega) (by have := d10.size; omega))).trans (below_only2 y2 (by omega) (by have := d10.size; have := y1.2.2.2.1; omega))
  have M := (M.only y1 (by omega)).only y2 (by omega)
  have BS := (BS.only y1 (by omega)).only y2 (by omega)
  have BX := (BX.only y1 (by omega)).only y2 (by omega)
  have BG := (BG.only y1 (by omega)).only y2 (by omega)
  clear y1 y2
  clear PX PY
  have v0 := BG.2.1 0 _ rfl
  have v1 := BG.2.1 1 _ rfl
  have v2 := BG.2.1 2 _ rfl
  have v3 := BG.2.1 3 _ rfl
  have v4 := BG.2.1 4 _ rfl
  have v5 := BG.2.1 5 _ rfl
  have z0 := BS.2.1 0 _ rfl
  have z1 := BS.2.1 1 _ rfl
  have z2 := BS.2.1 2 _ rfl
  have z3 := BS.2.1 3 _ rfl
  have z4 := BS.2.1 4 _ rfl
  have z5 := BS.2.1 5 _ rfl
  go_wp2_with fail
  refine (EA.out _).mono ?_
  rintro e W12 ⟨rfl, bb⟩
  have d12 := d11.trans (bb.mono d11.size)
  have s12 := bb.size
  have t12 := d12.size
  have M := M.below bb
  have BS := BS.below bb
  have BG := BG.below bb
  clear bb
  clear v0 v1 v2 v3 v4 v5
  clear z0 z1 z2 z3 z4 z5
  have v0 := BG.2.1 0 _ rfl
  have v1 := BG.2.1 1 _ rfl
  have v2 := BG.2.1 2 _ rfl
  have v3 := BG.2.1 3 _ rfl
  have v4 := BG.2.1 4 _ rfl
  have v5 := BG.2.1 5 _ rfl
  go_wp2_with fail
  refine (MG.out _).mono ?_
  rintro e W13 ⟨rfl, bb⟩
  have d13 := d12.trans (bb.mono d12.size)
  have s13 := bb.size
  have t13 := d13.size
  have M := M.below bb
  have BS := BS.below bb
  have BG := BG.below bb
  clear bb
  clear v0 v1 v2 v3 v4 v5
  have v0 := BG.2.1 0 _ rfl
  have v1 := BG.2.1 1 _ rfl
  have v2 := BG.2.1 2 _ rfl
  have v3 := BG.2.1 3 _ rfl
  have v4 := BG.2.1 4 _ rfl
  have v5 := BG.2.1 5 _ rfl
  go_wp2_with fail
  refine (HG.out _).mono ?_
  rintro e W14 ⟨rfl, bb⟩
  have d14 := d13.trans (bb.mono d13.size)
  have s14 := bb.size
  have t14 := d14.size
  have M := M.below bb
  have BS := BS.below bb
  have BG := BG.below bb
  clear bb
  clear v0 v1 v2 v3 v4 v5
  have u0 := M.2.1 0 _ rfl
  have u1 := M.2.1 1 _ rfl
  have u2 := M.2.1 2 _ rfl
  have u3 := M.2.1 3 _ rfl
  have u4 := M.2.1 4 _ rfl
  have u5 := M.2.1 5 _ rfl
  go_wp2_with fail
  refine (T.out _ (R0.below d14) (R1.below d14)).mono ?_
  rintro e W15 ⟨x3, y3, rfl, lx3, ly3, OX3, OY3, bb⟩
  have hx3 := OX3.1
  have hy3 := OY3.1
  have d15 := d14.trans (bb.mono d14.size)
  have s15 := bb.size
  have t15 := d15.size
  have M := M.below bb
  have BS := BS.below bb
  have BG := BG.below bb
  clear bb
  clear u0 u1 u2 u3 u4 u5
  go_wp2_with fail
  refine (hI.out _ _ _ _ _ OX3.row OY3.row).mono ?_
  rintro e W16 ⟨rfl, bb⟩
  have d16 := d15.trans (bb.mono d15.size)
  have s16 := bb.size
  have t16 := d16.size
  have M := M.below bb
  have BS := BS.below bb
  have BG := BG.below bb
  have OX3 := OX3.below bb
  have OY3 := OY3.below bb
  clear bb
  clear OX3 OY3
  have z0 := (BS.alloc (.cells #[.int .i64 0, .slice none 0 0, .int .i64 0, .int .i64 0, .int .i64 0, .slice none 0 0] 75)).2.1 0 _ rfl
  have z1 := (BS.alloc (.cells #[.int .i64 0, .slice none 0 0, .int .i64 0, .int .i64 0, .int .i64 0, .slice none 0 0] 75)).2.1 1 _ rfl
  have z2 := (BS.alloc (.cells #[.int .i64 0, .slice none 0 0, .int .i64 0, .int .i64 0, .int .i64 0, .slice none 0 0] 75)).2.1 2 _ rfl
  have z3 := (BS.alloc (.cells #[.int .i64 0, .slice none 0 0, .int .i64 0, .int .i64 0, .int .i64 0, .slice none 0 0] 75)).2.1 3 _ rfl
  have z4 := (BS.alloc (.cells #[.int .i64 0, .slice none 0 0, .int .i64 0, .int .i64 0, .int .i64 0, .slice none 0 0] 75)).2.1 4 _ rfl
  have z5 := (BS.alloc (.cells #[.int .i64 0, .slice none 0 0, .int .i64 0, .int .i64 0, .int .i64 0, .slice none 0 0] 75)).2.1 5 _ rfl
  go_wp2_with fail
  have bb : Below W16.heap.size W16 (W16.alloc (.cells #[.int .i64 0, .slice none 0 0, .int .i64 0, .int .i64 0, .int .i64 0, .slice none 0 0] 75)) := below_box (Below.refl _ _)
  have BH := Mut.new W16 #[.int .i64 0, .slice none 0 0, .int .i64 0, .int .i64 0, .int .i64 0, .slice none 0 0] 75
  have hbh : W16.heap.size < (W16.alloc (.cells #[.int .i64 0, .slice none 0 0, .int .i64 0, .int .i64 0, .int .i64 0, .slice none 0 0] 75)).heap.size := by simp
  have d17 := d16.trans (bb.mono d16.size)
  have s17 := bb.size
  have t17 := d17.size
  have M := M.below bb
  have BS := BS.below bb
  have BG := BG.below bb
  clear bb
  generalize hWW : W16.alloc (.cells #[.int .i64 0, .slice none 0 0, .int .i64 0, .int .i64 0, .int .i64 0, .slice none 0 0] 75) = W17 at *
  clear hWW
  refine (EA.out _).mono ?_
  rintro e W18 ⟨rfl, bb⟩
  have d18 := d17.trans (bb.mono d17.size)
  have s18 := bb.size
  have t18 := d18.size
  have M := M.below bb
  have BS := BS.below bb
  have BG := BG.below bb
  have BH := BH.below bb
  clear bb
  clear z0 z1 z2 z3 z4 z5
  have v0 := BG.2.1 0 _ rfl
  have v1 := BG.2.1 1 _ rfl
  have v2 := BG.2.1 2 _ rfl
  have v3 := BG.2.1 3 _ rfl
  have v4 := BG.2.1 4 _ rfl
  have v5 := BG.2.1 5 _ rfl
  go_wp2_with fail
  refine (HG.out _).mono ?_
  rintro e W19 ⟨rfl, bb⟩
  have d19 := d18.trans (bb.mono d18.size)
  have s19 := bb.size
  have t19 := d19.size
  have M := M.below bb
  have BS := BS.below bb
  have BG := BG.below bb
  have BH := BH.below bb
  clear bb
  go_wp2_with fail
  go_ret
  exact ⟨rfl, d19⟩
set_option maxRecDepth 100000 in
set_option maxHeartbeats 800000 in
theorem w_prepend_over (o nx md pf : Int) (a0 : Option Addr) (n0 c0 : Nat) (a1 : Option Addr) (n1 c1 : Nat) (asn many : Int) (w : World) (h0 : n0 ≤ maxLen) (h1 : n1 ≤ maxLen) (hsum : ¬ (n0 : Int) + n1 ≤ 1048576) :
    Calls Try.prog 8 #[.agg #[.int .i64 o, .slice a0 n0 c0, .int .i64 nx, .int .i64 md, .int .i64 pf, .slice a1 n1 c1], .int .i64 asn, .int .i64 many] w fun e w' => e = .returned (.bool true) ∧ Below w.heap.size w w' := by
  have SZ := hide (fun w => w_szAttrs o nx md pf a0 n0 c0 a1 n1 c1 1048576 w h0 h1 (by omega) (by omega))
  rw [if_neg hsum] at SZ
  have d0 : Below w.heap.size w (w.alloc (.cells #[.int .i64 o, .slice a0 n0 c0, .int .i64 nx, .int .i64 md, .int .i64 pf, .slice a1 n1 c1] 72)) := below_box (Below.refl _ _)
  clear h0 h1 hsum
  go_enter Try.func8, Try.ntmps8
  go_wp2_with fail
  refine (SZ.out _).mono ?_
  rintro e w2 ⟨rfl, b2⟩
  go_wp2_with fail
  go_ret
  exact ⟨rfl, d0.trans (b2.mono d0.size)⟩
theorem w_prepend (o nx md pf : Int) (a0 : Option Addr) (n0 c0 : Nat) (f : Nat → Int) (a1 : Option Addr) (n1 c1 : Nat) (g : Nat → Int) (asn many : Int) (w : World) (h0 : n0 ≤ maxLen) (R0 : RowInt a0 n0 f w) (h1 : n1 ≤ maxLen) (R1 : RowInt a1 n1 g w) :
    Calls Try.prog 8 #[.agg #[.int .i64 o, .slice a0 n0 c0, .int .i64 nx, .int .i64 md, .int .i64 pf, .slice a1 n1 c1], .int .i64 asn, .int .i64 many] w fun e w' => e = .returned (.bool true) ∧ Below w.heap.size w w' := by
  by_cases hsum : (n0 : Int) + n1 ≤ 1048576
  · cases hb : preB o nx md pf n0 f n1 g asn many with
    | true =>
      have hb2 := hb
      unfold preB at hb2
      simp only [Bool.and_eq_true, decide_eq_true_eq] at hb2
      obtain ⟨⟨ha, hs⟩, hm1, hm2⟩ := hb2
      obtain ⟨m, rfl⟩ := Int.eq_ofNat_of_zero_le (show 0 ≤ many by omega)
      refine w_prepend_full o nx md pf a0 n0 c0 f a1 n1 c1 g asn m (m + n0) (fun i => (lon asn m n0 f).getD i 0) w h0 h1 hsum (by omega) R0 R1 (fun x c0 y c1 w R0 R1 => ?_) (fun x c0 y c1 w R0 R1 => ?_)
      · exact s_prepend_go true o nx md pf x n0 c0 f y n1 c1 g asn m w (by omega) (by omega) R0 R1 ha hs (by omega) (by omega) (decide_eq_true (by omega))
      · exact i_prepend_yes o nx md pf x n0 c0 f y n1 c1 g asn m w (by omega) (by omega) R0 R1 ha hs (by omega) (by omega)
    | false =>
      refine w_prepend_nil o nx md pf a0 n0 c0 f a1 n1 c1 g asn many w h0 h1 hsum R0 R1 (fun x c0 y c1 w R0 R1 => ?_) (fun x c0 y c1 w R0 R1 => ?_)
      · by_cases hin : attrB o nx md pf n0 f n1 g = false ∨ inB asn 1 65535 = false ∨ inB many 1 10 = false
        · exact s_prepend_no1 o nx md pf x n0 c0 f y n1 c1 g asn many w (by omega) (by omega) R0 R1 hin
        · have ha : attrB o nx md pf n0 f n1 g = true := by
            cases h : attrB o nx md pf n0 f n1 g with
            | true => rfl
            | false => exact absurd (.inl h) hin
          have hs : inB asn 1 65535 = true := by
            cases h : inB asn 1 65535 with
            | true => rfl
            | false => exact absurd (.inr (.inl h)) hin
          have hm : inB many 1 10 = true := by
            cases h : inB many 1 10 with
            | true => rfl
            | false => exact absurd (.inr (.inr h)) hin
          obtain ⟨hm1, hm2⟩ := inB_iff.1 hm
          obtain ⟨m, rfl⟩ := Int.eq_ofNat_of_zero_le (show 0 ≤ many by omega)
          have hlen : ¬ (m + n0 ≤ 10) := by
            intro h
            unfold preB at hb
            rw [ha, hs, decide_eq_true (show (1 : Int) ≤ (m : Int) ∧ (m : Int) + (n0 : Int) ≤ 10 by omega)] at hb
            exact absurd hb (by decide)
          exact s_prepend_go false o nx md pf x n0 c0 f y n1 c1 g asn m w (by omega) (by omega) R0 R1 ha hs (by omega) (by omega) (decide_eq_false hlen)
      · exact i_prepend_no o nx md pf x n0 c0 f y n1 c1 g asn many w (by omega) (by omega) R0 R1 hb
  · exact w_prepend_over o nx md pf a0 n0 c0 a1 n1 c1 asn many w h0 h1 hsum
end Go.Proofs.Ytofalilkephkpaa
