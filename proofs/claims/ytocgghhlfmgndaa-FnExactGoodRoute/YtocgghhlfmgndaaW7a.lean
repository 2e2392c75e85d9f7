/- The law on GoodRoute: the program answers as the specification. -/
import Derived.Test.YtocgghhlfmgndaaSI7
import Derived.Test.YtocgghhlfmgndaaFlatRoute
import Derived.Deep.RegionHeld3
namespace Go.Proofs.Ytocgghhlfmgndaa
open Go.RowKit

set_option maxRecDepth 100000 in
set_option maxHeartbeats 6400000 in
theorem w_goodRoute (pa pl o nx md pf : Int) (a0 : Option Addr) (n0 c0 : Nat) (f : Nat → Int) (a1 : Option Addr) (n1 c1 : Nat) (g : Nat → Int) (w : World) (h0 : n0 ≤ maxLen) (R0 : RowInt a0 n0 f w) (h1 : n1 ≤ maxLen) (R1 : RowInt a1 n1 g w) :
    Calls Try.prog 3 #[.agg #[.int .i64 pa, .int .i64 pl, .int .i64 o, .slice a0 n0 c0, .int .i64 nx, .int .i64 md, .int .i64 pf, .slice a1 n1 c1]] w fun e w' => e = .returned (.bool true) ∧ Below w.heap.size w w' := by
  have SZ := hide (fun w => w_szRoute pa pl o nx md pf a0 n0 c0 a1 n1 c1 1048576 w h0 h1 (by omega) (by omega))
  have M := Mut.new w #[.int .i64 pa, .int .i64 pl, .int .i64 o, .slice a0 n0 c0, .int .i64 nx, .int .i64 md, .int .i64 pf, .slice a1 n1 c1] 28
  have d0 : Below w.heap.size w (w.alloc (.cells #[.int .i64 pa, .int .i64 pl, .int .i64 o, .slice a0 n0 c0, .int .i64 nx, .int .i64 md, .int .i64 pf, .slice a1 n1 c1] 28)) := below_box (Below.refl _ _)
  by_cases hs : (n0 : Int) + n1 ≤ 1048576
  · rw [if_pos hs] at SZ
    have hlt : ¬ (1048576 - (n0 : Int) - n1 < 0) := by omega
    have T := hide (fun w R0 R1 => w_toRoute pa pl o nx md pf a0 n0 c0 f a1 n1 c1 g w (by omega) (by omega) R0 R1)
    have SG := hide (fun a0 c0 a1 c1 w R0 R1 => s_goodRoute pa pl o nx md pf a0 n0 c0 f a1 n1 c1 g w (by omega) (by omega) R0 R1)
    have IG := hide (fun a0 c0 a1 c1 w R0 R1 => i_goodRoute pa pl o nx md pf a0 n0 c0 f a1 n1 c1 g w (by omega) (by omega) R0 R1)
    have E := hide (fun a0 b0 c0 e0 a1 b1 c1 e1 w R0 R1 Q0 Q1 => w_eqRoute pa pl o nx md pf a0 b0 n0 c0 e0 f a1 b1 n1 c1 e1 g w (by omega) (by omega) R0 R1 Q0 Q1)
    generalize routeB pa pl o nx md pf n0 f n1 g = r at SG IG
    have k0 : (r != r) = false := by simp
    clear h0 h1 hs
    go_enter Try.func3, Try.ntmps3
    go_wp2_with fail
    generalize w.alloc (.cells #[.int .i64 pa, .int .i64 pl, .int .i64 o, .slice a0 n0 c0, .int .i64 nx, .int .i64 md, .int .i64 pf, .slice a1 n1 c1] 28) = w1 at *
    refine (SZ.out _).mono ?_
    rintro e w2 ⟨rfl, b2⟩
    have d2 := d0.trans (b2.mono d0.size)
    have M := M.below b2
    clear b2 d0
    have u0 := M.2.1 0 _ rfl
    have u1 := M.2.1 1 _ rfl
    have u2 := M.2.1 2 _ rfl
    have u3 := M.2.1 3 _ rfl
    have u4 := M.2.1 4 _ rfl
    have u5 := M.2.1 5 _ rfl
    have u6 := M.2.1 6 _ rfl
    have u7 := M.2.1 7 _ rfl
    go_wp2_with fail
    refine (T.out _ (R0.below d2) (R1.below d2)).mono ?_
    rintro e w3 ⟨xs, ys, rfl, hx, hy, Ox, Oy, b3⟩
    have d3 := d2.trans (b3.mono d2.size)
    have M := M.below b3
    clear b3 d2 u0 u1 u2 u3 u4 u5 u6 u7
    go_wp2_with fail
    refine (SG.out _ _ _ _ _ Ox.row Oy.row).mono ?_
    rintro e w4 ⟨rfl, b4⟩
    have d4 := d3.trans (b4.mono d3.size)
    have M := M.below b4
    clear b4 d3 Ox Oy hx hy
    have u0 := M.2.1 0 _ rfl
    have u1 := M.2.1 1 _ rfl
    have u2 := M.2.1 2 _ rfl
    have u3 := M.2.1 3 _ rfl
    have u4 := M.2.1 4 _ rfl
    have u5 := M.2.1 5 _ rfl
    have u6 := M.2.1 6 _ rfl
    have u7 := M.2.1 7 _ rfl
    go_wp2_with fail
    refine (T.out _ (R0.below d4) (R1.below d4)).mono ?_
    rintro e w5 ⟨x, y, rfl, hx, hy, Ox, Oy, b5⟩
    have d5 := d4.trans (b5.mono d4.size)
    have M := M.below b5
    clear b5 d4 u0 u1 u2 u3 u4 u5 u6 u7
    go_wp2_with fail
    have bB : Below w5.heap.size w5 (w5.alloc (.cells #[.int .i64 pa, .int .i64 pl, .int .i64 o, .slice (some ⟨x, 0, none⟩) n0 n0, .int .i64 nx, .int .i64 md, .int .i64 pf, .slice (some ⟨y, 0, none⟩) n1 n1] 34)) := below_box (Below.refl _ _)
    have N := Mut.new w5 #[.int .i64 pa, .int .i64 pl, .int .i64 o, .slice (some ⟨x, 0, none⟩) n0 n0, .int .i64 nx, .int .i64 md, .int .i64 pf, .slice (some ⟨y, 0, none⟩) n1 n1] 34
    have d6 := d5.trans (bB.mono d5.size)
    have M := M.below bB
    have Ox := Ox.below bB
    have Oy := Oy.below bB
    clear bB d5
    generalize w5.alloc (.cells #[.int .i64 pa, .int .i64 pl, .int .i64 o, .slice (some ⟨x, 0, none⟩) n0 n0, .int .i64 nx, .int .i64 md, .int .i64 pf, .slice (some ⟨y, 0, none⟩) n1 n1] 34) = w6 at *
    generalize w5.heap.size = bx at *
    refine (IG.out _ _ _ _ _ Ox.row Oy.row).mono ?_
    rintro e w7 ⟨rfl, b7⟩
    have d7 := d6.trans (b7.mono d6.size)
    have M := M.below b7
    have N := N.below b7
    have Ox := Ox.below b7
    have Oy := Oy.below b7
    clear b7 d6
    go_wp2_with fail
    have dZ : Below w7.heap.size w7 w7 := Below.refl _ _
    have R0 := R0.below d7
    have R1 := R1.below d7
    have hltM := M.1
    have hltN := N.1
    have u0 := M.2.1 0 _ rfl
    have u1 := M.2.1 1 _ rfl
    have u2 := M.2.1 2 _ rfl
    have u3 := M.2.1 3 _ rfl
    have u4 := M.2.1 4 _ rfl
    have u5 := M.2.1 5 _ rfl
    have u6 := M.2.1 6 _ rfl
    have u7 := M.2.1 7 _ rfl
    have v0 := N.2.1 0 _ rfl
    have v1 := N.2.1 1 _ rfl
    have v2 := N.2.1 2 _ rfl
    have v3 := N.2.1 3 _ rfl
    have v4 := N.2.1 4 _ rfl
    have v5 := N.2.1 5 _ rfl
    have v6 := N.2.1 6 _ rfl
    have v7 := N.2.1 7 _ rfl
    go_region_held3 (fun w' => w'.cell? ⟨w.heap.size, 0, none⟩ = some (.int .i64 pa) ∧ w'.cell? ⟨w.heap.size, 1, none⟩ = some (.int .i64 pl) ∧ w'.cell? ⟨w.heap.size, 2, none⟩ = some (.int .i64 o) ∧ w'.cell? ⟨w.heap.size, 3, none⟩ = some (.slice a0 n0 c0) ∧ w'.cell? ⟨w.heap.size, 4, none⟩ = some (.int .i64 nx) ∧ w'.cell? ⟨w.heap.size, 5, none⟩ = some (.int .i64 md) ∧ w'.cell? ⟨w.heap.size, 6, none⟩ = some (.int .i64 pf) ∧ w'.cell? ⟨w.heap.size, 7, none⟩ = some (.slice a1 n1 c1) ∧ w'.cell? ⟨bx, 0, none⟩ = some (.int .i64 pa) ∧ w'.cell? ⟨bx, 1, none⟩ = some (.int .i64 pl) ∧ w'.cell? ⟨bx, 2, none⟩ = some (.int .i64 o) ∧ w'.cell? ⟨bx, 3, none⟩ = some (.slice (some ⟨x, 0, none⟩) n0 n0) ∧ w'.cell? ⟨bx, 4, none⟩ = some (.int .i64 nx) ∧ w'.cell? ⟨bx, 5, none⟩ = some (.int .i64 md) ∧ w'.cell? ⟨bx, 6, none⟩ = some (.int .i64 pf) ∧ w'.cell? ⟨bx, 7, none⟩ = some (.slice (some ⟨y, 0, none⟩) n1 n1)) (first | go_keep | exact ⟨(dE.cell (p := ⟨w.heap.size, 0, none⟩) hltM).trans u0, (dE.cell (p := ⟨w.heap.size, 1, none⟩) hltM).trans u1, (dE.cell (p := ⟨w.heap.size, 2, none⟩) hltM).trans u2, (dE.cell (p := ⟨w.heap.size, 3, none⟩) hltM).trans u3, (dE.cell (p := ⟨w.heap.size, 4, none⟩) hltM).trans u4, (dE.cell (p := ⟨w.heap.size, 5, none⟩) hltM).trans u5, (dE.cell (p := ⟨w.heap.size, 6, none⟩) hltM).trans u6, (dE.cell (p := ⟨w.heap.size, 7, none⟩) hltM).trans u7, (dE.cell (p := ⟨bx, 0, none⟩) hltN).trans v0, (dE.cell (p := ⟨bx, 1, none⟩) hltN).trans v1, (dE.cell (p := ⟨bx, 2, none⟩) hltN).trans v2, (dE.cell (p := ⟨bx, 3, none⟩) hltN).trans v3, (dE.cell (p := ⟨bx, 4, none⟩) hltN).trans v4, (dE.cell (p := ⟨bx, 5, none⟩) hltN).trans v5, (dE.cell (p := ⟨bx, 6, none⟩) hltN).trans v6, (dE.cell (p := ⟨bx, 7, none⟩) hltN).trans v7⟩ | exact ⟨(dE.drew.cell (p := ⟨w.heap.size, 0, none⟩) hltM).trans u0, (dE.drew.cell (p := ⟨w.heap.size, 1, none⟩) hltM).trans u1, (dE.drew.cell (p := ⟨w.heap.size, 2, none⟩) hltM).trans u2, (dE.drew.cell (p := ⟨w.heap.size, 3, none⟩) hltM).trans u3, (dE.drew.cell (p := ⟨w.heap.size, 4, none⟩) hltM).trans u4, (dE.drew.cell (p := ⟨w.heap.size, 5, none⟩) hltM).trans u5, (dE.drew.cell (p := ⟨w.heap.size, 6, none⟩) hltM).trans u6, (dE.drew.cell (p := ⟨w.heap.size, 7, none⟩) hltM).trans u7, (dE.drew.cell (p := ⟨bx, 0, none⟩) hltN).trans v0, (dE.drew.cell (p := ⟨bx, 1, none⟩) hltN).trans v1, (dE.drew.cell (p := ⟨bx, 2, none⟩) hltN).trans v2, (dE.drew.cell (p := ⟨bx, 3, none⟩) hltN).trans v3, (dE.drew.cell (p := ⟨bx, 4, none⟩) hltN).trans v4, (dE.drew.cell (p := ⟨bx, 5, none⟩) hltN).trans v5, (dE.drew.cell (p := ⟨bx, 6, none⟩) hltN).trans v6, (dE.drew.cell (p := ⟨bx, 7, none⟩) hltN).trans v7⟩ | exact ⟨(dT.cell (p := ⟨w.heap.size, 0, none⟩) hltM).trans u0, (dT.cell (p := ⟨w.heap.size, 1, none⟩) hltM).trans u1, (dT.cell (p := ⟨w.heap.size, 2, none⟩) hltM).trans u2, (dT.cell (p := ⟨w.heap.size, 3, none⟩) hltM).trans u3, (dT.cell (p := ⟨w.heap.size, 4, none⟩) hltM).trans u4, (dT.cell (p := ⟨w.heap.size, 5, none⟩) hltM).trans u5, (dT.cell (p := ⟨w.heap.size, 6, none⟩) hltM).trans u6, (dT.cell (p := ⟨w.heap.size, 7, none⟩) hltM).trans u7, (dT.cell (p := ⟨bx, 0, none⟩) hltN).trans v0, (dT.cell (p := ⟨bx, 1, none⟩) hltN).trans v1, (dT.cell (p := ⟨bx, 2, none⟩) hltN).trans v2, (dT.cell (p := ⟨bx, 3, none⟩) hltN).trans v3, (dT.cell (p := ⟨bx, 4, none⟩) hltN).trans v4, (dT.cell (p := ⟨bx, 5, none⟩) hltN).trans v5, (dT.cell (p := ⟨bx, 6, none⟩) hltN).trans v6, (dT.cell (p := ⟨bx, 7, none⟩) hltN).trans v7⟩ | exact ⟨(dT.drew.cell (p := ⟨w.heap.size, 0, none⟩) hltM).trans u0, (dT.drew.cell (p := ⟨w.heap.size, 1, none⟩) hltM).trans u1, (dT.drew.cell (p := ⟨w.heap.size, 2, none⟩) hltM).trans u2, (dT.drew.cell (p := ⟨w.heap.size, 3, none⟩) hltM).trans u3, (dT.drew.cell (p := ⟨w.heap.size, 4, none⟩) hltM).trans u4, (dT.drew.cell (p := ⟨w.heap.size, 5, none⟩) hltM).trans u5, (dT.drew.cell (p := ⟨w.heap.size, 6, none⟩) hltM).trans u6, (dT.drew.cell (p := ⟨w.heap.size, 7, none⟩) hltM).trans u7, (dT.drew.cell (p := ⟨bx, 0, none⟩) hltN).trans v0, (dT.drew.cell (p := ⟨bx, 1, none⟩) hltN).trans v1, (dT.drew.cell (p := ⟨bx, 2, none⟩) hltN).trans v2, (dT.drew.cell (p := ⟨bx, 3, none⟩) hltN).trans v3, (dT.drew.cell (p := ⟨bx, 4, none⟩) hltN).trans v4, (dT.drew.cell (p := ⟨bx, 5, none⟩) hltN).trans v5, (dT.drew.cell (p := ⟨bx, 6, none⟩) hltN).trans v6, (dT.drew.cell (p := ⟨bx, 7, none⟩) hltN).trans v7⟩ | exact ⟨(dZ.cell (p := ⟨w.heap.size, 0, none⟩) hltM).trans u0, (dZ.cell (p := ⟨w.heap.size, 1, none⟩) hltM).trans u1, (dZ.cell (p := ⟨w.heap.size, 2, none⟩) hltM).trans u2, (dZ.cell (p := ⟨w.heap.size, 3, none⟩) hltM).trans u3, (dZ.cell (p := ⟨w.heap.size, 4, none⟩) hltM).trans u4, (dZ.cell (p := ⟨w.heap.size, 5, none⟩) hltM).trans u5, (dZ.cell (p := ⟨w.heap.size, 6, none⟩) hltM).trans u6, (dZ.cell (p := ⟨w.heap.size, 7, none⟩) hltM).trans u7, (dZ.cell (p := ⟨bx, 0, none⟩) hltN).trans v0, (dZ.cell (p := ⟨bx, 1, none⟩) hltN).trans v1, (dZ.cell (p := ⟨bx, 2, none⟩) hltN).trans v2, (dZ.cell (p := ⟨bx, 3, none⟩) hltN).trans v3, (dZ.cell (p := ⟨bx, 4, none⟩) hltN).trans v4, (dZ.cell (p := ⟨bx, 5, none⟩) hltN).trans v5, (dZ.cell (p := ⟨bx, 6, none⟩) hltN).trans v6, (dZ.cell (p := ⟨bx, 7, none⟩) hltN).trans v7⟩ | exact ⟨(dZ.drew.cell (p := ⟨w.heap.size, 0, none⟩) hltM).trans u0, (dZ.drew.cell (p := ⟨w.heap.size, 1, none⟩) hltM).trans u1, (dZ.drew.cell (p := ⟨w.heap.size, 2, none⟩) hltM).trans u2, (dZ.drew.cell (p := ⟨w.heap.size, 3, none⟩) hltM).trans u3, (dZ.drew.cell (p := ⟨w.heap.size, 4, none⟩) hltM).trans u4, (dZ.drew.cell (p := ⟨w.heap.size, 5, none⟩) hltM).trans u5, (dZ.drew.cell (p := ⟨w.heap.size, 6, none⟩) hltM).trans u6, (dZ.drew.cell (p := ⟨w.heap.size, 7, none⟩) hltM).trans u7, (dZ.drew.cell (p := ⟨bx, 0, none⟩) hltN).trans v0, (dZ.drew.cell (p := ⟨bx, 1, none⟩) hltN).trans v1, (dZ.drew.cell (p := ⟨bx, 2, none⟩) hltN).trans v2, (dZ.drew.cell (p := ⟨bx, 3, none⟩) hltN).trans v3, (dZ.drew.cell (p := ⟨bx, 4, none⟩) hltN).trans v4, (dZ.drew.cell (p := ⟨bx, 5, none⟩) hltN).trans v5, (dZ.drew.cell (p := ⟨bx, 6, none⟩) hltN).trans v6, (dZ.drew.cell (p := ⟨bx, 7, none⟩) hltN).trans v7⟩) ((first | (go_at_call 12; refine (T.out _ (R0.below (by first | exact dZ | exact dZ.drew)) (R1.below (by first | exact dZ | exact dZ.drew))).mono ?_; rintro e wT ⟨x2, y2, rfl, _, _, Px, Py, bT⟩; have dT : Below w7.heap.size w7 wT := (by first | exact below_step dZ bT | exact below_step dZ.drew bT)) | (go_at_call 14; refine (E.out _ _ _ _ _ _ _ _ _ (by first | exact (Ox.below dT).row | exact (Ox.below dT.drew).row) (by first | exact (Oy.below dT).row | exact (Oy.below dT.drew).row) (by first | exact Px.row | exact (Px.below (Below.refl _ _).drew).row) (by first | exact Py.row | exact (Py.below (Below.refl _ _).drew).row)).mono ?_; rintro e wE ⟨rfl, bE⟩; have dE : Below w7.heap.size w7 wE := (by first | exact below_step dT bE | exact below_step dT.drew bE))))
    all_goals
      have d8 := d7.trans (dE.mono d7.size)
      go_wp2_with fail
      go_ret
      exact ⟨rfl, d8⟩
  · rw [if_neg hs] at SZ
    clear hs h0 h1
    go_enter Try.func3, Try.ntmps3
    go_wp2_with fail
    refine (SZ.out _).mono ?_
    rintro e w2 ⟨rfl, b2⟩
    go_wp2_with fail
    go_ret
    exact ⟨rfl, d0.trans (b2.mono d0.size)⟩
end Go.Proofs.Ytocgghhlfmgndaa
