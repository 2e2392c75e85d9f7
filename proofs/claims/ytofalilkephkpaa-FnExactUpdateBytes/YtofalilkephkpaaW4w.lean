/- The law on UpdateBytes: the program answers as the specification. -/
import Derived.Test.YtofalilkephkpaaS4x
import Derived.Test.YtofalilkephkpaaI4x
import Derived.Test.YtofalilkephkpaaFlatUpdate
import Derived.Deep.RegionHeld3
namespace Go.Proofs.Ytofalilkephkpaa
open Go.RowKit

set_option maxRecDepth 100000 in
set_option maxHeartbeats 6400000 in
theorem w_updateBytes (ga : Option Addr) (gn gc : Nat) (f0 f1 : Nat → Int) (o nx md pf : Int) (a0 : Option Addr) (n0 c0 : Nat) (f : Nat → Int) (a1 : Option Addr) (n1 c1 : Nat) (g : Nat → Int) (ca : Option Addr) (cn cc : Nat) (h0 h1 : Nat → Int) (w : World) (lg : gn ≤ maxLen) (RG : RowPrefix ga gn f0 f1 w) (l0 : n0 ≤ maxLen) (R0 : RowInt a0 n0 f w) (l1 : n1 ≤ maxLen) (R1 : RowInt a1 n1 g w) (lc : cn ≤ maxLen) (RC : RowPrefix ca cn h0 h1 w) :
    Calls Try.prog 11 #[.agg #[.slice ga gn gc, .int .i64 o, .slice a0 n0 c0, .int .i64 nx, .int .i64 md, .int .i64 pf, .slice a1 n1 c1, .slice ca cn cc]] w fun e w' => e = .returned (.bool true) ∧ Below w.heap.size w w' := by
  have SZ := hide (fun w => w_szUpdate ga gn gc o nx md pf a0 n0 c0 a1 n1 c1 ca cn cc w lg l0 l1 lc)
  have M := Mut.new w #[.slice ga gn gc, .int .i64 o, .slice a0 n0 c0, .int .i64 nx, .int .i64 md, .int .i64 pf, .slice a1 n1 c1, .slice ca cn cc] 81
  have d0 : Below w.heap.size w (w.alloc (.cells #[.slice ga gn gc, .int .i64 o, .slice a0 n0 c0, .int .i64 nx, .int .i64 md, .int .i64 pf, .slice a1 n1 c1, .slice ca cn cc] 81)) := below_box (Below.refl _ _)
  by_cases hs : gn + n0 + n1 + cn ≤ 1048576
  · have T := hide (fun w RG R0 R1 RC => w_toUpdate ga gn gc f0 f1 o nx md pf a0 n0 c0 f a1 n1 c1 g ca cn cc h0 h1 w (by omega) (by omega) (by omega) (by omega) RG R0 R1 RC)
    have SG := hide (fun ga gc a0 c0 a1 c1 ca cc w RG R0 R1 RC => s_updateBytes ga gn gc f0 f1 o nx md pf a0 n0 c0 f a1 n1 c1 g ca cn cc h0 h1 w (by omega) (by omega) (by omega) (by omega) RG R0 R1 RC)
    have IG := hide (fun ga gc a0 c0 a1 c1 ca cc w RG R0 R1 RC => i_updateBytes ga gn gc f0 f1 o nx md pf a0 n0 c0 f a1 n1 c1 g ca cn cc h0 h1 w (by omega) (by omega) (by omega) (by omega) RG R0 R1 RC)
    have E := hide (fun ga gb gc gd a0 b0 c0 d0 a1 b1 c1 d1 ca cb cc cd w RG R0 R1 RC QG Q0 Q1 QC => w_eqUpdate ga gb gn gc gd f0 f1 o nx md pf a0 b0 n0 c0 d0 f a1 b1 n1 c1 d1 g ca cb cn cc cd h0 h1 w (by omega) (by omega) (by omega) (by omega) RG R0 R1 RC QG Q0 Q1 QC)
    generalize (if updB gn f0 f1 o nx md pf n0 f n1 g cn h0 h1 then strOfNums (upb gn f0 f1 o nx md pf n0 f n1 g cn h0 h1) else ByteArray.empty) = X at SG IG
    generalize updB gn f0 f1 o nx md pf n0 f n1 g cn h0 h1 = r at SG IG
    have k0 : (r != r) = false := by simp
    clear lg l0 l1 lc
    go_enter Try.func11, Try.ntmps11
    go_wp2_with fail
    generalize w.alloc (.cells #[.slice ga gn gc, .int .i64 o, .slice a0 n0 c0, .int .i64 nx, .int .i64 md, .int .i64 pf, .slice a1 n1 c1, .slice ca cn cc] 81) = w1 at *
    refine (SZ.out _).mono ?_
    rintro e w2 ⟨⟨sz, rfl, hsz⟩, b2⟩
    have hlt : ¬ (sz < 0) := by
      rcases hsz with ⟨_, h⟩ | ⟨h, _⟩
      · omega
      · exact absurd hs h
    have d2 := d0.trans (b2.mono d0.size)
    have M := M.below b2
    clear b2 d0 hsz hs
    have u0 := M.2.1 0 _ rfl
    have u1 := M.2.1 1 _ rfl
    have u2 := M.2.1 2 _ rfl
    have u3 := M.2.1 3 _ rfl
    have u4 := M.2.1 4 _ rfl
    have u5 := M.2.1 5 _ rfl
    have u6 := M.2.1 6 _ rfl
    have u7 := M.2.1 7 _ rfl
    go_wp2_with fail
    refine (T.out _ (RG.below d2) (R0.below d2) (R1.below d2) (RC.below d2)).mono ?_
    rintro e w3 ⟨ps, xs, ys, qs, rfl, hp, hx, hy, hq, Op, Ox, Oy, Oq, b3⟩
    have d3 := d2.trans (b3.mono d2.size)
    have M := M.below b3
    clear b3 d2 u0 u1 u2 u3 u4 u5 u6 u7
    go_wp2_with fail
    refine (SG.out _ _ _ _ _ _ _ _ _ Op.row Ox.row Oy.row Oq.row).mono ?_
    rintro e w4 ⟨rfl, b4⟩
    have d4 := d3.trans (b4.mono d3.size)
    have M := M.below b4
    clear b4 d3 Op Ox Oy Oq hp hx hy hq
    have u0 := M.2.1 0 _ rfl
    have u1 := M.2.1 1 _ rfl
    have u2 := M.2.1 2 _ rfl
    have u3 := M.2.1 3 _ rfl
    have u4 := M.2.1 4 _ rfl
    have u5 := M.2.1 5 _ rfl
    have u6 := M.2.1 6 _ rfl
    have u7 := M.2.1 7 _ rfl
    go_wp2_with fail
    refine (T.out _ (RG.below d4) (R0.below d4) (R1.below d4) (RC.below d4)).mono ?_
    rintro e w5 ⟨p, x, y, q, rfl, hp, hx, hy, hq, Op, Ox, Oy, Oq, b5⟩
    have d5 := d4.trans (b5.mono d4.size)
    have M := M.below b5
    clear b5 d4 u0 u1 u2 u3 u4 u5 u6 u7
    go_wp2_with fail
    have bB : Below w5.heap.size w5 (w5.alloc (.cells #[.slice (some ⟨p, 0, none⟩) gn gn, .int .i64 o, .slice (some ⟨x, 0, none⟩) n0 n0, .int .i64 nx, .int .i64 md, .int .i64 pf, .slice (some ⟨y, 0, none⟩) n1 n1, .slice (some ⟨q, 0, none⟩) cn cn] 85)) := below_box (Below.refl _ _)
    have N := Mut.new w5 #[.slice (some ⟨p, 0, none⟩) gn gn, .int .i64 o, .slice (some ⟨x, 0, none⟩) n0 n0, .int .i64 nx, .int .i64 md, .int .i64 pf, .slice (some ⟨y, 0, none⟩) n1 n1, .slice (some ⟨q, 0, none⟩) cn cn] 85
    have d6 := d5.trans (bB.mono d5.size)
    have M := M.below bB
    have Op := Op.below bB
    have Ox := Ox.below bB
    have Oy := Oy.below bB
    have Oq := Oq.below bB
    clear bB d5
    generalize w5.alloc (.cells #[.slice (some ⟨p, 0, none⟩) gn gn, .int .i64 o, .slice (some ⟨x, 0, none⟩) n0 n0, .int .i64 nx, .int .i64 md, .int .i64 pf, .slice (some ⟨y, 0, none⟩) n1 n1, .slice (some ⟨q, 0, none⟩) cn cn] 85) = w6 at *
    generalize w5.heap.size = bx at *
    refine (IG.out _ _ _ _ _ _ _ _ _ Op.row Ox.row Oy.row Oq.row).mono ?_
    rintro e w7 ⟨rfl, b7⟩
    have d7 := d6.trans (b7.mono d6.size)
    have M := M.below b7
    have N := N.below b7
    have Op := Op.below b7
    have Ox := Ox.below b7
    have Oy := Oy.below b7
    have Oq := Oq.below b7
    clear b7 d6
    go_wp2_with fail
    have dZ : Below w7.heap.size w7 w7 := Below.refl _ _
    have RG := RG.below d7
    have R0 := R0.below d7
    have R1 := R1.below d7
    have RC := RC.below d7
    have hltM := M.1
    have hltN := N.1
    have u0 := M.2.1 0 _ rfl
    have u1 := M.2.1 1 _ rfl
    have u2 := M.2.1 2 _ rfl
    have u3 := M.2.1 3 _ rfl
    have u4 := M.2.1 4 _ rfl
    have u5 := M.2.1 5 _ rfl
    have u6 := M.2.1 6 _ rfl
    have u7 := M.2.1 7 _ rfl
    have v0 := N.2.1 0 _ rfl
    have v1 := N.2.1 1 _ rfl
    have v2 := N.2.1 2 _ rfl
    have v3 := N.2.1 3 _ rfl
    have v4 := N.2.1 4 _ rfl
    have v5 := N.2.1 5 _ rfl
    have v6 := N.2.1 6 _ rfl
    have v7 := N.2.1 7 _ rfl
    go_region_held3 (fun w' => w'.cell? ⟨w.heap.size, 0, none⟩ = some (.slice ga gn gc) ∧ w'.cell? ⟨w.heap.size, 1, none⟩ = some (.int .i64 o) ∧ w'.cell? ⟨w.heap.size, 2, none⟩ = some (.slice a0 n0 c0) ∧ w'.cell? ⟨w.heap.size, 3, none⟩ = some (.int .i64 nx) ∧ w'.cell? ⟨w.heap.size, 4, none⟩ = some (.int .i64 md) ∧ w'.cell? ⟨w.heap.size, 5, none⟩ = some (.int .i64 pf) ∧ w'.cell? ⟨w.heap.size, 6, none⟩ = some (.slice a1 n1 c1) ∧ w'.cell? ⟨w.heap.size, 7, none⟩ = some (.slice ca cn cc) ∧ w'.cell? ⟨bx, 0, none⟩ = some (.slice (some ⟨p, 0, none⟩) gn gn) ∧ w'.cell? ⟨bx, 1, none⟩ = some (.int .i64 o) ∧ w'.cell? ⟨bx, 2, none⟩ = some (.slice (some ⟨x, 0, none⟩) n0 n0) ∧ w'.cell? ⟨bx, 3, none⟩ = some (.int .i64 nx) ∧ w'.cell? ⟨bx, 4, none⟩ = some (.int .i64 md) ∧ w'.cell? ⟨bx, 5, none⟩ = some (.int .i64 pf) ∧ w'.cell? ⟨bx, 6, none⟩ = some (.slice (some ⟨y, 0, none⟩) n1 n1) ∧ w'.cell? ⟨bx, 7, none⟩ = some (.slice (some ⟨q, 0, none⟩) cn cn)) (first | go_keep | exact ⟨(dE.cell (p := ⟨w.heap.size, 0, none⟩) hltM).trans u0, (dE.cell (p := ⟨w.heap.size, 1, none⟩) hltM).trans u1, (dE.cell (p := ⟨w.heap.size, 2, none⟩) hltM).trans u2, (dE.cell (p := ⟨w.heap.size, 3, none⟩) hltM).trans u3, (dE.cell (p := ⟨w.heap.size, 4, none⟩) hltM).trans u4, (dE.cell (p := ⟨w.heap.size, 5, none⟩) hltM).trans u5, (dE.cell (p := ⟨w.heap.size, 6, none⟩) hltM).trans u6, (dE.cell (p := ⟨w.heap.size, 7, none⟩) hltM).trans u7, (dE.cell (p := ⟨bx, 0, none⟩) hltN).trans v0, (dE.cell (p := ⟨bx, 1, none⟩) hltN).trans v1, (dE.cell (p := ⟨bx, 2, none⟩) hltN).trans v2, (dE.cell (p := ⟨bx, 3, none⟩) hltN).trans v3, (dE.cell (p := ⟨bx, 4, none⟩) hltN).trans v4, (dE.cell (p := ⟨bx, 5, none⟩) hltN).trans v5, (dE.cell (p := ⟨bx, 6, none⟩) hltN).trans v6, (dE.cell (p := ⟨bx, 7, none⟩) hltN).trans v7⟩ | exact ⟨(dE.drew.cell (p := ⟨w.heap.size, 0, none⟩) hltM).trans u0, (dE.drew.cell (p := ⟨w.heap.size, 1, none⟩) hltM).trans u1, (dE.drew.cell (p := ⟨w.heap.size, 2, none⟩) hltM).trans u2, (dE.drew.cell (p := ⟨w.heap.size, 3, none⟩) hltM).trans u3, (dE.drew.cell (p := ⟨w.heap.size, 4, none⟩) hltM).trans u4, (dE.drew.cell (p := ⟨w.heap.size, 5, none⟩) hltM).trans u5, (dE.drew.cell (p := ⟨w.heap.size, 6, none⟩) hltM).trans u6, (dE.drew.cell (p := ⟨w.heap.size, 7, none⟩) hltM).trans u7, (dE.drew.cell (p := ⟨bx, 0, none⟩) hltN).trans v0, (dE.drew.cell (p := ⟨bx, 1, none⟩) hltN).trans v1, (dE.drew.cell (p := ⟨bx, 2, none⟩) hltN).trans v2, (dE.drew.cell (p := ⟨bx, 3, none⟩) hltN).trans v3, (dE.drew.cell (p := ⟨bx, 4, none⟩) hltN).trans v4, (dE.drew.cell (p := ⟨bx, 5, none⟩) hltN).trans v5, (dE.drew.cell (p := ⟨bx, 6, none⟩) hltN).trans v6, (dE.drew.cell (p := ⟨bx, 7, none⟩) hltN).trans v7⟩ | exact ⟨(dT.cell (p := ⟨w.heap.size, 0, none⟩) hltM).trans u0, (dT.cell (p := ⟨w.heap.size, 1, none⟩) hltM).trans u1, (dT.cell (p := ⟨w.heap.size, 2, none⟩) hltM).trans u2, (dT.cell (p := ⟨w.heap.size, 3, none⟩) hltM).trans u3, (dT.cell (p := ⟨w.heap.size, 4, none⟩) hltM).trans u4, (dT.cell (p := ⟨w.heap.size, 5, none⟩) hltM).trans u5, (dT.cell (p := ⟨w.heap.size, 6, none⟩) hltM).trans u6, (dT.cell (p := ⟨w.heap.size, 7, none⟩) hltM).trans u7, (dT.cell (p := ⟨bx, 0, none⟩) hltN).trans v0, (dT.cell (p := ⟨bx, 1, none⟩) hltN).trans v1, (dT.cell (p := ⟨bx, 2, none⟩) hltN).trans v2, (dT.cell (p := ⟨bx, 3, none⟩) hltN).trans v3, (dT.cell (p := ⟨bx, 4, none⟩) hltN).trans v4, (dT.cell (p := ⟨bx, 5, none⟩) hltN).trans v5, (dT.cell (p := ⟨bx, 6, none⟩) hltN).trans v6, (dT.cell (p := ⟨bx, 7, none⟩) hltN).trans v7⟩ | exact ⟨(dT.drew.cell (p := ⟨w.heap.size, 0, none⟩) hltM).trans u0, (dT.drew.cell (p := ⟨w.heap.size, 1, none⟩) hltM).trans u1, (dT.drew.cell (p := ⟨w.heap.size, 2, none⟩) hltM).trans u2, (dT.drew.cell (p := ⟨w.heap.size, 3, none⟩) hltM).trans u3, (dT.drew.cell (p := ⟨w.heap.size, 4, none⟩) hltM).trans u4, (dT.drew.cell (p := ⟨w.heap.size, 5, none⟩) hltM).trans u5, (dT.drew.cell (p := ⟨w.heap.size, 6, none⟩) hltM).trans u6, (dT.drew.cell (p := ⟨w.heap.size, 7, none⟩) hltM).trans u7, (dT.drew.cell (p := ⟨bx, 0, none⟩) hltN).trans v0, (dT.drew.cell (p := ⟨bx, 1, none⟩) hltN).trans v1, (dT.drew.cell (p := ⟨bx, 2, none⟩) hltN).trans v2, (dT.drew.cell (p := ⟨bx, 3, none⟩) hltN).trans v3, (dT.drew.cell (p := ⟨bx, 4, none⟩) hltN).trans v4, (dT.drew.cell (p := ⟨bx, 5, none⟩) hltN).trans v5, (dT.drew.cell (p := ⟨bx, 6, none⟩) hltN).trans v6, (dT.drew.cell (p := ⟨bx, 7, none⟩) hltN).trans v7⟩ | exact ⟨(dZ.cell (p := ⟨w.heap.size, 0, none⟩) hltM).trans u0, (dZ.cell (p := ⟨w.heap.size, 1, none⟩) hltM).trans u1, (dZ.cell (p := ⟨w.heap.size, 2, none⟩) hltM).trans u2, (dZ.cell (p := ⟨w.heap.size, 3, none⟩) hltM).trans u3, (dZ.cell (p := ⟨w.heap.size, 4, none⟩) hltM).trans u4, (dZ.cell (p := ⟨w.heap.size, 5, none⟩) hltM).trans u5, (dZ.cell (p := ⟨w.heap.size, 6, none⟩) hltM).trans u6, (dZ.cell (p := ⟨w.heap.size, 7, none⟩) hltM).trans u7, (dZ.cell (p := ⟨bx, 0, none⟩) hltN).trans v0, (dZ.cell (p := ⟨bx, 1, none⟩) hltN).trans v1, (dZ.cell (p := ⟨bx, 2, none⟩) hltN).trans v2, (dZ.cell (p := ⟨bx, 3, none⟩) hltN).trans v3, (dZ.cell (p := ⟨bx, 4, none⟩) hltN).trans v4, (dZ.cell (p := ⟨bx, 5, none⟩) hltN).trans v5, (dZ.cell (p := ⟨bx, 6, none⟩) hltN).trans v6, (dZ.cell (p := ⟨bx, 7, none⟩) hltN).trans v7⟩ | exact ⟨(dZ.drew.cell (p := ⟨w.heap.size, 0, none⟩) hltM).trans u0, (dZ.drew.cell (p := ⟨w.heap.size, 1, none⟩) hltM).trans u1, (dZ.drew.cell (p := ⟨w.heap.size, 2, none⟩) hltM).trans u2, (dZ.drew.cell (p := ⟨w.heap.size, 3, none⟩) hltM).trans u3, (dZ.drew.cell (p := ⟨w.heap.size, 4, none⟩) hltM).trans u4, (dZ.drew.cell (p := ⟨w.heap.size, 5, none⟩) hltM).trans u5, (dZ.drew.cell (p := ⟨w.heap.size, 6, none⟩) hltM).trans u6, (dZ.drew.cell (p := ⟨w.heap.size, 7, none⟩) hltM).trans u7, (dZ.drew.cell (p := ⟨bx, 0, none⟩) hltN).trans v0, (dZ.drew.cell (p := ⟨bx, 1, none⟩) hltN).trans v1, (dZ.drew.cell (p := ⟨bx, 2, none⟩) hltN).trans v2, (dZ.drew.cell (p := ⟨bx, 3, none⟩) hltN).trans v3, (dZ.drew.cell (p := ⟨bx, 4, none⟩) hltN).trans v4, (dZ.drew.cell (p := ⟨bx, 5, none⟩) hltN).trans v5, (dZ.drew.cell (p := ⟨bx, 6, none⟩) hltN).trans v6, (dZ.drew.cell (p := ⟨bx, 7, none⟩) hltN).trans v7⟩) ((first | (go_at_call 59; refine (T.out _ (RG.below (by first | exact dZ | exact dZ.drew)) (R0.below (by first | exact dZ | exact dZ.drew)) (R1.below (by first | exact dZ | exact dZ.drew)) (RC.below (by first | exact dZ | exact dZ.drew))).mono ?_; rintro e wT ⟨p2, x2, y2, q2, rfl, _, _, _, _, Pp, Px, Py, Pq, bT⟩; have dT : Below w7.heap.size w7 wT := (by first | exact below_step dZ bT | exact below_step dZ.drew bT)) | (go_at_call 61; refine (E.out _ _ _ _ _ _ _ _ _ _ _ _ _ _ _ _ _ (by first | exact (Op.below dT).row | exact (Op.below dT.drew).row) (by first | exact (Ox.below dT).row | exact (Ox.below dT.drew).row) (by first | exact (Oy.below dT).row | exact (Oy.below dT.drew).row) (by first | exact (Oq.below dT).row | exact (Oq.below dT.drew).row) (by first | exact Pp.row | exact (Pp.below (Below.refl _ _).drew).row) (by first | exact Px.row | exact (Px.below (Below.refl _ _).drew).row) (by first | exact Py.row | exact (Py.below (Below.refl _ _).drew).row) (by first | exact Pq.row | exact (Pq.below (Below.refl _ _).drew).row)).mono ?_; rintro e wE ⟨rfl, bE⟩; have dE : Below w7.heap.size w7 wE := (by first | exact below_step dT bE | exact below_step dT.drew bE))))
    all_goals
      have d8 := d7.trans (dE.mono d7.size)
      go_wp2_with fail
      go_ret
      exact ⟨rfl, d8⟩
  · clear lg l0 l1 lc
    go_enter Try.func11, Try.ntmps11
    go_wp2_with fail
    refine (SZ.out _).mono ?_
    rintro e w2 ⟨⟨sz, rfl, hsz⟩, b2⟩
    have hlt : sz < 0 := by
      rcases hsz with ⟨h, _⟩ | ⟨_, h⟩
      · exact absurd h hs
      · exact h
    clear hsz hs
    go_wp2_with fail
    go_ret
    exact ⟨rfl, d0.trans (b2.mono d0.size)⟩
end Go.Proofs.Ytofalilkephkpaa
