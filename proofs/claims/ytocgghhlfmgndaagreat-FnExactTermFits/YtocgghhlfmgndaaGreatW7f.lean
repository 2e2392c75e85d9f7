/- The law on TermFits: the program answers as the specification. -/
import Derived.Test.YtocgghhlfmgndaaGreatLawT
import Derived.Test.YtocgghhlfmgndaaGreatFlatRoute
import Derived.Test.YtocgghhlfmgndaaGreatSI7
import Derived.Deep.RegionHeld3
namespace Go.Proofs.YtocgghhlfmgndaaGreat
open Go.RowKit

theorem OutTm.row {x y z : Nat} {t : Tc} {w : World} (h1 : OutRange x t.nr t.nr t.f0 t.f1 t.f2 t.f3 w) (h2 : OutReCell y t.np t.np t.q0 t.q1 w) (h3 : OutAct z t.na t.na t.g0 t.g1 w) : TmIn (some ⟨x, 0, none⟩) (some ⟨y, 0, none⟩) t.np (some ⟨z, 0, none⟩) t w := ⟨Nat.le_refl _, h1.row, h2.row, h3.row⟩
set_option maxRecDepth 100000 in
set_option maxHeartbeats 6400000 in
theorem w_termFits_law (ra : Option Addr) (rc : Nat) (qa : Option Addr) (qc : Nat) (aa : Option Addr) (ac : Nat) (t : Tc) (pa pl o nx md pf : Int) (a0 : Option Addr) (n0 c0 : Nat) (f : Nat → Int) (a1 : Option Addr) (n1 c1 : Nat) (g : Nat → Int) (w : World) (r0 r1 : Bool) (hr : t.nr ≤ maxLen) (hp : t.np ≤ maxLen) (ha : t.na ≤ maxLen) (hT : TmIn ra qa qc aa t w) (h0 : n0 ≤ maxLen) (R0 : RowInt a0 n0 f w) (h1 : n1 ≤ maxLen) (R1 : RowInt a1 n1 g w)
    (SS : Hid (t.nr ≤ 1048576 → t.np ≤ 1048576 → t.na ≤ 1048576 → n0 ≤ 1048576 → n1 ≤ 1048576 → ∀ (ra : Option Addr) (rc : Nat) (qa : Option Addr) (qc : Nat) (aa : Option Addr) (ac : Nat) (a0 : Option Addr) (c0 : Nat) (a1 : Option Addr) (c1 : Nat) (w : World), TmIn ra qa qc aa t w → RowInt a0 n0 f w → RowInt a1 n1 g w → Calls Tryz.prog 10 #[.agg #[.slice ra t.nr rc, .slice qa t.np qc, .int .i64 t.cm, .slice aa t.na ac, .int .i64 t.vd], .agg #[.int .i64 pa, .int .i64 pl, .int .i64 o, .slice a0 n0 c0, .int .i64 nx, .int .i64 md, .int .i64 pf, .slice a1 n1 c1]] w fun e w' => e = .returned (.tuple #[.bool r0, .bool r1]) ∧ Below w.heap.size w w'))
    (II : Hid (t.nr ≤ 1048576 → t.np ≤ 1048576 → t.na ≤ 1048576 → n0 ≤ 1048576 → n1 ≤ 1048576 → ∀ (ra : Option Addr) (rc : Nat) (qa : Option Addr) (qc : Nat) (aa : Option Addr) (ac : Nat) (a0 : Option Addr) (c0 : Nat) (a1 : Option Addr) (c1 : Nat) (w : World), TmIn ra qa qc aa t w → RowInt a0 n0 f w → RowInt a1 n1 g w → Calls Tryz.prog 13 #[.agg #[.slice ra t.nr rc, .slice qa t.np qc, .int .i64 t.cm, .slice aa t.na ac, .int .i64 t.vd], .agg #[.int .i64 pa, .int .i64 pl, .int .i64 o, .slice a0 n0 c0, .int .i64 nx, .int .i64 md, .int .i64 pf, .slice a1 n1 c1]] w fun e w' => e = .returned (.tuple #[.bool r0, .bool r1]) ∧ Below w.heap.size w w')) :
    Calls Tryz.prog 3 #[.agg #[.slice ra t.nr rc, .slice qa t.np qc, .int .i64 t.cm, .slice aa t.na ac, .int .i64 t.vd], .agg #[.int .i64 pa, .int .i64 pl, .int .i64 o, .slice a0 n0 c0, .int .i64 nx, .int .i64 md, .int .i64 pf, .slice a1 n1 c1]] w fun e w' => e = .returned (.bool true) ∧ Below w.heap.size w w' := by
  have SZ := hide (fun w => w_szTerm ra rc qa qc aa ac t 1048576 w hr hp ha (by omega) (by omega))
  have MT := (Mut.new w #[.slice ra t.nr rc, .slice qa t.np qc, .int .i64 t.cm, .slice aa t.na ac, .int .i64 t.vd] 26).alloc (.cells #[.int .i64 pa, .int .i64 pl, .int .i64 o, .slice a0 n0 c0, .int .i64 nx, .int .i64 md, .int .i64 pf, .slice a1 n1 c1] 33)
  have MR := Mut.new (w.alloc (.cells #[.slice ra t.nr rc, .slice qa t.np qc, .int .i64 t.cm, .slice aa t.na ac, .int .i64 t.vd] 26)) #[.int .i64 pa, .int .i64 pl, .int .i64 o, .slice a0 n0 c0, .int .i64 nx, .int .i64 md, .int .i64 pf, .slice a1 n1 c1] 33
  have d0 : Below w.heap.size w ((w.alloc (.cells #[.slice ra t.nr rc, .slice qa t.np qc, .int .i64 t.cm, .slice aa t.na ac, .int .i64 t.vd] 26)).alloc (.cells #[.int .i64 pa, .int .i64 pl, .int .i64 o, .slice a0 n0 c0, .int .i64 nx, .int .i64 md, .int .i64 pf, .slice a1 n1 c1] 33)) := below_box2 (Below.refl _ _)
  rw [World.size_alloc] at MR
  have ht : t.tot = t.nr + t.np + t.na := rfl
  by_cases hs : (t.tot : Int) ≤ 1048576
  · rw [if_pos hs] at SZ
    have q1 : ¬ (1048576 - (t.tot : Int) < 0) := by omega
    have SZ2 := hide (fun w => w_szRoute pa pl o nx md pf a0 n0 c0 a1 n1 c1 (1048576 - (t.tot : Int)) w h0 h1 (by omega) (by omega))
    by_cases hs2 : (n0 : Int) + n1 ≤ 1048576 - (t.tot : Int)
    · rw [if_pos hs2] at SZ2
      have q2 : ¬ (1048576 - (t.tot : Int) - (n0 : Int) - n1 < 0) := by omega
      have TT := hide (fun w hT => w_toTerm ra rc qa qc aa ac t w (by omega) (by omega) (by omega) hT)
      have TR := hide (fun w R0 R1 => w_toRoute pa pl o nx md pf a0 n0 c0 f a1 n1 c1 g w (by omega) (by omega) R0 R1)
      have ET := hide (fun ra rc pa pc aa ac sa sc qa qc ba bc w hT hU => w_eqTerm ra rc pa pc aa ac sa sc qa qc ba bc t w (by omega) (by omega) (by omega) hT hU)
      have ER := hide (fun a0 b0 c0 e0 a1 b1 c1 e1 w R0 R1 Q0 Q1 => w_eqRoute pa pl o nx md pf a0 b0 n0 c0 e0 f a1 b1 n1 c1 e1 g w (by omega) (by omega) R0 R1 Q0 Q1)
      have S := hide (SS.out (by omega) (by omega) (by omega) (by omega) (by omega))
      have I := hide (II.out (by omega) (by omega) (by omega) (by omega) (by omega))
      have k0 : (r0 != r0) = false := by simp
      have k1 : (r1 != r1) = false := by simp
      generalize t.tot = tt at *
      clear SS II hr hp ha h0 h1 hs hs2 ht
      go_enter Tryz.func3, Tryz.ntmps3
      go_wp2_with fail
      generalize (w.alloc (.cells #[.slice ra t.nr rc, .slice qa t.np qc, .int .i64 t.cm, .slice aa t.na ac, .int .i64 t.vd] 26)).alloc (.cells #[.int .i64 pa, .int .i64 pl, .int .i64 o, .slice a0 n0 c0, .int .i64 nx, .int .i64 md, .int .i64 pf, .slice a1 n1 c1] 33) = w1 at *
      refine (SZ.out _).mono ?_
      rintro e w2 ⟨rfl, b2⟩
      have d2 := d0.trans (b2.mono d0.size)
      replace MT := MT.below b2
      replace MR := MR.below b2
      clear b2 d0
      have u0 := MT.2.1 0 _ rfl
      have u1 := MT.2.1 1 _ rfl
      have u2 := MT.2.1 2 _ rfl
      have u3 := MT.2.1 3 _ rfl
      have u4 := MT.2.1 4 _ rfl
      have v0 := MR.2.1 0 _ rfl
      have v1 := MR.2.1 1 _ rfl
      have v2 := MR.2.1 2 _ rfl
      have v3 := MR.2.1 3 _ rfl
      have v4 := MR.2.1 4 _ rfl
      have v5 := MR.2.1 5 _ rfl
      have v6 := MR.2.1 6 _ rfl
      have v7 := MR.2.1 7 _ rfl
      go_wp2_with fail
      refine (SZ2.out _).mono ?_
      rintro e w3 ⟨rfl, b3⟩
      have d3 := d2.trans (b3.mono d2.size)
      replace MT := MT.below b3
      replace MR := MR.below b3
      clear u0 u1 u2 u3 u4 v0 v1 v2 v3 v4 v5 v6 v7
      have u0 := MT.2.1 0 _ rfl
      have u1 := MT.2.1 1 _ rfl
      have u2 := MT.2.1 2 _ rfl
      have u3 := MT.2.1 3 _ rfl
      have u4 := MT.2.1 4 _ rfl
      have v0 := MR.2.1 0 _ rfl
      have v1 := MR.2.1 1 _ rfl
      have v2 := MR.2.1 2 _ rfl
      have v3 := MR.2.1 3 _ rfl
      have v4 := MR.2.1 4 _ rfl
      have v5 := MR.2.1 5 _ rfl
      have v6 := MR.2.1 6 _ rfl
      have v7 := MR.2.1 7 _ rfl
      go_wp2_with fail
      have hTz : ∀ w' : World, Below w3.heap.size w3 w' → TmIn ra qa qc aa t w' := fun w' b => hT.below (d3.trans (b.mono d3.size))
      have hRz : ∀ w' : World, Below w3.heap.size w3 w' → RowInt a0 n0 f w' := fun w' b => R0.below (d3.trans (b.mono d3.size))
      have hRy : ∀ w' : World, Below w3.heap.size w3 w' → RowInt a1 n1 g w' := fun w' b => R1.below (d3.trans (b.mono d3.size))
      have hS : ∀ w' : World, Below w3.heap.size w3 w' → w'.cell? ⟨w.heap.size, 0, none⟩ = some (.slice ra t.nr rc) ∧ w'.cell? ⟨w.heap.size, 1, none⟩ = some (.slice qa t.np qc) ∧ w'.cell? ⟨w.heap.size, 2, none⟩ = some (.int .i64 t.cm) ∧ w'.cell? ⟨w.heap.size, 3, none⟩ = some (.slice aa t.na ac) ∧ w'.cell? ⟨w.heap.size, 4, none⟩ = some (.int .i64 t.vd) ∧ w'.cell? ⟨w.heap.size + 1, 0, none⟩ = some (.int .i64 pa) ∧ w'.cell? ⟨w.heap.size + 1, 1, none⟩ = some (.int .i64 pl) ∧ w'.cell? ⟨w.heap.size + 1, 2, none⟩ = some (.int .i64 o) ∧ w'.cell? ⟨w.heap.size + 1, 3, none⟩ = some (.slice a0 n0 c0) ∧ w'.cell? ⟨w.heap.size + 1, 4, none⟩ = some (.int .i64 nx) ∧ w'.cell? ⟨w.heap.size + 1, 5, none⟩ = some (.int .i64 md) ∧ w'.cell? ⟨w.heap.size + 1, 6, none⟩ = some (.int .i64 pf) ∧ w'.cell? ⟨w.heap.size + 1, 7, none⟩ = some (.slice a1 n1 c1) := fun w' b => ⟨(MT.below b).2.1 0 _ rfl, (MT.below b).2.1 1 _ rfl, (MT.below b).2.1 2 _ rfl, (MT.below b).2.1 3 _ rfl, (MT.below b).2.1 4 _ rfl, (MR.below b).2.1 0 _ rfl, (MR.below b).2.1 1 _ rfl, (MR.below b).2.1 2 _ rfl, (MR.below b).2.1 3 _ rfl, (MR.below b).2.1 4 _ rfl, (MR.below b).2.1 5 _ rfl, (MR.below b).2.1 6 _ rfl, (MR.below b).2.1 7 _ rfl⟩
      obtain ⟨h_a, h_b, h_c, h_d, h_e, h_f, h_g, h_h, h_i, h_j, h_k, h_l, h_m⟩ := hS w3 (Below.refl _ _)
      go_region_held3 (fun w' => w'.cell? ⟨w.heap.size, 0, none⟩ = some (.slice ra t.nr rc) ∧ w'.cell? ⟨w.heap.size, 1, none⟩ = some (.slice qa t.np qc) ∧ w'.cell? ⟨w.heap.size, 2, none⟩ = some (.int .i64 t.cm) ∧ w'.cell? ⟨w.heap.size, 3, none⟩ = some (.slice aa t.na ac) ∧ w'.cell? ⟨w.heap.size, 4, none⟩ = some (.int .i64 t.vd) ∧ w'.cell? ⟨w.heap.size + 1, 0, none⟩ = some (.int .i64 pa) ∧ w'.cell? ⟨w.heap.size + 1, 1, none⟩ = some (.int .i64 pl) ∧ w'.cell? ⟨w.heap.size + 1, 2, none⟩ = some (.int .i64 o) ∧ w'.cell? ⟨w.heap.size + 1, 3, none⟩ = some (.slice a0 n0 c0) ∧ w'.cell? ⟨w.heap.size + 1, 4, none⟩ = some (.int .i64 nx) ∧ w'.cell? ⟨w.heap.size + 1, 5, none⟩ = some (.int .i64 md) ∧ w'.cell? ⟨w.heap.size + 1, 6, none⟩ = some (.int .i64 pf) ∧ w'.cell? ⟨w.heap.size + 1, 7, none⟩ = some (.slice a1 n1 c1))
        (first | exact hS _ (Below.refl _ _) | exact hS _ (Below.refl _ _).drew | exact hS _ dS | exact hS _ dS.drew | exact hS _ dR | exact hS _ dR.drew | exact hS _ dT | exact hS _ dT.drew | go_keep)
        ((first
          | (have hq0 := dR; go_at_call 10; refine (S.out _ _ _ _ _ _ _ _ _ _ _ (by first | exact hOT | exact hOT.below (Below.refl _ _).drew) (by first | exact Q1.row | exact (Q1.below (Below.refl _ _).drew).row) (by first | exact Q2.row | exact (Q2.below (Below.refl _ _).drew).row)).mono ?_; rintro e w6 ⟨rfl, bS⟩; have dS : Below w3.heap.size w3 w6 := (by first | exact below_step dR bS | exact below_step dR.drew bS))
          | (have hq0 := dT; go_at_call 12; refine (TR.out _ (by first | exact hRz _ dT | exact hRz _ dT.drew) (by first | exact hRy _ dT | exact hRy _ dT.drew)).mono ?_; rintro e w5 ⟨us, vs, rfl, _, _, Q1, Q2, bR⟩; have dR : Below w3.heap.size w3 w5 := (by first | exact below_step dT bR | exact below_step dT.drew bR); have hOT := (OutTm.row O1 O2 O3).below (show Below w4.heap.size w4 w5 from (by first | exact bR | exact (Below.refl _ _).drew.trans bR)))
          | (go_at_call 11; refine (TT.out _ (by first | exact hTz _ (Below.refl _ _) | exact hTz _ (Below.refl _ _).drew)).mono ?_; rintro e w4 ⟨xs, ys, zs, rfl, _, _, _, O1, O2, O3, bT⟩; have dT : Below w3.heap.size w3 w4 := (by first | exact bT | exact (Below.refl _ _).drew.trans bT))))
      clear hS h_a h_b h_c h_d h_e h_f h_g h_h h_i h_j h_k h_l h_m
      have d6 := d3.trans (dS.mono d3.size)
      replace MT := MT.below dS
      replace MR := MR.below dS
      clear hTz hRz hRy hOT O1 O2 O3 Q1 Q2 dR dT bS bR bT dS
      clear u0 u1 u2 u3 u4 v0 v1 v2 v3 v4 v5 v6 v7
      have u0 := MT.2.1 0 _ rfl
      have u1 := MT.2.1 1 _ rfl
      have u2 := MT.2.1 2 _ rfl
      have u3 := MT.2.1 3 _ rfl
      have u4 := MT.2.1 4 _ rfl
      have v0 := MR.2.1 0 _ rfl
      have v1 := MR.2.1 1 _ rfl
      have v2 := MR.2.1 2 _ rfl
      have v3 := MR.2.1 3 _ rfl
      have v4 := MR.2.1 4 _ rfl
      have v5 := MR.2.1 5 _ rfl
      have v6 := MR.2.1 6 _ rfl
      have v7 := MR.2.1 7 _ rfl
      go_wp2_with fail
      refine (TT.out _ (hT.below d6)).mono ?_
      rintro e w7 ⟨x, y, z, rfl, _, _, _, O1, O2, O3, b7⟩
      have d7 := d6.trans (b7.mono d6.size)
      replace MT := MT.below b7
      replace MR := MR.below b7
      clear u0 u1 u2 u3 u4 v0 v1 v2 v3 v4 v5 v6 v7
      have u0 := MT.2.1 0 _ rfl
      have u1 := MT.2.1 1 _ rfl
      have u2 := MT.2.1 2 _ rfl
      have u3 := MT.2.1 3 _ rfl
      have u4 := MT.2.1 4 _ rfl
      have v0 := MR.2.1 0 _ rfl
      have v1 := MR.2.1 1 _ rfl
      have v2 := MR.2.1 2 _ rfl
      have v3 := MR.2.1 3 _ rfl
      have v4 := MR.2.1 4 _ rfl
      have v5 := MR.2.1 5 _ rfl
      have v6 := MR.2.1 6 _ rfl
      have v7 := MR.2.1 7 _ rfl
      clear b3 d2 d3 d6
      have bb : Below w7.heap.size w7 (w7.alloc (.cells #[.slice (some ⟨x, 0, none⟩) t.nr t.nr, .slice (some ⟨y, 0, none⟩) t.np t.np, .int .i64 t.cm, .slice (some ⟨z, 0, none⟩) t.na t.na, .int .i64 t.vd] 42)) := below_box (Below.refl _ _)
      have BT := Mut.new w7 #[.slice (some ⟨x, 0, none⟩) t.nr t.nr, .slice (some ⟨y, 0, none⟩) t.np t.np, .int .i64 t.cm, .slice (some ⟨z, 0, none⟩) t.na t.na, .int .i64 t.vd] 42
      have d8 := d7.trans (bb.mono d7.size)
      replace MT := MT.below bb
      replace MR := MR.below bb
      replace O1 := O1.below bb
      replace O2 := O2.below bb
      replace O3 := O3.below bb
      have p0 := MR.2.1 0 _ rfl
      have p1 := MR.2.1 1 _ rfl
      have p2 := MR.2.1 2 _ rfl
      have p3 := MR.2.1 3 _ rfl
      have p4 := MR.2.1 4 _ rfl
      have p5 := MR.2.1 5 _ rfl
      have p6 := MR.2.1 6 _ rfl
      have p7 := MR.2.1 7 _ rfl
      go_wp2_with fail
      generalize w7.alloc (.cells #[.slice (some ⟨x, 0, none⟩) t.nr t.nr, .slice (some ⟨y, 0, none⟩) t.np t.np, .int .i64 t.cm, .slice (some ⟨z, 0, none⟩) t.na t.na, .int .i64 t.vd] 42) = w8 at *
      clear bb p0 p1 p2 p3 p4 p5 p6 p7
      refine (TR.out _ (R0.below d8) (R1.below d8)).mono ?_
      rintro e w9 ⟨u, v, rfl, _, _, Q1, Q2, b9⟩
      have d9 := d8.trans (b9.mono d8.size)
      replace MT := MT.below b9
      replace MR := MR.below b9
      replace O1 := O1.below b9
      replace O2 := O2.below b9
      replace O3 := O3.below b9
      replace BT := BT.below b9
      clear u0 u1 u2 u3 u4 v0 v1 v2 v3 v4 v5 v6 v7
      have s0 := BT.2.1 0 _ rfl
      have s1 := BT.2.1 1 _ rfl
      have s2 := BT.2.1 2 _ rfl
      have s3 := BT.2.1 3 _ rfl
      have s4 := BT.2.1 4 _ rfl
      have hne : w7.heap.size < w9.heap.size := BT.1
      have bb : Below w9.heap.size w9 (w9.alloc (.cells #[.int .i64 pa, .int .i64 pl, .int .i64 o, .slice (some ⟨u, 0, none⟩) n0 n0, .int .i64 nx, .int .i64 md, .int .i64 pf, .slice (some ⟨v, 0, none⟩) n1 n1] 47)) := below_box (Below.refl _ _)
      have CT := Mut.new w9 #[.int .i64 pa, .int .i64 pl, .int .i64 o, .slice (some ⟨u, 0, none⟩) n0 n0, .int .i64 nx, .int .i64 md, .int .i64 pf, .slice (some ⟨v, 0, none⟩) n1 n1] 47
      have d10 := d9.trans (bb.mono d9.size)
      replace MT := MT.below bb
      replace MR := MR.below bb
      replace O1 := O1.below bb
      replace O2 := O2.below bb
      replace O3 := O3.below bb
      replace BT := BT.below bb
      replace Q1 := Q1.below bb
      replace Q2 := Q2.below bb
      have j0 := BT.2.1 0 _ rfl
      have j1 := BT.2.1 1 _ rfl
      have j2 := BT.2.1 2 _ rfl
      have j3 := BT.2.1 3 _ rfl
      have j4 := BT.2.1 4 _ rfl
      go_wp2_with fail
      generalize w9.alloc (.cells #[.int .i64 pa, .int .i64 pl, .int .i64 o, .slice (some ⟨u, 0, none⟩) n0 n0, .int .i64 nx, .int .i64 md, .int .i64 pf, .slice (some ⟨v, 0, none⟩) n1 n1] 47) = w10 at *
      clear bb j0 j1 j2 j3 j4 s0 s1 s2 s3 s4
      refine (I.out _ _ _ _ _ _ _ _ _ _ _ (OutTm.row O1 O2 O3) Q1.row Q2.row).mono ?_
      rintro e w11 ⟨rfl, b11⟩
      have d11 := d10.trans (b11.mono d10.size)
      replace MT := MT.below b11
      replace MR := MR.below b11
      replace O1 := O1.below b11
      replace O2 := O2.below b11
      replace O3 := O3.below b11
      replace BT := BT.below b11
      replace CT := CT.below b11
      replace Q1 := Q1.below b11
      replace Q2 := Q2.below b11
      have u0 := MT.2.1 0 _ rfl
      have u1 := MT.2.1 1 _ rfl
      have u2 := MT.2.1 2 _ rfl
      have u3 := MT.2.1 3 _ rfl
      have u4 := MT.2.1 4 _ rfl
      have v0 := MR.2.1 0 _ rfl
      have v1 := MR.2.1 1 _ rfl
      have v2 := MR.2.1 2 _ rfl
      have v3 := MR.2.1 3 _ rfl
      have v4 := MR.2.1 4 _ rfl
      have v5 := MR.2.1 5 _ rfl
      have v6 := MR.2.1 6 _ rfl
      have v7 := MR.2.1 7 _ rfl
      have s0 := BT.2.1 0 _ rfl
      have s1 := BT.2.1 1 _ rfl
      have s2 := BT.2.1 2 _ rfl
      have s3 := BT.2.1 3 _ rfl
      have s4 := BT.2.1 4 _ rfl
      have j0 := CT.2.1 0 _ rfl
      have j1 := CT.2.1 1 _ rfl
      have j2 := CT.2.1 2 _ rfl
      have j3 := CT.2.1 3 _ rfl
      have j4 := CT.2.1 4 _ rfl
      have j5 := CT.2.1 5 _ rfl
      have j6 := CT.2.1 6 _ rfl
      have j7 := CT.2.1 7 _ rfl
      go_wp2_with fail
      clear u0 u1 u2 u3 u4 v0 v1 v2 v3 v4 v5 v6 v7 s0 s1 s2 s3 s4 j0 j1 j2 j3 j4 j5 j6 j7
      have hTz : ∀ w' : World, Below w11.heap.size w11 w' → TmIn ra qa qc aa t w' := fun w' b => hT.below (d11.trans (b.mono d11.size))
      have hOz : ∀ w' : World, Below w11.heap.size w11 w' → TmIn (some ⟨x, 0, none⟩) (some ⟨y, 0, none⟩) t.np (some ⟨z, 0, none⟩) t w' := fun w' b => (OutTm.row O1 O2 O3).below b
      have hS : ∀ w' : World, Below w11.heap.size w11 w' → w'.cell? ⟨w.heap.size, 0, none⟩ = some (.slice ra t.nr rc) ∧ w'.cell? ⟨w.heap.size, 1, none⟩ = some (.slice qa t.np qc) ∧ w'.cell? ⟨w.heap.size, 2, none⟩ = some (.int .i64 t.cm) ∧ w'.cell? ⟨w.heap.size, 3, none⟩ = some (.slice aa t.na ac) ∧ w'.cell? ⟨w.heap.size, 4, none⟩ = some (.int .i64 t.vd) ∧ w'.cell? ⟨w7.heap.size, 0, none⟩ = some (.slice (some ⟨x, 0, none⟩) t.nr t.nr) ∧ w'.cell? ⟨w7.heap.size, 1, none⟩ = some (.slice (some ⟨y, 0, none⟩) t.np t.np) ∧ w'.cell? ⟨w7.heap.size, 2, none⟩ = some (.int .i64 t.cm) ∧ w'.cell? ⟨w7.heap.size, 3, none⟩ = some (.slice (some ⟨z, 0, none⟩) t.na t.na) ∧ w'.cell? ⟨w7.heap.size, 4, none⟩ = some (.int .i64 t.vd) := fun w' b => ⟨(MT.below b).2.1 0 _ rfl, (MT.below b).2.1 1 _ rfl, (MT.below b).2.1 2 _ rfl, (MT.below b).2.1 3 _ rfl, (MT.below b).2.1 4 _ rfl, (BT.below b).2.1 0 _ rfl, (BT.below b).2.1 1 _ rfl, (BT.below b).2.1 2 _ rfl, (BT.below b).2.1 3 _ rfl, (BT.below b).2.1 4 _ rfl⟩
      obtain ⟨h_a, h_b, h_c, h_d, h_e, h_f, h_g, h_h, h_i, h_j⟩ := hS w11 (Below.refl _ _)
      go_region_held3 (fun w' => w'.cell? ⟨w.heap.size, 0, none⟩ = some (.slice ra t.nr rc) ∧ w'.cell? ⟨w.heap.size, 1, none⟩ = some (.slice qa t.np qc) ∧ w'.cell? ⟨w.heap.size, 2, none⟩ = some (.int .i64 t.cm) ∧ w'.cell? ⟨w.heap.size, 3, none⟩ = some (.slice aa t.na ac) ∧ w'.cell? ⟨w.heap.size, 4, none⟩ = some (.int .i64 t.vd) ∧ w'.cell? ⟨w7.heap.size, 0, none⟩ = some (.slice (some ⟨x, 0, none⟩) t.nr t.nr) ∧ w'.cell? ⟨w7.heap.size, 1, none⟩ = some (.slice (some ⟨y, 0, none⟩) t.np t.np) ∧ w'.cell? ⟨w7.heap.size, 2, none⟩ = some (.int .i64 t.cm) ∧ w'.cell? ⟨w7.heap.size, 3, none⟩ = some (.slice (some ⟨z, 0, none⟩) t.na t.na) ∧ w'.cell? ⟨w7.heap.size, 4, none⟩ = some (.int .i64 t.vd))
        (first | exact hS _ (Below.refl _ _) | exact hS _ (Below.refl _ _).drew | exact hS _ dE | exact hS _ dE.drew | exact hS _ dT | exact hS _ dT.drew | go_keep)
        ((first
          | (have hq0 := dT; go_at_call 14; refine (ET.out _ _ _ _ _ _ _ _ _ _ _ _ _ (by first | exact hOz _ dT | exact hOz _ dT.drew) (by first | exact OutTm.row P1 P2 P3 | exact (OutTm.row P1 P2 P3).below (Below.refl _ _).drew)).mono ?_; rintro e w13 ⟨rfl, bE⟩; have dE : Below w11.heap.size w11 w13 := (by first | exact below_step dT bE | exact below_step dT.drew bE))
          | (go_at_call 11; refine (TT.out _ (by first | exact hTz _ (Below.refl _ _) | exact hTz _ (Below.refl _ _).drew)).mono ?_; rintro e w12 ⟨x1, y1, z1, rfl, _, _, _, P1, P2, P3, bT⟩; have dT : Below w11.heap.size w11 w12 := (by first | exact bT | exact (Below.refl _ _).drew.trans bT))))
      clear hS h_a h_b h_c h_d h_e h_f h_g h_h h_i h_j
      have d13 := d11.trans (dE.mono d11.size)
      replace MR := MR.below dE
      replace CT := CT.below dE
      replace Q1 := Q1.below dE
      replace Q2 := Q2.below dE
      clear hTz hOz O1 O2 O3 P1 P2 P3 MT BT dT bT bE dE
      go_wp2_with fail
      have hRz : ∀ w' : World, Below w13.heap.size w13 w' → RowInt a0 n0 f w' := fun w' b => R0.below (d13.trans (b.mono d13.size))
      have hRy : ∀ w' : World, Below w13.heap.size w13 w' → RowInt a1 n1 g w' := fun w' b => R1.below (d13.trans (b.mono d13.size))
      have hQz : ∀ w' : World, Below w13.heap.size w13 w' → RowInt (some ⟨u, 0, none⟩) n0 f w' := fun w' b => (Q1.below b).row
      have hQy : ∀ w' : World, Below w13.heap.size w13 w' → RowInt (some ⟨v, 0, none⟩) n1 g w' := fun w' b => (Q2.below b).row
      have hS : ∀ w' : World, Below w13.heap.size w13 w' → w'.cell? ⟨w.heap.size + 1, 0, none⟩ = some (.int .i64 pa) ∧ w'.cell? ⟨w.heap.size + 1, 1, none⟩ = some (.int .i64 pl) ∧ w'.cell? ⟨w.heap.size + 1, 2, none⟩ = some (.int .i64 o) ∧ w'.cell? ⟨w.heap.size + 1, 3, none⟩ = some (.slice a0 n0 c0) ∧ w'.cell? ⟨w.heap.size + 1, 4, none⟩ = some (.int .i64 nx) ∧ w'.cell? ⟨w.heap.size + 1, 5, none⟩ = some (.int .i64 md) ∧ w'.cell? ⟨w.heap.size + 1, 6, none⟩ = some (.int .i64 pf) ∧ w'.cell? ⟨w.heap.size + 1, 7, none⟩ = some (.slice a1 n1 c1) ∧ w'.cell? ⟨w9.heap.size, 0, none⟩ = some (.int .i64 pa) ∧ w'.cell? ⟨w9.heap.size, 1, none⟩ = some (.int .i64 pl) ∧ w'.cell? ⟨w9.heap.size, 2, none⟩ = some (.int .i64 o) ∧ w'.cell? ⟨w9.heap.size, 3, none⟩ = some (.slice (some ⟨u, 0, none⟩) n0 n0) ∧ w'.cell? ⟨w9.heap.size, 4, none⟩ = some (.int .i64 nx) ∧ w'.cell? ⟨w9.heap.size, 5, none⟩ = some (.int .i64 md) ∧ w'.cell? ⟨w9.heap.size, 6, none⟩ = some (.int .i64 pf) ∧ w'.cell? ⟨w9.heap.size, 7, none⟩ = some (.slice (some ⟨v, 0, none⟩) n1 n1) := fun w' b => ⟨(MR.below b).2.1 0 _ rfl, (MR.below b).2.1 1 _ rfl, (MR.below b).2.1 2 _ rfl, (MR.below b).2.1 3 _ rfl, (MR.below b).2.1 4 _ rfl, (MR.below b).2.1 5 _ rfl, (MR.below b).2.1 6 _ rfl, (MR.below b).2.1 7 _ rfl, (CT.below b).2.1 0 _ rfl, (CT.below b).2.1 1 _ rfl, (CT.below b).2.1 2 _ rfl, (CT.below b).2.1 3 _ rfl, (CT.below b).2.1 4 _ rfl, (CT.below b).2.1 5 _ rfl, (CT.below b).2.1 6 _ rfl, (CT.below b).2.1 7 _ rfl⟩
      obtain ⟨h_a, h_b, h_c, h_d, h_e, h_f, h_g, h_h, h_i, h_j, h_k, h_l, h_m, h_n, h_o, h_p⟩ := hS w13 (Below.refl _ _)
      go_region_held3 (fun w' => w'.cell? ⟨w.heap.size + 1, 0, none⟩ = some (.int .i64 pa) ∧ w'.cell? ⟨w.heap.size + 1, 1, none⟩ = some (.int .i64 pl) ∧ w'.cell? ⟨w.heap.size + 1, 2, none⟩ = some (.int .i64 o) ∧ w'.cell? ⟨w.heap.size + 1, 3, none⟩ = some (.slice a0 n0 c0) ∧ w'.cell? ⟨w.heap.size + 1, 4, none⟩ = some (.int .i64 nx) ∧ w'.cell? ⟨w.heap.size + 1, 5, none⟩ = some (.int .i64 md) ∧ w'.cell? ⟨w.heap.size + 1, 6, none⟩ = some (.int .i64 pf) ∧ w'.cell? ⟨w.heap.size + 1, 7, none⟩ = some (.slice a1 n1 c1) ∧ w'.cell? ⟨w9.heap.size, 0, none⟩ = some (.int .i64 pa) ∧ w'.cell? ⟨w9.heap.size, 1, none⟩ = some (.int .i64 pl) ∧ w'.cell? ⟨w9.heap.size, 2, none⟩ = some (.int .i64 o) ∧ w'.cell? ⟨w9.heap.size, 3, none⟩ = some (.slice (some ⟨u, 0, none⟩) n0 n0) ∧ w'.cell? ⟨w9.heap.size, 4, none⟩ = some (.int .i64 nx) ∧ w'.cell? ⟨w9.heap.size, 5, none⟩ = some (.int .i64 md) ∧ w'.cell? ⟨w9.heap.size, 6, none⟩ = some (.int .i64 pf) ∧ w'.cell? ⟨w9.heap.size, 7, none⟩ = some (.slice (some ⟨v, 0, none⟩) n1 n1))
        (first | exact hS _ (Below.refl _ _) | exact hS _ (Below.refl _ _).drew | exact hS _ dE | exact hS _ dE.drew | exact hS _ dT | exact hS _ dT.drew | go_keep)
        ((first
          | (have hq0 := dT; go_at_call 15; refine (ER.out _ _ _ _ _ _ _ _ _ (by first | exact hQz _ dT | exact hQz _ dT.drew) (by first | exact hQy _ dT | exact hQy _ dT.drew) (by first | exact S1.row | exact (S1.below (Below.refl _ _).drew).row) (by first | exact S2.row | exact (S2.below (Below.refl _ _).drew).row)).mono ?_; rintro e w15 ⟨rfl, bE⟩; have dE : Below w13.heap.size w13 w15 := (by first | exact below_step dT bE | exact below_step dT.drew bE))
          | (go_at_call 12; refine (TR.out _ (by first | exact hRz _ (Below.refl _ _) | exact hRz _ (Below.refl _ _).drew) (by first | exact hRy _ (Below.refl _ _) | exact hRy _ (Below.refl _ _).drew)).mono ?_; rintro e w14 ⟨u1, v1, rfl, _, _, S1, S2, bT⟩; have dT : Below w13.heap.size w13 w14 := (by first | exact bT | exact (Below.refl _ _).drew.trans bT))))
      clear hS h_a h_b h_c h_d h_e h_f h_g h_h h_i h_j h_k h_l h_m h_n h_o h_p
      have d15 := d13.trans (dE.mono d13.size)
      go_wp2_with fail
      go_ret
      exact ⟨rfl, d15⟩
    · rw [if_neg hs2] at SZ2
      go_enter Tryz.func3, Tryz.ntmps3
      go_wp2_with fail
      generalize (w.alloc (.cells #[.slice ra t.nr rc, .slice qa t.np qc, .int .i64 t.cm, .slice aa t.na ac, .int .i64 t.vd] 26)).alloc (.cells #[.int .i64 pa, .int .i64 pl, .int .i64 o, .slice a0 n0 c0, .int .i64 nx, .int .i64 md, .int .i64 pf, .slice a1 n1 c1] 33) = w1 at *
      refine (SZ.out _).mono ?_
      rintro e w2 ⟨rfl, b2⟩
      have d2 := d0.trans (b2.mono d0.size)
      replace MR := MR.below b2
      have v0 := MR.2.1 0 _ rfl
      have v1 := MR.2.1 1 _ rfl
      have v2 := MR.2.1 2 _ rfl
      have v3 := MR.2.1 3 _ rfl
      have v4 := MR.2.1 4 _ rfl
      have v5 := MR.2.1 5 _ rfl
      have v6 := MR.2.1 6 _ rfl
      have v7 := MR.2.1 7 _ rfl
      go_wp2_with fail
      refine (SZ2.out _).mono ?_
      rintro e w3 ⟨rfl, b3⟩
      have d3 := d2.trans (b3.mono d2.size)
      go_wp2_with fail
      go_ret
      exact ⟨rfl, d3⟩
  · rw [if_neg hs] at SZ
    go_enter Tryz.func3, Tryz.ntmps3
    go_wp2_with fail
    generalize (w.alloc (.cells #[.slice ra t.nr rc, .slice qa t.np qc, .int .i64 t.cm, .slice aa t.na ac, .int .i64 t.vd] 26)).alloc (.cells #[.int .i64 pa, .int .i64 pl, .int .i64 o, .slice a0 n0 c0, .int .i64 nx, .int .i64 md, .int .i64 pf, .slice a1 n1 c1] 33) = w1 at *
    refine (SZ.out _).mono ?_
    rintro e w2 ⟨rfl, b2⟩
    have d2 := d0.trans (b2.mono d0.size)
    go_wp2_with fail
    go_ret
    exact ⟨rfl, d2⟩
end Go.Proofs.YtocgghhlfmgndaaGreat
