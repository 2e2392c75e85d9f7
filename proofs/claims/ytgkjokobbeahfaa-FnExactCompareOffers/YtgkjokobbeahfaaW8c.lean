/- The law on CompareOffers: the program answers as the specification. -/
import Derived.Test.YtgkjokobbeahfaaLawO
import Derived.Test.YtgkjokobbeahfaaC8
import Derived.Deep.RegionHeld3
namespace Go.Proofs.Ytgkjokobbeahfaa
open Go.RowKit

theorem OutOf.row {x y : Nat} {t : Oc} {w : World} (h1 : OutInt x t.n0 t.n0 t.f w) (h2 : OutInt y t.n1 t.n1 t.g w) : OfIn (some ⟨x, 0, none⟩) (some ⟨y, 0, none⟩) t w := ⟨h1.row, h2.row⟩
set_option maxRecDepth 100000 in
set_option maxHeartbeats 6400000 in
theorem w_compareOffers (a0 : Option Addr) (c0 : Nat) (a1 : Option Addr) (c1 : Nat) (t : Oc) (b0 : Option Addr) (e0 : Nat) (b1 : Option Addr) (e1 : Nat) (u : Oc) (w : World) (h0 : t.n0 ≤ maxLen) (h1 : t.n1 ≤ maxLen) (hT : OfIn a0 a1 t w) (h2 : u.n0 ≤ maxLen) (h3 : u.n1 ≤ maxLen) (hU : OfIn b0 b1 u w) :
    Calls Try.prog 4 #[.agg #[.int .i64 t.pe, .int .i64 t.o, .slice a0 t.n0 c0, .int .i64 t.nx, .int .i64 t.md, .int .i64 t.pf, .slice a1 t.n1 c1], .agg #[.int .i64 u.pe, .int .i64 u.o, .slice b0 u.n0 e0, .int .i64 u.nx, .int .i64 u.md, .int .i64 u.pf, .slice b1 u.n1 e1]] w fun e w' => e = .returned (.bool true) ∧ Below w.heap.size w w' := by
  have SZ := hide (fun w => w_szOffer a0 c0 a1 c1 t 1048576 w h0 h1 (by omega) (by omega))
  have MT := (Mut.new w #[.int .i64 t.pe, .int .i64 t.o, .slice a0 t.n0 c0, .int .i64 t.nx, .int .i64 t.md, .int .i64 t.pf, .slice a1 t.n1 c1] 33).alloc (.cells #[.int .i64 u.pe, .int .i64 u.o, .slice b0 u.n0 e0, .int .i64 u.nx, .int .i64 u.md, .int .i64 u.pf, .slice b1 u.n1 e1] 33)
  have MR := Mut.new (w.alloc (.cells #[.int .i64 t.pe, .int .i64 t.o, .slice a0 t.n0 c0, .int .i64 t.nx, .int .i64 t.md, .int .i64 t.pf, .slice a1 t.n1 c1] 33)) #[.int .i64 u.pe, .int .i64 u.o, .slice b0 u.n0 e0, .int .i64 u.nx, .int .i64 u.md, .int .i64 u.pf, .slice b1 u.n1 e1] 33
  have d0 : Below w.heap.size w ((w.alloc (.cells #[.int .i64 t.pe, .int .i64 t.o, .slice a0 t.n0 c0, .int .i64 t.nx, .int .i64 t.md, .int .i64 t.pf, .slice a1 t.n1 c1] 33)).alloc (.cells #[.int .i64 u.pe, .int .i64 u.o, .slice b0 u.n0 e0, .int .i64 u.nx, .int .i64 u.md, .int .i64 u.pf, .slice b1 u.n1 e1] 33)) := below_box2 (Below.refl _ _)
  rw [World.size_alloc] at MR
  have ht : t.tot = t.n0 + t.n1 := rfl
  have hu : u.tot = u.n0 + u.n1 := rfl
  by_cases hs : (t.tot : Int) ≤ 1048576
  · rw [if_pos hs] at SZ
    have q1 : ¬ (1048576 - (t.tot : Int) < 0) := by omega
    have SZ2 := hide (fun w => w_szOffer b0 e0 b1 e1 u (1048576 - (t.tot : Int)) w h2 h3 (by omega) (by omega))
    by_cases hs2 : (u.tot : Int) ≤ 1048576 - (t.tot : Int)
    · rw [if_pos hs2] at SZ2
      have q2 : ¬ (1048576 - (t.tot : Int) - (u.tot : Int) < 0) := by omega
      have TT := hide (fun w hT => w_toOffer a0 c0 a1 c1 t w (by omega) (by omega) hT)
      have TR := hide (fun w hU => w_toOffer b0 e0 b1 e1 u w (by omega) (by omega) hU)
      have ET := hide (fun a0 b0 c0 e0 a1 b1 c1 e1 w R Q => w_eqOffer a0 b0 c0 e0 a1 b1 c1 e1 t w (by omega) (by omega) R Q)
      have ER := hide (fun a0 b0 c0 e0 a1 b1 c1 e1 w R Q => w_eqOffer a0 b0 c0 e0 a1 b1 c1 e1 u w (by omega) (by omega) R Q)
      have S := hide (fun a0 c0 a1 c1 b0 e0 b1 e1 w hT hU => s_cmpOffers a0 c0 a1 c1 t b0 e0 b1 e1 u w (by omega) (by omega) (by omega) (by omega) hT hU)
      have I := hide (fun a0 c0 a1 c1 b0 e0 b1 e1 w hT hU => i_cmpOffers a0 c0 a1 c1 t b0 e0 b1 e1 u w (by omega) (by omega) (by omega) (by omega) hT hU)
      generalize cmV t u = r0 at S I
      generalize cmK t u = r1 at S I
      have k0 : (r0 != r0) = false := by simp
      have k1 : (r1 != r1) = false := by simp
      generalize t.tot = tt at *
      generalize u.tot = tu at *
      clear h0 h1 h2 h3 hs hs2 ht hu
      go_enter Try.func4, Try.ntmps4
      go_wp2_with fail
      generalize (w.alloc (.cells #[.int .i64 t.pe, .int .i64 t.o, .slice a0 t.n0 c0, .int .i64 t.nx, .int .i64 t.md, .int .i64 t.pf, .slice a1 t.n1 c1] 33)).alloc (.cells #[.int .i64 u.pe, .int .i64 u.o, .slice b0 u.n0 e0, .int .i64 u.nx, .int .i64 u.md, .int .i64 u.pf, .slice b1 u.n1 e1] 33) = w1 at *
      refine (SZ.out _).mono ?_
      rintro e w2 ⟨rfl, b2⟩
      have d2 := d0.trans (b2.mono d0.size)
      replace MT := MT.below b2
      replace MR := MR.below b2
      clear b2 d0
      have u0 := MT.2.1 0 _ rfl
      have u1 := MT.2.1 1 _ rfl
      have u2 := MT.2.1 2 _ rfl
      have u3 := MT.2.1 3 _ rfl
      have u4 := MT.2.1 4 _ rfl
      have u5 := MT.2.1 5 _ rfl
      have u6 := MT.2.1 6 _ rfl
      have v0 := MR.2.1 0 _ rfl
      have v1 := MR.2.1 1 _ rfl
      have v2 := MR.2.1 2 _ rfl
      have v3 := MR.2.1 3 _ rfl
      have v4 := MR.2.1 4 _ rfl
      have v5 := MR.2.1 5 _ rfl
      have v6 := MR.2.1 6 _ rfl
      go_wp2_with fail
      refine (SZ2.out _).mono ?_
      rintro e w3 ⟨rfl, b3⟩
      have d3 := d2.trans (b3.mono d2.size)
      replace MT := MT.below b3
      replace MR := MR.below b3
      clear u0 u1 u2 u3 u4 u5 u6 v0 v1 v2 v3 v4 v5 v6
      have u0 := MT.2.1 0 _ rfl
      have u1 := MT.2.1 1 _ rfl
      have u2 := MT.2.1 2 _ rfl
      have u3 := MT.2.1 3 _ rfl
      have u4 := MT.2.1 4 _ rfl
      have u5 := MT.2.1 5 _ rfl
      have u6 := MT.2.1 6 _ rfl
      have v0 := MR.2.1 0 _ rfl
      have v1 := MR.2.1 1 _ rfl
      have v2 := MR.2.1 2 _ rfl
      have v3 := MR.2.1 3 _ rfl
      have v4 := MR.2.1 4 _ rfl
      have v5 := MR.2.1 5 _ rfl
      have v6 := MR.2.1 6 _ rfl
      go_wp2_with fail
      have hTz : ∀ w' : World, Below w3.heap.size w3 w' → OfIn a0 a1 t w' := fun w' b => hT.below (d3.trans (b.mono d3.size))
      have hRz : ∀ w' : World, Below w3.heap.size w3 w' → OfIn b0 b1 u w' := fun w' b => hU.below (d3.trans (b.mono d3.size))
      have hS : ∀ w' : World, Below w3.heap.size w3 w' → w'.cell? ⟨w.heap.size, 0, none⟩ = some (.int .i64 t.pe) ∧ w'.cell? ⟨w.heap.size, 1, none⟩ = some (.int .i64 t.o) ∧ w'.cell? ⟨w.heap.size, 2, none⟩ = some (.slice a0 t.n0 c0) ∧ w'.cell? ⟨w.heap.size, 3, none⟩ = some (.int .i64 t.nx) ∧ w'.cell? ⟨w.heap.size, 4, none⟩ = some (.int .i64 t.md) ∧ w'.cell? ⟨w.heap.size, 5, none⟩ = some (.int .i64 t.pf) ∧ w'.cell? ⟨w.heap.size, 6, none⟩ = some (.slice a1 t.n1 c1) ∧ w'.cell? ⟨w.heap.size + 1, 0, none⟩ = some (.int .i64 u.pe) ∧ w'.cell? ⟨w.heap.size + 1, 1, none⟩ = some (.int .i64 u.o) ∧ w'.cell? ⟨w.heap.size + 1, 2, none⟩ = some (.slice b0 u.n0 e0) ∧ w'.cell? ⟨w.heap.size + 1, 3, none⟩ = some (.int .i64 u.nx) ∧ w'.cell? ⟨w.heap.size + 1, 4, none⟩ = some (.int .i64 u.md) ∧ w'.cell? ⟨w.heap.size + 1, 5, none⟩ = some (.int .i64 u.pf) ∧ w'.cell? ⟨w.heap.size + 1, 6, none⟩ = some (.slice b1 u.n1 e1) := fun w' b => ⟨(MT.below b).2.1 0 _ rfl, (MT.below b).2.1 1 _ rfl, (MT.below b).2.1 2 _ rfl, (MT.below b).2.1 3 _ rfl, (MT.below b).2.1 4 _ rfl, (MT.below b).2.1 5 _ rfl, (MT.below b).2.1 6 _ rfl, (MR.below b).2.1 0 _ rfl, (MR.below b).2.1 1 _ rfl, (MR.below b).2.1 2 _ rfl, (MR.below b).2.1 3 _ rfl, (MR.below b).2.1 4 _ rfl, (MR.below b).2.1 5 _ rfl, (MR.below b).2.1 6 _ rfl⟩
      obtain ⟨h_a, h_b, h_c, h_d, h_e, h_f, h_g, h_h, h_i, h_j, h_k, h_l, h_m, h_n⟩ := hS w3 (Below.refl _ _)
      go_region_held3 (fun w' => w'.cell? ⟨w.heap.size, 0, none⟩ = some (.int .i64 t.pe) ∧ w'.cell? ⟨w.heap.size, 1, none⟩ = some (.int .i64 t.o) ∧ w'.cell? ⟨w.heap.size, 2, none⟩ = some (.slice a0 t.n0 c0) ∧ w'.cell? ⟨w.heap.size, 3, none⟩ = some (.int .i64 t.nx) ∧ w'.cell? ⟨w.heap.size, 4, none⟩ = some (.int .i64 t.md) ∧ w'.cell? ⟨w.heap.size, 5, none⟩ = some (.int .i64 t.pf) ∧ w'.cell? ⟨w.heap.size, 6, none⟩ = some (.slice a1 t.n1 c1) ∧ w'.cell? ⟨w.heap.size + 1, 0, none⟩ = some (.int .i64 u.pe) ∧ w'.cell? ⟨w.heap.size + 1, 1, none⟩ = some (.int .i64 u.o) ∧ w'.cell? ⟨w.heap.size + 1, 2, none⟩ = some (.slice b0 u.n0 e0) ∧ w'.cell? ⟨w.heap.size + 1, 3, none⟩ = some (.int .i64 u.nx) ∧ w'.cell? ⟨w.heap.size + 1, 4, none⟩ = some (.int .i64 u.md) ∧ w'.cell? ⟨w.heap.size + 1, 5, none⟩ = some (.int .i64 u.pf) ∧ w'.cell? ⟨w.heap.size + 1, 6, none⟩ = some (.slice b1 u.n1 e1))
        (first | exact hS _ (Below.refl _ _) | exact hS _ (Below.refl _ _).drew | exact hS _ dS | exact hS _ dS.drew | exact hS _ dR | exact hS _ dR.drew | exact hS _ dT | exact hS _ dT.drew | go_keep)
        ((first
          | (have hq0 := dR; go_at_call 20; refine (S.out _ _ _ _ _ _ _ _ _ (by first | exact hOT | exact hOT.below (Below.refl _ _).drew) (by first | exact OutOf.row Q1 Q2 | exact (OutOf.row Q1 Q2).below (Below.refl _ _).drew)).mono ?_; rintro e w6 ⟨rfl, bS⟩; have dS : Below w3.heap.size w3 w6 := (by first | exact below_step dR bS | exact below_step dR.drew bS))
          | (have hq0 := dT; go_at_call 21; refine (TR.out _ (by first | exact hRz _ dT | exact hRz _ dT.drew)).mono ?_; rintro e w5 ⟨us, vs, rfl, _, _, Q1, Q2, bR⟩; have dR : Below w3.heap.size w3 w5 := (by first | exact below_step dT bR | exact below_step dT.drew bR); have hOT := (OutOf.row O1 O2).below (show Below w4.heap.size w4 w5 from (by first | exact bR | exact (Below.refl _ _).drew.trans bR)))
          | (go_at_call 21; refine (TT.out _ (by first | exact hTz _ (Below.refl _ _) | exact hTz _ (Below.refl _ _).drew)).mono ?_; rintro e w4 ⟨xs, ys, rfl, _, _, O1, O2, bT⟩; have dT : Below w3.heap.size w3 w4 := (by first | exact bT | exact (Below.refl _ _).drew.trans bT))))
      clear hS h_a h_b h_c h_d h_e h_f h_g h_h h_i h_j h_k h_l h_m h_n
      have d6 := d3.trans (dS.mono d3.size)
      replace MT := MT.below dS
      replace MR := MR.below dS
      clear hTz hRz hOT O1 O2 Q1 Q2 dR dT bS bR bT dS
      clear u0 u1 u2 u3 u4 u5 u6 v0 v1 v2 v3 v4 v5 v6
      have u0 := MT.2.1 0 _ rfl
      have u1 := MT.2.1 1 _ rfl
      have u2 := MT.2.1 2 _ rfl
      have u3 := MT.2.1 3 _ rfl
      have u4 := MT.2.1 4 _ rfl
      have u5 := MT.2.1 5 _ rfl
      have u6 := MT.2.1 6 _ rfl
      have v0 := MR.2.1 0 _ rfl
      have v1 := MR.2.1 1 _ rfl
      have v2 := MR.2.1 2 _ rfl
      have v3 := MR.2.1 3 _ rfl
      have v4 := MR.2.1 4 _ rfl
      have v5 := MR.2.1 5 _ rfl
      have v6 := MR.2.1 6 _ rfl
      go_wp2_with fail
      refine (TT.out _ (hT.below d6)).mono ?_
      rintro e w7 ⟨x, y, rfl, _, _, O1, O2, b7⟩
      have d7 := d6.trans (b7.mono d6.size)
      replace MT := MT.below b7
      replace MR := MR.below b7
      clear u0 u1 u2 u3 u4 u5 u6 v0 v1 v2 v3 v4 v5 v6
      have u0 := MT.2.1 0 _ rfl
      have u1 := MT.2.1 1 _ rfl
      have u2 := MT.2.1 2 _ rfl
      have u3 := MT.2.1 3 _ rfl
      have u4 := MT.2.1 4 _ rfl
      have u5 := MT.2.1 5 _ rfl
      have u6 := MT.2.1 6 _ rfl
      have v0 := MR.2.1 0 _ rfl
      have v1 := MR.2.1 1 _ rfl
      have v2 := MR.2.1 2 _ rfl
      have v3 := MR.2.1 3 _ rfl
      have v4 := MR.2.1 4 _ rfl
      have v5 := MR.2.1 5 _ rfl
      have v6 := MR.2.1 6 _ rfl
      clear b3 d2 d3 d6
      have bb : Below w7.heap.size w7 (w7.alloc (.cells #[.int .i64 t.pe, .int .i64 t.o, .slice (some ⟨x, 0, none⟩) t.n0 t.n0, .int .i64 t.nx, .int .i64 t.md, .int .i64 t.pf, .slice (some ⟨y, 0, none⟩) t.n1 t.n1] 39)) := below_box (Below.refl _ _)
      have BT := Mut.new w7 #[.int .i64 t.pe, .int .i64 t.o, .slice (some ⟨x, 0, none⟩) t.n0 t.n0, .int .i64 t.nx, .int .i64 t.md, .int .i64 t.pf, .slice (some ⟨y, 0, none⟩) t.n1 t.n1] 39
      have d8 := d7.trans (bb.mono d7.size)
      replace MT := MT.below bb
      replace MR := MR.below bb
      replace O1 := O1.below bb
      replace O2 := O2.below bb
      have p0 := MR.2.1 0 _ rfl
      have p1 := MR.2.1 1 _ rfl
      have p2 := MR.2.1 2 _ rfl
      have p3 := MR.2.1 3 _ rfl
      have p4 := MR.2.1 4 _ rfl
      have p5 := MR.2.1 5 _ rfl
      have p6 := MR.2.1 6 _ rfl
      go_wp2_with fail
      generalize w7.alloc (.cells #[.int .i64 t.pe, .int .i64 t.o, .slice (some ⟨x, 0, none⟩) t.n0 t.n0, .int .i64 t.nx, .int .i64 t.md, .int .i64 t.pf, .slice (some ⟨y, 0, none⟩) t.n1 t.n1] 39) = w8 at *
      clear bb p0 p1 p2 p3 p4 p5 p6
      refine (TR.out _ (hU.below d8)).mono ?_
      rintro e w9 ⟨z, v, rfl, _, _, Q1, Q2, b9⟩
      have d9 := d8.trans (b9.mono d8.size)
      replace MT := MT.below b9
      replace MR := MR.below b9
      replace O1 := O1.below b9
      replace O2 := O2.below b9
      replace BT := BT.below b9
      clear u0 u1 u2 u3 u4 u5 u6 v0 v1 v2 v3 v4 v5 v6
      have s0 := BT.2.1 0 _ rfl
      have s1 := BT.2.1 1 _ rfl
      have s2 := BT.2.1 2 _ rfl
      have s3 := BT.2.1 3 _ rfl
      have s4 := BT.2.1 4 _ rfl
      have s5 := BT.2.1 5 _ rfl
      have s6 := BT.2.1 6 _ rfl
      have hne : w7.heap.size < w9.heap.size := BT.1
      have bb : Below w9.heap.size w9 (w9.alloc (.cells #[.int .i64 u.pe, .int .i64 u.o, .slice (some ⟨z, 0, none⟩) u.n0 u.n0, .int .i64 u.nx, .int .i64 u.md, .int .i64 u.pf, .slice (some ⟨v, 0, none⟩) u.n1 u.n1] 39)) := below_box (Below.refl _ _)
      have CT := Mut.new w9 #[.int .i64 u.pe, .int .i64 u.o, .slice (some ⟨z, 0, none⟩) u.n0 u.n0, .int .i64 u.nx, .int .i64 u.md, .int .i64 u.pf, .slice (some ⟨v, 0, none⟩) u.n1 u.n1] 39
      have d10 := d9.trans (bb.mono d9.size)
      replace MT := MT.below bb
      replace MR := MR.below bb
      replace O1 := O1.below bb
      replace O2 := O2.below bb
      replace BT := BT.below bb
      replace Q1 := Q1.below bb
      replace Q2 := Q2.below bb
      have j0 := BT.2.1 0 _ rfl
      have j1 := BT.2.1 1 _ rfl
      have j2 := BT.2.1 2 _ rfl
      have j3 := BT.2.1 3 _ rfl
      have j4 := BT.2.1 4 _ rfl
      have j5 := BT.2.1 5 _ rfl
      have j6 := BT.2.1 6 _ rfl
      go_wp2_with fail
      generalize w9.alloc (.cells #[.int .i64 u.pe, .int .i64 u.o, .slice (some ⟨z, 0, none⟩) u.n0 u.n0, .int .i64 u.nx, .int .i64 u.md, .int .i64 u.pf, .slice (some ⟨v, 0, none⟩) u.n1 u.n1] 39) = w10 at *
      clear bb j0 j1 j2 j3 j4 j5 j6 s0 s1 s2 s3 s4 s5 s6
      refine (I.out _ _ _ _ _ _ _ _ _ (OutOf.row O1 O2) (OutOf.row Q1 Q2)).mono ?_
      rintro e w11 ⟨rfl, b11⟩
      have d11 := d10.trans (b11.mono d10.size)
      replace MT := MT.below b11
      replace MR := MR.below b11
      replace O1 := O1.below b11
      replace O2 := O2.below b11
      replace BT := BT.below b11
      replace CT := CT.below b11
      replace Q1 := Q1.below b11
      replace Q2 := Q2.below b11
      have u0 := MT.2.1 0 _ rfl
      have u1 := MT.2.1 1 _ rfl
      have u2 := MT.2.1 2 _ rfl
      have u3 := MT.2.1 3 _ rfl
      have u4 := MT.2.1 4 _ rfl
      have u5 := MT.2.1 5 _ rfl
      have u6 := MT.2.1 6 _ rfl
      have v0 := MR.2.1 0 _ rfl
      have v1 := MR.2.1 1 _ rfl
      have v2 := MR.2.1 2 _ rfl
      have v3 := MR.2.1 3 _ rfl
      have v4 := MR.2.1 4 _ rfl
      have v5 := MR.2.1 5 _ rfl
      have v6 := MR.2.1 6 _ rfl
      have s0 := BT.2.1 0 _ rfl
      have s1 := BT.2.1 1 _ rfl
      have s2 := BT.2.1 2 _ rfl
      have s3 := BT.2.1 3 _ rfl
      have s4 := BT.2.1 4 _ rfl
      have s5 := BT.2.1 5 _ rfl
      have s6 := BT.2.1 6 _ rfl
      have j0 := CT.2.1 0 _ rfl
      have j1 := CT.2.1 1 _ rfl
      have j2 := CT.2.1 2 _ rfl
      have j3 := CT.2.1 3 _ rfl
      have j4 := CT.2.1 4 _ rfl
      have j5 := CT.2.1 5 _ rfl
      have j6 := CT.2.1 6 _ rfl
      go_wp2_with fail
      clear u0 u1 u2 u3 u4 u5 u6 v0 v1 v2 v3 v4 v5 v6 s0 s1 s2 s3 s4 s5 s6 j0 j1 j2 j3 j4 j5 j6
      have hTz : ∀ w' : World, Below w11.heap.size w11 w' → OfIn a0 a1 t w' := fun w' b => hT.below (d11.trans (b.mono d11.size))
      have hOz : ∀ w' : World, Below w11.heap.size w11 w' → OfIn (some ⟨x, 0, none⟩) (some ⟨y, 0, none⟩) t w' := fun w' b => (OutOf.row O1 O2).below b
      have hS : ∀ w' : World, Below w11.heap.size w11 w' → w'.cell? ⟨w.heap.size, 0, none⟩ = some (.int .i64 t.pe) ∧ w'.cell? ⟨w.heap.size, 1, none⟩ = some (.int .i64 t.o) ∧ w'.cell? ⟨w.heap.size, 2, none⟩ = some (.slice a0 t.n0 c0) ∧ w'.cell? ⟨w.heap.size, 3, none⟩ = some (.int .i64 t.nx) ∧ w'.cell? ⟨w.heap.size, 4, none⟩ = some (.int .i64 t.md) ∧ w'.cell? ⟨w.heap.size, 5, none⟩ = some (.int .i64 t.pf) ∧ w'.cell? ⟨w.heap.size, 6, none⟩ = some (.slice a1 t.n1 c1) ∧ w'.cell? ⟨w7.heap.size, 0, none⟩ = some (.int .i64 t.pe) ∧ w'.cell? ⟨w7.heap.size, 1, none⟩ = some (.int .i64 t.o) ∧ w'.cell? ⟨w7.heap.size, 2, none⟩ = some (.slice (some ⟨x, 0, none⟩) t.n0 t.n0) ∧ w'.cell? ⟨w7.heap.size, 3, none⟩ = some (.int .i64 t.nx) ∧ w'.cell? ⟨w7.heap.size, 4, none⟩ = some (.int .i64 t.md) ∧ w'.cell? ⟨w7.heap.size, 5, none⟩ = some (.int .i64 t.pf) ∧ w'.cell? ⟨w7.heap.size, 6, none⟩ = some (.slice (some ⟨y, 0, none⟩) t.n1 t.n1) := fun w' b => ⟨(MT.below b).2.1 0 _ rfl, (MT.below b).2.1 1 _ rfl, (MT.below b).2.1 2 _ rfl, (MT.below b).2.1 3 _ rfl, (MT.below b).2.1 4 _ rfl, (MT.below b).2.1 5 _ rfl, (MT.below b).2.1 6 _ rfl, (BT.below b).2.1 0 _ rfl, (BT.below b).2.1 1 _ rfl, (BT.below b).2.1 2 _ rfl, (BT.below b).2.1 3 _ rfl, (BT.below b).2.1 4 _ rfl, (BT.below b).2.1 5 _ rfl, (BT.below b).2.1 6 _ rfl⟩
      obtain ⟨h_a, h_b, h_c, h_d, h_e, h_f, h_g, h_h, h_i, h_j, h_k, h_l, h_m, h_n⟩ := hS w11 (Below.refl _ _)
      go_region_held3 (fun w' => w'.cell? ⟨w.heap.size, 0, none⟩ = some (.int .i64 t.pe) ∧ w'.cell? ⟨w.heap.size, 1, none⟩ = some (.int .i64 t.o) ∧ w'.cell? ⟨w.heap.size, 2, none⟩ = some (.slice a0 t.n0 c0) ∧ w'.cell? ⟨w.heap.size, 3, none⟩ = some (.int .i64 t.nx) ∧ w'.cell? ⟨w.heap.size, 4, none⟩ = some (.int .i64 t.md) ∧ w'.cell? ⟨w.heap.size, 5, none⟩ = some (.int .i64 t.pf) ∧ w'.cell? ⟨w.heap.size, 6, none⟩ = some (.slice a1 t.n1 c1) ∧ w'.cell? ⟨w7.heap.size, 0, none⟩ = some (.int .i64 t.pe) ∧ w'.cell? ⟨w7.heap.size, 1, none⟩ = some (.int .i64 t.o) ∧ w'.cell? ⟨w7.heap.size, 2, none⟩ = some (.slice (some ⟨x, 0, none⟩) t.n0 t.n0) ∧ w'.cell? ⟨w7.heap.size, 3, none⟩ = some (.int .i64 t.nx) ∧ w'.cell? ⟨w7.heap.size, 4, none⟩ = some (.int .i64 t.md) ∧ w'.cell? ⟨w7.heap.size, 5, none⟩ = some (.int .i64 t.pf) ∧ w'.cell? ⟨w7.heap.size, 6, none⟩ = some (.slice (some ⟨y, 0, none⟩) t.n1 t.n1))
        (first | exact hS _ (Below.refl _ _) | exact hS _ (Below.refl _ _).drew | exact hS _ dE | exact hS _ dE.drew | exact hS _ dT | exact hS _ dT.drew | go_keep)
        ((first
          | (have hq0 := dT; go_at_call 23; refine (ET.out _ _ _ _ _ _ _ _ _ (by first | exact hOz _ dT | exact hOz _ dT.drew) (by first | exact OutOf.row P1 P2 | exact (OutOf.row P1 P2).below (Below.refl _ _).drew)).mono ?_; rintro e w13 ⟨rfl, bE⟩; have dE : Below w11.heap.size w11 w13 := (by first | exact below_step dT bE | exact below_step dT.drew bE))
          | (go_at_call 21; refine (TT.out _ (by first | exact hTz _ (Below.refl _ _) | exact hTz _ (Below.refl _ _).drew)).mono ?_; rintro e w12 ⟨x1, y1, rfl, _, _, P1, P2, bT⟩; have dT : Below w11.heap.size w11 w12 := (by first | exact bT | exact (Below.refl _ _).drew.trans bT))))
      clear hS h_a h_b h_c h_d h_e h_f h_g h_h h_i h_j h_k h_l h_m h_n
      have d13 := d11.trans (dE.mono d11.size)
      replace MR := MR.below dE
      replace CT := CT.below dE
      replace Q1 := Q1.below dE
      replace Q2 := Q2.below dE
      clear hTz hOz O1 O2 P1 P2 MT BT dT bT bE dE
      go_wp2_with fail
      have hRz : ∀ w' : World, Below w13.heap.size w13 w' → OfIn b0 b1 u w' := fun w' b => hU.below (d13.trans (b.mono d13.size))
      have hQz : ∀ w' : World, Below w13.heap.size w13 w' → OfIn (some ⟨z, 0, none⟩) (some ⟨v, 0, none⟩) u w' := fun w' b => (OutOf.row Q1 Q2).below b
      have hS : ∀ w' : World, Below w13.heap.size w13 w' → w'.cell? ⟨w.heap.size + 1, 0, none⟩ = some (.int .i64 u.pe) ∧ w'.cell? ⟨w.heap.size + 1, 1, none⟩ = some (.int .i64 u.o) ∧ w'.cell? ⟨w.heap.size + 1, 2, none⟩ = some (.slice b0 u.n0 e0) ∧ w'.cell? ⟨w.heap.size + 1, 3, none⟩ = some (.int .i64 u.nx) ∧ w'.cell? ⟨w.heap.size + 1, 4, none⟩ = some (.int .i64 u.md) ∧ w'.cell? ⟨w.heap.size + 1, 5, none⟩ = some (.int .i64 u.pf) ∧ w'.cell? ⟨w.heap.size + 1, 6, none⟩ = some (.slice b1 u.n1 e1) ∧ w'.cell? ⟨w9.heap.size, 0, none⟩ = some (.int .i64 u.pe) ∧ w'.cell? ⟨w9.heap.size, 1, none⟩ = some (.int .i64 u.o) ∧ w'.cell? ⟨w9.heap.size, 2, none⟩ = some (.slice (some ⟨z, 0, none⟩) u.n0 u.n0) ∧ w'.cell? ⟨w9.heap.size, 3, none⟩ = some (.int .i64 u.nx) ∧ w'.cell? ⟨w9.heap.size, 4, none⟩ = some (.int .i64 u.md) ∧ w'.cell? ⟨w9.heap.size, 5, none⟩ = some (.int .i64 u.pf) ∧ w'.cell? ⟨w9.heap.size, 6, none⟩ = some (.slice (some ⟨v, 0, none⟩) u.n1 u.n1) := fun w' b => ⟨(MR.below b).2.1 0 _ rfl, (MR.below b).2.1 1 _ rfl, (MR.below b).2.1 2 _ rfl, (MR.below b).2.1 3 _ rfl, (MR.below b).2.1 4 _ rfl, (MR.below b).2.1 5 _ rfl, (MR.below b).2.1 6 _ rfl, (CT.below b).2.1 0 _ rfl, (CT.below b).2.1 1 _ rfl, (CT.below b).2.1 2 _ rfl, (CT.below b).2.1 3 _ rfl, (CT.below b).2.1 4 _ rfl, (CT.below b).2.1 5 _ rfl, (CT.below b).2.1 6 _ rfl⟩
      obtain ⟨h_a, h_b, h_c, h_d, h_e, h_f, h_g, h_h, h_i, h_j, h_k, h_l, h_m, h_n⟩ := hS w13 (Below.refl _ _)
      go_region_held3 (fun w' => w'.cell? ⟨w.heap.size + 1, 0, none⟩ = some (.int .i64 u.pe) ∧ w'.cell? ⟨w.heap.size + 1, 1, none⟩ = some (.int .i64 u.o) ∧ w'.cell? ⟨w.heap.size + 1, 2, none⟩ = some (.slice b0 u.n0 e0) ∧ w'.cell? ⟨w.heap.size + 1, 3, none⟩ = some (.int .i64 u.nx) ∧ w'.cell? ⟨w.heap.size + 1, 4, none⟩ = some (.int .i64 u.md) ∧ w'.cell? ⟨w.heap.size + 1, 5, none⟩ = some (.int .i64 u.pf) ∧ w'.cell? ⟨w.heap.size + 1, 6, none⟩ = some (.slice b1 u.n1 e1) ∧ w'.cell? ⟨w9.heap.size, 0, none⟩ = some (.int .i64 u.pe) ∧ w'.cell? ⟨w9.heap.size, 1, none⟩ = some (.int .i64 u.o) ∧ w'.cell? ⟨w9.heap.size, 2, none⟩ = some (.slice (some ⟨z, 0, none⟩) u.n0 u.n0) ∧ w'.cell? ⟨w9.heap.size, 3, none⟩ = some (.int .i64 u.nx) ∧ w'.cell? ⟨w9.heap.size, 4, none⟩ = some (.int .i64 u.md) ∧ w'.cell? ⟨w9.heap.size, 5, none⟩ = some (.int .i64 u.pf) ∧ w'.cell? ⟨w9.heap.size, 6, none⟩ = some (.slice (some ⟨v, 0, none⟩) u.n1 u.n1))
        (first | exact hS _ (Below.refl _ _) | exact hS _ (Below.refl _ _).drew | exact hS _ dE | exact hS _ dE.drew | exact hS _ dT | exact hS _ dT.drew | go_keep)
        ((first
          | (have hq0 := dT; go_at_call 23; refine (ER.out _ _ _ _ _ _ _ _ _ (by first | exact hQz _ dT | exact hQz _ dT.drew) (by first | exact OutOf.row S1 S2 | exact (OutOf.row S1 S2).below (Below.refl _ _).drew)).mono ?_; rintro e w15 ⟨rfl, bE⟩; have dE : Below w13.heap.size w13 w15 := (by first | exact below_step dT bE | exact below_step dT.drew bE))
          | (go_at_call 21; refine (TR.out _ (by first | exact hRz _ (Below.refl _ _) | exact hRz _ (Below.refl _ _).drew)).mono ?_; rintro e w14 ⟨u1, v1, rfl, _, _, S1, S2, bT⟩; have dT : Below w13.heap.size w13 w14 := (by first | exact bT | exact (Below.refl _ _).drew.trans bT))))
      clear hS h_a h_b h_c h_d h_e h_f h_g h_h h_i h_j h_k h_l h_m h_n
      have d15 := d13.trans (dE.mono d13.size)
      go_wp2_with fail
      go_ret
      exact ⟨rfl, d15⟩
    · rw [if_neg hs2] at SZ2
      go_enter Try.func4, Try.ntmps4
      go_wp2_with fail
      generalize (w.alloc (.cells #[.int .i64 t.pe, .int .i64 t.o, .slice a0 t.n0 c0, .int .i64 t.nx, .int .i64 t.md, .int .i64 t.pf, .slice a1 t.n1 c1] 33)).alloc (.cells #[.int .i64 u.pe, .int .i64 u.o, .slice b0 u.n0 e0, .int .i64 u.nx, .int .i64 u.md, .int .i64 u.pf, .slice b1 u.n1 e1] 33) = w1 at *
      refine (SZ.out _).mono ?_
      rintro e w2 ⟨rfl, b2⟩
      have d2 := d0.trans (b2.mono d0.size)
      replace MR := MR.below b2
      have v0 := MR.2.1 0 _ rfl
      have v1 := MR.2.1 1 _ rfl
      have v2 := MR.2.1 2 _ rfl
      have v3 := MR.2.1 3 _ rfl
      have v4 := MR.2.1 4 _ rfl
      have v5 := MR.2.1 5 _ rfl
      have v6 := MR.2.1 6 _ rfl
      go_wp2_with fail
      refine (SZ2.out _).mono ?_
      rintro e w3 ⟨rfl, b3⟩
      have d3 := d2.trans (b3.mono d2.size)
      go_wp2_with fail
      go_ret
      exact ⟨rfl, d3⟩
  · rw [if_neg hs] at SZ
    go_enter Try.func4, Try.ntmps4
    go_wp2_with fail
    generalize (w.alloc (.cells #[.int .i64 t.pe, .int .i64 t.o, .slice a0 t.n0 c0, .int .i64 t.nx, .int .i64 t.md, .int .i64 t.pf, .slice a1 t.n1 c1] 33)).alloc (.cells #[.int .i64 u.pe, .int .i64 u.o, .slice b0 u.n0 e0, .int .i64 u.nx, .int .i64 u.md, .int .i64 u.pf, .slice b1 u.n1 e1] 33) = w1 at *
    refine (SZ.out _).mono ?_
    rintro e w2 ⟨rfl, b2⟩
    have d2 := d0.trans (b2.mono d0.size)
    go_wp2_with fail
    go_ret
    exact ⟨rfl, d2⟩
end Go.Proofs.Ytgkjokobbeahfaa
