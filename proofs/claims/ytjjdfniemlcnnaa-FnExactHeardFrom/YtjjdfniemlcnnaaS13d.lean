/- BestAt of the specification. -/
import Derived.Test.YtjjdfniemlcnnaaS13c
import Derived.Test.YtjjdfniemlcnnaaS13g
import Derived.Test.YtjjdfniemlcnnaaAll5
import Derived.Test.YtjjdfniemlcnnaaOfL13
namespace Go.Proofs.Ytjjdfniemlcnnaa
open Go.RowKit

/-- Whether BestAt tells an offer, and which. -/
def beB (ow : Int) (n : Nat) (U : Nat → Rc) (a l : Int) : Bool := rbB ow n U && (goodB a l && baB ow n U a l)
def beT (ow : Int) (n : Nat) (U : Nat → Rc) (a l : Int) : Oc := if (rbB ow n U && goodB a l) = true then baT ow n U a l else oc0
theorem be_no1 {ow : Int} {n : Nat} {U : Nat → Rc} {a l : Int} (h : rbB ow n U = false) : beB ow n U a l = false ∧ beT ow n U a l = oc0 := by simp [beB, beT, h]
theorem be_no2 {ow : Int} {n : Nat} {U : Nat → Rc} {a l : Int} (h : goodB a l = false) : beB ow n U a l = false ∧ beT ow n U a l = oc0 := by simp [beB, beT, h]
theorem be_yes {ow : Int} {n : Nat} {U : Nat → Rc} {a l : Int} (h : rbB ow n U = true) (g : goodB a l = true) : beB ow n U a l = baB ow n U a l ∧ beT ow n U a l = baT ow n U a l := by simp [beB, beT, h, g]
theorem ofIn0 (w : World) : OfIn none none oc0 w := ⟨fun _ hi => absurd hi (Nat.not_lt_zero _), fun _ hi => absurd hi (Nat.not_lt_zero _)⟩
theorem s_ownQ (q : Oe) (w : World) (h : SrcO w q ∨ q = oe0) :
    Calls Try.prog 42 #[.agg #[.int .i64 q.t.o, .slice q.a0 q.t.n0 q.c0, .int .i64 q.t.nx, .int .i64 q.t.md, .int .i64 q.t.pf, .slice q.a1 q.t.n1 q.c1]] w fun e w' => ∃ x pc y yc, e = .returned (.agg #[.int .i64 q.t.o, .slice (some ⟨x, 0, none⟩) q.t.n0 pc, .int .i64 q.t.nx, .int .i64 q.t.md, .int .i64 q.t.pf, .slice (some ⟨y, 0, none⟩) q.t.n1 yc]) ∧ OutInt x q.t.n0 q.t.n0 q.t.f w' ∧ OutInt y q.t.n1 q.t.n1 q.t.g w' ∧ w.heap.size ≤ x ∧ x < y ∧ Below w.heap.size w w' := by
  rcases h with ⟨s0, s1, ⟨R0, R1⟩, h0, h1⟩ | rfl
  · exact s_own8 q.t.o q.t.nx q.t.md q.t.pf q.a0 q.t.n0 q.c0 q.t.f q.a1 q.t.n1 q.c1 q.t.g w h0 h1 ⟨R0.rowN, .inr s0⟩ ⟨R1.rowN, .inr s1⟩
  · exact s_own8 0 0 0 0 none 0 0 (fun _ => 0) none 0 0 (fun _ => 0) w (by omega) (by omega) ⟨(ofIn0 w).1.rowN, .inl ⟨rfl, rfl, rfl⟩⟩ ⟨(ofIn0 w).2.rowN, .inl ⟨rfl, rfl, rfl⟩⟩
set_option maxRecDepth 100000 in
set_option maxHeartbeats 3200000 in
theorem s_bestAt (ow : Int) (a : Option Addr) (n c : Nat) (U : Nat → Rc) (pa pl : Int) (w : World) (hn : n ≤ 1048576) (hl : LowR n U) (hR : RowRS a n U w) :
    Calls Try.prog 21 #[.agg #[.int .i64 ow, .slice a n c], .agg #[.int .i64 pa, .int .i64 pl]] w fun e w' => ∃ q : Oe, e = .returned (.tuple #[.agg #[.int .i64 q.t.pe, .int .i64 q.t.o, .slice q.a0 q.t.n0 q.c0, .int .i64 q.t.nx, .int .i64 q.t.md, .int .i64 q.t.pf, .slice q.a1 q.t.n1 q.c1], .bool (beB ow n U pa pl)]) ∧ (q.t = beT ow n U pa pl ∧ AnsF w.heap.size q.t q.a0 q.c0 q.a1 q.c1 w') ∧ Below w.heap.size w w' := by
  have GR := hide (fun w R => s_goodRib ow a n c U w hn hl R)
  have GP := hide (fun w => s_good pa pl w)
  have BA := hide (fun w0 w R b => s_l13BestAt ow a n c U pa pl w0 w hn hl R b)
  have M1 := ((Mut.new w #[.int .i64 ow, .slice a n c] 24).alloc (.cells #[.int .i64 pa, .int .i64 pl] 52)).alloc (.cells #[.int .i64 0, .int .i64 0, .slice none 0 0, .int .i64 0, .int .i64 0, .int .i64 0, .slice none 0 0] 49)
  have M2 := (Mut.new (w.alloc (.cells #[.int .i64 ow, .slice a n c] 24)) #[.int .i64 pa, .int .i64 pl] 52).alloc (.cells #[.int .i64 0, .int .i64 0, .slice none 0 0, .int .i64 0, .int .i64 0, .int .i64 0, .slice none 0 0] 49)
  have M3 := Mut.new ((w.alloc (.cells #[.int .i64 ow, .slice a n c] 24)).alloc (.cells #[.int .i64 pa, .int .i64 pl] 52)) #[.int .i64 0, .int .i64 0, .slice none 0 0, .int .i64 0, .int .i64 0, .int .i64 0, .slice none 0 0] 49
  have d3 : Below w.heap.size w (((w.alloc (.cells #[.int .i64 ow, .slice a n c] 24)).alloc (.cells #[.int .i64 pa, .int .i64 pl] 52)).alloc (.cells #[.int .i64 0, .int .i64 0, .slice none 0 0, .int .i64 0, .int .i64 0, .int .i64 0, .slice none 0 0] 49)) := below_box3 (Below.refl _ _)
  simp only [World.size_alloc] at M2 M3
  have RA := hide (hR.below d3)
  clear hl
  cases hg : rbB ow n U with
  | false =>
    rw [hg] at GR
    have hE := hide (be_no1 (a := pa) (l := pl) hg)
    clear hg hR
    go_enter Try.func21, Try.ntmps21
    go_wp2_with fail
    generalize ((w.alloc (.cells #[.int .i64 ow, .slice a n c] 24)).alloc (.cells #[.int .i64 pa, .int .i64 pl] 52)).alloc (.cells #[.int .i64 0, .int .i64 0, .slice none 0 0, .int .i64 0, .int .i64 0, .int .i64 0, .slice none 0 0] 49) = W at *
    refine (GR.out _ RA.out.row).mono ?_
    rintro e w1 ⟨rfl, b1⟩
    have N := M3.below b1
    have g0 := N.2.1 0 _ rfl
    have z0 := N.2.2 0 (by simp)
    have g1 := N.2.1 1 _ rfl
    have z1 := N.2.2 1 (by simp)
    have g2 := N.2.1 2 _ rfl
    have z2 := N.2.2 2 (by simp)
    have g3 := N.2.1 3 _ rfl
    have z3 := N.2.2 3 (by simp)
    have g4 := N.2.1 4 _ rfl
    have z4 := N.2.2 4 (by simp)
    have g5 := N.2.1 5 _ rfl
    have z5 := N.2.2 5 (by simp)
    have g6 := N.2.1 6 _ rfl
    have z6 := N.2.2 6 (by simp)
    have dF := d3.trans (b1.mono d3.size)
    clear N b1 M1 M2 M3 d3
    go_wp2_with fail
    rw [hE.out.1]
    refine bodyPost_ret (v := .tuple #[.agg #[.int .i64 0, .int .i64 0, .slice none 0 0, .int .i64 0, .int .i64 0, .int .i64 0, .slice none 0 0], .bool false]) (by simp [results, Try.results21, go_sem, *]) rfl ⟨oe0, rfl, ⟨hE.out.2.symm, ansF_zero _ _⟩, ?_⟩
    refine Below.setCell (Below.setCell (Below.setCell (Below.setCell (Below.setCell (Below.setCell (Below.setCell (dF) ?_ _) ?_ _) ?_ _) ?_ _) ?_ _) ?_ _) ?_ _ <;> (simp; try omega)
  | true =>
    rw [hg] at GR
    cases hp : goodB pa pl with
    | false =>
      rw [hp] at GP
      have hE := hide (be_no2 (ow := ow) (n := n) (U := U) hp)
      clear hg hR hp
      go_enter Try.func21, Try.ntmps21
      go_wp2_with fail
      generalize ((w.alloc (.cells #[.int .i64 ow, .slice a n c] 24)).alloc (.cells #[.int .i64 pa, .int .i64 pl] 52)).alloc (.cells #[.int .i64 0, .int .i64 0, .slice none 0 0, .int .i64 0, .int .i64 0, .int .i64 0, .slice none 0 0] 49) = W at *
      refine (GR.out _ RA.out.row).mono ?_
      rintro e w1 ⟨rfl, b1⟩
      have N2 := M2.below b1
      have p0 := N2.2.1 0 _ rfl
      have p1 := N2.2.1 1 _ rfl
      go_wp2_with fail
      refine (GP.out _).mono ?_
      rintro e w2 ⟨rfl, b2⟩
      have N := (M3.below b1).below b2
      have g0 := N.2.1 0 _ rfl
      have z0 := N.2.2 0 (by simp)
      have g1 := N.2.1 1 _ rfl
      have z1 := N.2.2 1 (by simp)
      have g2 := N.2.1 2 _ rfl
      have z2 := N.2.2 2 (by simp)
      have g3 := N.2.1 3 _ rfl
      have z3 := N.2.2 3 (by simp)
      have g4 := N.2.1 4 _ rfl
      have z4 := N.2.2 4 (by simp)
      have g5 := N.2.1 5 _ rfl
      have z5 := N.2.2 5 (by simp)
      have g6 := N.2.1 6 _ rfl
      have z6 := N.2.2 6 (by simp)
      have dF := (d3.trans (b1.mono d3.size)).trans (b2.mono (Nat.le_trans d3.size b1.size))
      clear N b1 b2 M1 M2 M3 d3 N2 p0 p1
      go_wp2_with fail
      rw [hE.out.1]
      refine bodyPost_ret (v := .tuple #[.agg #[.int .i64 0, .int .i64 0, .slice none 0 0, .int .i64 0, .int .i64 0, .int .i64 0, .slice none 0 0], .bool false]) (by simp [results, Try.results21, go_sem, *]) rfl ⟨oe0, rfl, ⟨hE.out.2.symm, ansF_zero _ _⟩, ?_⟩
      refine Below.setCell (Below.setCell (Below.setCell (Below.setCell (Below.setCell (Below.setCell (Below.setCell (dF) ?_ _) ?_ _) ?_ _) ?_ _) ?_ _) ?_ _) ?_ _ <;> (simp; try omega)
    | true =>
      rw [hp] at GP
      have hE := hide (be_yes hg hp)
      have hR0 := hide hR
      clear hg hR hp
      have hBA : Hid (∀ q, BaIs ow n U pa pl q w → q.t = beT ow n U pa pl ∧ (SrcO w q ∨ q = oe0)) := by
        rintro q ⟨h1, h2, h3⟩
        refine ⟨h1.trans hE.out.2.symm, ?_⟩
        cases hb : baB ow n U pa pl with
        | true => exact .inl (h2 hb)
        | false => exact .inr (h3 hb)
      have hE1 := hide hE.out.1
      generalize beB ow n U pa pl = bb at *
      generalize beT ow n U pa pl = bt at *
      clear hE
      go_enter Try.func21, Try.ntmps21
      go_wp2_with fail
      generalize ((w.alloc (.cells #[.int .i64 ow, .slice a n c] 24)).alloc (.cells #[.int .i64 pa, .int .i64 pl] 52)).alloc (.cells #[.int .i64 0, .int .i64 0, .slice none 0 0, .int .i64 0, .int .i64 0, .int .i64 0, .slice none 0 0] 49) = W at *
      refine (GR.out _ RA.out.row).mono ?_
      rintro e w1 ⟨rfl, b1⟩
      have N2 := M2.below b1
      have p0 := N2.2.1 0 _ rfl
      have p1 := N2.2.1 1 _ rfl
      go_wp2_with fail
      refine (GP.out _).mono ?_
      rintro e w2 ⟨rfl, b2⟩
      have N1 := (M1.below b1).below b2
      have N2 := (M2.below b1).below b2
      have N3 := (M3.below b1).below b2
      have dF := (d3.trans (b1.mono d3.size)).trans (b2.mono (Nat.le_trans d3.size b1.size))
      clear b1 b2 M1 M2 M3 d3 p0 p1 GR GP RA
      have m0 := N1.2.1 0 _ rfl
      have m1 := N1.2.1 1 _ rfl
      have p0 := N2.2.1 0 _ rfl
      have p1 := N2.2.1 1 _ rfl
      go_wp2_with fail
      refine (BA.out w w2 hR0.out dF).mono ?_
      rintro e w3 ⟨q, rfl, hq, b3⟩
      obtain ⟨hqt0, hqs⟩ := hBA.out q hq
      have hqt := hide hqt0
      clear hqt0
      have N3 := N3.below b3
      have dF := dF.trans (b3.mono dF.size)
      rw [← hE1.out]
      clear b3 N1 N2 m0 m1 p0 p1 hBA hq hE1 BA hR0
      have bX : Below w3.heap.size w3 (w3.alloc (.cells #[.int .i64 q.t.pe, .int .i64 q.t.o, .slice q.a0 q.t.n0 q.c0, .int .i64 q.t.nx, .int .i64 q.t.md, .int .i64 q.t.pf, .slice q.a1 q.t.n1 q.c1] 49)) := below_box (Below.refl _ _)
      have MX := Mut.new w3 #[.int .i64 q.t.pe, .int .i64 q.t.o, .slice q.a0 q.t.n0 q.c0, .int .i64 q.t.nx, .int .i64 q.t.md, .int .i64 q.t.pf, .slice q.a1 q.t.n1 q.c1] 49
      have N4 := N3.below bX
      have dX := dF.trans (bX.mono dF.size)
      have OQ := hide (fun w S => s_ownQ q w S)
      have hqX := hide (show ∀ wy, Below w.heap.size w wy → (SrcO wy q ∨ q = oe0) from fun wy b => hqs.elim (fun h => .inl (h.below b)) .inr)
      have hb6 := N3.1
      have hz6 := dF.size
      clear hqs bX N3 dF
      go_wp2_with fail
      generalize w3.alloc (.cells #[.int .i64 q.t.pe, .int .i64 q.t.o, .slice q.a0 q.t.n0 q.c0, .int .i64 q.t.nx, .int .i64 q.t.md, .int .i64 q.t.pf, .slice q.a1 q.t.n1 q.c1] 49) = w4 at *
      have k0 := MX.2.1 0 _ rfl
      have k1 := MX.2.1 1 _ rfl
      have k2 := MX.2.1 2 _ rfl
      have k3 := MX.2.1 3 _ rfl
      have k4 := MX.2.1 4 _ rfl
      have k5 := MX.2.1 5 _ rfl
      have k6 := MX.2.1 6 _ rfl
      go_region_with (go_at_call 42; refine (OQ.out _ (hqX.out _ (by first | exact dX | exact dX.drew))).mono ?_; rintro r w5 ⟨x, pc, y, yc, rfl, o1, o2, hx, hy, b5⟩; have dA : Below w4.heap.size w4 w5 := (by first | exact b5 | exact (Below.refl _ _).drew.trans b5); have N := N4.below dA; have g0 := N.2.1 0 _ rfl; have z0 := N.2.2 0 (by simp); have g1 := N.2.1 1 _ rfl; have z1 := N.2.2 1 (by simp); have g2 := N.2.1 2 _ rfl; have z2 := N.2.2 2 (by simp); have g3 := N.2.1 3 _ rfl; have z3 := N.2.2 3 (by simp); have g4 := N.2.1 4 _ rfl; have z4 := N.2.2 4 (by simp); have g5 := N.2.1 5 _ rfl; have z5 := N.2.2 5 (by simp); have g6 := N.2.1 6 _ rfl; have z6 := N.2.2 6 (by simp); have lt3 := N.1; have hx' : w4.heap.size ≤ x := hx; have kq := (MX.below dA).2.1 0 _ rfl)
      all_goals
        have dH := dX.trans (dA.mono dX.size)
        have hb7 := N4.1
        clear dA N N4 MX OQ hqX hx b5 dX
        go_wp2_with fail
        refine bodyPost_ret (v := .tuple #[.agg #[.int .i64 q.t.pe, .int .i64 q.t.o, .slice (some ⟨x, 0, none⟩) q.t.n0 pc, .int .i64 q.t.nx, .int .i64 q.t.md, .int .i64 q.t.pf, .slice (some ⟨y, 0, none⟩) q.t.n1 yc], .bool bb]) (by simp [results, Try.results21, go_sem, *]) rfl ⟨⟨q.t, some ⟨x, 0, none⟩, pc, some ⟨y, 0, none⟩, yc⟩, rfl, ⟨hqt.out, ansF_own (x := x) (y := y) (by omega) hy ?_ ?_⟩, ?_⟩
        · refine OutInt.other (OutInt.other (OutInt.other (OutInt.other (OutInt.other (OutInt.other (OutInt.other (o1) ?_ _ _) ?_ _ _) ?_ _ _) ?_ _ _) ?_ _ _) ?_ _ _) ?_ _ _ <;> omega
        · refine OutInt.other (OutInt.other (OutInt.other (OutInt.other (OutInt.other (OutInt.other (OutInt.other (o2) ?_ _ _) ?_ _ _) ?_ _ _) ?_ _ _) ?_ _ _) ?_ _ _) ?_ _ _ <;> omega
        · refine Below.setCell (Below.setCell (Below.setCell (Below.setCell (Below.setCell (Below.setCell (Below.setCell (dH) ?_ _) ?_ _) ?_ _) ?_ _) ?_ _) ?_ _) ?_ _ <;> (simp; try omega)
end Go.Proofs.Ytjjdfniemlcnnaa
