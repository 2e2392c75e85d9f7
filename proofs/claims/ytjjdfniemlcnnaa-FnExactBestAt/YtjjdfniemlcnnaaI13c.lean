/- BestAt of the program. -/
import Derived.Test.YtjjdfniemlcnnaaI13b
import Derived.Test.YtjjdfniemlcnnaaI13g
import Derived.Test.YtjjdfniemlcnnaaI8o
import Derived.Test.YtjjdfniemlcnnaaS13d
import Derived.Deep.DeepCutAuto
import Derived.Deep.CutRange
import Derived.Deep.RegionHeld3
namespace Go.Proofs.Ytjjdfniemlcnnaa
open Go.RowKit

/-- The best offer in a box of its own, and whether there is one. -/
def BestR (W w00 : World) (ow : Int) (n : Nat) (U : Nat → Rc) (pa pl : Int) (p b : Value) (wx : World) : Prop :=
  ∃ (q : Oe) (k : Nat), p = .pointer (some ⟨k, 0, none⟩) ∧ b = .bool (baB ow n U pa pl) ∧ W.heap.size ≤ k ∧ Mut wx k [.int .i64 q.t.pe, .int .i64 q.t.o, .slice q.a0 q.t.n0 q.c0, .int .i64 q.t.nx, .int .i64 q.t.md, .int .i64 q.t.pf, .slice q.a1 q.t.n1 q.c1] ∧ BaIs ow n U pa pl q w00 ∧ Below W.heap.size W wx
theorem BestR.new {W w00 w3 : World} {ow : Int} {n : Nat} {U : Nat → Rc} {pa pl : Int} {q : Oe} {ty : TypeId} (h : BaIs ow n U pa pl q w00) (d : Below W.heap.size W w3) :
    BestR W w00 ow n U pa pl (.pointer (some ⟨w3.heap.size, 0, none⟩)) (.bool (baB ow n U pa pl)) (w3.alloc (.cells #[.int .i64 q.t.pe, .int .i64 q.t.o, .slice q.a0 q.t.n0 q.c0, .int .i64 q.t.nx, .int .i64 q.t.md, .int .i64 q.t.pf, .slice q.a1 q.t.n1 q.c1] ty)) :=
  ⟨q, _, rfl, rfl, d.size, Mut.new w3 _ _, h, d.alloc d.size _⟩
theorem BestR.set {W w00 w3 : World} {ow : Int} {n : Nat} {U : Nat → Rc} {pa pl : Int} {q : Oe} {k : Nat} {z0 z1 z2 z3 z4 z5 z6 : Value} (M : Mut w3 k [z0, z1, z2, z3, z4, z5, z6]) (h : BaIs ow n U pa pl q w00) (h0 : W.heap.size ≤ k) (d : Below W.heap.size W w3) :
    BestR W w00 ow n U pa pl (.pointer (some ⟨k, 0, none⟩)) (.bool (baB ow n U pa pl)) (((((((w3.setCell ⟨k, 0, none⟩ (.int .i64 q.t.pe)).setCell ⟨k, 1, none⟩ (.int .i64 q.t.o)).setCell ⟨k, 2, none⟩ (.slice q.a0 q.t.n0 q.c0)).setCell ⟨k, 3, none⟩ (.int .i64 q.t.nx)).setCell ⟨k, 4, none⟩ (.int .i64 q.t.md)).setCell ⟨k, 5, none⟩ (.int .i64 q.t.pf)).setCell ⟨k, 6, none⟩ (.slice q.a1 q.t.n1 q.c1)) :=
  ⟨q, k, rfl, rfl, h0, (((((((M.set 0 _).set 1 _).set 2 _).set 3 _).set 4 _).set 5 _).set 6 _), h, ((((((d.setCell h0 _).setCell h0 _).setCell h0 _).setCell h0 _).setCell h0 _).setCell h0 _).setCell h0 _⟩
/-- What the program's BestAt tells: an offer of its own, or nothing. -/
def BeIs (base : Nat) (ow : Int) (n : Nat) (U : Nat → Rc) (pa pl : Int) (q : Oe) (w : World) : Prop := q.t = beT ow n U pa pl ∧ (beB ow n U pa pl = true → NewO base (beT ow n U pa pl) w q) ∧ (beB ow n U pa pl = false → q = oe0)
theorem beIs_no {base : Nat} {ow : Int} {n : Nat} {U : Nat → Rc} {pa pl : Int} {w : World} (h : beB ow n U pa pl = false ∧ beT ow n U pa pl = oc0) : BeIs base ow n U pa pl oe0 w := ⟨h.2.symm, fun e => (by rw [h.1] at e; cases e), fun _ => rfl⟩
set_option maxRecDepth 100000 in
set_option maxHeartbeats 6400000 in
theorem i_bestAt (ow : Int) (a : Option Addr) (n c : Nat) (U : Nat → Rc) (pa pl : Int) (w : World) (hn : n ≤ 1048576) (hl : LowR n U) (hR : RowRS a n U w) :
    Calls Try.prog 23 #[.agg #[.int .i64 ow, .slice a n c], .agg #[.int .i64 pa, .int .i64 pl]] w fun e w' => ∃ q : Oe, e = .returned (.tuple #[.agg #[.int .i64 q.t.pe, .int .i64 q.t.o, .slice q.a0 q.t.n0 q.c0, .int .i64 q.t.nx, .int .i64 q.t.md, .int .i64 q.t.pf, .slice q.a1 q.t.n1 q.c1], .bool (beB ow n U pa pl)]) ∧ BeIs w.heap.size ow n U pa pl q w' ∧ Below w.heap.size w w' := by
  have GR := hide (fun w R => i_goodRib ow a n c U w hn hl R)
  have GP := hide (fun w => i_good pa pl w)
  have M1 := ((Mut.new w #[.int .i64 ow, .slice a n c] 24).alloc (.cells #[.int .i64 pa, .int .i64 pl] 52)).alloc (.cells #[.int .i64 0, .int .i64 0, .slice none 0 0, .int .i64 0, .int .i64 0, .int .i64 0, .slice none 0 0] 49)
  have M2 := (Mut.new (w.alloc (.cells #[.int .i64 ow, .slice a n c] 24)) #[.int .i64 pa, .int .i64 pl] 52).alloc (.cells #[.int .i64 0, .int .i64 0, .slice none 0 0, .int .i64 0, .int .i64 0, .int .i64 0, .slice none 0 0] 49)
  have M3 := Mut.new ((w.alloc (.cells #[.int .i64 ow, .slice a n c] 24)).alloc (.cells #[.int .i64 pa, .int .i64 pl] 52)) #[.int .i64 0, .int .i64 0, .slice none 0 0, .int .i64 0, .int .i64 0, .int .i64 0, .slice none 0 0] 49
  have d3 : Below w.heap.size w (((w.alloc (.cells #[.int .i64 ow, .slice a n c] 24)).alloc (.cells #[.int .i64 pa, .int .i64 pl] 52)).alloc (.cells #[.int .i64 0, .int .i64 0, .slice none 0 0, .int .i64 0, .int .i64 0, .int .i64 0, .slice none 0 0] 49)) := below_box3 (Below.refl _ _)
  simp only [World.size_alloc] at M2 M3
  have RA := hide (hR.below d3)
  cases hg : rbB ow n U with
  | false =>
    rw [hg] at GR
    have hE := hide (be_no1 (a := pa) (l := pl) hg)
    clear hg hR
    go_enter Try.func23, Try.ntmps23
    go_wp2_with fail
    generalize ((w.alloc (.cells #[.int .i64 ow, .slice a n c] 24)).alloc (.cells #[.int .i64 pa, .int .i64 pl] 52)).alloc (.cells #[.int .i64 0, .int .i64 0, .slice none 0 0, .int .i64 0, .int .i64 0, .int .i64 0, .slice none 0 0] 49) = W at *
    refine (GR.out _ RA.out.row).mono ?_
    rintro e w1 ⟨rfl, b1⟩
    have N := M3.below b1
    have g0 := N.2.1 0 _ rfl
    have z0 := N.2.2 0 (by simp)
    have g1 := N.2.1 1 _ rfl
    have z1 := N.2.2 1 (by simp)
    have g2 := N.2.1 2 _ rfl
    have z2 := N.2.2 2 (by simp)
    have g3 := N.2.1 3 _ rfl
    have z3 := N.2.2 3 (by simp)
    have g4 := N.2.1 4 _ rfl
    have z4 := N.2.2 4 (by simp)
    have g5 := N.2.1 5 _ rfl
    have z5 := N.2.2 5 (by simp)
    have g6 := N.2.1 6 _ rfl
    have z6 := N.2.2 6 (by simp)
    have dF := d3.trans (b1.mono d3.size)
    clear N b1 M1 M2 M3 d3
    go_wp2_with fail
    rw [hE.out.1]
    refine bodyPost_ret (v := .tuple #[.agg #[.int .i64 0, .int .i64 0, .slice none 0 0, .int .i64 0, .int .i64 0, .int .i64 0, .slice none 0 0], .bool false]) (by simp [results, Try.results23, go_sem, *]) rfl ⟨oe0, rfl, beIs_no hE.out, ?_⟩
    refine Below.setCell (Below.setCell (Below.setCell (Below.setCell (Below.setCell (Below.setCell (Below.setCell (dF) ?_ _) ?_ _) ?_ _) ?_ _) ?_ _) ?_ _) ?_ _ <;> (simp; try omega)
  | true =>
    rw [hg] at GR
    cases hp : goodB pa pl with
    | false =>
      rw [hp] at GP
      have hE := hide (be_no2 (ow := ow) (n := n) (U := U) hp)
      clear hg hR hp
      go_enter Try.func23, Try.ntmps23
      go_wp2_with fail
      generalize ((w.alloc (.cells #[.int .i64 ow, .slice a n c] 24)).alloc (.cells #[.int .i64 pa, .int .i64 pl] 52)).alloc (.cells #[.int .i64 0, .int .i64 0, .slice none 0 0, .int .i64 0, .int .i64 0, .int .i64 0, .slice none 0 0] 49) = W at *
      refine (GR.out _ RA.out.row).mono ?_
      rintro e w1 ⟨rfl, b1⟩
      have N2 := M2.below b1
      have p0 := N2.2.1 0 _ rfl
      have p1 := N2.2.1 1 _ rfl
      go_wp2_with fail
      refine (GP.out _).mono ?_
      rintro e w2 ⟨rfl, b2⟩
      have N := (M3.below b1).below b2
      have g0 := N.2.1 0 _ rfl
      have z0 := N.2.2 0 (by simp)
      have g1 := N.2.1 1 _ rfl
      have z1 := N.2.2 1 (by simp)
      have g2 := N.2.1 2 _ rfl
      have z2 := N.2.2 2 (by simp)
      have g3 := N.2.1 3 _ rfl
      have z3 := N.2.2 3 (by simp)
      have g4 := N.2.1 4 _ rfl
      have z4 := N.2.2 4 (by simp)
      have g5 := N.2.1 5 _ rfl
      have z5 := N.2.2 5 (by simp)
      have g6 := N.2.1 6 _ rfl
      have z6 := N.2.2 6 (by simp)
      have dF := (d3.trans (b1.mono d3.size)).trans (b2.mono (Nat.le_trans d3.size b1.size))
      clear N b1 b2 M1 M2 M3 d3 N2 p0 p1
      go_wp2_with fail
      rw [hE.out.1]
      refine bodyPost_ret (v := .tuple #[.agg #[.int .i64 0, .int .i64 0, .slice none 0 0, .int .i64 0, .int .i64 0, .int .i64 0, .slice none 0 0], .bool false]) (by simp [results, Try.results23, go_sem, *]) rfl ⟨oe0, rfl, beIs_no hE.out, ?_⟩
      refine Below.setCell (Below.setCell (Below.setCell (Below.setCell (Below.setCell (Below.setCell (Below.setCell (dF) ?_ _) ?_ _) ?_ _) ?_ _) ?_ _) ?_ _) ?_ _ <;> (simp; try omega)
    | true =>
      rw [hp] at GP
      have hE := hide (be_yes hg hp)
      have KR := hide (fun w' b => i_keptRowsS ow a n c U w w' hn hR b)
      have BI := hide (fun a c w' R b => i_bestIn ow a n c U pa pl w w' (rb_good hg) hp hl R b)
      clear hg hR hp hl
      go_enter Try.func23, Try.ntmps23
      go_wp2_with fail
      generalize ((w.alloc (.cells #[.int .i64 ow, .slice a n c] 24)).alloc (.cells #[.int .i64 pa, .int .i64 pl] 52)).alloc (.cells #[.int .i64 0, .int .i64 0, .slice none 0 0, .int .i64 0, .int .i64 0, .int .i64 0, .slice none 0 0] 49) = W at *
      refine (GR.out _ RA.out.row).mono ?_
      rintro e w1 ⟨rfl, b1⟩
      have N2 := M2.below b1
      have p0 := N2.2.1 0 _ rfl
      have p1 := N2.2.1 1 _ rfl
      go_wp2_with fail
      refine (GP.out _).mono ?_
      rintro e w2 ⟨rfl, b2⟩
      have N1 := (M1.below b1).below b2
      have N2 := (M2.below b1).below b2
      have N3 := (M3.below b1).below b2
      have dF := (d3.trans (b1.mono d3.size)).trans (b2.mono (Nat.le_trans d3.size b1.size))
      clear b1 b2 M1 M2 M3 d3 p0 p1 GR GP RA
      go_upto_region 3 with fail
      have KB : Hid (∀ X : World, Below w2.heap.size w2 X → (X.cell? ⟨w.heap.size, 0, none⟩ = some (.int .i64 ow) ∧ X.cell? ⟨w.heap.size, 1, none⟩ = some (.slice a n c) ∧ X.cell? ⟨w.heap.size + 1, 0, none⟩ = some (.int .i64 pa) ∧ X.cell? ⟨w.heap.size + 1, 1, none⟩ = some (.int .i64 pl))) := fun X h => ⟨(N1.below h).2.1 0 _ rfl, (N1.below h).2.1 1 _ rfl, (N2.below h).2.1 0 _ rfl, (N2.below h).2.1 1 _ rfl⟩
      have hS0 : w.heap.size < w2.heap.size := N1.1
      have hE0 : w.heap.size + 1 < w2.heap.size := N2.1
      have z0 := N1.2.1 0 _ rfl
      have z1 := N1.2.1 1 _ rfl
      have ze0 := N2.2.1 0 _ rfl
      have ze1 := N2.2.1 1 _ rfl
      have dZ : Below w2.heap.size w2 w2 := Below.refl _ _
      have AS := fun (o : Obj) k => old1 hS0 o k
      have AE := fun (o : Obj) k => old1 hE0 o k
      have dg : Below w.heap.size w w2 := dF
      have hgs := dg.size
      go_cut [6, 7] (fun p b wx => BestR w2 w ow n U pa pl p b wx)
      case first =>
        go_region_held3 (fun w' => w'.cell? ⟨w.heap.size, 0, none⟩ = some (.int .i64 ow) ∧ w'.cell? ⟨w.heap.size, 1, none⟩ = some (.slice a n c) ∧ w'.cell? ⟨w.heap.size + 1, 0, none⟩ = some (.int .i64 pa) ∧ w'.cell? ⟨w.heap.size + 1, 1, none⟩ = some (.int .i64 pl)) (exact KB.out _ (by (repeat (first | with_reducible exact f2 | with_reducible exact f1 | with_reducible exact dZ | with_reducible apply Below.drew | with_reducible apply Below.setCell | with_reducible apply Below.alloc)); all_goals (first | (simp; done) | (simp; omega) | omega))) (first | (go_at_call 37; refine (KR.out _ (by (repeat (first | with_reducible exact dg | with_reducible apply Below.drew | with_reducible apply Below.setCell | with_reducible apply Below.alloc)); all_goals (first | (simp; done) | (simp; omega) | omega))).mono ?_; rintro e y1 ⟨va, vc, rfl, RT, b1⟩; have f1 : Below w2.heap.size w2 y1 := (by first | with_reducible exact below_step dZ b1 | with_reducible exact below_step dZ.drew b1 | with_reducible exact below_step (dZ.alloc dZ.size _) b1 | with_reducible exact below_step (dZ.alloc dZ.size _).drew b1 | with_reducible exact below_step (dZ.drew.alloc dZ.drew.size _) b1 | with_reducible exact below_step (dZ.drew.alloc dZ.drew.size _).drew b1 | with_reducible exact below_step dZ.drew.drew b1); have g1 : Below w.heap.size w y1 := dg.trans (f1.mono hgs); have hz1 := f1.size; have hS1 : w.heap.size < y1.heap.size := Nat.lt_of_lt_of_le hS0 hz1; have hE1 : w.heap.size + 1 < y1.heap.size := Nat.lt_of_lt_of_le hE0 hz1; have AS1 := (fun (o : Obj) k => old1 hS1 o k); have AE1 := (fun (o : Obj) k => old1 hE1 o k); have s1 := KB.out y1 f1; (first | (have L1 : Mut y1 _ _ := (by first | with_reducible exact (Mut.new w2 #[.int .i64 0, .int .i64 0, .slice none 0 0, .int .i64 0, .int .i64 0, .int .i64 0, .slice none 0 0] 49).below b1 | with_reducible exact (Mut.new w2 #[.int .i64 0, .int .i64 0, .slice none 0 0, .int .i64 0, .int .i64 0, .int .i64 0, .slice none 0 0] 49).drew.below b1 | with_reducible exact ((Mut.new w2 #[.int .i64 0, .int .i64 0, .slice none 0 0, .int .i64 0, .int .i64 0, .int .i64 0, .slice none 0 0] 49).drew).drew.below b1 | with_reducible exact (Mut.new w2.drew #[.int .i64 0, .int .i64 0, .slice none 0 0, .int .i64 0, .int .i64 0, .int .i64 0, .slice none 0 0] 49).below b1 | with_reducible exact (Mut.new w2.drew #[.int .i64 0, .int .i64 0, .slice none 0 0, .int .i64 0, .int .i64 0, .int .i64 0, .slice none 0 0] 49).drew.below b1 | with_reducible exact ((Mut.new w2.drew #[.int .i64 0, .int .i64 0, .slice none 0 0, .int .i64 0, .int .i64 0, .int .i64 0, .slice none 0 0] 49).drew).drew.below b1); have hm1 := L1.1) | skip); clear b1) | (go_at_call 51; refine (BI.out _ _ _ (RT.below (by (repeat (first | with_reducible exact Below.refl _ _ | with_reducible apply Below.drew | with_reducible apply Below.setCell | with_reducible apply Below.alloc)); all_goals (first | (simp; done) | (simp; omega) | omega))) (by (repeat (first | with_reducible exact g1 | with_reducible apply Below.drew | with_reducible apply Below.setCell | with_reducible apply Below.alloc)); all_goals (first | (simp; done) | (simp; omega) | omega))).mono ?_; rintro e y2 ⟨q, rfl, hq, b2⟩; have f2 : Below w2.heap.size w2 y2 := (by first | with_reducible exact below_step f1 b2 | with_reducible exact below_step f1.drew b2 | with_reducible exact below_step (f1.alloc f1.size _) b2 | with_reducible exact below_step (f1.alloc f1.size _).drew b2 | with_reducible exact below_step (f1.drew.alloc f1.drew.size _) b2 | with_reducible exact below_step (f1.drew.alloc f1.drew.size _).drew b2 | with_reducible exact below_step f1.drew.drew b2); have hz2 := f2.size; (first | (have L2 : Mut y2 _ _ := (by first | with_reducible exact (L1).below b2 | with_reducible exact (L1).drew.below b2 | with_reducible exact ((L1).drew).drew.below b2 | with_reducible exact (Mut.new y1 #[.int .i64 0, .int .i64 0, .slice none 0 0, .int .i64 0, .int .i64 0, .int .i64 0, .slice none 0 0] 49).below b2 | with_reducible exact (Mut.new y1 #[.int .i64 0, .int .i64 0, .slice none 0 0, .int .i64 0, .int .i64 0, .int .i64 0, .slice none 0 0] 49).drew.below b2 | with_reducible exact ((Mut.new y1 #[.int .i64 0, .int .i64 0, .slice none 0 0, .int .i64 0, .int .i64 0, .int .i64 0, .slice none 0 0] 49).drew).drew.below b2 | with_reducible exact (Mut.new y1.drew #[.int .i64 0, .int .i64 0, .slice none 0 0, .int .i64 0, .int .i64 0, .int .i64 0, .slice none 0 0] 49).below b2 | with_reducible exact (Mut.new y1.drew #[.int .i64 0, .int .i64 0, .slice none 0 0, .int .i64 0, .int .i64 0, .int .i64 0, .slice none 0 0] 49).drew.below b2 | with_reducible exact ((Mut.new y1.drew #[.int .i64 0, .int .i64 0, .slice none 0 0, .int .i64 0, .int .i64 0, .int .i64 0, .slice none 0 0] 49).drew).drew.below b2); have hm2 := L2.1; have lc0 := L2.2.1 0 _ rfl; have lz0 := L2.2.2 0 (by simp); have lc1 := L2.2.1 1 _ rfl; have lz1 := L2.2.2 1 (by simp); have lc2 := L2.2.1 2 _ rfl; have lz2 := L2.2.2 2 (by simp); have lc3 := L2.2.1 3 _ rfl; have lz3 := L2.2.2 3 (by simp); have lc4 := L2.2.1 4 _ rfl; have lz4 := L2.2.2 4 (by simp); have lc5 := L2.2.1 5 _ rfl; have lz5 := L2.2.2 5 (by simp); have lc6 := L2.2.1 6 _ rfl; have lz6 := L2.2.2 6 (by simp)) | skip)))
        all_goals (go_wp2_with fail; go_meet)
        all_goals first | with_reducible refine BestR.set L2 hq ?_ f2 | with_reducible refine BestR.new hq f2
        all_goals (first | (simp; done) | (simp at *; omega) | omega)
      case rest =>
        obtain ⟨q, kb, rfl, rfl, hkb, MQ, hq, eC⟩ := hcut
        have N := N3.below eC
        have dC := dF.trans (eC.mono dF.size)
        have hlt3 := N.1
        clear KB hS0 hE0 z0 z1 ze0 ze1 dZ AS AE dg hgs N1 N2 N3 KR BI dF
        cases hb : baB ow n U pa pl with
        | false =>
          have h0 := hq.2.2 hb
          have hE1 : Hid (beB ow n U pa pl = false ∧ beT ow n U pa pl = oc0) := ⟨hE.out.1.trans hb, hE.out.2.trans (hq.1.symm.trans (by rw [h0]; rfl))⟩
          clear hb h0 hq hE MQ eC
          have g0 := N.2.1 0 _ rfl
          have z0 := N.2.2 0 (by simp)
          have g1 := N.2.1 1 _ rfl
          have z1 := N.2.2 1 (by simp)
          have g2 := N.2.1 2 _ rfl
          have z2 := N.2.2 2 (by simp)
          have g3 := N.2.1 3 _ rfl
          have z3 := N.2.2 3 (by simp)
          have g4 := N.2.1 4 _ rfl
          have z4 := N.2.2 4 (by simp)
          have g5 := N.2.1 5 _ rfl
          have z5 := N.2.2 5 (by simp)
          have g6 := N.2.1 6 _ rfl
          have z6 := N.2.2 6 (by simp)
          clear N
          go_wp2_with fail
          rw [hE1.out.1]
          refine bodyPost_ret (v := .tuple #[.agg #[.int .i64 0, .int .i64 0, .slice none 0 0, .int .i64 0, .int .i64 0, .int .i64 0, .slice none 0 0], .bool false]) (by simp [results, Try.results23, go_sem, *]) rfl ⟨oe0, rfl, beIs_no hE1.out, ?_⟩
          refine Below.setCell (Below.setCell (Below.setCell (Below.setCell (Below.setCell (Below.setCell (Below.setCell (dC) ?_ _) ?_ _) ?_ _) ?_ _) ?_ _) ?_ _) ?_ _ <;> (simp; try omega)
        | true =>
          have hs := hq.2.1 hb
          have hE1 : Hid (beB ow n U pa pl = true) := hE.out.1.trans hb
          have hE2 : Hid (q.t = beT ow n U pa pl) := hq.1.trans hE.out.2.symm
          have OW := hide (fun w h => i_ownOffer q w h)
          have hsC := hide (hs.below dC)
          have k0 := MQ.2.1 0 _ rfl
          have k1 := MQ.2.1 1 _ rfl
          have k2 := MQ.2.1 2 _ rfl
          have k3 := MQ.2.1 3 _ rfl
          have k4 := MQ.2.1 4 _ rfl
          have k5 := MQ.2.1 5 _ rfl
          have k6 := MQ.2.1 6 _ rfl
          clear hb hq hE hs MQ eC
          go_wp2_with fail
          refine (OW.out _ hsC.out).mono ?_
          rintro e w5 ⟨r, rfl, hr, b5⟩
          have N := N.below b5
          have d5 := dC.trans (b5.mono dC.size)
          obtain ⟨r1, r2, r3, r4, r5, r6, r7⟩ := hr
          have r1 := hide r1
          have r2 := hide r2
          have r3 := hide r3
          have hlt4 := b5.size
          have g0 := N.2.1 0 _ rfl
          have z0 := N.2.2 0 (by simp)
          have g1 := N.2.1 1 _ rfl
          have z1 := N.2.2 1 (by simp)
          have g2 := N.2.1 2 _ rfl
          have z2 := N.2.2 2 (by simp)
          have g3 := N.2.1 3 _ rfl
          have z3 := N.2.2 3 (by simp)
          have g4 := N.2.1 4 _ rfl
          have z4 := N.2.2 4 (by simp)
          have g5 := N.2.1 5 _ rfl
          have z5 := N.2.2 5 (by simp)
          have g6 := N.2.1 6 _ rfl
          have z6 := N.2.2 6 (by simp)
          clear N b5 k0 k1 k2 k3 k4 k5 k6 dC
          go_wp2_with fail
          rw [hE1.out]
          have hrt : Hid (r.t = beT ow n U pa pl) := r1.out.trans hE2.out
          refine bodyPost_ret (v := .tuple #[.agg #[.int .i64 r.t.pe, .int .i64 r.t.o, .slice r.a0 r.t.n0 r.c0, .int .i64 r.t.nx, .int .i64 r.t.md, .int .i64 r.t.pf, .slice r.a1 r.t.n1 r.c1], .bool true]) (by simp [results, Try.results23, go_sem, *]) rfl ⟨r, rfl, ⟨hrt.out, fun _ => ⟨hrt.out, r2.out, r3.out, by omega, r5, ?_, ?_⟩, fun e' => (by rw [hE1.out] at e'; cases e')⟩, ?_⟩
          · refine OutInt.other (OutInt.other (OutInt.other (OutInt.other (OutInt.other (OutInt.other (OutInt.other (r6) ?_ _ _) ?_ _ _) ?_ _ _) ?_ _ _) ?_ _ _) ?_ _ _) ?_ _ _ <;> omega
          · refine OutInt.other (OutInt.other (OutInt.other (OutInt.other (OutInt.other (OutInt.other (OutInt.other (r7) ?_ _ _) ?_ _ _) ?_ _ _) ?_ _ _) ?_ _ _) ?_ _ _) ?_ _ _ <;> omega
          · refine Below.setCell (Below.setCell (Below.setCell (Below.setCell (Below.setCell (Below.setCell (Below.setCell (d5) ?_ _) ?_ _) ?_ _) ?_ _) ?_ _) ?_ _) ?_ _ <;> (simp; try omega)
end Go.Proofs.Ytjjdfniemlcnnaa
