/- The law on StepSession: the program answers as the specification, in memory of its own. -/
import Derived.Test.YtcapbljknpggkaaW12a
import Derived.Deep.DeepCutAuto
import Derived.Deep.CutRange
import Derived.Deep.RegionHeld3
namespace Go.Proofs.Ytcapbljknpggkaa
open Go.RowKit

/-- How many were told. -/
def tlN (t : Int) : Nat := if t = 0 then 0 else 1
theorem tlN_le (t : Int) : tlN t ≤ 1 := by unfold tlN; split <;> omega
theorem TB.row {base : Nat} {v : Value} {t : Int} {w : World} (h : TB base v t w) : ∃ a c, v = .slice a (tlN t) c ∧ RowInt a (tlN t) (fun _ => t) w ∧ (tlN t = 0 ∨ ∃ g, a = some ⟨g, 0, none⟩ ∧ base ≤ g ∧ OutInt g (tlN t) (tlN t) (fun _ => t) w) := by
  rcases h with ⟨rfl, rfl⟩ | ⟨h0, g, rfl, h2, h3⟩
  · exact ⟨none, 0, rfl, fun i hi => absurd hi (Nat.not_lt_zero _), .inl rfl⟩
  · have e : tlN t = 1 := if_neg h0
    rw [e]
    exact ⟨_, 1, rfl, h3.row, .inr ⟨g, rfl, h2, h3⟩⟩
/-- A session in a box of its own, what was told, and whether it was good. -/
def StepR (w0 : World) (y0 y1 y2 y3 y4 t : Int) (g : Bool) (p v b : Value) (wx : World) : Prop :=
  ∃ q, p = .pointer (some ⟨q, 0, none⟩) ∧ b = .bool g ∧ w0.heap.size ≤ q ∧ Mut wx q [.int .i64 y0, .int .i64 y1, .int .i64 y2, .int .i64 y3, .int .i64 y4] ∧ TB w0.heap.size v t wx ∧ Below w0.heap.size w0 wx
theorem StepR.new {w0 w3 : World} {y0 y1 y2 y3 y4 t : Int} {g : Bool} {v : Value} {B : Nat} {ty : TypeId} (h : TB B v t w3) (hB : w0.heap.size ≤ B) (d : Below w0.heap.size w0 w3) :
    StepR w0 y0 y1 y2 y3 y4 t g (.pointer (some ⟨w3.heap.size, 0, none⟩)) v (.bool g) (w3.alloc (.cells #[.int .i64 y0, .int .i64 y1, .int .i64 y2, .int .i64 y3, .int .i64 y4] ty)) :=
  ⟨_, rfl, rfl, d.size, Mut.new w3 _ _, (h.base hB).below (below_box (Below.refl _ _)), d.alloc d.size _⟩
theorem StepR.set {w0 w3 : World} {y0 y1 y2 y3 y4 t : Int} {g : Bool} {v : Value} {B q : Nat} {z0 z1 z2 z3 z4 : Value} (M : Mut w3 q [z0, z1, z2, z3, z4]) (h : TB B v t w3) (hq : q < B) (h0 : w0.heap.size ≤ q) (d : Below w0.heap.size w0 w3) :
    StepR w0 y0 y1 y2 y3 y4 t g (.pointer (some ⟨q, 0, none⟩)) v (.bool g) (((((w3.setCell ⟨q, 0, none⟩ (.int .i64 y0)).setCell ⟨q, 1, none⟩ (.int .i64 y1)).setCell ⟨q, 2, none⟩ (.int .i64 y2)).setCell ⟨q, 3, none⟩ (.int .i64 y3)).setCell ⟨q, 4, none⟩ (.int .i64 y4)) :=
  ⟨q, rfl, rfl, h0, ((((M.set 0 _).set 1 _).set 2 _).set 3 _).set 4 _, (TB.set (TB.set (TB.set (TB.set (TB.set h hq _ _) hq _ _) hq _ _) hq _ _) hq _ _).base (by omega), ((((d.setCell h0 _).setCell h0 _).setCell h0 _).setCell h0 _).setCell h0 _⟩
theorem w_markTB (base : Nat) (a : Option Addr) (c : Nat) (t : Int) (w : World) (hA : tlN t = 0 ∨ ∃ g, a = some ⟨g, 0, none⟩ ∧ base ≤ g ∧ OutInt g (tlN t) (tlN t) (fun _ => t) w) :
    Calls Try.prog 17 #[.slice a (tlN t) c, .int .i64 1] w fun e w' => e = .returned (.int .i64 (1 + (tlN t : Int))) ∧ RowInt a (tlN t) (fun i => 1 + (i : Int)) w' ∧ Below base w w' := by
  rcases hA with e | ⟨g, rfl, hg, hO⟩
  · rw [e]
    refine (w_markIntS_nil a c 1 w).mono ?_
    rintro e w' ⟨rfl, rfl⟩
    exact ⟨rfl, fun i hi => absurd hi (Nat.not_lt_zero _), Below.refl _ _⟩
  · have := tlN_le t
    refine (w_markIntS g (tlN t) c _ 1 w (by omega) (by omega) (by omega) hO).mono ?_
    rintro e w' ⟨rfl, ho, hO'⟩
    exact ⟨rfl, hO'.row, ⟨ho.1, ho.2.1, ho.2.2.1, ho.2.2.2.1, fun k hk => ho.2.2.2.2 k (by have := hO.1; omega) (by omega)⟩⟩
set_option maxRecDepth 100000 in
set_option maxHeartbeats 12800000 in
theorem w_stepSession (x0 x1 x2 x3 x4 k n : Int) (w : World) :
    Calls Try.prog 5 #[.agg #[.int .i64 x0, .int .i64 x1, .int .i64 x2, .int .i64 x3, .int .i64 x4], .agg #[.int .i64 k, .int .i64 n]] w fun e w' => e = .returned (.bool true) ∧ Below w.heap.size w w' := by
  have TS := hide (fun w => w_toSession x0 x1 x2 x3 x4 w)
  have TE := hide (fun w => w_toEvent k n w)
  have SG := hide (fun w => s_stepSession x0 x1 x2 x3 x4 k n w)
  have IG := hide (fun w => i_stepSession x0 x1 x2 x3 x4 k n w)
  generalize ssS ⟨x0, x1, x2, x3, x4⟩ k n = Y at *
  generalize ssT ⟨x0, x1, x2, x3, x4⟩ k n = t at *
  generalize ssB ⟨x0, x1, x2, x3, x4⟩ k n = g at *
  obtain ⟨y0, y1, y2, y3, y4⟩ := Y
  have ES := hide (fun w => w_eqSession y0 y1 y2 y3 y4 w)
  have hL := tlN_le t
  have EI := hide (fun a a' c c' w R Q => w_eqIntS a a' (tlN t) c c' (fun _ => t) w (by omega) R Q)
  have MA := hide (fun base a c w h => w_markTB base a c t w h)
  have HA := hide (fun a cap w R => w_heldIntS a (tlN t) cap 1 w (by omega) (by omega) (by omega) R)
  have RT := hide (fun base v w (h : TB base v t w) => h.row)
  generalize tlN t = L at *
  have hLi : (L : Int) ≤ 1 := by omega
  have hkd : ¬ ((1 + (L : Int)) < 0) := by omega
  have hke : ((1 + (L : Int)) != (1 + (L : Int))) = false := by simp
  have hgg : (g != g) = false := by simp
  clear hL
  have MS := (Mut.new w #[.int .i64 x0, .int .i64 x1, .int .i64 x2, .int .i64 x3, .int .i64 x4] 28).alloc (.cells #[.int .i64 k, .int .i64 n] 33)
  have ME : Mut ((w.alloc (.cells #[.int .i64 x0, .int .i64 x1, .int .i64 x2, .int .i64 x3, .int .i64 x4] 28)).alloc (.cells #[.int .i64 k, .int .i64 n] 33)) (w.heap.size + 1) [.int .i64 k, .int .i64 n] := by
    simpa using Mut.new (w.alloc (.cells #[.int .i64 x0, .int .i64 x1, .int .i64 x2, .int .i64 x3, .int .i64 x4] 28)) #[.int .i64 k, .int .i64 n] 33
  have dd : Below w.heap.size w ((w.alloc (.cells #[.int .i64 x0, .int .i64 x1, .int .i64 x2, .int .i64 x3, .int .i64 x4] 28)).alloc (.cells #[.int .i64 k, .int .i64 n] 33)) := below_box2 (Below.refl _ _)
  go_enter Try.func5, Try.ntmps5
  go_upto_region 1 with fail
  generalize (w.alloc (.cells #[.int .i64 x0, .int .i64 x1, .int .i64 x2, .int .i64 x3, .int .i64 x4] 28)).alloc (.cells #[.int .i64 k, .int .i64 n] 33) = w0 at *
  generalize hbs : w.heap.size = bs at *
  have hbs' := hide hbs
  clear hbs
  have KB : Hid (∀ X : World, Below w0.heap.size w0 X → (X.cell? ⟨bs, 0, none⟩ = some (.int .i64 x0) ∧ X.cell? ⟨bs, 1, none⟩ = some (.int .i64 x1) ∧ X.cell? ⟨bs, 2, none⟩ = some (.int .i64 x2) ∧ X.cell? ⟨bs, 3, none⟩ = some (.int .i64 x3) ∧ X.cell? ⟨bs, 4, none⟩ = some (.int .i64 x4) ∧ X.cell? ⟨bs + 1, 0, none⟩ = some (.int .i64 k) ∧ X.cell? ⟨bs + 1, 1, none⟩ = some (.int .i64 n))) := fun X h => ⟨((MS).below h).2.1 0 _ rfl, ((MS).below h).2.1 1 _ rfl, ((MS).below h).2.1 2 _ rfl, ((MS).below h).2.1 3 _ rfl, ((MS).below h).2.1 4 _ rfl, ((ME).below h).2.1 0 _ rfl, ((ME).below h).2.1 1 _ rfl⟩
  have hE0 : bs + 1 < w0.heap.size := (ME).1
  have hS0 : bs < w0.heap.size := (MS).1
  have z0 := (MS).2.1 0 _ rfl
  have z1 := (MS).2.1 1 _ rfl
  have z2 := (MS).2.1 2 _ rfl
  have z3 := (MS).2.1 3 _ rfl
  have z4 := (MS).2.1 4 _ rfl
  have ze0 := (ME).2.1 0 _ rfl
  have ze1 := (ME).2.1 1 _ rfl
  have dZ : Below w0.heap.size w0 w0 := Below.refl _ _
  have AS := fun (o : Obj) k => old1 hS0 o k
  have AE := fun (o : Obj) k => old1 hE0 o k
  go_cut [5, 6, 7] (fun p v b wx => StepR w0 y0 y1 y2 y3 y4 t g p v b wx)
  case first =>
    go_region_held3 (fun w' => w'.cell? ⟨bs, 0, none⟩ = some (.int .i64 x0) ∧ w'.cell? ⟨bs, 1, none⟩ = some (.int .i64 x1) ∧ w'.cell? ⟨bs, 2, none⟩ = some (.int .i64 x2) ∧ w'.cell? ⟨bs, 3, none⟩ = some (.int .i64 x3) ∧ w'.cell? ⟨bs, 4, none⟩ = some (.int .i64 x4) ∧ w'.cell? ⟨bs + 1, 0, none⟩ = some (.int .i64 k) ∧ w'.cell? ⟨bs + 1, 1, none⟩ = some (.int .i64 n)) (exact KB.out _ (by (repeat (first | with_reducible exact d3 | with_reducible exact d2 | with_reducible exact d1 | with_reducible exact dZ | with_reducible apply Below.drew | with_reducible apply Below.setCell | with_reducible apply Below.alloc)); all_goals (first | (simp; done) | (simp; omega) | omega))) (first | (go_at_call 11; refine (TS.out _).mono ?_; rintro e w1 ⟨rfl, b1⟩; have d1 : Below w0.heap.size w0 w1 := (by first | with_reducible exact below_step dZ b1 | with_reducible exact below_step dZ.drew b1 | with_reducible exact below_step (dZ.alloc dZ.size _) b1 | with_reducible exact below_step (dZ.alloc dZ.size _).drew b1 | with_reducible exact below_step (dZ.drew.alloc dZ.drew.size _) b1 | with_reducible exact below_step (dZ.drew.alloc dZ.drew.size _).drew b1 | with_reducible exact below_step dZ.drew.drew b1); have hz1 := d1.size; have ME1 := (ME).below d1; have hE1 := ME1.1; have AE1 := (fun (o : Obj) k => old1 hE1 o k); have ke0 := ME1.2.1 0 _ rfl; have ke1 := ME1.2.1 1 _ rfl; (first | (have M1 : Mut w1 _ _ := (by first | with_reducible exact (Mut.new w0 #[.int .i64 0, .int .i64 0, .int .i64 0, .int .i64 0, .int .i64 0] 23).below b1 | with_reducible exact (Mut.new w0 #[.int .i64 0, .int .i64 0, .int .i64 0, .int .i64 0, .int .i64 0] 23).drew.below b1 | with_reducible exact ((Mut.new w0 #[.int .i64 0, .int .i64 0, .int .i64 0, .int .i64 0, .int .i64 0] 23).drew).drew.below b1); have ca0 := M1.2.1 0 _ rfl; have ca1 := M1.2.1 1 _ rfl; have ca2 := M1.2.1 2 _ rfl; have ca3 := M1.2.1 3 _ rfl; have ca4 := M1.2.1 4 _ rfl; have caf0 := M1.2.2 0 (by simp); have caf1 := M1.2.2 1 (by simp); have caf2 := M1.2.2 2 (by simp); have caf3 := M1.2.2 3 (by simp); have caf4 := M1.2.2 4 (by simp); have hm1 := M1.1) | skip); clear b1) | (go_at_call 14; refine (TE.out _).mono ?_; rintro e w2 ⟨rfl, b2⟩; have d2 : Below w0.heap.size w0 w2 := (by first | with_reducible exact below_step d1 b2 | with_reducible exact below_step d1.drew b2 | with_reducible exact below_step (d1.alloc d1.size _) b2 | with_reducible exact below_step (d1.alloc d1.size _).drew b2 | with_reducible exact below_step (d1.drew.alloc d1.drew.size _) b2 | with_reducible exact below_step (d1.drew.alloc d1.drew.size _).drew b2 | with_reducible exact below_step d1.drew.drew b2); have hz2 := d2.size; (first | (have M2 : Mut w2 _ _ := (by first | with_reducible exact (M1).below b2 | with_reducible exact (M1).drew.below b2 | with_reducible exact ((M1).drew).drew.below b2 | with_reducible exact (Mut.new w1 #[.int .i64 0, .int .i64 0, .int .i64 0, .int .i64 0, .int .i64 0] 23).below b2 | with_reducible exact (Mut.new w1 #[.int .i64 0, .int .i64 0, .int .i64 0, .int .i64 0, .int .i64 0] 23).drew.below b2 | with_reducible exact ((Mut.new w1 #[.int .i64 0, .int .i64 0, .int .i64 0, .int .i64 0, .int .i64 0] 23).drew).drew.below b2); have cb0 := M2.2.1 0 _ rfl; have cb1 := M2.2.1 1 _ rfl; have cb2 := M2.2.1 2 _ rfl; have cb3 := M2.2.1 3 _ rfl; have cb4 := M2.2.1 4 _ rfl; have cbf0 := M2.2.2 0 (by simp); have cbf1 := M2.2.2 1 (by simp); have cbf2 := M2.2.2 2 (by simp); have cbf3 := M2.2.2 3 (by simp); have cbf4 := M2.2.2 4 (by simp); have hm2 := M2.1) | skip); have hb2 := b2.size; clear b2) | (go_at_call 13; refine (SG.out _).mono ?_; rintro e w3 ⟨v, rfl, T1, b3⟩; have d3 : Below w0.heap.size w0 w3 := (by first | with_reducible exact below_step d2 b3 | with_reducible exact below_step d2.drew b3 | with_reducible exact below_step (d2.alloc d2.size _) b3 | with_reducible exact below_step (d2.alloc d2.size _).drew b3 | with_reducible exact below_step (d2.drew.alloc d2.drew.size _) b3 | with_reducible exact below_step (d2.drew.alloc d2.drew.size _).drew b3 | with_reducible exact below_step d2.drew.drew b3); have hz3 := d3.size; (first | (have M3 : Mut w3 _ _ := (by first | with_reducible exact (M2).below b3 | with_reducible exact (M2).drew.below b3 | with_reducible exact ((M2).drew).drew.below b3 | with_reducible exact (Mut.new w2 #[.int .i64 0, .int .i64 0, .int .i64 0, .int .i64 0, .int .i64 0] 23).below b3 | with_reducible exact (Mut.new w2 #[.int .i64 0, .int .i64 0, .int .i64 0, .int .i64 0, .int .i64 0] 23).drew.below b3 | with_reducible exact ((Mut.new w2 #[.int .i64 0, .int .i64 0, .int .i64 0, .int .i64 0, .int .i64 0] 23).drew).drew.below b3); have cc0 := M3.2.1 0 _ rfl; have cc1 := M3.2.1 1 _ rfl; have cc2 := M3.2.1 2 _ rfl; have cc3 := M3.2.1 3 _ rfl; have cc4 := M3.2.1 4 _ rfl; have ccf0 := M3.2.2 0 (by simp); have ccf1 := M3.2.2 1 (by simp); have ccf2 := M3.2.2 2 (by simp); have ccf3 := M3.2.2 3 (by simp); have ccf4 := M3.2.2 4 (by simp); have hm3 := M3.1) | skip)))
    all_goals (go_wp2_with fail; go_meet)
    all_goals first | with_reducible refine StepR.set M3 T1 ?_ ?_ d3 | with_reducible refine StepR.new T1 ?_ d3
    all_goals (first | (simp; done) | (simp at *; omega) | omega)
  case rest =>
    obtain ⟨qW, rfl, rfl, hqW, MW, TW, d1⟩ := hcut
    clear KB hE0 hS0 z0 z1 z2 z3 z4 ze0 ze1 dZ AS AE
    obtain ⟨wa, wc', rfl, RW, _⟩ := RT.out _ _ _ TW
    have dq : Below bs w wc := dd.trans (d1.mono (Nat.le_of_lt MS.1))
    replace MS := MS.below d1
    replace ME := ME.below d1
    clear d1 dd hqW TW
    generalize wc = wA at *
    go_upto_region 2 with fail
    have KB : Hid (∀ X : World, Below wA.heap.size wA X → (X.cell? ⟨bs, 0, none⟩ = some (.int .i64 x0) ∧ X.cell? ⟨bs, 1, none⟩ = some (.int .i64 x1) ∧ X.cell? ⟨bs, 2, none⟩ = some (.int .i64 x2) ∧ X.cell? ⟨bs, 3, none⟩ = some (.int .i64 x3) ∧ X.cell? ⟨bs, 4, none⟩ = some (.int .i64 x4) ∧ X.cell? ⟨bs + 1, 0, none⟩ = some (.int .i64 k) ∧ X.cell? ⟨bs + 1, 1, none⟩ = some (.int .i64 n))) := fun X h => ⟨((MS).below h).2.1 0 _ rfl, ((MS).below h).2.1 1 _ rfl, ((MS).below h).2.1 2 _ rfl, ((MS).below h).2.1 3 _ rfl, ((MS).below h).2.1 4 _ rfl, ((ME).below h).2.1 0 _ rfl, ((ME).below h).2.1 1 _ rfl⟩
    have hE0 : bs + 1 < wA.heap.size := (ME).1
    have hS0 : bs < wA.heap.size := (MS).1
    have z0 := (MS).2.1 0 _ rfl
    have z1 := (MS).2.1 1 _ rfl
    have z2 := (MS).2.1 2 _ rfl
    have z3 := (MS).2.1 3 _ rfl
    have z4 := (MS).2.1 4 _ rfl
    have ze0 := (ME).2.1 0 _ rfl
    have ze1 := (ME).2.1 1 _ rfl
    have dZ : Below wA.heap.size wA wA := Below.refl _ _
    have AS := fun (o : Obj) k => old1 hS0 o k
    have AE := fun (o : Obj) k => old1 hE0 o k
    go_cut [8, 9, 10] (fun p v b wx => StepR wA y0 y1 y2 y3 y4 t g p v b wx)
    case first =>
      go_region_held3 (fun w' => w'.cell? ⟨bs, 0, none⟩ = some (.int .i64 x0) ∧ w'.cell? ⟨bs, 1, none⟩ = some (.int .i64 x1) ∧ w'.cell? ⟨bs, 2, none⟩ = some (.int .i64 x2) ∧ w'.cell? ⟨bs, 3, none⟩ = some (.int .i64 x3) ∧ w'.cell? ⟨bs, 4, none⟩ = some (.int .i64 x4) ∧ w'.cell? ⟨bs + 1, 0, none⟩ = some (.int .i64 k) ∧ w'.cell? ⟨bs + 1, 1, none⟩ = some (.int .i64 n)) (exact KB.out _ (by (repeat (first | with_reducible exact d3 | with_reducible exact d2 | with_reducible exact d1 | with_reducible exact dZ | with_reducible apply Below.drew | with_reducible apply Below.setCell | with_reducible apply Below.alloc)); all_goals (first | (simp; done) | (simp; omega) | omega))) (first | (go_at_call 11; refine (TS.out _).mono ?_; rintro e w1 ⟨rfl, b1⟩; have d1 : Below wA.heap.size wA w1 := (by first | with_reducible exact below_step dZ b1 | with_reducible exact below_step dZ.drew b1 | with_reducible exact below_step (dZ.alloc dZ.size _) b1 | with_reducible exact below_step (dZ.alloc dZ.size _).drew b1 | with_reducible exact below_step (dZ.drew.alloc dZ.drew.size _) b1 | with_reducible exact below_step (dZ.drew.alloc dZ.drew.size _).drew b1 | with_reducible exact below_step dZ.drew.drew b1); have hz1 := d1.size; have ME1 := (ME).below d1; have hE1 := ME1.1; have AE1 := (fun (o : Obj) k => old1 hE1 o k); have ke0 := ME1.2.1 0 _ rfl; have ke1 := ME1.2.1 1 _ rfl; (first | (have M1 : Mut w1 _ _ := (by first | with_reducible exact (Mut.new wA #[.int .i64 0, .int .i64 0, .int .i64 0, .int .i64 0, .int .i64 0] 23).below b1 | with_reducible exact (Mut.new wA #[.int .i64 0, .int .i64 0, .int .i64 0, .int .i64 0, .int .i64 0] 23).drew.below b1 | with_reducible exact ((Mut.new wA #[.int .i64 0, .int .i64 0, .int .i64 0, .int .i64 0, .int .i64 0] 23).drew).drew.below b1); have ca0 := M1.2.1 0 _ rfl; have ca1 := M1.2.1 1 _ rfl; have ca2 := M1.2.1 2 _ rfl; have ca3 := M1.2.1 3 _ rfl; have ca4 := M1.2.1 4 _ rfl; have caf0 := M1.2.2 0 (by simp); have caf1 := M1.2.2 1 (by simp); have caf2 := M1.2.2 2 (by simp); have caf3 := M1.2.2 3 (by simp); have caf4 := M1.2.2 4 (by simp); have hm1 := M1.1) | skip); clear b1) | (go_at_call 14; refine (TE.out _).mono ?_; rintro e w2 ⟨rfl, b2⟩; have d2 : Below wA.heap.size wA w2 := (by first | with_reducible exact below_step d1 b2 | with_reducible exact below_step d1.drew b2 | with_reducible exact below_step (d1.alloc d1.size _) b2 | with_reducible exact below_step (d1.alloc d1.size _).drew b2 | with_reducible exact below_step (d1.drew.alloc d1.drew.size _) b2 | with_reducible exact below_step (d1.drew.alloc d1.drew.size _).drew b2 | with_reducible exact below_step d1.drew.drew b2); have hz2 := d2.size; (first | (have M2 : Mut w2 _ _ := (by first | with_reducible exact (M1).below b2 | with_reducible exact (M1).drew.below b2 | with_reducible exact ((M1).drew).drew.below b2 | with_reducible exact (Mut.new w1 #[.int .i64 0, .int .i64 0, .int .i64 0, .int .i64 0, .int .i64 0] 23).below b2 | with_reducible exact (Mut.new w1 #[.int .i64 0, .int .i64 0, .int .i64 0, .int .i64 0, .int .i64 0] 23).drew.below b2 | with_reducible exact ((Mut.new w1 #[.int .i64 0, .int .i64 0, .int .i64 0, .int .i64 0, .int .i64 0] 23).drew).drew.below b2); have cb0 := M2.2.1 0 _ rfl; have cb1 := M2.2.1 1 _ rfl; have cb2 := M2.2.1 2 _ rfl; have cb3 := M2.2.1 3 _ rfl; have cb4 := M2.2.1 4 _ rfl; have cbf0 := M2.2.2 0 (by simp); have cbf1 := M2.2.2 1 (by simp); have cbf2 := M2.2.2 2 (by simp); have cbf3 := M2.2.2 3 (by simp); have cbf4 := M2.2.2 4 (by simp); have hm2 := M2.1) | skip); have hb2 := b2.size; clear b2) | (go_at_call 15; refine (IG.out _).mono ?_; rintro e w3 ⟨v, rfl, T1, b3⟩; have d3 : Below wA.heap.size wA w3 := (by first | with_reducible exact below_step d2 b3 | with_reducible exact below_step d2.drew b3 | with_reducible exact below_step (d2.alloc d2.size _) b3 | with_reducible exact below_step (d2.alloc d2.size _).drew b3 | with_reducible exact below_step (d2.drew.alloc d2.drew.size _) b3 | with_reducible exact below_step (d2.drew.alloc d2.drew.size _).drew b3 | with_reducible exact below_step d2.drew.drew b3); have hz3 := d3.size; (first | (have M3 : Mut w3 _ _ := (by first | with_reducible exact (M2).below b3 | with_reducible exact (M2).drew.below b3 | with_reducible exact ((M2).drew).drew.below b3 | with_reducible exact (Mut.new w2 #[.int .i64 0, .int .i64 0, .int .i64 0, .int .i64 0, .int .i64 0] 23).below b3 | with_reducible exact (Mut.new w2 #[.int .i64 0, .int .i64 0, .int .i64 0, .int .i64 0, .int .i64 0] 23).drew.below b3 | with_reducible exact ((Mut.new w2 #[.int .i64 0, .int .i64 0, .int .i64 0, .int .i64 0, .int .i64 0] 23).drew).drew.below b3); have cc0 := M3.2.1 0 _ rfl; have cc1 := M3.2.1 1 _ rfl; have cc2 := M3.2.1 2 _ rfl; have cc3 := M3.2.1 3 _ rfl; have cc4 := M3.2.1 4 _ rfl; have ccf0 := M3.2.2 0 (by simp); have ccf1 := M3.2.2 1 (by simp); have ccf2 := M3.2.2 2 (by simp); have ccf3 := M3.2.2 3 (by simp); have ccf4 := M3.2.2 4 (by simp); have hm3 := M3.1) | skip)))
      all_goals (go_wp2_with fail; go_meet)
      all_goals first | with_reducible refine StepR.set M3 T1 ?_ ?_ d3 | with_reducible refine StepR.new T1 ?_ d3
      all_goals (first | (simp; done) | (simp at *; omega) | omega)
    case rest =>
      obtain ⟨qG, rfl, rfl, hqG, MG, TG, eA⟩ := hcut
      clear KB hE0 hS0 z0 z1 z2 z3 z4 ze0 ze1 dZ AS AE
      obtain ⟨ga, gc, rfl, RG, hG⟩ := RT.out _ _ _ TG
      have hG' := hide hG
      clear hG TG
      have MWc := MW.below eA
      have ca0 := MWc.2.1 0 _ rfl
      have cb0 := MG.2.1 0 _ rfl
      have ca1 := MWc.2.1 1 _ rfl
      have cb1 := MG.2.1 1 _ rfl
      have ca2 := MWc.2.1 2 _ rfl
      have cb2 := MG.2.1 2 _ rfl
      have ca3 := MWc.2.1 3 _ rfl
      have cb3 := MG.2.1 3 _ rfl
      have ca4 := MWc.2.1 4 _ rfl
      have cb4 := MG.2.1 4 _ rfl
      go_wp2_with fail
      refine (ES.out _).mono ?_
      rintro e wB ⟨rfl, bB⟩
      have eB := eA.trans (bB.mono eA.size)
      have gB : Below wc.heap.size wc wB := bB
      clear ca0 ca1 ca2 ca3 ca4 cb0 cb1 cb2 cb3 cb4 MWc MG bB
      go_wp2_with fail
      refine (EI.out _ _ _ _ _ (RG.below gB) (RW.below eB)).mono ?_
      rintro e wC ⟨rfl, bC⟩
      have eC := eB.trans (bC.mono eB.size)
      have gC := gB.trans (bC.mono gB.size)
      clear bC eB gB
      go_wp2_with fail
      have hGC : L = 0 ∨ ∃ g, ga = some ⟨g, 0, none⟩ ∧ wA.heap.size ≤ g ∧ OutInt g L L (fun _ => t) wC := by
        rcases hG'.out with h | ⟨g, h1, h2, h3⟩
        · exact .inl h
        · exact .inr ⟨g, h1, h2, h3.below gC⟩
      refine (MA.out _ _ _ _ hGC).mono ?_
      rintro e wD ⟨rfl, RD, bD⟩
      have eD := eC.trans bD
      clear hGC hG' RG bD eC gC
      go_wp2_with fail
      refine (HA.out _ _ _ RD).mono ?_
      rintro e wE ⟨rfl, hwE⟩
      rw [hwE]; clear hwE wE
      have dD : Below bs w wD := dq.trans (eD.mono (Nat.le_of_lt MS.1))
      have MSD := MS.below eD
      have MED := ME.below eD
      go_upto_region 13 with fail
      have KB : Hid (∀ X : World, Below wD.heap.size wD X → (X.cell? ⟨bs, 0, none⟩ = some (.int .i64 x0) ∧ X.cell? ⟨bs, 1, none⟩ = some (.int .i64 x1) ∧ X.cell? ⟨bs, 2, none⟩ = some (.int .i64 x2) ∧ X.cell? ⟨bs, 3, none⟩ = some (.int .i64 x3) ∧ X.cell? ⟨bs, 4, none⟩ = some (.int .i64 x4) ∧ X.cell? ⟨bs + 1, 0, none⟩ = some (.int .i64 k) ∧ X.cell? ⟨bs + 1, 1, none⟩ = some (.int .i64 n))) := fun X h => ⟨((MSD).below h).2.1 0 _ rfl, ((MSD).below h).2.1 1 _ rfl, ((MSD).below h).2.1 2 _ rfl, ((MSD).below h).2.1 3 _ rfl, ((MSD).below h).2.1 4 _ rfl, ((MED).below h).2.1 0 _ rfl, ((MED).below h).2.1 1 _ rfl⟩
      have hE0 : bs + 1 < wD.heap.size := (MED).1
      have hS0 : bs < wD.heap.size := (MSD).1
      have z0 := (MSD).2.1 0 _ rfl
      have z1 := (MSD).2.1 1 _ rfl
      have z2 := (MSD).2.1 2 _ rfl
      have z3 := (MSD).2.1 3 _ rfl
      have z4 := (MSD).2.1 4 _ rfl
      have ze0 := (MED).2.1 0 _ rfl
      have ze1 := (MED).2.1 1 _ rfl
      have dZ : Below wD.heap.size wD wD := Below.refl _ _
      have AS := fun (o : Obj) k => old1 hS0 o k
      have AE := fun (o : Obj) k => old1 hE0 o k
      go_cut [13, 14, 15] (fun p v b wx => StepR wD y0 y1 y2 y3 y4 t g p v b wx)
      case first =>
        go_region_held3 (fun w' => w'.cell? ⟨bs, 0, none⟩ = some (.int .i64 x0) ∧ w'.cell? ⟨bs, 1, none⟩ = some (.int .i64 x1) ∧ w'.cell? ⟨bs, 2, none⟩ = some (.int .i64 x2) ∧ w'.cell? ⟨bs, 3, none⟩ = some (.int .i64 x3) ∧ w'.cell? ⟨bs, 4, none⟩ = some (.int .i64 x4) ∧ w'.cell? ⟨bs + 1, 0, none⟩ = some (.int .i64 k) ∧ w'.cell? ⟨bs + 1, 1, none⟩ = some (.int .i64 n)) (exact KB.out _ (by (repeat (first | with_reducible exact d3 | with_reducible exact d2 | with_reducible exact d1 | with_reducible exact dZ | with_reducible apply Below.drew | with_reducible apply Below.setCell | with_reducible apply Below.alloc)); all_goals (first | (simp; done) | (simp; omega) | omega))) (first | (go_at_call 11; refine (TS.out _).mono ?_; rintro e w1 ⟨rfl, b1⟩; have d1 : Below wD.heap.size wD w1 := (by first | with_reducible exact below_step dZ b1 | with_reducible exact below_step dZ.drew b1 | with_reducible exact below_step (dZ.alloc dZ.size _) b1 | with_reducible exact below_step (dZ.alloc dZ.size _).drew b1 | with_reducible exact below_step (dZ.drew.alloc dZ.drew.size _) b1 | with_reducible exact below_step (dZ.drew.alloc dZ.drew.size _).drew b1 | with_reducible exact below_step dZ.drew.drew b1); have hz1 := d1.size; have ME1 := (MED).below d1; have hE1 := ME1.1; have AE1 := (fun (o : Obj) k => old1 hE1 o k); have ke0 := ME1.2.1 0 _ rfl; have ke1 := ME1.2.1 1 _ rfl; (first | (have M1 : Mut w1 _ _ := (by first | with_reducible exact (Mut.new wD #[.int .i64 0, .int .i64 0, .int .i64 0, .int .i64 0, .int .i64 0] 23).below b1 | with_reducible exact (Mut.new wD #[.int .i64 0, .int .i64 0, .int .i64 0, .int .i64 0, .int .i64 0] 23).drew.below b1 | with_reducible exact ((Mut.new wD #[.int .i64 0, .int .i64 0, .int .i64 0, .int .i64 0, .int .i64 0] 23).drew).drew.below b1); have ca0 := M1.2.1 0 _ rfl; have ca1 := M1.2.1 1 _ rfl; have ca2 := M1.2.1 2 _ rfl; have ca3 := M1.2.1 3 _ rfl; have ca4 := M1.2.1 4 _ rfl; have caf0 := M1.2.2 0 (by simp); have caf1 := M1.2.2 1 (by simp); have caf2 := M1.2.2 2 (by simp); have caf3 := M1.2.2 3 (by simp); have caf4 := M1.2.2 4 (by simp); have hm1 := M1.1) | skip); clear b1) | (go_at_call 14; refine (TE.out _).mono ?_; rintro e w2 ⟨rfl, b2⟩; have d2 : Below wD.heap.size wD w2 := (by first | with_reducible exact below_step d1 b2 | with_reducible exact below_step d1.drew b2 | with_reducible exact below_step (d1.alloc d1.size _) b2 | with_reducible exact below_step (d1.alloc d1.size _).drew b2 | with_reducible exact below_step (d1.drew.alloc d1.drew.size _) b2 | with_reducible exact below_step (d1.drew.alloc d1.drew.size _).drew b2 | with_reducible exact below_step d1.drew.drew b2); have hz2 := d2.size; (first | (have M2 : Mut w2 _ _ := (by first | with_reducible exact (M1).below b2 | with_reducible exact (M1).drew.below b2 | with_reducible exact ((M1).drew).drew.below b2 | with_reducible exact (Mut.new w1 #[.int .i64 0, .int .i64 0, .int .i64 0, .int .i64 0, .int .i64 0] 23).below b2 | with_reducible exact (Mut.new w1 #[.int .i64 0, .int .i64 0, .int .i64 0, .int .i64 0, .int .i64 0] 23).drew.below b2 | with_reducible exact ((Mut.new w1 #[.int .i64 0, .int .i64 0, .int .i64 0, .int .i64 0, .int .i64 0] 23).drew).drew.below b2); have cb0 := M2.2.1 0 _ rfl; have cb1 := M2.2.1 1 _ rfl; have cb2 := M2.2.1 2 _ rfl; have cb3 := M2.2.1 3 _ rfl; have cb4 := M2.2.1 4 _ rfl; have cbf0 := M2.2.2 0 (by simp); have cbf1 := M2.2.2 1 (by simp); have cbf2 := M2.2.2 2 (by simp); have cbf3 := M2.2.2 3 (by simp); have cbf4 := M2.2.2 4 (by simp); have hm2 := M2.1) | skip); have hb2 := b2.size; clear b2) | (go_at_call 15; refine (IG.out _).mono ?_; rintro e w3 ⟨v, rfl, T1, b3⟩; have d3 : Below wD.heap.size wD w3 := (by first | with_reducible exact below_step d2 b3 | with_reducible exact below_step d2.drew b3 | with_reducible exact below_step (d2.alloc d2.size _) b3 | with_reducible exact below_step (d2.alloc d2.size _).drew b3 | with_reducible exact below_step (d2.drew.alloc d2.drew.size _) b3 | with_reducible exact below_step (d2.drew.alloc d2.drew.size _).drew b3 | with_reducible exact below_step d2.drew.drew b3); have hz3 := d3.size; (first | (have M3 : Mut w3 _ _ := (by first | with_reducible exact (M2).below b3 | with_reducible exact (M2).drew.below b3 | with_reducible exact ((M2).drew).drew.below b3 | with_reducible exact (Mut.new w2 #[.int .i64 0, .int .i64 0, .int .i64 0, .int .i64 0, .int .i64 0] 23).below b3 | with_reducible exact (Mut.new w2 #[.int .i64 0, .int .i64 0, .int .i64 0, .int .i64 0, .int .i64 0] 23).drew.below b3 | with_reducible exact ((Mut.new w2 #[.int .i64 0, .int .i64 0, .int .i64 0, .int .i64 0, .int .i64 0] 23).drew).drew.below b3); have cc0 := M3.2.1 0 _ rfl; have cc1 := M3.2.1 1 _ rfl; have cc2 := M3.2.1 2 _ rfl; have cc3 := M3.2.1 3 _ rfl; have cc4 := M3.2.1 4 _ rfl; have ccf0 := M3.2.2 0 (by simp); have ccf1 := M3.2.2 1 (by simp); have ccf2 := M3.2.2 2 (by simp); have ccf3 := M3.2.2 3 (by simp); have ccf4 := M3.2.2 4 (by simp); have hm3 := M3.1) | skip)))
        all_goals (go_wp2_with fail; go_meet)
        all_goals first | with_reducible refine StepR.set M3 T1 ?_ ?_ d3 | with_reducible refine StepR.new T1 ?_ d3
        all_goals (first | (simp; done) | (simp at *; omega) | omega)
      case rest =>
        obtain ⟨qH, rfl, rfl, hqH, MH, TH, eH⟩ := hcut
        clear KB hE0 hS0 z0 z1 z2 z3 z4 ze0 ze1 dZ AS AE
        obtain ⟨ha, hc, rfl, RH, _⟩ := RT.out _ _ _ TH
        have eT := eD.trans (eH.mono eD.size)
        have MWc := MW.below eT
        have RK := RD.below eH
        have ca0 := MWc.2.1 0 _ rfl
        have cb0 := MH.2.1 0 _ rfl
        have ca1 := MWc.2.1 1 _ rfl
        have cb1 := MH.2.1 1 _ rfl
        have ca2 := MWc.2.1 2 _ rfl
        have cb2 := MH.2.1 2 _ rfl
        have ca3 := MWc.2.1 3 _ rfl
        have cb3 := MH.2.1 3 _ rfl
        have ca4 := MWc.2.1 4 _ rfl
        have cb4 := MH.2.1 4 _ rfl
        go_wp2_with fail
        refine (ES.out _).mono ?_
        rintro e wF ⟨rfl, bF⟩
        have eF := eT.trans (bF.mono eT.size)
        replace RK := RK.below bF
        replace RH := RH.below bF
        clear ca0 ca1 ca2 ca3 ca4 cb0 cb1 cb2 cb3 cb4 MWc MH bF
        go_wp2_with fail
        refine (EI.out _ _ _ _ _ RH (RW.below eF)).mono ?_
        rintro e wG ⟨rfl, bG⟩
        have eG := eF.trans (bG.mono eF.size)
        replace RK := RK.below bG
        clear bG
        go_wp2_with fail
        refine (HA.out _ _ _ RK).mono ?_
        rintro e wI ⟨rfl, hwI⟩
        rw [hwI]; clear hwI wI
        go_wp2_with fail
        go_ret
        exact ⟨rfl, by rw [hbs'.out]; exact dq.trans (eG.mono (Nat.le_of_lt MS.1))⟩
end Go.Proofs.Ytcapbljknpggkaa
