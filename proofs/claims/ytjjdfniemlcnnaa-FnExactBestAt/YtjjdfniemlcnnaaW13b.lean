/- The law on BestAt: the program answers as the specification, in memory of its own. -/
import Derived.Test.YtjjdfniemlcnnaaLawR
import Derived.Test.YtjjdfniemlcnnaaAll3
import Derived.Test.YtjjdfniemlcnnaaBA13
import Derived.Deep.DeepCutAuto
import Derived.Deep.CutRange
import Derived.Deep.RegionHeld3
namespace Go.Proofs.Ytjjdfniemlcnnaa
open Go.RowKit

set_option maxRecDepth 100000 in
set_option maxHeartbeats 12800000 in
theorem w_bestAt (ow : Int) (a : Option Addr) (n c : Nat) (U : Nat → Rc) (pa pl : Int) (w : World) (hn : n ≤ maxLen) (hx : MaxR n U) (hR0 : RowR a n U w) :
    Calls Try.prog 6 #[.agg #[.int .i64 ow, .slice a n c], .agg #[.int .i64 pa, .int .i64 pl]] w fun e w' => e = .returned (.bool true) ∧ Below w.heap.size w w' := by
  have SZ := hide (fun w R => w_szRib ow a n c U 1048576 w hn hx (by omega) (by omega) R)
  have MB := (Mut.new w #[.int .i64 ow, .slice a n c] 32).alloc (.cells #[.int .i64 pa, .int .i64 pl] 44)
  have MP := Mut.new (w.alloc (.cells #[.int .i64 ow, .slice a n c] 32)) #[.int .i64 pa, .int .i64 pl] 44
  simp only [World.size_alloc] at MP
  have hB0 : Below w.heap.size w ((w.alloc (.cells #[.int .i64 ow, .slice a n c] 32)).alloc (.cells #[.int .i64 pa, .int .i64 pl] 44)) := below_box2 (Below.refl _ _)
  have hR := hide hR0
  clear hR0
  by_cases hs : (n : Int) + (totR U n : Int) ≤ 1048576
  · rw [if_pos hs] at SZ
    have hlt : ¬ (1048576 - (n : Int) - (totR U n : Int) < 0) := by omega
    have hn1 : n ≤ 1048576 := by omega
    have hl : LowR n U := lowR_of (by omega)
    have TP := hide (fun w R => w_toRib ow a n c U w hn1 hl R)
    have TX := hide (fun w => w_toPrefix pa pl w)
    have SB := hide (fun a c w R => s_bestAtF ow a n c U pa pl w hn1 hl R)
    have IB := hide (fun a c w R => i_bestAtF ow a n c U pa pl w hn1 hl R)
    have ER := hide (fun a a' c c' w R Q => w_eqRib ow a a' n c c' U w hn1 hl R Q)
    have SRC := hide (fun c X H hi w (h : RowRO c n X H hi U w) => h.src hl)
    have MK := hide (fun c X H hi w hc R F => w_markRib ow c n n X H hi U w (by omega) hc R F)
    obtain ⟨t0, t1⟩ := be_low (ow := ow) (pa := pa) (pl := pl) hl
    generalize beT ow n U pa pl = t at *
    generalize beB ow n U pa pl = bb at *
    have EO := hide (fun a0 b0 c0 e0 a1 b1 c1 e1 w R Q => w_eqOffer a0 b0 c0 e0 a1 b1 c1 e1 t w (by omega) (by omega) R Q)
    have MO := hide (fun base kb a0 c0 a1 c1 w h => w_markOf base kb t a0 c0 a1 c1 w t0 t1 h)
    have HO := hide (fun a0 c0 a1 c1 w R => w_heldOf t a0 c0 a1 c1 w t0 t1 R)
    have kb0 : (bb != bb) = false := by simp
    have km0 : ((1 + (t.n0 : Int) + (t.n1 : Int)) != (1 + (t.n0 : Int) + (t.n1 : Int))) = false := by simp
    have km1 : ¬ (1 + (t.n0 : Int) + (t.n1 : Int) < 0) := by omega
    generalize totR U n = qq at *
    clear hn hx hs hn1 hl
    go_enter Try.func6, Try.ntmps6
    go_wp2_with fail
    generalize (w.alloc (.cells #[.int .i64 ow, .slice a n c] 32)).alloc (.cells #[.int .i64 pa, .int .i64 pl] 44) = W0 at *
    refine (SZ.out _ (hR.out.below hB0)).mono ?_
    rintro e w0 ⟨rfl, d0⟩
    replace MB := MB.below d0
    replace MP := MP.below d0
    have dW := hB0.trans (d0.mono hB0.size)
    clear d0 SZ hB0
    go_upto_region 5 with fail
    have KB : Hid (∀ X : World, Below w0.heap.size w0 X → (X.cell? ⟨w.heap.size, 0, none⟩ = some (.int .i64 ow) ∧ X.cell? ⟨w.heap.size, 1, none⟩ = some (.slice a n c) ∧ X.cell? ⟨w.heap.size + 1, 0, none⟩ = some (.int .i64 pa) ∧ X.cell? ⟨w.heap.size + 1, 1, none⟩ = some (.int .i64 pl))) := fun X h => ⟨(MB.below h).2.1 0 _ rfl, (MB.below h).2.1 1 _ rfl, (MP.below h).2.1 0 _ rfl, (MP.below h).2.1 1 _ rfl⟩
    have hS0 : w.heap.size < w0.heap.size := MB.1
    have hE0 : w.heap.size + 1 < w0.heap.size := MP.1
    have z0 := MB.2.1 0 _ rfl
    have z1 := MB.2.1 1 _ rfl
    have ze0 := MP.2.1 0 _ rfl
    have ze1 := MP.2.1 1 _ rfl
    have dZ : Below w0.heap.size w0 w0 := Below.refl _ _
    have AS := fun (o : Obj) k => old1 hS0 o k
    have AE := fun (o : Obj) k => old1 hE0 o k
    have hRW := hide (hR.out.below dW)
    go_cut [6, 7] (fun p b wx => BR w0 t bb p b wx)
    case first =>
      go_region_held3 (fun X => X.cell? ⟨w.heap.size, 0, none⟩ = some (.int .i64 ow) ∧ X.cell? ⟨w.heap.size, 1, none⟩ = some (.slice a n c) ∧ X.cell? ⟨w.heap.size + 1, 0, none⟩ = some (.int .i64 pa) ∧ X.cell? ⟨w.heap.size + 1, 1, none⟩ = some (.int .i64 pl)) (exact KB.out _ (by (repeat (first | with_reducible exact f_y3 | with_reducible exact f_y2 | with_reducible exact f_y1 | with_reducible exact dZ | with_reducible apply Below.drew | with_reducible apply Below.setCell | with_reducible apply Below.alloc)); all_goals (first | (simp; done) | (simp; omega) | omega))) (first | (go_at_call 14; refine (TP.out _ (hRW.out.below (by (repeat (first | with_reducible exact dZ | with_reducible apply Below.drew | with_reducible apply Below.setCell | with_reducible apply Below.alloc)); all_goals (first | (simp; done) | (simp; omega) | omega)))).mono ?_; rintro e y1 ⟨qT, rfl, _, ⟨XT, HT, oT⟩, _, b1⟩; have f_y1 : Below w0.heap.size w0 y1 := (by first | with_reducible exact below_step dZ b1 | with_reducible exact below_step dZ.drew b1 | with_reducible exact below_step (dZ.alloc dZ.size _) b1 | with_reducible exact below_step (dZ.alloc dZ.size _).drew b1 | with_reducible exact below_step (dZ.drew.alloc dZ.drew.size _) b1 | with_reducible exact below_step (dZ.drew.alloc dZ.drew.size _).drew b1 | with_reducible exact below_step dZ.drew.drew b1); have hz_y1 := f_y1.size; have hS_y1 : w.heap.size < y1.heap.size := Nat.lt_of_lt_of_le hS0 hz_y1; have hE_y1 : w.heap.size + 1 < y1.heap.size := Nat.lt_of_lt_of_le hE0 hz_y1; have AS_y1 := (fun (o : Obj) k => old1 hS_y1 o k); have AE_y1 := (fun (o : Obj) k => old1 hE_y1 o k); have s_y1 := KB.out y1 f_y1; have e1 : Below y1.heap.size y1 y1 := Below.refl _ _; (first | (have L_y1 : Mut y1 _ _ := (by first | with_reducible exact (Mut.new w0 #[.int .i64 0, .int .i64 0, .slice none 0 0, .int .i64 0, .int .i64 0, .int .i64 0, .slice none 0 0] 49).below b1 | with_reducible exact (Mut.new w0 #[.int .i64 0, .int .i64 0, .slice none 0 0, .int .i64 0, .int .i64 0, .int .i64 0, .slice none 0 0] 49).drew.below b1 | with_reducible exact ((Mut.new w0 #[.int .i64 0, .int .i64 0, .slice none 0 0, .int .i64 0, .int .i64 0, .int .i64 0, .slice none 0 0] 49).drew).drew.below b1 | with_reducible exact (Mut.new w0.drew #[.int .i64 0, .int .i64 0, .slice none 0 0, .int .i64 0, .int .i64 0, .int .i64 0, .slice none 0 0] 49).below b1 | with_reducible exact (Mut.new w0.drew #[.int .i64 0, .int .i64 0, .slice none 0 0, .int .i64 0, .int .i64 0, .int .i64 0, .slice none 0 0] 49).drew.below b1 | with_reducible exact ((Mut.new w0.drew #[.int .i64 0, .int .i64 0, .slice none 0 0, .int .i64 0, .int .i64 0, .int .i64 0, .slice none 0 0] 49).drew).drew.below b1); have hm_y1 := L_y1.1) | skip); clear b1) | (go_at_call 22; refine (TX.out _).mono ?_; rintro e y2 ⟨rfl, b2⟩; have f_y2 : Below w0.heap.size w0 y2 := (by first | with_reducible exact below_step f_y1 b2 | with_reducible exact below_step f_y1.drew b2 | with_reducible exact below_step (f_y1.alloc f_y1.size _) b2 | with_reducible exact below_step (f_y1.alloc f_y1.size _).drew b2 | with_reducible exact below_step (f_y1.drew.alloc f_y1.drew.size _) b2 | with_reducible exact below_step (f_y1.drew.alloc f_y1.drew.size _).drew b2 | with_reducible exact below_step f_y1.drew.drew b2); have g2 : Below y1.heap.size y1 y2 := (by first | with_reducible exact below_step e1 b2 | with_reducible exact below_step e1.drew b2 | with_reducible exact below_step (e1.alloc e1.size _) b2 | with_reducible exact below_step (e1.alloc e1.size _).drew b2 | with_reducible exact below_step (e1.drew.alloc e1.drew.size _) b2 | with_reducible exact below_step (e1.drew.alloc e1.drew.size _).drew b2 | with_reducible exact below_step e1.drew.drew b2); have hg2 := g2.size; have hz_y2 := f_y2.size; have hS_y2 : w.heap.size < y2.heap.size := Nat.lt_of_lt_of_le hS0 hz_y2; have hE_y2 : w.heap.size + 1 < y2.heap.size := Nat.lt_of_lt_of_le hE0 hz_y2; have AS_y2 := (fun (o : Obj) k => old1 hS_y2 o k); have AE_y2 := (fun (o : Obj) k => old1 hE_y2 o k); have s_y2 := KB.out y2 f_y2; (first | (have L_y2 : Mut y2 _ _ := (by first | with_reducible exact (L_y1).below b2 | with_reducible exact (L_y1).drew.below b2 | with_reducible exact ((L_y1).drew).drew.below b2 | with_reducible exact (Mut.new y1 #[.int .i64 0, .int .i64 0, .slice none 0 0, .int .i64 0, .int .i64 0, .int .i64 0, .slice none 0 0] 49).below b2 | with_reducible exact (Mut.new y1 #[.int .i64 0, .int .i64 0, .slice none 0 0, .int .i64 0, .int .i64 0, .int .i64 0, .slice none 0 0] 49).drew.below b2 | with_reducible exact ((Mut.new y1 #[.int .i64 0, .int .i64 0, .slice none 0 0, .int .i64 0, .int .i64 0, .int .i64 0, .slice none 0 0] 49).drew).drew.below b2 | with_reducible exact (Mut.new y1.drew #[.int .i64 0, .int .i64 0, .slice none 0 0, .int .i64 0, .int .i64 0, .int .i64 0, .slice none 0 0] 49).below b2 | with_reducible exact (Mut.new y1.drew #[.int .i64 0, .int .i64 0, .slice none 0 0, .int .i64 0, .int .i64 0, .int .i64 0, .slice none 0 0] 49).drew.below b2 | with_reducible exact ((Mut.new y1.drew #[.int .i64 0, .int .i64 0, .slice none 0 0, .int .i64 0, .int .i64 0, .int .i64 0, .slice none 0 0] 49).drew).drew.below b2); have hm_y2 := L_y2.1) | skip); clear b2) | (go_at_call 21; refine (SB.out _ _ _ (SRC.out _ _ _ _ _ (oT.below (by (repeat (first | with_reducible exact g2 | with_reducible apply Below.drew | with_reducible apply Below.setCell | with_reducible apply Below.alloc)); all_goals (first | (simp; done) | (simp; omega) | omega))))).mono ?_; rintro e y3 ⟨r0, rc0, r1, rc1, rfl, hA, b3⟩; have f_y3 : Below w0.heap.size w0 y3 := (by first | with_reducible exact below_step f_y2 b3 | with_reducible exact below_step f_y2.drew b3 | with_reducible exact below_step (f_y2.alloc f_y2.size _) b3 | with_reducible exact below_step (f_y2.alloc f_y2.size _).drew b3 | with_reducible exact below_step (f_y2.drew.alloc f_y2.drew.size _) b3 | with_reducible exact below_step (f_y2.drew.alloc f_y2.drew.size _).drew b3 | with_reducible exact below_step f_y2.drew.drew b3); have hz_y3 := f_y3.size; (first | (have L_y3 : Mut y3 _ _ := (by first | with_reducible exact (L_y2).below b3 | with_reducible exact (L_y2).drew.below b3 | with_reducible exact ((L_y2).drew).drew.below b3 | with_reducible exact (Mut.new y2 #[.int .i64 0, .int .i64 0, .slice none 0 0, .int .i64 0, .int .i64 0, .int .i64 0, .slice none 0 0] 49).below b3 | with_reducible exact (Mut.new y2 #[.int .i64 0, .int .i64 0, .slice none 0 0, .int .i64 0, .int .i64 0, .int .i64 0, .slice none 0 0] 49).drew.below b3 | with_reducible exact ((Mut.new y2 #[.int .i64 0, .int .i64 0, .slice none 0 0, .int .i64 0, .int .i64 0, .int .i64 0, .slice none 0 0] 49).drew).drew.below b3 | with_reducible exact (Mut.new y2.drew #[.int .i64 0, .int .i64 0, .slice none 0 0, .int .i64 0, .int .i64 0, .int .i64 0, .slice none 0 0] 49).below b3 | with_reducible exact (Mut.new y2.drew #[.int .i64 0, .int .i64 0, .slice none 0 0, .int .i64 0, .int .i64 0, .int .i64 0, .slice none 0 0] 49).drew.below b3 | with_reducible exact ((Mut.new y2.drew #[.int .i64 0, .int .i64 0, .slice none 0 0, .int .i64 0, .int .i64 0, .int .i64 0, .slice none 0 0] 49).drew).drew.below b3); have hm_y3 := L_y3.1; have lc0 := L_y3.2.1 0 _ rfl; have lcz0 := L_y3.2.2 0 (by simp); have lc1 := L_y3.2.1 1 _ rfl; have lcz1 := L_y3.2.2 1 (by simp); have lc2 := L_y3.2.1 2 _ rfl; have lcz2 := L_y3.2.2 2 (by simp); have lc3 := L_y3.2.1 3 _ rfl; have lcz3 := L_y3.2.2 3 (by simp); have lc4 := L_y3.2.1 4 _ rfl; have lcz4 := L_y3.2.2 4 (by simp); have lc5 := L_y3.2.1 5 _ rfl; have lcz5 := L_y3.2.2 5 (by simp); have lc6 := L_y3.2.1 6 _ rfl; have lcz6 := L_y3.2.2 6 (by simp); skip) | skip)))
      all_goals (go_wp2_with fail; go_meet)
      all_goals first | with_reducible refine BR.set L_y3 hA ?_ ?_ f_y3 | with_reducible refine BR.new hA ?_ f_y3
      all_goals (first | (simp; done) | (simp at *; omega) | omega)
    case rest =>
      clear KB hS0 hE0 z0 z1 ze0 ze1 dZ AS AE hRW
      obtain ⟨kW, x0, xc0, x1, xc1, rfl, rfl, hkW, MW, AW, eA⟩ := hcut
      generalize wc = wA at *
      replace MB := MB.below eA
      replace MP := MP.below eA
      replace dW := dW.trans (eA.mono dW.size)
      have OW := hide AW.1
      have hkWl := MW.1
      have hWA := dW.size
      have hPA : w.heap.size + 1 < wA.heap.size := MP.1
      clear eA AW hkW
      have m0 := MB.2.1 0 _ rfl
      have m1 := MB.2.1 1 _ rfl
      go_upto_region 6 with fail
      go_wp2_with fail
      refine (TP.out _ (hR.out.below dW)).mono ?_
      rintro e w3 ⟨q3, rfl, hq3, ⟨X3, H3, o3⟩, F3, b3⟩
      clear m0 m1
      have bB : Below w3.heap.size w3 (w3.alloc (.cells #[.int .i64 ow, .slice (some ⟨q3, 0, none⟩) n n] 24)) := below_box (Below.refl _ _)
      have MX := Mut.new w3 #[.int .i64 ow, .slice (some ⟨q3, 0, none⟩) n n] 24
      have hq3l : q3 < w3.heap.size := F3.1
      have DA := below_step b3 bB
      have hA6 := DA.size
      replace MB := MB.below DA
      replace MP := MP.below DA
      replace dW := dW.trans (DA.mono dW.size)
      have hw6 := dW.size
      replace o3 := o3.below bB
      replace F3 := F3.below bB
      have hz6 := bB.size
      clear b3 bB
      go_upto_region 7 with fail
      generalize w3.alloc (.cells #[.int .i64 ow, .slice (some ⟨q3, 0, none⟩) n n] 24) = w6 at *
      generalize w3.heap.size = bx at *
      have KB : Hid (∀ X : World, Below w6.heap.size w6 X → (X.cell? ⟨w.heap.size, 0, none⟩ = some (.int .i64 ow) ∧ X.cell? ⟨w.heap.size, 1, none⟩ = some (.slice a n c) ∧ X.cell? ⟨w.heap.size + 1, 0, none⟩ = some (.int .i64 pa) ∧ X.cell? ⟨w.heap.size + 1, 1, none⟩ = some (.int .i64 pl) ∧ X.cell? ⟨bx, 0, none⟩ = some (.int .i64 ow) ∧ X.cell? ⟨bx, 1, none⟩ = some (.slice (some ⟨q3, 0, none⟩) n n))) := fun X h => ⟨(MB.below h).2.1 0 _ rfl, (MB.below h).2.1 1 _ rfl, (MP.below h).2.1 0 _ rfl, (MP.below h).2.1 1 _ rfl, (MX.below h).2.1 0 _ rfl, (MX.below h).2.1 1 _ rfl⟩
      have hS0 : w.heap.size < w6.heap.size := MB.1
      have hE0 : w.heap.size + 1 < w6.heap.size := MP.1
      have z0 := MB.2.1 0 _ rfl
      have z1 := MB.2.1 1 _ rfl
      have ze0 := MP.2.1 0 _ rfl
      have ze1 := MP.2.1 1 _ rfl
      have dZ : Below w6.heap.size w6 w6 := Below.refl _ _
      have AS := fun (o : Obj) k => old1 hS0 o k
      have AE := fun (o : Obj) k => old1 hE0 o k
      have hX0 : bx < w6.heap.size := MX.1
      have zx0 := MX.2.1 0 _ rfl
      have zx1 := MX.2.1 1 _ rfl
      have AX := fun (o : Obj) k => old1 hX0 o k
      go_cut [9, 10] (fun p b wx => BR w6 t bb p b wx)
      case first =>
        go_region_held3 (fun X => X.cell? ⟨w.heap.size, 0, none⟩ = some (.int .i64 ow) ∧ X.cell? ⟨w.heap.size, 1, none⟩ = some (.slice a n c) ∧ X.cell? ⟨w.heap.size + 1, 0, none⟩ = some (.int .i64 pa) ∧ X.cell? ⟨w.heap.size + 1, 1, none⟩ = some (.int .i64 pl) ∧ X.cell? ⟨bx, 0, none⟩ = some (.int .i64 ow) ∧ X.cell? ⟨bx, 1, none⟩ = some (.slice (some ⟨q3, 0, none⟩) n n)) (exact KB.out _ (by (repeat (first | with_reducible exact f_y3 | with_reducible exact f_y2 | with_reducible exact f_y1 | with_reducible exact dZ | with_reducible apply Below.drew | with_reducible apply Below.setCell | with_reducible apply Below.alloc)); all_goals (first | (simp; done) | (simp; omega) | omega))) (first | (go_at_call 22; refine (TX.out _).mono ?_; rintro e y2 ⟨rfl, b2⟩; have f_y2 : Below w6.heap.size w6 y2 := (by first | with_reducible exact below_step dZ b2 | with_reducible exact below_step dZ.drew b2 | with_reducible exact below_step (dZ.alloc dZ.size _) b2 | with_reducible exact below_step (dZ.alloc dZ.size _).drew b2 | with_reducible exact below_step (dZ.drew.alloc dZ.drew.size _) b2 | with_reducible exact below_step (dZ.drew.alloc dZ.drew.size _).drew b2 | with_reducible exact below_step dZ.drew.drew b2); have hz_y2 := f_y2.size; have hS_y2 : w.heap.size < y2.heap.size := Nat.lt_of_lt_of_le hS0 hz_y2; have hE_y2 : w.heap.size + 1 < y2.heap.size := Nat.lt_of_lt_of_le hE0 hz_y2; have AS_y2 := (fun (o : Obj) k => old1 hS_y2 o k); have AE_y2 := (fun (o : Obj) k => old1 hE_y2 o k); have s_y2 := KB.out y2 f_y2; have hX_y2 : bx < y2.heap.size := Nat.lt_of_lt_of_le hX0 hz_y2; have AX_y2 := (fun (o : Obj) k => old1 hX_y2 o k); (first | (have L_y2 : Mut y2 _ _ := (by first | with_reducible exact (Mut.new w6 #[.int .i64 0, .int .i64 0, .slice none 0 0, .int .i64 0, .int .i64 0, .int .i64 0, .slice none 0 0] 49).below b2 | with_reducible exact (Mut.new w6 #[.int .i64 0, .int .i64 0, .slice none 0 0, .int .i64 0, .int .i64 0, .int .i64 0, .slice none 0 0] 49).drew.below b2 | with_reducible exact ((Mut.new w6 #[.int .i64 0, .int .i64 0, .slice none 0 0, .int .i64 0, .int .i64 0, .int .i64 0, .slice none 0 0] 49).drew).drew.below b2 | with_reducible exact (Mut.new w6.drew #[.int .i64 0, .int .i64 0, .slice none 0 0, .int .i64 0, .int .i64 0, .int .i64 0, .slice none 0 0] 49).below b2 | with_reducible exact (Mut.new w6.drew #[.int .i64 0, .int .i64 0, .slice none 0 0, .int .i64 0, .int .i64 0, .int .i64 0, .slice none 0 0] 49).drew.below b2 | with_reducible exact ((Mut.new w6.drew #[.int .i64 0, .int .i64 0, .slice none 0 0, .int .i64 0, .int .i64 0, .int .i64 0, .slice none 0 0] 49).drew).drew.below b2); have hm_y2 := L_y2.1) | skip); clear b2) | (go_at_call 23; refine (IB.out _ _ _ (SRC.out _ _ _ _ _ (o3.below (by (repeat (first | with_reducible exact f_y2 | with_reducible apply Below.drew | with_reducible apply Below.setCell | with_reducible apply Below.alloc)); all_goals (first | (simp; done) | (simp; omega) | omega))))).mono ?_; rintro e y3 ⟨r0, rc0, r1, rc1, rfl, hA, b3⟩; have f_y3 : Below w6.heap.size w6 y3 := (by first | with_reducible exact below_step f_y2 b3 | with_reducible exact below_step f_y2.drew b3 | with_reducible exact below_step (f_y2.alloc f_y2.size _) b3 | with_reducible exact below_step (f_y2.alloc f_y2.size _).drew b3 | with_reducible exact below_step (f_y2.drew.alloc f_y2.drew.size _) b3 | with_reducible exact below_step (f_y2.drew.alloc f_y2.drew.size _).drew b3 | with_reducible exact below_step f_y2.drew.drew b3); have hz_y3 := f_y3.size; (first | (have L_y3 : Mut y3 _ _ := (by first | with_reducible exact (L_y2).below b3 | with_reducible exact (L_y2).drew.below b3 | with_reducible exact ((L_y2).drew).drew.below b3 | with_reducible exact (Mut.new y2 #[.int .i64 0, .int .i64 0, .slice none 0 0, .int .i64 0, .int .i64 0, .int .i64 0, .slice none 0 0] 49).below b3 | with_reducible exact (Mut.new y2 #[.int .i64 0, .int .i64 0, .slice none 0 0, .int .i64 0, .int .i64 0, .int .i64 0, .slice none 0 0] 49).drew.below b3 | with_reducible exact ((Mut.new y2 #[.int .i64 0, .int .i64 0, .slice none 0 0, .int .i64 0, .int .i64 0, .int .i64 0, .slice none 0 0] 49).drew).drew.below b3 | with_reducible exact (Mut.new y2.drew #[.int .i64 0, .int .i64 0, .slice none 0 0, .int .i64 0, .int .i64 0, .int .i64 0, .slice none 0 0] 49).below b3 | with_reducible exact (Mut.new y2.drew #[.int .i64 0, .int .i64 0, .slice none 0 0, .int .i64 0, .int .i64 0, .int .i64 0, .slice none 0 0] 49).drew.below b3 | with_reducible exact ((Mut.new y2.drew #[.int .i64 0, .int .i64 0, .slice none 0 0, .int .i64 0, .int .i64 0, .int .i64 0, .slice none 0 0] 49).drew).drew.below b3); have hm_y3 := L_y3.1; have lc0 := L_y3.2.1 0 _ rfl; have lcz0 := L_y3.2.2 0 (by simp); have lc1 := L_y3.2.1 1 _ rfl; have lcz1 := L_y3.2.2 1 (by simp); have lc2 := L_y3.2.1 2 _ rfl; have lcz2 := L_y3.2.2 2 (by simp); have lc3 := L_y3.2.1 3 _ rfl; have lcz3 := L_y3.2.2 3 (by simp); have lc4 := L_y3.2.1 4 _ rfl; have lcz4 := L_y3.2.2 4 (by simp); have lc5 := L_y3.2.1 5 _ rfl; have lcz5 := L_y3.2.2 5 (by simp); have lc6 := L_y3.2.1 6 _ rfl; have lcz6 := L_y3.2.2 6 (by simp); skip) | skip)))
        all_goals (go_wp2_with fail; go_meet)
        all_goals first | with_reducible refine BR.set L_y3 hA ?_ ?_ f_y3 | with_reducible refine BR.new hA ?_ f_y3
        all_goals (first | (simp; done) | (simp at *; omega) | omega)
      case rest =>
        clear KB hS0 hE0 z0 z1 ze0 ze1 dZ AS AE hX0 zx0 zx1 AX
        obtain ⟨kG, g0, gc0, g1, gc1, rfl, rfl, hkG, MG, AG, eB⟩ := hcut
        generalize wc = wB at *
        replace DA := DA.trans (eB.mono DA.size)
        replace dW := dW.trans (eB.mono dW.size)
        replace MX := MX.below eB
        replace o3 := o3.below eB
        replace F3 := F3.below eB
        replace MB := MB.below eB
        replace MP := MP.below eB
        have hz6b : w6.heap.size ≤ wB.heap.size := eB.size
        clear eB
        have MWc := MW.below DA
        have i0 := MWc.2.1 0 _ rfl
        have i1 := MWc.2.1 1 _ rfl
        have i2 := MWc.2.1 2 _ rfl
        have i3 := MWc.2.1 3 _ rfl
        have i4 := MWc.2.1 4 _ rfl
        have i5 := MWc.2.1 5 _ rfl
        have i6 := MWc.2.1 6 _ rfl
        have j0 := MG.2.1 0 _ rfl
        have j1 := MG.2.1 1 _ rfl
        have j2 := MG.2.1 2 _ rfl
        have j3 := MG.2.1 3 _ rfl
        have j4 := MG.2.1 4 _ rfl
        have j5 := MG.2.1 5 _ rfl
        have j6 := MG.2.1 6 _ rfl
        go_upto_region 8 with fail
        go_wp2_with fail
        refine (EO.out _ _ _ _ _ _ _ _ _ AG.1 (OW.out.below DA)).mono ?_
        rintro e w8 ⟨rfl, b8⟩
        clear i0 i1 i2 i3 i4 i5 i6 j0 j1 j2 j3 j4 j5 j6 MWc
        replace DA := DA.trans (b8.mono DA.size)
        replace dW := dW.trans (b8.mono dW.size)
        replace MX := MX.below b8
        replace o3 := o3.below b8
        replace F3 := F3.below b8
        replace MB := MB.below b8
        replace MP := MP.below b8
        replace MG := MG.below b8
        replace AG := AG.below b8
        clear b8
        go_upto_region 10 with fail
        have dZ : Below w8.heap.size w8 w8 := Below.refl _ _
        have hRW := hR.out.below dW
        have hltM := MB.1
        have hltN := MX.1
        have v0 := MB.2.1 0 _ rfl
        have v1 := MB.2.1 1 _ rfl
        have v2 := MX.2.1 0 _ rfl
        have v3 := MX.2.1 1 _ rfl
        go_region_held3 (fun w' => w'.cell? ⟨w.heap.size, 0, none⟩ = some (.int .i64 ow) ∧ w'.cell? ⟨w.heap.size, 1, none⟩ = some (.slice a n c) ∧ w'.cell? ⟨bx, 0, none⟩ = some (.int .i64 ow) ∧ w'.cell? ⟨bx, 1, none⟩ = some (.slice (some ⟨q3, 0, none⟩) n n)) (first | go_keep | exact ⟨(dE.cell (p := ⟨w.heap.size, 0, none⟩) hltM).trans v0, (dE.cell (p := ⟨w.heap.size, 1, none⟩) hltM).trans v1, (dE.cell (p := ⟨bx, 0, none⟩) hltN).trans v2, (dE.cell (p := ⟨bx, 1, none⟩) hltN).trans v3⟩ | exact ⟨(dE.drew.cell (p := ⟨w.heap.size, 0, none⟩) hltM).trans v0, (dE.drew.cell (p := ⟨w.heap.size, 1, none⟩) hltM).trans v1, (dE.drew.cell (p := ⟨bx, 0, none⟩) hltN).trans v2, (dE.drew.cell (p := ⟨bx, 1, none⟩) hltN).trans v3⟩ | exact ⟨(dT.cell (p := ⟨w.heap.size, 0, none⟩) hltM).trans v0, (dT.cell (p := ⟨w.heap.size, 1, none⟩) hltM).trans v1, (dT.cell (p := ⟨bx, 0, none⟩) hltN).trans v2, (dT.cell (p := ⟨bx, 1, none⟩) hltN).trans v3⟩ | exact ⟨(dT.drew.cell (p := ⟨w.heap.size, 0, none⟩) hltM).trans v0, (dT.drew.cell (p := ⟨w.heap.size, 1, none⟩) hltM).trans v1, (dT.drew.cell (p := ⟨bx, 0, none⟩) hltN).trans v2, (dT.drew.cell (p := ⟨bx, 1, none⟩) hltN).trans v3⟩ | exact ⟨(dZ.cell (p := ⟨w.heap.size, 0, none⟩) hltM).trans v0, (dZ.cell (p := ⟨w.heap.size, 1, none⟩) hltM).trans v1, (dZ.cell (p := ⟨bx, 0, none⟩) hltN).trans v2, (dZ.cell (p := ⟨bx, 1, none⟩) hltN).trans v3⟩ | exact ⟨(dZ.drew.cell (p := ⟨w.heap.size, 0, none⟩) hltM).trans v0, (dZ.drew.cell (p := ⟨w.heap.size, 1, none⟩) hltM).trans v1, (dZ.drew.cell (p := ⟨bx, 0, none⟩) hltN).trans v2, (dZ.drew.cell (p := ⟨bx, 1, none⟩) hltN).trans v3⟩) ((first | (go_at_call 14; refine (TP.out _ (hRW.below (by first | exact dZ | exact dZ.drew))).mono ?_; rintro e wT ⟨qT, rfl, _, ⟨XT, HT, oT⟩, _, bT⟩; have dT : Below w8.heap.size w8 wT := (by first | exact below_step dZ bT | exact below_step dZ.drew bT)) | (go_at_call 9; refine (ER.out _ _ _ _ _ (by first | exact (o3.below dT).row | exact (o3.below dT.drew).row) (by first | exact oT.row | exact (oT.below (Below.refl _ _).drew).row)).mono ?_; rintro e wE ⟨rfl, bE⟩; have dE : Below w8.heap.size w8 wE := (by first | exact below_step dT bE | exact below_step dT.drew bE))))
        all_goals
          clear v0 v1 v2 v3 hltM hltN dZ dT bT bE oT hRW
          replace DA := DA.trans (dE.mono DA.size)
          replace dW := dW.trans (dE.mono dW.size)
          replace MX := MX.below dE
          replace o3 := o3.below dE
          replace F3 := F3.below dE
          replace MB := MB.below dE
          replace MP := MP.below dE
          replace MG := MG.below dE
          replace AG := AG.below dE
          clear dE
          generalize wE = w9 at *
          have v2 := MX.2.1 0 _ rfl
          have v3 := MX.2.1 1 _ rfl
          go_upto_region 13 with fail
          go_wp2_with fail
          refine (MK.out _ _ _ _ _ hq3l o3 F3).mono ?_
          rintro e w10 ⟨r, rfl, b10⟩
          have hr0 : ¬ ((r : Int) < 0) := by omega
          have bA : Below w10.heap.size w10 w10 := Below.refl _ _
          replace DA := DA.trans (b10.below (base := wA.heap.size) (fun k hk => Nat.le_trans hq3 hk.1) DA.size)
          have b10w : Below w.heap.size w9 w10 := b10.below (fun k hk => Nat.le_trans hWA (Nat.le_trans hq3 hk.1)) dW.size
          replace dW := dW.trans b10w
          replace MB := MB.onlyS b10 (fun h => by have h1 := h.1; omega)
          replace MP := MP.onlyS b10 (fun h => by have h1 := h.1; omega)
          replace MG := MG.onlyS b10 (fun h => by have h1 := h.2; omega)
          replace AG := AG.onlyS b10 (fun k hk h => by have h1 := h.2; omega)
          clear v2 v3 b10 b10w bA
          have MWc := MW.below DA
          have i0 := MWc.2.1 0 _ rfl
          have i1 := MWc.2.1 1 _ rfl
          have i2 := MWc.2.1 2 _ rfl
          have i3 := MWc.2.1 3 _ rfl
          have i4 := MWc.2.1 4 _ rfl
          have i5 := MWc.2.1 5 _ rfl
          have i6 := MWc.2.1 6 _ rfl
          have j0 := MG.2.1 0 _ rfl
          have j1 := MG.2.1 1 _ rfl
          have j2 := MG.2.1 2 _ rfl
          have j3 := MG.2.1 3 _ rfl
          have j4 := MG.2.1 4 _ rfl
          have j5 := MG.2.1 5 _ rfl
          have j6 := MG.2.1 6 _ rfl
          go_upto_region 14 with fail
          go_wp2_with fail
          refine (EO.out _ _ _ _ _ _ _ _ _ AG.1 (OW.out.below DA)).mono ?_
          rintro e w11 ⟨rfl, b11⟩
          clear i0 i1 i2 i3 i4 i5 i6 j0 j1 j2 j3 j4 j5 j6 MWc
          replace DA := DA.trans (b11.mono DA.size)
          replace dW := dW.trans (b11.mono dW.size)
          replace MB := MB.below b11
          replace MP := MP.below b11
          replace MG := MG.below b11
          replace AG := AG.below b11
          clear b11
          have j0 := MG.2.1 0 _ rfl
          have j1 := MG.2.1 1 _ rfl
          have j2 := MG.2.1 2 _ rfl
          have j3 := MG.2.1 3 _ rfl
          have j4 := MG.2.1 4 _ rfl
          have j5 := MG.2.1 5 _ rfl
          have j6 := MG.2.1 6 _ rfl
          go_upto_region 17 with fail
          go_wp2_with fail
          refine (MO.out _ _ _ _ _ _ _ AG).mono ?_
          rintro e w12 ⟨rfl, RG, b12⟩
          clear j0 j1 j2 j3 j4 j5 j6 AG
          replace DA := DA.trans (b12.below (base := wA.heap.size) (fun k hk => Nat.le_trans hA6 hk.1) DA.size)
          replace dW := dW.trans (b12.below (base := w.heap.size) (fun k hk => Nat.le_trans hw6 hk.1) dW.size)
          replace MB := MB.onlyS b12 (fun h => by have h1 := h.1; omega)
          replace MP := MP.onlyS b12 (fun h => by have h1 := h.1; omega)
          replace MG := MG.onlyS b12 (fun h => h.2 rfl)
          clear b12
          have j0 := MG.2.1 0 _ rfl
          have j1 := MG.2.1 1 _ rfl
          have j2 := MG.2.1 2 _ rfl
          have j3 := MG.2.1 3 _ rfl
          have j4 := MG.2.1 4 _ rfl
          have j5 := MG.2.1 5 _ rfl
          have j6 := MG.2.1 6 _ rfl
          go_upto_region 19 with fail
          go_wp2_with fail
          refine (HO.out _ _ _ _ _ RG).mono ?_
          rintro e w13 ⟨rfl, b13⟩
          clear j0 j1 j2 j3 j4 j5 j6
          replace DA := DA.trans (b13.mono DA.size)
          replace dW := dW.trans (b13.mono dW.size)
          replace MB := MB.below b13
          replace MP := MP.below b13
          replace MG := MG.below b13
          replace RG := And.intro (RG.1.below b13) (RG.2.below b13)
          clear b13
          go_upto_region 24 with fail
          have KB : Hid (∀ X : World, Below w13.heap.size w13 X → (X.cell? ⟨w.heap.size, 0, none⟩ = some (.int .i64 ow) ∧ X.cell? ⟨w.heap.size, 1, none⟩ = some (.slice a n c) ∧ X.cell? ⟨w.heap.size + 1, 0, none⟩ = some (.int .i64 pa) ∧ X.cell? ⟨w.heap.size + 1, 1, none⟩ = some (.int .i64 pl))) := fun X h => ⟨(MB.below h).2.1 0 _ rfl, (MB.below h).2.1 1 _ rfl, (MP.below h).2.1 0 _ rfl, (MP.below h).2.1 1 _ rfl⟩
          have hS0 : w.heap.size < w13.heap.size := MB.1
          have hE0 : w.heap.size + 1 < w13.heap.size := MP.1
          have z0 := MB.2.1 0 _ rfl
          have z1 := MB.2.1 1 _ rfl
          have ze0 := MP.2.1 0 _ rfl
          have ze1 := MP.2.1 1 _ rfl
          have dZ : Below w13.heap.size w13 w13 := Below.refl _ _
          have AS := fun (o : Obj) k => old1 hS0 o k
          have AE := fun (o : Obj) k => old1 hE0 o k
          have hRW := hide (hR.out.below dW)
          go_cut [14, 15] (fun p b wx => BR w13 t bb p b wx)
          case first =>
            go_region_held3 (fun X => X.cell? ⟨w.heap.size, 0, none⟩ = some (.int .i64 ow) ∧ X.cell? ⟨w.heap.size, 1, none⟩ = some (.slice a n c) ∧ X.cell? ⟨w.heap.size + 1, 0, none⟩ = some (.int .i64 pa) ∧ X.cell? ⟨w.heap.size + 1, 1, none⟩ = some (.int .i64 pl)) (exact KB.out _ (by (repeat (first | with_reducible exact f_y3 | with_reducible exact f_y2 | with_reducible exact f_y1 | with_reducible exact dZ | with_reducible apply Below.drew | with_reducible apply Below.setCell | with_reducible apply Below.alloc)); all_goals (first | (simp; done) | (simp; omega) | omega))) (first | (go_at_call 14; refine (TP.out _ (hRW.out.below (by (repeat (first | with_reducible exact dZ | with_reducible apply Below.drew | with_reducible apply Below.setCell | with_reducible apply Below.alloc)); all_goals (first | (simp; done) | (simp; omega) | omega)))).mono ?_; rintro e y1 ⟨qT, rfl, _, ⟨XT, HT, oT⟩, _, b1⟩; have f_y1 : Below w13.heap.size w13 y1 := (by first | with_reducible exact below_step dZ b1 | with_reducible exact below_step dZ.drew b1 | with_reducible exact below_step (dZ.alloc dZ.size _) b1 | with_reducible exact below_step (dZ.alloc dZ.size _).drew b1 | with_reducible exact below_step (dZ.drew.alloc dZ.drew.size _) b1 | with_reducible exact below_step (dZ.drew.alloc dZ.drew.size _).drew b1 | with_reducible exact below_step dZ.drew.drew b1); have hz_y1 := f_y1.size; have hS_y1 : w.heap.size < y1.heap.size := Nat.lt_of_lt_of_le hS0 hz_y1; have hE_y1 : w.heap.size + 1 < y1.heap.size := Nat.lt_of_lt_of_le hE0 hz_y1; have AS_y1 := (fun (o : Obj) k => old1 hS_y1 o k); have AE_y1 := (fun (o : Obj) k => old1 hE_y1 o k); have s_y1 := KB.out y1 f_y1; have e1 : Below y1.heap.size y1 y1 := Below.refl _ _; (first | (have L_y1 : Mut y1 _ _ := (by first | with_reducible exact (Mut.new w13 #[.int .i64 0, .int .i64 0, .slice none 0 0, .int .i64 0, .int .i64 0, .int .i64 0, .slice none 0 0] 49).below b1 | with_reducible exact (Mut.new w13 #[.int .i64 0, .int .i64 0, .slice none 0 0, .int .i64 0, .int .i64 0, .int .i64 0, .slice none 0 0] 49).drew.below b1 | with_reducible exact ((Mut.new w13 #[.int .i64 0, .int .i64 0, .slice none 0 0, .int .i64 0, .int .i64 0, .int .i64 0, .slice none 0 0] 49).drew).drew.below b1 | with_reducible exact (Mut.new w13.drew #[.int .i64 0, .int .i64 0, .slice none 0 0, .int .i64 0, .int .i64 0, .int .i64 0, .slice none 0 0] 49).below b1 | with_reducible exact (Mut.new w13.drew #[.int .i64 0, .int .i64 0, .slice none 0 0, .int .i64 0, .int .i64 0, .int .i64 0, .slice none 0 0] 49).drew.below b1 | with_reducible exact ((Mut.new w13.drew #[.int .i64 0, .int .i64 0, .slice none 0 0, .int .i64 0, .int .i64 0, .int .i64 0, .slice none 0 0] 49).drew).drew.below b1); have hm_y1 := L_y1.1) | skip); clear b1) | (go_at_call 22; refine (TX.out _).mono ?_; rintro e y2 ⟨rfl, b2⟩; have f_y2 : Below w13.heap.size w13 y2 := (by first | with_reducible exact below_step f_y1 b2 | with_reducible exact below_step f_y1.drew b2 | with_reducible exact below_step (f_y1.alloc f_y1.size _) b2 | with_reducible exact below_step (f_y1.alloc f_y1.size _).drew b2 | with_reducible exact below_step (f_y1.drew.alloc f_y1.drew.size _) b2 | with_reducible exact below_step (f_y1.drew.alloc f_y1.drew.size _).drew b2 | with_reducible exact below_step f_y1.drew.drew b2); have g2 : Below y1.heap.size y1 y2 := (by first | with_reducible exact below_step e1 b2 | with_reducible exact below_step e1.drew b2 | with_reducible exact below_step (e1.alloc e1.size _) b2 | with_reducible exact below_step (e1.alloc e1.size _).drew b2 | with_reducible exact below_step (e1.drew.alloc e1.drew.size _) b2 | with_reducible exact below_step (e1.drew.alloc e1.drew.size _).drew b2 | with_reducible exact below_step e1.drew.drew b2); have hg2 := g2.size; have hz_y2 := f_y2.size; have hS_y2 : w.heap.size < y2.heap.size := Nat.lt_of_lt_of_le hS0 hz_y2; have hE_y2 : w.heap.size + 1 < y2.heap.size := Nat.lt_of_lt_of_le hE0 hz_y2; have AS_y2 := (fun (o : Obj) k => old1 hS_y2 o k); have AE_y2 := (fun (o : Obj) k => old1 hE_y2 o k); have s_y2 := KB.out y2 f_y2; (first | (have L_y2 : Mut y2 _ _ := (by first | with_reducible exact (L_y1).below b2 | with_reducible exact (L_y1).drew.below b2 | with_reducible exact ((L_y1).drew).drew.below b2 | with_reducible exact (Mut.new y1 #[.int .i64 0, .int .i64 0, .slice none 0 0, .int .i64 0, .int .i64 0, .int .i64 0, .slice none 0 0] 49).below b2 | with_reducible exact (Mut.new y1 #[.int .i64 0, .int .i64 0, .slice none 0 0, .int .i64 0, .int .i64 0, .int .i64 0, .slice none 0 0] 49).drew.below b2 | with_reducible exact ((Mut.new y1 #[.int .i64 0, .int .i64 0, .slice none 0 0, .int .i64 0, .int .i64 0, .int .i64 0, .slice none 0 0] 49).drew).drew.below b2 | with_reducible exact (Mut.new y1.drew #[.int .i64 0, .int .i64 0, .slice none 0 0, .int .i64 0, .int .i64 0, .int .i64 0, .slice none 0 0] 49).below b2 | with_reducible exact (Mut.new y1.drew #[.int .i64 0, .int .i64 0, .slice none 0 0, .int .i64 0, .int .i64 0, .int .i64 0, .slice none 0 0] 49).drew.below b2 | with_reducible exact ((Mut.new y1.drew #[.int .i64 0, .int .i64 0, .slice none 0 0, .int .i64 0, .int .i64 0, .int .i64 0, .slice none 0 0] 49).drew).drew.below b2); have hm_y2 := L_y2.1) | skip); clear b2) | (go_at_call 23; refine (IB.out _ _ _ (SRC.out _ _ _ _ _ (oT.below (by (repeat (first | with_reducible exact g2 | with_reducible apply Below.drew | with_reducible apply Below.setCell | with_reducible apply Below.alloc)); all_goals (first | (simp; done) | (simp; omega) | omega))))).mono ?_; rintro e y3 ⟨r0, rc0, r1, rc1, rfl, hA, b3⟩; have f_y3 : Below w13.heap.size w13 y3 := (by first | with_reducible exact below_step f_y2 b3 | with_reducible exact below_step f_y2.drew b3 | with_reducible exact below_step (f_y2.alloc f_y2.size _) b3 | with_reducible exact below_step (f_y2.alloc f_y2.size _).drew b3 | with_reducible exact below_step (f_y2.drew.alloc f_y2.drew.size _) b3 | with_reducible exact below_step (f_y2.drew.alloc f_y2.drew.size _).drew b3 | with_reducible exact below_step f_y2.drew.drew b3); have hz_y3 := f_y3.size; (first | (have L_y3 : Mut y3 _ _ := (by first | with_reducible exact (L_y2).below b3 | with_reducible exact (L_y2).drew.below b3 | with_reducible exact ((L_y2).drew).drew.below b3 | with_reducible exact (Mut.new y2 #[.int .i64 0, .int .i64 0, .slice none 0 0, .int .i64 0, .int .i64 0, .int .i64 0, .slice none 0 0] 49).below b3 | with_reducible exact (Mut.new y2 #[.int .i64 0, .int .i64 0, .slice none 0 0, .int .i64 0, .int .i64 0, .int .i64 0, .slice none 0 0] 49).drew.below b3 | with_reducible exact ((Mut.new y2 #[.int .i64 0, .int .i64 0, .slice none 0 0, .int .i64 0, .int .i64 0, .int .i64 0, .slice none 0 0] 49).drew).drew.below b3 | with_reducible exact (Mut.new y2.drew #[.int .i64 0, .int .i64 0, .slice none 0 0, .int .i64 0, .int .i64 0, .int .i64 0, .slice none 0 0] 49).below b3 | with_reducible exact (Mut.new y2.drew #[.int .i64 0, .int .i64 0, .slice none 0 0, .int .i64 0, .int .i64 0, .int .i64 0, .slice none 0 0] 49).drew.below b3 | with_reducible exact ((Mut.new y2.drew #[.int .i64 0, .int .i64 0, .slice none 0 0, .int .i64 0, .int .i64 0, .int .i64 0, .slice none 0 0] 49).drew).drew.below b3); have hm_y3 := L_y3.1; have lc0 := L_y3.2.1 0 _ rfl; have lcz0 := L_y3.2.2 0 (by simp); have lc1 := L_y3.2.1 1 _ rfl; have lcz1 := L_y3.2.2 1 (by simp); have lc2 := L_y3.2.1 2 _ rfl; have lcz2 := L_y3.2.2 2 (by simp); have lc3 := L_y3.2.1 3 _ rfl; have lcz3 := L_y3.2.2 3 (by simp); have lc4 := L_y3.2.1 4 _ rfl; have lcz4 := L_y3.2.2 4 (by simp); have lc5 := L_y3.2.1 5 _ rfl; have lcz5 := L_y3.2.2 5 (by simp); have lc6 := L_y3.2.1 6 _ rfl; have lcz6 := L_y3.2.2 6 (by simp); skip) | skip)))
            all_goals (go_wp2_with fail; go_meet)
            all_goals first | with_reducible refine BR.set L_y3 hA ?_ ?_ f_y3 | with_reducible refine BR.new hA ?_ f_y3
            all_goals (first | (simp; done) | (simp at *; omega) | omega)
          case rest =>
            clear KB hS0 hE0 z0 z1 ze0 ze1 dZ AS AE hRW
            obtain ⟨kH, h0, hc0, h1, hc1, rfl, rfl, hkH, MH, AH, eD⟩ := hcut
            generalize wc = wD at *
            replace DA := DA.trans (eD.mono DA.size)
            replace dW := dW.trans (eD.mono dW.size)
            replace MB := MB.below eD
            replace MP := MP.below eD
            replace MG := MG.below eD
            replace RG := And.intro (RG.1.below eD) (RG.2.below eD)
            clear eD
            have MWc := MW.below DA
            have i0 := MWc.2.1 0 _ rfl
            have i1 := MWc.2.1 1 _ rfl
            have i2 := MWc.2.1 2 _ rfl
            have i3 := MWc.2.1 3 _ rfl
            have i4 := MWc.2.1 4 _ rfl
            have i5 := MWc.2.1 5 _ rfl
            have i6 := MWc.2.1 6 _ rfl
            have j0 := MH.2.1 0 _ rfl
            have j1 := MH.2.1 1 _ rfl
            have j2 := MH.2.1 2 _ rfl
            have j3 := MH.2.1 3 _ rfl
            have j4 := MH.2.1 4 _ rfl
            have j5 := MH.2.1 5 _ rfl
            have j6 := MH.2.1 6 _ rfl
            go_upto_region 25 with fail
            go_wp2_with fail
            refine (EO.out _ _ _ _ _ _ _ _ _ AH.1 (OW.out.below DA)).mono ?_
            rintro e w14 ⟨rfl, b14⟩
            clear i0 i1 i2 i3 i4 i5 i6 j0 j1 j2 j3 j4 j5 j6 MWc
            replace MG := MG.below b14
            replace dW := dW.trans (b14.mono dW.size)
            replace RG := And.intro (RG.1.below b14) (RG.2.below b14)
            have j0 := MG.2.1 0 _ rfl
            have j1 := MG.2.1 1 _ rfl
            have j2 := MG.2.1 2 _ rfl
            have j3 := MG.2.1 3 _ rfl
            have j4 := MG.2.1 4 _ rfl
            have j5 := MG.2.1 5 _ rfl
            have j6 := MG.2.1 6 _ rfl
            go_upto_region 28 with fail
            go_wp2_with fail
            refine (HO.out _ _ _ _ _ RG).mono ?_
            rintro e w15 ⟨rfl, b15⟩
            replace dW := dW.trans (b15.mono dW.size)
            go_wp2_with fail
            go_ret
            exact ⟨rfl, dW⟩
  · rw [if_neg hs] at SZ
    clear hs hn hx
    go_enter Try.func6, Try.ntmps6
    go_wp2_with fail
    refine (SZ.out _ (hR.out.below hB0)).mono ?_
    rintro e w0 ⟨rfl, d0⟩
    go_wp2_with fail
    go_ret
    exact ⟨rfl, hB0.trans (d0.mono hB0.size)⟩
end Go.Proofs.Ytjjdfniemlcnnaa
