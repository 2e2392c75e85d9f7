/- The law on ActOn: the program answers as the specification, in memory of its own. -/
import Derived.Test.YtflakkbodbnndaaActF
import Derived.Test.YtflakkbodbnndaaFlatAct
import Derived.Test.YtflakkbodbnndaaFlatRoute
import Derived.Deep.DeepCutAuto
import Derived.Deep.CutRange
import Derived.Deep.RegionHeld3
namespace Go.Proofs.Ytflakkbodbnndaa
open Go.RowKit

/-- What a region that calls ActOn leaves: a route in a box, and a bool. -/
def BRg (Q : Nat → Option Addr → Nat → Option Addr → Nat → World → Prop) (W : World) (tt : Ro) (bb : Bool) (p b : Value) (wx : World) : Prop := ∃ (kb : Nat) (a0 : Option Addr) (c0 : Nat) (a1 : Option Addr) (c1 : Nat), p = .pointer (some ⟨kb, 0, none⟩) ∧ b = .bool bb ∧ W.heap.size ≤ kb ∧ Mut wx kb [.int .i64 tt.pa, .int .i64 tt.pl, .int .i64 tt.o, .slice a0 tt.n0 c0, .int .i64 tt.nx, .int .i64 tt.md, .int .i64 tt.pf, .slice a1 tt.n1 c1] ∧ Q kb a0 c0 a1 c1 wx ∧ Below W.heap.size W wx
theorem bN {w w1 w2 : World} (bA : Below w.heap.size w w1) (oO : Only w.heap.size w1 w2) : Below w.heap.size w w2 := bA.trans (oO.below_of (Nat.le_refl _) bA.size)
set_option maxRecDepth 100000 in
set_option maxHeartbeats 12800000 in
theorem w_actOn (k n : Int) (t : Ro) (a0 : Option Addr) (c0 : Nat) (a1 : Option Addr) (c1 : Nat) (w : World) (h0 : t.n0 ≤ maxLen) (R0 : RowInt a0 t.n0 t.f w) (h1 : t.n1 ≤ maxLen) (R1 : RowInt a1 t.n1 t.g w) :
    Calls Try.prog 3 #[.agg #[.int .i64 k, .int .i64 n], .agg #[.int .i64 t.pa, .int .i64 t.pl, .int .i64 t.o, .slice a0 t.n0 c0, .int .i64 t.nx, .int .i64 t.md, .int .i64 t.pf, .slice a1 t.n1 c1]] w fun e w' => e = .returned (.bool true) ∧ Below w.heap.size w w' := by
  have SZ := hide (fun w => w_szRoute t.pa t.pl t.o t.nx t.md t.pf a0 t.n0 c0 a1 t.n1 c1 1048576 w h0 h1 (by omega) (by omega))
  have MB := (Mut.new w #[.int .i64 k, .int .i64 n] 23).alloc (.cells #[.int .i64 t.pa, .int .i64 t.pl, .int .i64 t.o, .slice a0 t.n0 c0, .int .i64 t.nx, .int .i64 t.md, .int .i64 t.pf, .slice a1 t.n1 c1] 30)
  have MP := Mut.new (w.alloc (.cells #[.int .i64 k, .int .i64 n] 23)) #[.int .i64 t.pa, .int .i64 t.pl, .int .i64 t.o, .slice a0 t.n0 c0, .int .i64 t.nx, .int .i64 t.md, .int .i64 t.pf, .slice a1 t.n1 c1] 30
  simp only [World.size_alloc] at MP
  have hB0 : Below w.heap.size w ((w.alloc (.cells #[.int .i64 k, .int .i64 n] 23)).alloc (.cells #[.int .i64 t.pa, .int .i64 t.pl, .int .i64 t.o, .slice a0 t.n0 c0, .int .i64 t.nx, .int .i64 t.md, .int .i64 t.pf, .slice a1 t.n1 c1] 30)) := below_box2 (Below.refl _ _)
  by_cases hs : (t.n0 : Int) + t.n1 ≤ 1048576
  · rw [if_pos hs] at SZ
    have hlt : ¬ (1048576 - (t.n0 : Int) - t.n1 < 0) := by omega
    have l0 : t.n0 ≤ 1048576 := by omega
    have l1 : t.n1 ≤ 1048576 := by omega
    have TA := hide (fun w => w_toAct k n w)
    have TR := hide (fun w R0 R1 => w_toRoute t.pa t.pl t.o t.nx t.md t.pf a0 t.n0 c0 t.f a1 t.n1 c1 t.g w l0 l1 R0 R1)
    have SA := hide (fun x0 c0 x1 c1 w R0 R1 => s_actOnF k n t x0 c0 x1 c1 w l0 l1 R0 R1)
    have IA := hide (fun x0 c0 x1 c1 w R0 R1 => i_actOnF k n t x0 c0 x1 c1 w l0 l1 R0 R1)
    have ER := hide (fun a0 b0 c0 e0 a1 b1 c1 e1 w R0 R1 Q0 Q1 => w_eqRoute t.pa t.pl t.o t.nx t.md t.pf a0 b0 t.n0 c0 e0 t.f a1 b1 t.n1 c1 e1 t.g w (by omega) (by omega) R0 R1 Q0 Q1)
    have MK := hide (fun base a0 c0 a1 c1 w hb h => w_markRt base t a0 c0 a1 c1 w l0 l1 hb h)
    obtain ⟨m0, m1⟩ := acR_low k n t
    generalize acR k n t = tt at *
    generalize aoB k n t = bb at *
    have EO := hide (fun a0 b0 c0 e0 a1 b1 c1 e1 w R0 R1 Q0 Q1 => w_eqRoute tt.pa tt.pl tt.o tt.nx tt.md tt.pf a0 b0 tt.n0 c0 e0 tt.f a1 b1 tt.n1 c1 e1 tt.g w (by omega) (by omega) R0 R1 Q0 Q1)
    have MO9 := hide (fun base a0 c0 a1 c1 w hb h => w_markRt base tt a0 c0 a1 c1 w m0 m1 hb h)
    have HO := hide (fun a0 c0 a1 c1 w R => w_heldRt tt a0 c0 a1 c1 w m0 m1 R)
    have kb0 : (bb != bb) = false := by simp
    have km0 : ((1 + (tt.n0 : Int) + (tt.n1 : Int)) != (1 + (tt.n0 : Int) + (tt.n1 : Int))) = false := by simp
    have km1 : ¬ (1 + (tt.n0 : Int) + (tt.n1 : Int) < 0) := by omega
    have km2 : ¬ (1 + (t.n0 : Int) + (t.n1 : Int) < 0) := by omega
    clear h0 h1 hs l0 l1 m0 m1
    go_enter Try.func3, Try.ntmps3
    go_wp2_with fail
    generalize (w.alloc (.cells #[.int .i64 k, .int .i64 n] 23)).alloc (.cells #[.int .i64 t.pa, .int .i64 t.pl, .int .i64 t.o, .slice a0 t.n0 c0, .int .i64 t.nx, .int .i64 t.md, .int .i64 t.pf, .slice a1 t.n1 c1] 30) = W0 at *
    refine (SZ.out _).mono ?_
    rintro e w0 ⟨rfl, d0⟩
    replace MB := MB.below d0
    replace MP := MP.below d0
    have dW := hB0.trans (d0.mono hB0.size)
    clear d0 SZ hB0
    go_upto_region 5 with fail
    go_cut [6, 7] (fun p b wx => BRg (fun _ a0 _ a1 _ X => RowInt a0 tt.n0 tt.f X ∧ RowInt a1 tt.n1 tt.g X) w0 tt bb p b wx)
    case first =>
      have hS : ∀ w' : World, Below w0.heap.size w0 w' → w'.cell? ⟨w.heap.size, 0, none⟩ = some (.int .i64 k) ∧ w'.cell? ⟨w.heap.size, 1, none⟩ = some (.int .i64 n) ∧ w'.cell? ⟨w.heap.size + 1, 0, none⟩ = some (.int .i64 t.pa) ∧ w'.cell? ⟨w.heap.size + 1, 1, none⟩ = some (.int .i64 t.pl) ∧ w'.cell? ⟨w.heap.size + 1, 2, none⟩ = some (.int .i64 t.o) ∧ w'.cell? ⟨w.heap.size + 1, 3, none⟩ = some (.slice a0 t.n0 c0) ∧ w'.cell? ⟨w.heap.size + 1, 4, none⟩ = some (.int .i64 t.nx) ∧ w'.cell? ⟨w.heap.size + 1, 5, none⟩ = some (.int .i64 t.md) ∧ w'.cell? ⟨w.heap.size + 1, 6, none⟩ = some (.int .i64 t.pf) ∧ w'.cell? ⟨w.heap.size + 1, 7, none⟩ = some (.slice a1 t.n1 c1) := fun w' b => ⟨(MB.below b).2.1 0 _ rfl, (MB.below b).2.1 1 _ rfl, (MP.below b).2.1 0 _ rfl, (MP.below b).2.1 1 _ rfl, (MP.below b).2.1 2 _ rfl, (MP.below b).2.1 3 _ rfl, (MP.below b).2.1 4 _ rfl, (MP.below b).2.1 5 _ rfl, (MP.below b).2.1 6 _ rfl, (MP.below b).2.1 7 _ rfl⟩
      refine wp_region_held_drew (S := fun w' => w'.cell? ⟨w.heap.size, 0, none⟩ = some (.int .i64 k) ∧ w'.cell? ⟨w.heap.size, 1, none⟩ = some (.int .i64 n) ∧ w'.cell? ⟨w.heap.size + 1, 0, none⟩ = some (.int .i64 t.pa) ∧ w'.cell? ⟨w.heap.size + 1, 1, none⟩ = some (.int .i64 t.pl) ∧ w'.cell? ⟨w.heap.size + 1, 2, none⟩ = some (.int .i64 t.o) ∧ w'.cell? ⟨w.heap.size + 1, 3, none⟩ = some (.slice a0 t.n0 c0) ∧ w'.cell? ⟨w.heap.size + 1, 4, none⟩ = some (.int .i64 t.nx) ∧ w'.cell? ⟨w.heap.size + 1, 5, none⟩ = some (.int .i64 t.md) ∧ w'.cell? ⟨w.heap.size + 1, 6, none⟩ = some (.int .i64 t.pf) ∧ w'.cell? ⟨w.heap.size + 1, 7, none⟩ = some (.slice a1 t.n1 c1)) (by kernel_rfl) (hS _ (Below.refl _ _).drew) (fun hHeld => ?_)
      refine wpAnyH_take (i := 0) (v := .agg #[.int .i64 k, .int .i64 n]) rfl (by kernel_rfl) (by kernel_rfl) (by kernel_rfl) (fun _ _ _ h => h) (Or.inl ⟨by rfl, fun w' hSw => by go_simp⟩) hHeld ?_
      simp only [List.getElem_toArray, List.getElem_cons_zero, Act.put, List.setIfInBounds_toArray, List.set_cons_zero, List.set_cons_succ]
      refine wpAnyH_take (i := 2) (v := .agg #[.int .i64 t.pa, .int .i64 t.pl, .int .i64 t.o, .slice a0 t.n0 c0, .int .i64 t.nx, .int .i64 t.md, .int .i64 t.pf, .slice a1 t.n1 c1]) rfl (by kernel_rfl) (by kernel_rfl) (by kernel_rfl) (fun _ _ _ h => h) (Or.inl ⟨by rfl, fun w' hSw => by go_simp⟩) hHeld ?_
      simp only [List.getElem_toArray, List.getElem_cons_succ, List.getElem_cons_zero, Act.put, List.setIfInBounds_toArray, List.set_cons_zero, List.set_cons_succ]
      have f0 : Below w0.heap.size w0 w0.drew := (Below.refl _ _).drew
      refine wpAnyH_ready (rs := [1, 8]) (by kernel_rfl) (by simp) (AllReadyH.cons rfl (fun K hK => ?_) (AllReadyH.cons rfl (fun K hK => ?_) AllReadyH.nil))
      · go_simp
        refine (TA.out _).mono ?_
        rintro e y1 ⟨rfl, b1⟩
        have f1 := below_step f0 b1
        refine hK.out _ _ (hS _ f1) (fun hHeld => ?_)
        clear hK K
        refine wpAnyH_ready (rs := [3, 8]) (by kernel_rfl) (by simp) (AllReadyH.cons rfl (fun K hK => ?_) (AllReadyH.cons rfl (fun K hK => ?_) AllReadyH.nil))
        · go_simp
          refine (TR.out _ (R0.below (dW.trans (f1.mono dW.size))) (R1.below (dW.trans (f1.mono dW.size)))).mono ?_
          rintro e y2 ⟨c, d, rfl, hc, hd, oC, oD, b2⟩
          have f2 := below_step f1 b2
          refine hK.out _ _ (hS _ f2) (fun hHeld => ?_)
          clear hK K
          refine wpAnyH_ready (rs := [4, 8]) (by kernel_rfl) (by simp) (AllReadyH.cons rfl (fun K hK => ?_) (AllReadyH.cons rfl (fun K hK => ?_) AllReadyH.nil))
          · go_simp
            refine (SA.out _ _ _ _ _ oC.row oD.row).mono ?_
            rintro e y3 ⟨b0, e0, b1, e1, rfl, Q, nn, b3⟩
            have f3 := below_step f2 b3
            refine hK.out _ _ (hS _ f3) (fun hHeld => ?_)
            clear hK K
            refine wpAnyH_take (i := 5) (v := .tuple #[.agg #[.int .i64 tt.pa, .int .i64 tt.pl, .int .i64 tt.o, .slice b0 tt.n0 e0, .int .i64 tt.nx, .int .i64 tt.md, .int .i64 tt.pf, .slice b1 tt.n1 e1], .bool bb]) rfl (by kernel_rfl) (by kernel_rfl) (by kernel_rfl) (fun _ _ _ h => h) (Or.inl ⟨by rfl, fun w' hSw => by go_simp⟩) hHeld ?_
            simp only [List.getElem_toArray, List.getElem_cons_succ, List.getElem_cons_zero, Act.put, List.setIfInBounds_toArray, List.set_cons_zero, List.set_cons_succ]
            refine wpAnyH_take (i := 6) (v := .agg #[.int .i64 tt.pa, .int .i64 tt.pl, .int .i64 tt.o, .slice b0 tt.n0 e0, .int .i64 tt.nx, .int .i64 tt.md, .int .i64 tt.pf, .slice b1 tt.n1 e1]) rfl (by kernel_rfl) (by kernel_rfl) (by kernel_rfl) (fun _ _ _ h => h) (Or.inl ⟨by rfl, fun w' hSw => by go_simp⟩) hHeld ?_
            simp only [List.getElem_toArray, List.getElem_cons_succ, List.getElem_cons_zero, Act.put, List.setIfInBounds_toArray, List.set_cons_zero, List.set_cons_succ]
            refine wpAnyH_take (i := 7) (v := .bool bb) rfl (by kernel_rfl) (by kernel_rfl) (by kernel_rfl) (fun _ _ _ h => h) (Or.inl ⟨by rfl, fun w' hSw => by go_simp⟩) hHeld ?_
            simp only [List.getElem_toArray, List.getElem_cons_succ, List.getElem_cons_zero, Act.put, List.setIfInBounds_toArray, List.set_cons_zero, List.set_cons_succ]
            refine wpAnyH_ready (rs := [8]) (by kernel_rfl) (by simp) (AllReadyH.cons rfl (fun K hK => ?_) AllReadyH.nil)
            go_simp
            have bA : Below y3.heap.size y3 (y3.alloc (.cells #[.int .i64 0, .int .i64 0, .int .i64 0, .slice none 0 0, .int .i64 0, .int .i64 0, .int .i64 0, .slice none 0 0] 35)) := below_box (Below.refl _ _)
            have f4 := below_step f3 bA
            refine hK.out _ _ (hS _ f4) (fun hHeld => ?_)
            clear hK K
            have N := Mut.new y3 #[.int .i64 0, .int .i64 0, .int .i64 0, .slice none 0 0, .int .i64 0, .int .i64 0, .int .i64 0, .slice none 0 0] 35
            refine wpAnyH_ready (rs := [9]) (by kernel_rfl) (by simp) (AllReadyH.cons rfl (fun K hK => ?_) AllReadyH.nil)
            rw [if_pos (by rfl)]
            refine wp_storeM (us := [.int .i64 tt.pa, .int .i64 tt.pl, .int .i64 tt.o, .slice b0 tt.n0 e0, .int .i64 tt.nx, .int .i64 tt.md, .int .i64 tt.pf, .slice b1 tt.n1 e1]) rfl rfl rfl N rfl (by intro v hv; simp only [List.mem_cons, List.not_mem_nil, or_false] at hv; rcases hv with rfl | rfl | rfl | rfl | rfl | rfl | rfl | rfl <;> rfl) sizeRt7 ?_
            intro y5 MO oO
            have hkb : w0.heap.size ≤ y3.heap.size := f3.size
            have f5 : Below w0.heap.size w0 y5 := f4.trans (oO.below_of hkb f4.size)
            refine hK.out _ _ (hS _ f5) (fun hHeld => ?_)
            clear hK K
            refine wpAnyH_take (i := 10) (v := .bool bb) rfl (by kernel_rfl) (by kernel_rfl) (by kernel_rfl) (fun _ _ _ h => h) (Or.inl ⟨by rfl, fun w' hSw => by go_simp⟩) hHeld ?_
            simp only [List.getElem_toArray, List.getElem_cons_succ, List.getElem_cons_zero, Act.put, List.setIfInBounds_toArray, List.set_cons_zero, List.set_cons_succ]
            refine wpAnyH_done (by kernel_rfl) ?_ _
            go_wp2_with fail
            go_meet
            exact ⟨_, _, _, _, _, rfl, rfl, hkb, MO, ⟨Q.1.below (bN bA oO), Q.2.below (bN bA oO)⟩, f5⟩
          · go_simp
            have bAl : Below y2.heap.size y2 (y2.alloc (.cells #[.int .i64 0, .int .i64 0, .int .i64 0, .slice none 0 0, .int .i64 0, .int .i64 0, .int .i64 0, .slice none 0 0] 35)) := below_box (Below.refl _ _)
            have fA2 := below_step f2 bAl
            refine hK.out _ _ (hS _ fA2) (fun hHeld => ?_)
            clear hK K
            have N := Mut.new y2 #[.int .i64 0, .int .i64 0, .int .i64 0, .slice none 0 0, .int .i64 0, .int .i64 0, .int .i64 0, .slice none 0 0] 35
            refine wpAnyH_ready (rs := [4]) (by kernel_rfl) (by simp) (AllReadyH.cons rfl (fun K hK => ?_) AllReadyH.nil)
            have hal : y2.heap.size < _ := N.1
            go_simp
            refine (SA.out _ _ _ _ _ (oC.below bAl).row (oD.below bAl).row).mono ?_
            rintro e y3 ⟨b0, e0, b1, e1, rfl, Q, nn, b3⟩
            have f3 := below_step fA2 b3
            have N := N.below b3
            refine hK.out _ _ (hS _ f3) (fun hHeld => ?_)
            clear hK K
            refine wpAnyH_take (i := 5) (v := .tuple #[.agg #[.int .i64 tt.pa, .int .i64 tt.pl, .int .i64 tt.o, .slice b0 tt.n0 e0, .int .i64 tt.nx, .int .i64 tt.md, .int .i64 tt.pf, .slice b1 tt.n1 e1], .bool bb]) rfl (by kernel_rfl) (by kernel_rfl) (by kernel_rfl) (fun _ _ _ h => h) (Or.inl ⟨by rfl, fun w' hSw => by go_simp⟩) hHeld ?_
            simp only [List.getElem_toArray, List.getElem_cons_succ, List.getElem_cons_zero, Act.put, List.setIfInBounds_toArray, List.set_cons_zero, List.set_cons_succ]
            refine wpAnyH_take (i := 6) (v := .agg #[.int .i64 tt.pa, .int .i64 tt.pl, .int .i64 tt.o, .slice b0 tt.n0 e0, .int .i64 tt.nx, .int .i64 tt.md, .int .i64 tt.pf, .slice b1 tt.n1 e1]) rfl (by kernel_rfl) (by kernel_rfl) (by kernel_rfl) (fun _ _ _ h => h) (Or.inl ⟨by rfl, fun w' hSw => by go_simp⟩) hHeld ?_
            simp only [List.getElem_toArray, List.getElem_cons_succ, List.getElem_cons_zero, Act.put, List.setIfInBounds_toArray, List.set_cons_zero, List.set_cons_succ]
            refine wpAnyH_take (i := 7) (v := .bool bb) rfl (by kernel_rfl) (by kernel_rfl) (by kernel_rfl) (fun _ _ _ h => h) (Or.inl ⟨by rfl, fun w' hSw => by go_simp⟩) hHeld ?_
            simp only [List.getElem_toArray, List.getElem_cons_succ, List.getElem_cons_zero, Act.put, List.setIfInBounds_toArray, List.set_cons_zero, List.set_cons_succ]
            refine wpAnyH_ready (rs := [9]) (by kernel_rfl) (by simp) (AllReadyH.cons rfl (fun K hK => ?_) AllReadyH.nil)
            rw [if_pos (by rfl)]
            refine wp_storeM (us := [.int .i64 tt.pa, .int .i64 tt.pl, .int .i64 tt.o, .slice b0 tt.n0 e0, .int .i64 tt.nx, .int .i64 tt.md, .int .i64 tt.pf, .slice b1 tt.n1 e1]) rfl rfl rfl N rfl (by intro v hv; simp only [List.mem_cons, List.not_mem_nil, or_false] at hv; rcases hv with rfl | rfl | rfl | rfl | rfl | rfl | rfl | rfl <;> rfl) sizeRt7 ?_
            intro y5 MO oO
            have hkb : w0.heap.size ≤ y2.heap.size := f2.size
            have f5 : Below w0.heap.size w0 y5 := f3.trans (oO.below_of hkb f3.size)
            refine hK.out _ _ (hS _ f5) (fun hHeld => ?_)
            clear hK K
            refine wpAnyH_take (i := 10) (v := .bool bb) rfl (by kernel_rfl) (by kernel_rfl) (by kernel_rfl) (fun _ _ _ h => h) (Or.inl ⟨by rfl, fun w' hSw => by go_simp⟩) hHeld ?_
            simp only [List.getElem_toArray, List.getElem_cons_succ, List.getElem_cons_zero, Act.put, List.setIfInBounds_toArray, List.set_cons_zero, List.set_cons_succ]
            refine wpAnyH_done (by kernel_rfl) ?_ _
            go_wp2_with fail
            go_meet
            exact ⟨_, _, _, _, _, rfl, rfl, hkb, MO, ⟨Q.1.onlyB oO (fun b off h => by have := nn.1 b off h; have := hal; omega), Q.2.onlyB oO (fun b off h => by have := nn.2 b off h; have := hal; omega)⟩, f5⟩
        · go_simp
          have bAl : Below y1.heap.size y1 (y1.alloc (.cells #[.int .i64 0, .int .i64 0, .int .i64 0, .slice none 0 0, .int .i64 0, .int .i64 0, .int .i64 0, .slice none 0 0] 35)) := below_box (Below.refl _ _)
          have fA1 := below_step f1 bAl
          refine hK.out _ _ (hS _ fA1) (fun hHeld => ?_)
          clear hK K
          have N := Mut.new y1 #[.int .i64 0, .int .i64 0, .int .i64 0, .slice none 0 0, .int .i64 0, .int .i64 0, .int .i64 0, .slice none 0 0] 35
          refine wpAnyH_ready (rs := [3]) (by kernel_rfl) (by simp) (AllReadyH.cons rfl (fun K hK => ?_) AllReadyH.nil)
          go_simp
          refine (TR.out _ (R0.below (dW.trans (fA1.mono dW.size))) (R1.below (dW.trans (fA1.mono dW.size)))).mono ?_
          rintro e y2 ⟨c, d, rfl, hc, hd, oC, oD, b2⟩
          have f2 := below_step fA1 b2
          have N := N.below b2
          refine hK.out _ _ (hS _ f2) (fun hHeld => ?_)
          clear hK K
          refine wpAnyH_ready (rs := [4]) (by kernel_rfl) (by simp) (AllReadyH.cons rfl (fun K hK => ?_) AllReadyH.nil)
          have hal : y1.heap.size < _ := N.1
          go_simp
          refine (SA.out _ _ _ _ _ oC.row oD.row).mono ?_
          rintro e y3 ⟨b0, e0, b1, e1, rfl, Q, nn, b3⟩
          have f3 := below_step f2 b3
          have N := N.below b3
          refine hK.out _ _ (hS _ f3) (fun hHeld => ?_)
          clear hK K
          refine wpAnyH_take (i := 5) (v := .tuple #[.agg #[.int .i64 tt.pa, .int .i64 tt.pl, .int .i64 tt.o, .slice b0 tt.n0 e0, .int .i64 tt.nx, .int .i64 tt.md, .int .i64 tt.pf, .slice b1 tt.n1 e1], .bool bb]) rfl (by kernel_rfl) (by kernel_rfl) (by kernel_rfl) (fun _ _ _ h => h) (Or.inl ⟨by rfl, fun w' hSw => by go_simp⟩) hHeld ?_
          simp only [List.getElem_toArray, List.getElem_cons_succ, List.getElem_cons_zero, Act.put, List.setIfInBounds_toArray, List.set_cons_zero, List.set_cons_succ]
          refine wpAnyH_take (i := 6) (v := .agg #[.int .i64 tt.pa, .int .i64 tt.pl, .int .i64 tt.o, .slice b0 tt.n0 e0, .int .i64 tt.nx, .int .i64 tt.md, .int .i64 tt.pf, .slice b1 tt.n1 e1]) rfl (by kernel_rfl) (by kernel_rfl) (by kernel_rfl) (fun _ _ _ h => h) (Or.inl ⟨by rfl, fun w' hSw => by go_simp⟩) hHeld ?_
          simp only [List.getElem_toArray, List.getElem_cons_succ, List.getElem_cons_zero, Act.put, List.setIfInBounds_toArray, List.set_cons_zero, List.set_cons_succ]
          refine wpAnyH_take (i := 7) (v := .bool bb) rfl (by kernel_rfl) (by kernel_rfl) (by kernel_rfl) (fun _ _ _ h => h) (Or.inl ⟨by rfl, fun w' hSw => by go_simp⟩) hHeld ?_
          simp only [List.getElem_toArray, List.getElem_cons_succ, List.getElem_cons_zero, Act.put, List.setIfInBounds_toArray, List.set_cons_zero, List.set_cons_succ]
          refine wpAnyH_ready (rs := [9]) (by kernel_rfl) (by simp) (AllReadyH.cons rfl (fun K hK => ?_) AllReadyH.nil)
          rw [if_pos (by rfl)]
          refine wp_storeM (us := [.int .i64 tt.pa, .int .i64 tt.pl, .int .i64 tt.o, .slice b0 tt.n0 e0, .int .i64 tt.nx, .int .i64 tt.md, .int .i64 tt.pf, .slice b1 tt.n1 e1]) rfl rfl rfl N rfl (by intro v hv; simp only [List.mem_cons, List.not_mem_nil, or_false] at hv; rcases hv with rfl | rfl | rfl | rfl | rfl | rfl | rfl | rfl <;> rfl) sizeRt7 ?_
          intro y5 MO oO
          have hkb : w0.heap.size ≤ y1.heap.size := f1.size
          have f5 : Below w0.heap.size w0 y5 := f3.trans (oO.below_of hkb f3.size)
          refine hK.out _ _ (hS _ f5) (fun hHeld => ?_)
          clear hK K
          refine wpAnyH_take (i := 10) (v := .bool bb) rfl (by kernel_rfl) (by kernel_rfl) (by kernel_rfl) (fun _ _ _ h => h) (Or.inl ⟨by rfl, fun w' hSw => by go_simp⟩) hHeld ?_
          simp only [List.getElem_toArray, List.getElem_cons_succ, List.getElem_cons_zero, Act.put, List.setIfInBounds_toArray, List.set_cons_zero, List.set_cons_succ]
          refine wpAnyH_done (by kernel_rfl) ?_ _
          go_wp2_with fail
          go_meet
          exact ⟨_, _, _, _, _, rfl, rfl, hkb, MO, ⟨Q.1.onlyB oO (fun b off h => by have := nn.1 b off h; have := hal; omega), Q.2.onlyB oO (fun b off h => by have := nn.2 b off h; have := hal; omega)⟩, f5⟩
      · go_simp
        have bAl : Below w0.drew.heap.size w0.drew (w0.drew.alloc (.cells #[.int .i64 0, .int .i64 0, .int .i64 0, .slice none 0 0, .int .i64 0, .int .i64 0, .int .i64 0, .slice none 0 0] 35)) := below_box (Below.refl _ _)
        have fA0 := below_step f0 bAl
        refine hK.out _ _ (hS _ fA0) (fun hHeld => ?_)
        clear hK K
        have N := Mut.new w0.drew #[.int .i64 0, .int .i64 0, .int .i64 0, .slice none 0 0, .int .i64 0, .int .i64 0, .int .i64 0, .slice none 0 0] 35
        refine wpAnyH_ready (rs := [1]) (by kernel_rfl) (by simp) (AllReadyH.cons rfl (fun K hK => ?_) AllReadyH.nil)
        go_simp
        refine (TA.out _).mono ?_
        rintro e y1 ⟨rfl, b1⟩
        have f1 := below_step fA0 b1
        have N := N.below b1
        refine hK.out _ _ (hS _ f1) (fun hHeld => ?_)
        clear hK K
        refine wpAnyH_ready (rs := [3]) (by kernel_rfl) (by simp) (AllReadyH.cons rfl (fun K hK => ?_) AllReadyH.nil)
        go_simp
        refine (TR.out _ (R0.below (dW.trans (f1.mono dW.size))) (R1.below (dW.trans (f1.mono dW.size)))).mono ?_
        rintro e y2 ⟨c, d, rfl, hc, hd, oC, oD, b2⟩
        have f2 := below_step f1 b2
        have N := N.below b2
        refine hK.out _ _ (hS _ f2) (fun hHeld => ?_)
        clear hK K
        refine wpAnyH_ready (rs := [4]) (by kernel_rfl) (by simp) (AllReadyH.cons rfl (fun K hK => ?_) AllReadyH.nil)
        have hal : w0.drew.heap.size < _ := N.1
        go_simp
        refine (SA.out _ _ _ _ _ oC.row oD.row).mono ?_
        rintro e y3 ⟨b0, e0, b1, e1, rfl, Q, nn, b3⟩
        have f3 := below_step f2 b3
        have N := N.below b3
        refine hK.out _ _ (hS _ f3) (fun hHeld => ?_)
        clear hK K
        refine wpAnyH_take (i := 5) (v := .tuple #[.agg #[.int .i64 tt.pa, .int .i64 tt.pl, .int .i64 tt.o, .slice b0 tt.n0 e0, .int .i64 tt.nx, .int .i64 tt.md, .int .i64 tt.pf, .slice b1 tt.n1 e1], .bool bb]) rfl (by kernel_rfl) (by kernel_rfl) (by kernel_rfl) (fun _ _ _ h => h) (Or.inl ⟨by rfl, fun w' hSw => by go_simp⟩) hHeld ?_
        simp only [List.getElem_toArray, List.getElem_cons_succ, List.getElem_cons_zero, Act.put, List.setIfInBounds_toArray, List.set_cons_zero, List.set_cons_succ]
        refine wpAnyH_take (i := 6) (v := .agg #[.int .i64 tt.pa, .int .i64 tt.pl, .int .i64 tt.o, .slice b0 tt.n0 e0, .int .i64 tt.nx, .int .i64 tt.md, .int .i64 tt.pf, .slice b1 tt.n1 e1]) rfl (by kernel_rfl) (by kernel_rfl) (by kernel_rfl) (fun _ _ _ h => h) (Or.inl ⟨by rfl, fun w' hSw => by go_simp⟩) hHeld ?_
        simp only [List.getElem_toArray, List.getElem_cons_succ, List.getElem_cons_zero, Act.put, List.setIfInBounds_toArray, List.set_cons_zero, List.set_cons_succ]
        refine wpAnyH_take (i := 7) (v := .bool bb) rfl (by kernel_rfl) (by kernel_rfl) (by kernel_rfl) (fun _ _ _ h => h) (Or.inl ⟨by rfl, fun w' hSw => by go_simp⟩) hHeld ?_
        simp only [List.getElem_toArray, List.getElem_cons_succ, List.getElem_cons_zero, Act.put, List.setIfInBounds_toArray, List.set_cons_zero, List.set_cons_succ]
        refine wpAnyH_ready (rs := [9]) (by kernel_rfl) (by simp) (AllReadyH.cons rfl (fun K hK => ?_) AllReadyH.nil)
        rw [if_pos (by rfl)]
        refine wp_storeM (us := [.int .i64 tt.pa, .int .i64 tt.pl, .int .i64 tt.o, .slice b0 tt.n0 e0, .int .i64 tt.nx, .int .i64 tt.md, .int .i64 tt.pf, .slice b1 tt.n1 e1]) rfl rfl rfl N rfl (by intro v hv; simp only [List.mem_cons, List.not_mem_nil, or_false] at hv; rcases hv with rfl | rfl | rfl | rfl | rfl | rfl | rfl | rfl <;> rfl) sizeRt7 ?_
        intro y5 MO oO
        have hkb : w0.heap.size ≤ w0.drew.heap.size := Nat.le_of_eq rfl
        have f5 : Below w0.heap.size w0 y5 := f3.trans (oO.below_of hkb f3.size)
        refine hK.out _ _ (hS _ f5) (fun hHeld => ?_)
        clear hK K
        refine wpAnyH_take (i := 10) (v := .bool bb) rfl (by kernel_rfl) (by kernel_rfl) (by kernel_rfl) (fun _ _ _ h => h) (Or.inl ⟨by rfl, fun w' hSw => by go_simp⟩) hHeld ?_
        simp only [List.getElem_toArray, List.getElem_cons_succ, List.getElem_cons_zero, Act.put, List.setIfInBounds_toArray, List.set_cons_zero, List.set_cons_succ]
        refine wpAnyH_done (by kernel_rfl) ?_ _
        go_wp2_with fail
        go_meet
        exact ⟨_, _, _, _, _, rfl, rfl, hkb, MO, ⟨Q.1.onlyB oO (fun b off h => by have := nn.1 b off h; have := hal; omega), Q.2.onlyB oO (fun b off h => by have := nn.2 b off h; have := hal; omega)⟩, f5⟩
    case rest =>
      obtain ⟨kW, x0, xc0, x1, xc1, rfl, rfl, hkW, MW, OWr, eA⟩ := hcut
      generalize wc = wA at *
      replace MB := MB.below eA
      replace MP := MP.below eA
      replace dW := dW.trans (eA.mono dW.size)
      have OW := hide OWr
      have hWA := dW.size
      have hPA : w.heap.size + 1 < wA.heap.size := MP.1
      clear eA OWr hkW
      have u0 := MP.2.1 0 _ rfl
      have u1 := MP.2.1 1 _ rfl
      have u2 := MP.2.1 2 _ rfl
      have u3 := MP.2.1 3 _ rfl
      have u4 := MP.2.1 4 _ rfl
      have u5 := MP.2.1 5 _ rfl
      have u6 := MP.2.1 6 _ rfl
      have u7 := MP.2.1 7 _ rfl
      go_upto_region 6 with fail
      go_wp2_with fail
      refine (TR.out _ (R0.below dW) (R1.below dW)).mono ?_
      rintro e w3 ⟨q3, s3, rfl, hq3, hs3, o3, p3, b3⟩
      clear u0 u1 u2 u3 u4 u5 u6 u7
      have bB : Below w3.heap.size w3 (w3.alloc (.cells #[.int .i64 t.pa, .int .i64 t.pl, .int .i64 t.o, .slice (some ⟨q3, 0, none⟩) t.n0 t.n0, .int .i64 t.nx, .int .i64 t.md, .int .i64 t.pf, .slice (some ⟨s3, 0, none⟩) t.n1 t.n1] 35)) := below_box (Below.refl _ _)
      have MX := Mut.new w3 #[.int .i64 t.pa, .int .i64 t.pl, .int .i64 t.o, .slice (some ⟨q3, 0, none⟩) t.n0 t.n0, .int .i64 t.nx, .int .i64 t.md, .int .i64 t.pf, .slice (some ⟨s3, 0, none⟩) t.n1 t.n1] 35
      have hq3l := o3.1
      have hs3l := p3.1
      have DA := below_step b3 bB
      have hA6 := DA.size
      replace MB := MB.below DA
      replace MP := MP.below DA
      replace dW := dW.trans (DA.mono dW.size)
      replace o3 := o3.below bB
      replace p3 := p3.below bB
      have hz6 : w3.heap.size < (w3.alloc (.cells #[.int .i64 t.pa, .int .i64 t.pl, .int .i64 t.o, .slice (some ⟨q3, 0, none⟩) t.n0 t.n0, .int .i64 t.nx, .int .i64 t.md, .int .i64 t.pf, .slice (some ⟨s3, 0, none⟩) t.n1 t.n1] 35)).heap.size := by simp
      clear b3 bB
      go_upto_region 7 with fail
      generalize w3.alloc (.cells #[.int .i64 t.pa, .int .i64 t.pl, .int .i64 t.o, .slice (some ⟨q3, 0, none⟩) t.n0 t.n0, .int .i64 t.nx, .int .i64 t.md, .int .i64 t.pf, .slice (some ⟨s3, 0, none⟩) t.n1 t.n1] 35) = w6 at *
      generalize w3.heap.size = bx at *
      go_cut [9, 10] (fun p b wx => BRg (fun kb a0 c0 a1 c1 X => AnsG w6.heap.size tt a0 c0 a1 c1 X ∧ a0 ≠ some ⟨kb, 0, none⟩ ∧ a1 ≠ some ⟨kb, 0, none⟩) w6 tt bb p b wx)
      case first =>
        have hS : ∀ w' : World, Below w6.heap.size w6 w' → w'.cell? ⟨w.heap.size, 0, none⟩ = some (.int .i64 k) ∧ w'.cell? ⟨w.heap.size, 1, none⟩ = some (.int .i64 n) ∧ w'.cell? ⟨bx, 0, none⟩ = some (.int .i64 t.pa) ∧ w'.cell? ⟨bx, 1, none⟩ = some (.int .i64 t.pl) ∧ w'.cell? ⟨bx, 2, none⟩ = some (.int .i64 t.o) ∧ w'.cell? ⟨bx, 3, none⟩ = some (.slice (some ⟨q3, 0, none⟩) t.n0 t.n0) ∧ w'.cell? ⟨bx, 4, none⟩ = some (.int .i64 t.nx) ∧ w'.cell? ⟨bx, 5, none⟩ = some (.int .i64 t.md) ∧ w'.cell? ⟨bx, 6, none⟩ = some (.int .i64 t.pf) ∧ w'.cell? ⟨bx, 7, none⟩ = some (.slice (some ⟨s3, 0, none⟩) t.n1 t.n1) := fun w' b => ⟨(MB.below b).2.1 0 _ rfl, (MB.below b).2.1 1 _ rfl, (MX.below b).2.1 0 _ rfl, (MX.below b).2.1 1 _ rfl, (MX.below b).2.1 2 _ rfl, (MX.below b).2.1 3 _ rfl, (MX.below b).2.1 4 _ rfl, (MX.below b).2.1 5 _ rfl, (MX.below b).2.1 6 _ rfl, (MX.below b).2.1 7 _ rfl⟩
        refine wp_region_held_drew (S := fun w' => w'.cell? ⟨w.heap.size, 0, none⟩ = some (.int .i64 k) ∧ w'.cell? ⟨w.heap.size, 1, none⟩ = some (.int .i64 n) ∧ w'.cell? ⟨bx, 0, none⟩ = some (.int .i64 t.pa) ∧ w'.cell? ⟨bx, 1, none⟩ = some (.int .i64 t.pl) ∧ w'.cell? ⟨bx, 2, none⟩ = some (.int .i64 t.o) ∧ w'.cell? ⟨bx, 3, none⟩ = some (.slice (some ⟨q3, 0, none⟩) t.n0 t.n0) ∧ w'.cell? ⟨bx, 4, none⟩ = some (.int .i64 t.nx) ∧ w'.cell? ⟨bx, 5, none⟩ = some (.int .i64 t.md) ∧ w'.cell? ⟨bx, 6, none⟩ = some (.int .i64 t.pf) ∧ w'.cell? ⟨bx, 7, none⟩ = some (.slice (some ⟨s3, 0, none⟩) t.n1 t.n1)) (by kernel_rfl) (hS _ (Below.refl _ _).drew) (fun hHeld => ?_)
        refine wpAnyH_take (i := 0) (v := .agg #[.int .i64 k, .int .i64 n]) rfl (by kernel_rfl) (by kernel_rfl) (by kernel_rfl) (fun _ _ _ h => h) (Or.inl ⟨by rfl, fun w' hSw => by go_simp⟩) hHeld ?_
        simp only [List.getElem_toArray, List.getElem_cons_zero, Act.put, List.setIfInBounds_toArray, List.set_cons_zero, List.set_cons_succ]
        refine wpAnyH_take (i := 2) (v := .agg #[.int .i64 t.pa, .int .i64 t.pl, .int .i64 t.o, .slice (some ⟨q3, 0, none⟩) t.n0 t.n0, .int .i64 t.nx, .int .i64 t.md, .int .i64 t.pf, .slice (some ⟨s3, 0, none⟩) t.n1 t.n1]) rfl (by kernel_rfl) (by kernel_rfl) (by kernel_rfl) (fun _ _ _ h => h) (Or.inl ⟨by rfl, fun w' hSw => by go_simp⟩) hHeld ?_
        simp only [List.getElem_toArray, List.getElem_cons_succ, List.getElem_cons_zero, Act.put, List.setIfInBounds_toArray, List.set_cons_zero, List.set_cons_succ]
        have f0 : Below w6.heap.size w6 w6.drew := (Below.refl _ _).drew
        refine wpAnyH_ready (rs := [1, 7]) (by kernel_rfl) (by simp) (AllReadyH.cons rfl (fun K hK => ?_) (AllReadyH.cons rfl (fun K hK => ?_) AllReadyH.nil))
        · go_simp
          refine (TA.out _).mono ?_
          rintro e y1 ⟨rfl, b1⟩
          have f1 := below_step f0 b1
          refine hK.out _ _ (hS _ f1) (fun hHeld => ?_)
          clear hK K
          refine wpAnyH_ready (rs := [3, 7]) (by kernel_rfl) (by simp) (AllReadyH.cons rfl (fun K hK => ?_) (AllReadyH.cons rfl (fun K hK => ?_) AllReadyH.nil))
          · go_simp
            refine (IA.out _ _ _ _ _ (o3.below f1).row (p3.below f1).row).mono ?_
            rintro e y3 ⟨b0, e0, b1, e1, rfl, Q, b3⟩
            have f3 := below_step f1 b3
            refine hK.out _ _ (hS _ f3) (fun hHeld => ?_)
            clear hK K
            refine wpAnyH_take (i := 4) (v := .tuple #[.agg #[.int .i64 tt.pa, .int .i64 tt.pl, .int .i64 tt.o, .slice b0 tt.n0 e0, .int .i64 tt.nx, .int .i64 tt.md, .int .i64 tt.pf, .slice b1 tt.n1 e1], .bool bb]) rfl (by kernel_rfl) (by kernel_rfl) (by kernel_rfl) (fun _ _ _ h => h) (Or.inl ⟨by rfl, fun w' hSw => by go_simp⟩) hHeld ?_
            simp only [List.getElem_toArray, List.getElem_cons_succ, List.getElem_cons_zero, Act.put, List.setIfInBounds_toArray, List.set_cons_zero, List.set_cons_succ]
            refine wpAnyH_take (i := 5) (v := .agg #[.int .i64 tt.pa, .int .i64 tt.pl, .int .i64 tt.o, .slice b0 tt.n0 e0, .int .i64 tt.nx, .int .i64 tt.md, .int .i64 tt.pf, .slice b1 tt.n1 e1]) rfl (by kernel_rfl) (by kernel_rfl) (by kernel_rfl) (fun _ _ _ h => h) (Or.inl ⟨by rfl, fun w' hSw => by go_simp⟩) hHeld ?_
            simp only [List.getElem_toArray, List.getElem_cons_succ, List.getElem_cons_zero, Act.put, List.setIfInBounds_toArray, List.set_cons_zero, List.set_cons_succ]
            refine wpAnyH_take (i := 6) (v := .bool bb) rfl (by kernel_rfl) (by kernel_rfl) (by kernel_rfl) (fun _ _ _ h => h) (Or.inl ⟨by rfl, fun w' hSw => by go_simp⟩) hHeld ?_
            simp only [List.getElem_toArray, List.getElem_cons_succ, List.getElem_cons_zero, Act.put, List.setIfInBounds_toArray, List.set_cons_zero, List.set_cons_succ]
            refine wpAnyH_ready (rs := [7]) (by kernel_rfl) (by simp) (AllReadyH.cons rfl (fun K hK => ?_) AllReadyH.nil)
            go_simp
            have bA : Below y3.heap.size y3 (y3.alloc (.cells #[.int .i64 0, .int .i64 0, .int .i64 0, .slice none 0 0, .int .i64 0, .int .i64 0, .int .i64 0, .slice none 0 0] 35)) := below_box (Below.refl _ _)
            have f4 := below_step f3 bA
            refine hK.out _ _ (hS _ f4) (fun hHeld => ?_)
            clear hK K
            have N := Mut.new y3 #[.int .i64 0, .int .i64 0, .int .i64 0, .slice none 0 0, .int .i64 0, .int .i64 0, .int .i64 0, .slice none 0 0] 35
            refine wpAnyH_ready (rs := [8]) (by kernel_rfl) (by simp) (AllReadyH.cons rfl (fun K hK => ?_) AllReadyH.nil)
            rw [if_pos (by rfl)]
            refine wp_storeM (us := [.int .i64 tt.pa, .int .i64 tt.pl, .int .i64 tt.o, .slice b0 tt.n0 e0, .int .i64 tt.nx, .int .i64 tt.md, .int .i64 tt.pf, .slice b1 tt.n1 e1]) rfl rfl rfl N rfl (by intro v hv; simp only [List.mem_cons, List.not_mem_nil, or_false] at hv; rcases hv with rfl | rfl | rfl | rfl | rfl | rfl | rfl | rfl <;> rfl) sizeRt7 ?_
            intro y5 MO oO
            have hkb : w6.heap.size ≤ y3.heap.size := f3.size
            have f5 : Below w6.heap.size w6 y5 := f4.trans (oO.below_of hkb f4.size)
            refine hK.out _ _ (hS _ f5) (fun hHeld => ?_)
            clear hK K
            refine wpAnyH_take (i := 9) (v := .bool bb) rfl (by kernel_rfl) (by kernel_rfl) (by kernel_rfl) (fun _ _ _ h => h) (Or.inl ⟨by rfl, fun w' hSw => by go_simp⟩) hHeld ?_
            simp only [List.getElem_toArray, List.getElem_cons_succ, List.getElem_cons_zero, Act.put, List.setIfInBounds_toArray, List.set_cons_zero, List.set_cons_succ]
            refine wpAnyH_done (by kernel_rfl) ?_ _
            go_wp2_with fail
            go_meet
            have hQ := Q.below (bN bA oO)
            have hz := Q.at0
            exact ⟨_, _, _, _, _, rfl, rfl, hkb, MO, ⟨hQ.mono (by have := f1.size; omega), fun e => by have := hz.1 _ e; omega, fun e => by have := hz.2 _ e; omega⟩, f5⟩
          · go_simp
            have bAl : Below y1.heap.size y1 (y1.alloc (.cells #[.int .i64 0, .int .i64 0, .int .i64 0, .slice none 0 0, .int .i64 0, .int .i64 0, .int .i64 0, .slice none 0 0] 35)) := below_box (Below.refl _ _)
            have fA1 := below_step f1 bAl
            refine hK.out _ _ (hS _ fA1) (fun hHeld => ?_)
            clear hK K
            have N := Mut.new y1 #[.int .i64 0, .int .i64 0, .int .i64 0, .slice none 0 0, .int .i64 0, .int .i64 0, .int .i64 0, .slice none 0 0] 35
            refine wpAnyH_ready (rs := [3]) (by kernel_rfl) (by simp) (AllReadyH.cons rfl (fun K hK => ?_) AllReadyH.nil)
            have hal : y1.heap.size < _ := N.1
            go_simp
            refine (IA.out _ _ _ _ _ (o3.below fA1).row (p3.below fA1).row).mono ?_
            rintro e y3 ⟨b0, e0, b1, e1, rfl, Q, b3⟩
            have f3 := below_step fA1 b3
            have N := N.below b3
            refine hK.out _ _ (hS _ f3) (fun hHeld => ?_)
            clear hK K
            refine wpAnyH_take (i := 4) (v := .tuple #[.agg #[.int .i64 tt.pa, .int .i64 tt.pl, .int .i64 tt.o, .slice b0 tt.n0 e0, .int .i64 tt.nx, .int .i64 tt.md, .int .i64 tt.pf, .slice b1 tt.n1 e1], .bool bb]) rfl (by kernel_rfl) (by kernel_rfl) (by kernel_rfl) (fun _ _ _ h => h) (Or.inl ⟨by rfl, fun w' hSw => by go_simp⟩) hHeld ?_
            simp only [List.getElem_toArray, List.getElem_cons_succ, List.getElem_cons_zero, Act.put, List.setIfInBounds_toArray, List.set_cons_zero, List.set_cons_succ]
            refine wpAnyH_take (i := 5) (v := .agg #[.int .i64 tt.pa, .int .i64 tt.pl, .int .i64 tt.o, .slice b0 tt.n0 e0, .int .i64 tt.nx, .int .i64 tt.md, .int .i64 tt.pf, .slice b1 tt.n1 e1]) rfl (by kernel_rfl) (by kernel_rfl) (by kernel_rfl) (fun _ _ _ h => h) (Or.inl ⟨by rfl, fun w' hSw => by go_simp⟩) hHeld ?_
            simp only [List.getElem_toArray, List.getElem_cons_succ, List.getElem_cons_zero, Act.put, List.setIfInBounds_toArray, List.set_cons_zero, List.set_cons_succ]
            refine wpAnyH_take (i := 6) (v := .bool bb) rfl (by kernel_rfl) (by kernel_rfl) (by kernel_rfl) (fun _ _ _ h => h) (Or.inl ⟨by rfl, fun w' hSw => by go_simp⟩) hHeld ?_
            simp only [List.getElem_toArray, List.getElem_cons_succ, List.getElem_cons_zero, Act.put, List.setIfInBounds_toArray, List.set_cons_zero, List.set_cons_succ]
            refine wpAnyH_ready (rs := [8]) (by kernel_rfl) (by simp) (AllReadyH.cons rfl (fun K hK => ?_) AllReadyH.nil)
            rw [if_pos (by rfl)]
            refine wp_storeM (us := [.int .i64 tt.pa, .int .i64 tt.pl, .int .i64 tt.o, .slice b0 tt.n0 e0, .int .i64 tt.nx, .int .i64 tt.md, .int .i64 tt.pf, .slice b1 tt.n1 e1]) rfl rfl rfl N rfl (by intro v hv; simp only [List.mem_cons, List.not_mem_nil, or_false] at hv; rcases hv with rfl | rfl | rfl | rfl | rfl | rfl | rfl | rfl <;> rfl) sizeRt7 ?_
            intro y5 MO oO
            have hkb : w6.heap.size ≤ y1.heap.size := f1.size
            have f5 : Below w6.heap.size w6 y5 := f3.trans (oO.below_of hkb f3.size)
            refine hK.out _ _ (hS _ f5) (fun hHeld => ?_)
            clear hK K
            refine wpAnyH_take (i := 9) (v := .bool bb) rfl (by kernel_rfl) (by kernel_rfl) (by kernel_rfl) (fun _ _ _ h => h) (Or.inl ⟨by rfl, fun w' hSw => by go_simp⟩) hHeld ?_
            simp only [List.getElem_toArray, List.getElem_cons_succ, List.getElem_cons_zero, Act.put, List.setIfInBounds_toArray, List.set_cons_zero, List.set_cons_succ]
            refine wpAnyH_done (by kernel_rfl) ?_ _
            go_wp2_with fail
            go_meet
            have hQ := Q.only oO hal
            have hz := Q.at0
            exact ⟨_, _, _, _, _, rfl, rfl, hkb, MO, ⟨hQ.mono (Nat.le_trans hkb (Nat.le_of_lt hal)), fun e => by have := (hz.1 _ e).1; omega, fun e => by have := (hz.2 _ e).1; omega⟩, f5⟩
        · go_simp
          have bAl : Below w6.drew.heap.size w6.drew (w6.drew.alloc (.cells #[.int .i64 0, .int .i64 0, .int .i64 0, .slice none 0 0, .int .i64 0, .int .i64 0, .int .i64 0, .slice none 0 0] 35)) := below_box (Below.refl _ _)
          have fA0 := below_step f0 bAl
          refine hK.out _ _ (hS _ fA0) (fun hHeld => ?_)
          clear hK K
          have N := Mut.new w6.drew #[.int .i64 0, .int .i64 0, .int .i64 0, .slice none 0 0, .int .i64 0, .int .i64 0, .int .i64 0, .slice none 0 0] 35
          refine wpAnyH_ready (rs := [1]) (by kernel_rfl) (by simp) (AllReadyH.cons rfl (fun K hK => ?_) AllReadyH.nil)
          go_simp
          refine (TA.out _).mono ?_
          rintro e y1 ⟨rfl, b1⟩
          have f1 := below_step fA0 b1
          have N := N.below b1
          refine hK.out _ _ (hS _ f1) (fun hHeld => ?_)
          clear hK K
          refine wpAnyH_ready (rs := [3]) (by kernel_rfl) (by simp) (AllReadyH.cons rfl (fun K hK => ?_) AllReadyH.nil)
          have hal : w6.drew.heap.size < _ := N.1
          go_simp
          refine (IA.out _ _ _ _ _ (o3.below f1).row (p3.below f1).row).mono ?_
          rintro e y3 ⟨b0, e0, b1, e1, rfl, Q, b3⟩
          have f3 := below_step f1 b3
          have N := N.below b3
          refine hK.out _ _ (hS _ f3) (fun hHeld => ?_)
          clear hK K
          refine wpAnyH_take (i := 4) (v := .tuple #[.agg #[.int .i64 tt.pa, .int .i64 tt.pl, .int .i64 tt.o, .slice b0 tt.n0 e0, .int .i64 tt.nx, .int .i64 tt.md, .int .i64 tt.pf, .slice b1 tt.n1 e1], .bool bb]) rfl (by kernel_rfl) (by kernel_rfl) (by kernel_rfl) (fun _ _ _ h => h) (Or.inl ⟨by rfl, fun w' hSw => by go_simp⟩) hHeld ?_
          simp only [List.getElem_toArray, List.getElem_cons_succ, List.getElem_cons_zero, Act.put, List.setIfInBounds_toArray, List.set_cons_zero, List.set_cons_succ]
          refine wpAnyH_take (i := 5) (v := .agg #[.int .i64 tt.pa, .int .i64 tt.pl, .int .i64 tt.o, .slice b0 tt.n0 e0, .int .i64 tt.nx, .int .i64 tt.md, .int .i64 tt.pf, .slice b1 tt.n1 e1]) rfl (by kernel_rfl) (by kernel_rfl) (by kernel_rfl) (fun _ _ _ h => h) (Or.inl ⟨by rfl, fun w' hSw => by go_simp⟩) hHeld ?_
          simp only [List.getElem_toArray, List.getElem_cons_succ, List.getElem_cons_zero, Act.put, List.setIfInBounds_toArray, List.set_cons_zero, List.set_cons_succ]
          refine wpAnyH_take (i := 6) (v := .bool bb) rfl (by kernel_rfl) (by kernel_rfl) (by kernel_rfl) (fun _ _ _ h => h) (Or.inl ⟨by rfl, fun w' hSw => by go_simp⟩) hHeld ?_
          simp only [List.getElem_toArray, List.getElem_cons_succ, List.getElem_cons_zero, Act.put, List.setIfInBounds_toArray, List.set_cons_zero, List.set_cons_succ]
          refine wpAnyH_ready (rs := [8]) (by kernel_rfl) (by simp) (AllReadyH.cons rfl (fun K hK => ?_) AllReadyH.nil)
          rw [if_pos (by rfl)]
          refine wp_storeM (us := [.int .i64 tt.pa, .int .i64 tt.pl, .int .i64 tt.o, .slice b0 tt.n0 e0, .int .i64 tt.nx, .int .i64 tt.md, .int .i64 tt.pf, .slice b1 tt.n1 e1]) rfl rfl rfl N rfl (by intro v hv; simp only [List.mem_cons, List.not_mem_nil, or_false] at hv; rcases hv with rfl | rfl | rfl | rfl | rfl | rfl | rfl | rfl <;> rfl) sizeRt7 ?_
          intro y5 MO oO
          have hkb : w6.heap.size ≤ w6.drew.heap.size := Nat.le_of_eq rfl
          have f5 : Below w6.heap.size w6 y5 := f3.trans (oO.below_of hkb f3.size)
          refine hK.out _ _ (hS _ f5) (fun hHeld => ?_)
          clear hK K
          refine wpAnyH_take (i := 9) (v := .bool bb) rfl (by kernel_rfl) (by kernel_rfl) (by kernel_rfl) (fun _ _ _ h => h) (Or.inl ⟨by rfl, fun w' hSw => by go_simp⟩) hHeld ?_
          simp only [List.getElem_toArray, List.getElem_cons_succ, List.getElem_cons_zero, Act.put, List.setIfInBounds_toArray, List.set_cons_zero, List.set_cons_succ]
          refine wpAnyH_done (by kernel_rfl) ?_ _
          go_wp2_with fail
          go_meet
          have hQ := Q.only oO hal
          have hz := Q.at0
          exact ⟨_, _, _, _, _, rfl, rfl, hkb, MO, ⟨hQ.mono (Nat.le_trans hkb (Nat.le_of_lt hal)), fun e => by have := (hz.1 _ e).1; omega, fun e => by have := (hz.2 _ e).1; omega⟩, f5⟩
      case rest =>
        obtain ⟨kG, g0, gc0, g1, gc1, rfl, rfl, hkG, MG, AG, eB⟩ := hcut
        generalize wc = wB at *
        replace DA := DA.trans (eB.mono DA.size)
        replace dW := dW.trans (eB.mono dW.size)
        replace MX := MX.below eB
        replace o3 := o3.below eB
        replace p3 := p3.below eB
        replace MB := MB.below eB
        replace MP := MP.below eB
        have h6B := eB.size
        clear eB
        have MWc := MW.below DA
        have i0 := MWc.2.1 0 _ rfl
        have i1 := MWc.2.1 1 _ rfl
        have i2 := MWc.2.1 2 _ rfl
        have i3 := MWc.2.1 3 _ rfl
        have i4 := MWc.2.1 4 _ rfl
        have i5 := MWc.2.1 5 _ rfl
        have i6 := MWc.2.1 6 _ rfl
        have i7 := MWc.2.1 7 _ rfl
        have j0 := MG.2.1 0 _ rfl
        have j1 := MG.2.1 1 _ rfl
        have j2 := MG.2.1 2 _ rfl
        have j3 := MG.2.1 3 _ rfl
        have j4 := MG.2.1 4 _ rfl
        have j5 := MG.2.1 5 _ rfl
        have j6 := MG.2.1 6 _ rfl
        have j7 := MG.2.1 7 _ rfl
        go_upto_region 8 with fail
        go_wp2_with fail
        refine (EO.out _ _ _ _ _ _ _ _ _ AG.1.1.1 AG.1.1.2 (OW.out.1.below DA) (OW.out.2.below DA)).mono ?_
        rintro e w8 ⟨rfl, b8⟩
        clear i0 i1 i2 i3 i4 i5 i6 i7 j0 j1 j2 j3 j4 j5 j6 j7 MWc
        replace DA := DA.trans (b8.mono DA.size)
        replace dW := dW.trans (b8.mono dW.size)
        replace MX := MX.below b8
        replace o3 := o3.below b8
        replace p3 := p3.below b8
        replace MB := MB.below b8
        replace MP := MP.below b8
        replace MG := MG.below b8
        replace AG := And.intro (AG.1.below b8) AG.2
        have hb8 := b8.size
        clear b8
        go_upto_region 10 with fail
        have hS : ∀ w' : World, Below w8.heap.size w8 w' → w'.cell? ⟨bx, 0, none⟩ = some (.int .i64 t.pa) ∧ w'.cell? ⟨bx, 1, none⟩ = some (.int .i64 t.pl) ∧ w'.cell? ⟨bx, 2, none⟩ = some (.int .i64 t.o) ∧ w'.cell? ⟨bx, 3, none⟩ = some (.slice (some ⟨q3, 0, none⟩) t.n0 t.n0) ∧ w'.cell? ⟨bx, 4, none⟩ = some (.int .i64 t.nx) ∧ w'.cell? ⟨bx, 5, none⟩ = some (.int .i64 t.md) ∧ w'.cell? ⟨bx, 6, none⟩ = some (.int .i64 t.pf) ∧ w'.cell? ⟨bx, 7, none⟩ = some (.slice (some ⟨s3, 0, none⟩) t.n1 t.n1) ∧ w'.cell? ⟨w.heap.size + 1, 0, none⟩ = some (.int .i64 t.pa) ∧ w'.cell? ⟨w.heap.size + 1, 1, none⟩ = some (.int .i64 t.pl) ∧ w'.cell? ⟨w.heap.size + 1, 2, none⟩ = some (.int .i64 t.o) ∧ w'.cell? ⟨w.heap.size + 1, 3, none⟩ = some (.slice a0 t.n0 c0) ∧ w'.cell? ⟨w.heap.size + 1, 4, none⟩ = some (.int .i64 t.nx) ∧ w'.cell? ⟨w.heap.size + 1, 5, none⟩ = some (.int .i64 t.md) ∧ w'.cell? ⟨w.heap.size + 1, 6, none⟩ = some (.int .i64 t.pf) ∧ w'.cell? ⟨w.heap.size + 1, 7, none⟩ = some (.slice a1 t.n1 c1) := fun w' b => ⟨(MX.below b).2.1 0 _ rfl, (MX.below b).2.1 1 _ rfl, (MX.below b).2.1 2 _ rfl, (MX.below b).2.1 3 _ rfl, (MX.below b).2.1 4 _ rfl, (MX.below b).2.1 5 _ rfl, (MX.below b).2.1 6 _ rfl, (MX.below b).2.1 7 _ rfl, (MP.below b).2.1 0 _ rfl, (MP.below b).2.1 1 _ rfl, (MP.below b).2.1 2 _ rfl, (MP.below b).2.1 3 _ rfl, (MP.below b).2.1 4 _ rfl, (MP.below b).2.1 5 _ rfl, (MP.below b).2.1 6 _ rfl, (MP.below b).2.1 7 _ rfl⟩
        have f0 : Below w8.heap.size w8 w8.drew := (Below.refl _ _).drew
        refine wp_region_held_drew (S := fun w' => w'.cell? ⟨bx, 0, none⟩ = some (.int .i64 t.pa) ∧ w'.cell? ⟨bx, 1, none⟩ = some (.int .i64 t.pl) ∧ w'.cell? ⟨bx, 2, none⟩ = some (.int .i64 t.o) ∧ w'.cell? ⟨bx, 3, none⟩ = some (.slice (some ⟨q3, 0, none⟩) t.n0 t.n0) ∧ w'.cell? ⟨bx, 4, none⟩ = some (.int .i64 t.nx) ∧ w'.cell? ⟨bx, 5, none⟩ = some (.int .i64 t.md) ∧ w'.cell? ⟨bx, 6, none⟩ = some (.int .i64 t.pf) ∧ w'.cell? ⟨bx, 7, none⟩ = some (.slice (some ⟨s3, 0, none⟩) t.n1 t.n1) ∧ w'.cell? ⟨w.heap.size + 1, 0, none⟩ = some (.int .i64 t.pa) ∧ w'.cell? ⟨w.heap.size + 1, 1, none⟩ = some (.int .i64 t.pl) ∧ w'.cell? ⟨w.heap.size + 1, 2, none⟩ = some (.int .i64 t.o) ∧ w'.cell? ⟨w.heap.size + 1, 3, none⟩ = some (.slice a0 t.n0 c0) ∧ w'.cell? ⟨w.heap.size + 1, 4, none⟩ = some (.int .i64 t.nx) ∧ w'.cell? ⟨w.heap.size + 1, 5, none⟩ = some (.int .i64 t.md) ∧ w'.cell? ⟨w.heap.size + 1, 6, none⟩ = some (.int .i64 t.pf) ∧ w'.cell? ⟨w.heap.size + 1, 7, none⟩ = some (.slice a1 t.n1 c1)) (by kernel_rfl) (hS _ f0) (fun hHeld => ?_)
        refine wpAnyH_take (i := 0) (v := .agg #[.int .i64 t.pa, .int .i64 t.pl, .int .i64 t.o, .slice (some ⟨q3, 0, none⟩) t.n0 t.n0, .int .i64 t.nx, .int .i64 t.md, .int .i64 t.pf, .slice (some ⟨s3, 0, none⟩) t.n1 t.n1]) rfl (by kernel_rfl) (by kernel_rfl) (by kernel_rfl) (fun _ _ _ h => h) (Or.inl ⟨by rfl, fun w' hSw => by go_simp⟩) hHeld ?_
        simp only [List.getElem_toArray, List.getElem_cons_zero, Act.put, List.setIfInBounds_toArray, List.set_cons_zero, List.set_cons_succ]
        refine wpAnyH_take (i := 1) (v := .agg #[.int .i64 t.pa, .int .i64 t.pl, .int .i64 t.o, .slice a0 t.n0 c0, .int .i64 t.nx, .int .i64 t.md, .int .i64 t.pf, .slice a1 t.n1 c1]) rfl (by kernel_rfl) (by kernel_rfl) (by kernel_rfl) (fun _ _ _ h => h) (Or.inl ⟨by rfl, fun w' hSw => by go_simp⟩) hHeld ?_
        simp only [List.getElem_toArray, List.getElem_cons_succ, List.getElem_cons_zero, Act.put, List.setIfInBounds_toArray, List.set_cons_zero, List.set_cons_succ]
        refine wpAnyH_ready (rs := [2]) (by kernel_rfl) (by simp) (AllReadyH.cons rfl (fun K hK => ?_) AllReadyH.nil)
        go_simp
        refine (TR.out _ (R0.below (dW.trans (f0.mono dW.size))) (R1.below (dW.trans (f0.mono dW.size)))).mono ?_
        rintro e y1 ⟨c, d, rfl, hc, hd, oC, oD, b1⟩
        have f1 := below_step f0 b1
        refine hK.out _ _ (hS _ f1) (fun hHeld => ?_)
        clear hK K
        refine wpAnyH_ready (rs := [3]) (by kernel_rfl) (by simp) (AllReadyH.cons rfl (fun K hK => ?_) AllReadyH.nil)
        go_simp
        refine (ER.out _ _ _ _ _ _ _ _ _ (o3.below f1).row (p3.below f1).row oC.row oD.row).mono ?_
        rintro e w9 ⟨rfl, b2⟩
        have b9 := below_step f1 b2
        refine hK.out _ _ (hS _ b9) (fun hHeld => ?_)
        clear hK K
        refine wpAnyH_take (i := 4) (v := .bool false) rfl (by kernel_rfl) (by kernel_rfl) (by kernel_rfl) (fun _ _ _ h => h) (Or.inl ⟨by rfl, fun w' hSw => by go_simp⟩) hHeld ?_
        simp only [List.getElem_toArray, List.getElem_cons_succ, List.getElem_cons_zero, Act.put, List.setIfInBounds_toArray, List.set_cons_zero, List.set_cons_succ]
        refine wpAnyH_done (by kernel_rfl) ?_ _
        clear hS f0 f1 b1 b2 oC oD hc hd hHeld
        replace DA := DA.trans (b9.mono DA.size)
        replace dW := dW.trans (b9.mono dW.size)
        replace MX := MX.below b9
        replace o3 := o3.below b9
        replace p3 := p3.below b9
        replace MB := MB.below b9
        replace MP := MP.below b9
        replace MG := MG.below b9
        replace AG := And.intro (AG.1.below b9) AG.2
        have hb9 := b9.size
        clear b9
        have v0 := MX.2.1 0 _ rfl
        have v1 := MX.2.1 1 _ rfl
        have v2 := MX.2.1 2 _ rfl
        have v3 := MX.2.1 3 _ rfl
        have v4 := MX.2.1 4 _ rfl
        have v5 := MX.2.1 5 _ rfl
        have v6 := MX.2.1 6 _ rfl
        have v7 := MX.2.1 7 _ rfl
        go_upto_region 13 with fail
        go_wp2_with fail
        have hbA : wA.heap.size ≤ w9.heap.size := DA.size
        refine (MK.out wA.heap.size _ _ _ _ _ hbA (ansG_own hq3 (by omega) (by omega) o3 p3)).mono ?_
        rintro e w10 ⟨rfl, _, b10, hk10⟩
        clear v0 v1 v2 v3 v4 v5 v6 v7 o3 p3
        replace DA := DA.trans b10
        replace dW := dW.trans (b10.mono hWA)
        replace MB := MB.base (by omega) b10
        replace MP := MP.base hPA b10
        have hkGl := MG.1
        replace MG := MG.blockB (hk10 kG hkGl (by simp <;> omega) (by simp <;> omega))
        replace AG := And.intro (AG.1.keep b10.size (fun b hb hl => hk10 b hl (by simp <;> omega) (by simp <;> omega))) AG.2
        have hb10 := b10.size
        clear b10 hk10 MX
        have MWc := MW.below DA
        have i0 := MWc.2.1 0 _ rfl
        have i1 := MWc.2.1 1 _ rfl
        have i2 := MWc.2.1 2 _ rfl
        have i3 := MWc.2.1 3 _ rfl
        have i4 := MWc.2.1 4 _ rfl
        have i5 := MWc.2.1 5 _ rfl
        have i6 := MWc.2.1 6 _ rfl
        have i7 := MWc.2.1 7 _ rfl
        have j0 := MG.2.1 0 _ rfl
        have j1 := MG.2.1 1 _ rfl
        have j2 := MG.2.1 2 _ rfl
        have j3 := MG.2.1 3 _ rfl
        have j4 := MG.2.1 4 _ rfl
        have j5 := MG.2.1 5 _ rfl
        have j6 := MG.2.1 6 _ rfl
        have j7 := MG.2.1 7 _ rfl
        go_upto_region 14 with fail
        go_wp2_with fail
        refine (EO.out _ _ _ _ _ _ _ _ _ AG.1.1.1 AG.1.1.2 (OW.out.1.below DA) (OW.out.2.below DA)).mono ?_
        rintro e w11 ⟨rfl, b11⟩
        clear i0 i1 i2 i3 i4 i5 i6 i7 j0 j1 j2 j3 j4 j5 j6 j7 MWc
        replace DA := DA.trans (b11.mono DA.size)
        replace dW := dW.trans (b11.mono dW.size)
        replace MB := MB.below b11
        replace MP := MP.below b11
        replace MG := MG.below b11
        have hb11 := b11.size
        replace AG := And.intro (AG.1.below b11) AG.2
        clear b11
        have j0 := MG.2.1 0 _ rfl
        have j1 := MG.2.1 1 _ rfl
        have j2 := MG.2.1 2 _ rfl
        have j3 := MG.2.1 3 _ rfl
        have j4 := MG.2.1 4 _ rfl
        have j5 := MG.2.1 5 _ rfl
        have j6 := MG.2.1 6 _ rfl
        have j7 := MG.2.1 7 _ rfl
        go_upto_region 17 with fail
        go_wp2_with fail
        have hb6 : w6.heap.size ≤ w11.heap.size := by omega
        refine (MO9.out w6.heap.size _ _ _ _ _ hb6 AG.1).mono ?_
        rintro e w12 ⟨rfl, RG, b12, hk12⟩
        clear j0 j1 j2 j3 j4 j5 j6 j7
        have hkGl := MG.1
        replace MG := MG.blockB (hk12 kG hkGl AG.2.1 AG.2.2)
        clear AG hk12
        replace DA := DA.trans (b12.mono hA6)
        replace dW := dW.trans (b12.mono (Nat.le_trans hWA hA6))
        replace MB := MB.base (by omega) b12
        replace MP := MP.base (by omega) b12
        clear b12
        have j0 := MG.2.1 0 _ rfl
        have j1 := MG.2.1 1 _ rfl
        have j2 := MG.2.1 2 _ rfl
        have j3 := MG.2.1 3 _ rfl
        have j4 := MG.2.1 4 _ rfl
        have j5 := MG.2.1 5 _ rfl
        have j6 := MG.2.1 6 _ rfl
        have j7 := MG.2.1 7 _ rfl
        go_upto_region 19 with fail
        go_wp2_with fail
        refine (HO.out _ _ _ _ _ RG).mono ?_
        rintro e w13 ⟨rfl, b13⟩
        clear j0 j1 j2 j3 j4 j5 j6 j7
        replace DA := DA.trans (b13.mono DA.size)
        replace dW := dW.trans (b13.mono dW.size)
        replace MB := MB.below b13
        replace MP := MP.below b13
        replace MG := MG.below b13
        have hb13 := b13.size
        replace RG := And.intro (RG.1.below b13) (RG.2.below b13)
        clear b13
        go_upto_region 24 with fail
        go_cut [14, 15] (fun p b wx => BRg (fun kb a0 c0 a1 c1 X => AnsG w13.heap.size tt a0 c0 a1 c1 X ∧ a0 ≠ some ⟨kb, 0, none⟩ ∧ a1 ≠ some ⟨kb, 0, none⟩) w13 tt bb p b wx)
        case first =>
          have hS : ∀ w' : World, Below w13.heap.size w13 w' → w'.cell? ⟨w.heap.size, 0, none⟩ = some (.int .i64 k) ∧ w'.cell? ⟨w.heap.size, 1, none⟩ = some (.int .i64 n) ∧ w'.cell? ⟨w.heap.size + 1, 0, none⟩ = some (.int .i64 t.pa) ∧ w'.cell? ⟨w.heap.size + 1, 1, none⟩ = some (.int .i64 t.pl) ∧ w'.cell? ⟨w.heap.size + 1, 2, none⟩ = some (.int .i64 t.o) ∧ w'.cell? ⟨w.heap.size + 1, 3, none⟩ = some (.slice a0 t.n0 c0) ∧ w'.cell? ⟨w.heap.size + 1, 4, none⟩ = some (.int .i64 t.nx) ∧ w'.cell? ⟨w.heap.size + 1, 5, none⟩ = some (.int .i64 t.md) ∧ w'.cell? ⟨w.heap.size + 1, 6, none⟩ = some (.int .i64 t.pf) ∧ w'.cell? ⟨w.heap.size + 1, 7, none⟩ = some (.slice a1 t.n1 c1) := fun w' b => ⟨(MB.below b).2.1 0 _ rfl, (MB.below b).2.1 1 _ rfl, (MP.below b).2.1 0 _ rfl, (MP.below b).2.1 1 _ rfl, (MP.below b).2.1 2 _ rfl, (MP.below b).2.1 3 _ rfl, (MP.below b).2.1 4 _ rfl, (MP.below b).2.1 5 _ rfl, (MP.below b).2.1 6 _ rfl, (MP.below b).2.1 7 _ rfl⟩
          refine wp_region_held_drew (S := fun w' => w'.cell? ⟨w.heap.size, 0, none⟩ = some (.int .i64 k) ∧ w'.cell? ⟨w.heap.size, 1, none⟩ = some (.int .i64 n) ∧ w'.cell? ⟨w.heap.size + 1, 0, none⟩ = some (.int .i64 t.pa) ∧ w'.cell? ⟨w.heap.size + 1, 1, none⟩ = some (.int .i64 t.pl) ∧ w'.cell? ⟨w.heap.size + 1, 2, none⟩ = some (.int .i64 t.o) ∧ w'.cell? ⟨w.heap.size + 1, 3, none⟩ = some (.slice a0 t.n0 c0) ∧ w'.cell? ⟨w.heap.size + 1, 4, none⟩ = some (.int .i64 t.nx) ∧ w'.cell? ⟨w.heap.size + 1, 5, none⟩ = some (.int .i64 t.md) ∧ w'.cell? ⟨w.heap.size + 1, 6, none⟩ = some (.int .i64 t.pf) ∧ w'.cell? ⟨w.heap.size + 1, 7, none⟩ = some (.slice a1 t.n1 c1)) (by kernel_rfl) (hS _ (Below.refl _ _).drew) (fun hHeld => ?_)
          refine wpAnyH_take (i := 0) (v := .agg #[.int .i64 k, .int .i64 n]) rfl (by kernel_rfl) (by kernel_rfl) (by kernel_rfl) (fun _ _ _ h => h) (Or.inl ⟨by rfl, fun w' hSw => by go_simp⟩) hHeld ?_
          simp only [List.getElem_toArray, List.getElem_cons_zero, Act.put, List.setIfInBounds_toArray, List.set_cons_zero, List.set_cons_succ]
          refine wpAnyH_take (i := 2) (v := .agg #[.int .i64 t.pa, .int .i64 t.pl, .int .i64 t.o, .slice a0 t.n0 c0, .int .i64 t.nx, .int .i64 t.md, .int .i64 t.pf, .slice a1 t.n1 c1]) rfl (by kernel_rfl) (by kernel_rfl) (by kernel_rfl) (fun _ _ _ h => h) (Or.inl ⟨by rfl, fun w' hSw => by go_simp⟩) hHeld ?_
          simp only [List.getElem_toArray, List.getElem_cons_succ, List.getElem_cons_zero, Act.put, List.setIfInBounds_toArray, List.set_cons_zero, List.set_cons_succ]
          have f0 : Below w13.heap.size w13 w13.drew := (Below.refl _ _).drew
          refine wpAnyH_ready (rs := [1, 8]) (by kernel_rfl) (by simp) (AllReadyH.cons rfl (fun K hK => ?_) (AllReadyH.cons rfl (fun K hK => ?_) AllReadyH.nil))
          · go_simp
            refine (TA.out _).mono ?_
            rintro e y1 ⟨rfl, b1⟩
            have f1 := below_step f0 b1
            refine hK.out _ _ (hS _ f1) (fun hHeld => ?_)
            clear hK K
            refine wpAnyH_ready (rs := [3, 8]) (by kernel_rfl) (by simp) (AllReadyH.cons rfl (fun K hK => ?_) (AllReadyH.cons rfl (fun K hK => ?_) AllReadyH.nil))
            · go_simp
              refine (TR.out _ (R0.below (dW.trans (f1.mono dW.size))) (R1.below (dW.trans (f1.mono dW.size)))).mono ?_
              rintro e y2 ⟨c, d, rfl, hc, hd, oC, oD, b2⟩
              have f2 := below_step f1 b2
              refine hK.out _ _ (hS _ f2) (fun hHeld => ?_)
              clear hK K
              refine wpAnyH_ready (rs := [4, 8]) (by kernel_rfl) (by simp) (AllReadyH.cons rfl (fun K hK => ?_) (AllReadyH.cons rfl (fun K hK => ?_) AllReadyH.nil))
              · go_simp
                refine (IA.out _ _ _ _ _ oC.row oD.row).mono ?_
                rintro e y3 ⟨b0, e0, b1, e1, rfl, Q, b3⟩
                have f3 := below_step f2 b3
                refine hK.out _ _ (hS _ f3) (fun hHeld => ?_)
                clear hK K
                refine wpAnyH_take (i := 5) (v := .tuple #[.agg #[.int .i64 tt.pa, .int .i64 tt.pl, .int .i64 tt.o, .slice b0 tt.n0 e0, .int .i64 tt.nx, .int .i64 tt.md, .int .i64 tt.pf, .slice b1 tt.n1 e1], .bool bb]) rfl (by kernel_rfl) (by kernel_rfl) (by kernel_rfl) (fun _ _ _ h => h) (Or.inl ⟨by rfl, fun w' hSw => by go_simp⟩) hHeld ?_
                simp only [List.getElem_toArray, List.getElem_cons_succ, List.getElem_cons_zero, Act.put, List.setIfInBounds_toArray, List.set_cons_zero, List.set_cons_succ]
                refine wpAnyH_take (i := 6) (v := .agg #[.int .i64 tt.pa, .int .i64 tt.pl, .int .i64 tt.o, .slice b0 tt.n0 e0, .int .i64 tt.nx, .int .i64 tt.md, .int .i64 tt.pf, .slice b1 tt.n1 e1]) rfl (by kernel_rfl) (by kernel_rfl) (by kernel_rfl) (fun _ _ _ h => h) (Or.inl ⟨by rfl, fun w' hSw => by go_simp⟩) hHeld ?_
                simp only [List.getElem_toArray, List.getElem_cons_succ, List.getElem_cons_zero, Act.put, List.setIfInBounds_toArray, List.set_cons_zero, List.set_cons_succ]
                refine wpAnyH_take (i := 7) (v := .bool bb) rfl (by kernel_rfl) (by kernel_rfl) (by kernel_rfl) (fun _ _ _ h => h) (Or.inl ⟨by rfl, fun w' hSw => by go_simp⟩) hHeld ?_
                simp only [List.getElem_toArray, List.getElem_cons_succ, List.getElem_cons_zero, Act.put, List.setIfInBounds_toArray, List.set_cons_zero, List.set_cons_succ]
                refine wpAnyH_ready (rs := [8]) (by kernel_rfl) (by simp) (AllReadyH.cons rfl (fun K hK => ?_) AllReadyH.nil)
                go_simp
                have bA : Below y3.heap.size y3 (y3.alloc (.cells #[.int .i64 0, .int .i64 0, .int .i64 0, .slice none 0 0, .int .i64 0, .int .i64 0, .int .i64 0, .slice none 0 0] 35)) := below_box (Below.refl _ _)
                have f4 := below_step f3 bA
                refine hK.out _ _ (hS _ f4) (fun hHeld => ?_)
                clear hK K
                have N := Mut.new y3 #[.int .i64 0, .int .i64 0, .int .i64 0, .slice none 0 0, .int .i64 0, .int .i64 0, .int .i64 0, .slice none 0 0] 35
                refine wpAnyH_ready (rs := [9]) (by kernel_rfl) (by simp) (AllReadyH.cons rfl (fun K hK => ?_) AllReadyH.nil)
                rw [if_pos (by rfl)]
                refine wp_storeM (us := [.int .i64 tt.pa, .int .i64 tt.pl, .int .i64 tt.o, .slice b0 tt.n0 e0, .int .i64 tt.nx, .int .i64 tt.md, .int .i64 tt.pf, .slice b1 tt.n1 e1]) rfl rfl rfl N rfl (by intro v hv; simp only [List.mem_cons, List.not_mem_nil, or_false] at hv; rcases hv with rfl | rfl | rfl | rfl | rfl | rfl | rfl | rfl <;> rfl) sizeRt7 ?_
                intro y5 MO oO
                have hkb : w13.heap.size ≤ y3.heap.size := f3.size
                have f5 : Below w13.heap.size w13 y5 := f4.trans (oO.below_of hkb f4.size)
                refine hK.out _ _ (hS _ f5) (fun hHeld => ?_)
                clear hK K
                refine wpAnyH_take (i := 10) (v := .bool bb) rfl (by kernel_rfl) (by kernel_rfl) (by kernel_rfl) (fun _ _ _ h => h) (Or.inl ⟨by rfl, fun w' hSw => by go_simp⟩) hHeld ?_
                simp only [List.getElem_toArray, List.getElem_cons_succ, List.getElem_cons_zero, Act.put, List.setIfInBounds_toArray, List.set_cons_zero, List.set_cons_succ]
                refine wpAnyH_done (by kernel_rfl) ?_ _
                go_wp2_with fail
                go_meet
                have hQ := Q.below (bN bA oO)
                have hz := Q.at0
                exact ⟨_, _, _, _, _, rfl, rfl, hkb, MO, ⟨hQ.mono (by have := f2.size; omega), fun e => by have := hz.1 _ e; omega, fun e => by have := hz.2 _ e; omega⟩, f5⟩
              · go_simp
                have bAl : Below y2.heap.size y2 (y2.alloc (.cells #[.int .i64 0, .int .i64 0, .int .i64 0, .slice none 0 0, .int .i64 0, .int .i64 0, .int .i64 0, .slice none 0 0] 35)) := below_box (Below.refl _ _)
                have fA2 := below_step f2 bAl
                refine hK.out _ _ (hS _ fA2) (fun hHeld => ?_)
                clear hK K
                have N := Mut.new y2 #[.int .i64 0, .int .i64 0, .int .i64 0, .slice none 0 0, .int .i64 0, .int .i64 0, .int .i64 0, .slice none 0 0] 35
                refine wpAnyH_ready (rs := [4]) (by kernel_rfl) (by simp) (AllReadyH.cons rfl (fun K hK => ?_) AllReadyH.nil)
                have hal : y2.heap.size < _ := N.1
                go_simp
                refine (IA.out _ _ _ _ _ (oC.below bAl).row (oD.below bAl).row).mono ?_
                rintro e y3 ⟨b0, e0, b1, e1, rfl, Q, b3⟩
                have f3 := below_step fA2 b3
                have N := N.below b3
                refine hK.out _ _ (hS _ f3) (fun hHeld => ?_)
                clear hK K
                refine wpAnyH_take (i := 5) (v := .tuple #[.agg #[.int .i64 tt.pa, .int .i64 tt.pl, .int .i64 tt.o, .slice b0 tt.n0 e0, .int .i64 tt.nx, .int .i64 tt.md, .int .i64 tt.pf, .slice b1 tt.n1 e1], .bool bb]) rfl (by kernel_rfl) (by kernel_rfl) (by kernel_rfl) (fun _ _ _ h => h) (Or.inl ⟨by rfl, fun w' hSw => by go_simp⟩) hHeld ?_
                simp only [List.getElem_toArray, List.getElem_cons_succ, List.getElem_cons_zero, Act.put, List.setIfInBounds_toArray, List.set_cons_zero, List.set_cons_succ]
                refine wpAnyH_take (i := 6) (v := .agg #[.int .i64 tt.pa, .int .i64 tt.pl, .int .i64 tt.o, .slice b0 tt.n0 e0, .int .i64 tt.nx, .int .i64 tt.md, .int .i64 tt.pf, .slice b1 tt.n1 e1]) rfl (by kernel_rfl) (by kernel_rfl) (by kernel_rfl) (fun _ _ _ h => h) (Or.inl ⟨by rfl, fun w' hSw => by go_simp⟩) hHeld ?_
                simp only [List.getElem_toArray, List.getElem_cons_succ, List.getElem_cons_zero, Act.put, List.setIfInBounds_toArray, List.set_cons_zero, List.set_cons_succ]
                refine wpAnyH_take (i := 7) (v := .bool bb) rfl (by kernel_rfl) (by kernel_rfl) (by kernel_rfl) (fun _ _ _ h => h) (Or.inl ⟨by rfl, fun w' hSw => by go_simp⟩) hHeld ?_
                simp only [List.getElem_toArray, List.getElem_cons_succ, List.getElem_cons_zero, Act.put, List.setIfInBounds_toArray, List.set_cons_zero, List.set_cons_succ]
                refine wpAnyH_ready (rs := [9]) (by kernel_rfl) (by simp) (AllReadyH.cons rfl (fun K hK => ?_) AllReadyH.nil)
                rw [if_pos (by rfl)]
                refine wp_storeM (us := [.int .i64 tt.pa, .int .i64 tt.pl, .int .i64 tt.o, .slice b0 tt.n0 e0, .int .i64 tt.nx, .int .i64 tt.md, .int .i64 tt.pf, .slice b1 tt.n1 e1]) rfl rfl rfl N rfl (by intro v hv; simp only [List.mem_cons, List.not_mem_nil, or_false] at hv; rcases hv with rfl | rfl | rfl | rfl | rfl | rfl | rfl | rfl <;> rfl) sizeRt7 ?_
                intro y5 MO oO
                have hkb : w13.heap.size ≤ y2.heap.size := f2.size
                have f5 : Below w13.heap.size w13 y5 := f3.trans (oO.below_of hkb f3.size)
                refine hK.out _ _ (hS _ f5) (fun hHeld => ?_)
                clear hK K
                refine wpAnyH_take (i := 10) (v := .bool bb) rfl (by kernel_rfl) (by kernel_rfl) (by kernel_rfl) (fun _ _ _ h => h) (Or.inl ⟨by rfl, fun w' hSw => by go_simp⟩) hHeld ?_
                simp only [List.getElem_toArray, List.getElem_cons_succ, List.getElem_cons_zero, Act.put, List.setIfInBounds_toArray, List.set_cons_zero, List.set_cons_succ]
                refine wpAnyH_done (by kernel_rfl) ?_ _
                go_wp2_with fail
                go_meet
                have hQ := Q.only oO hal
                have hz := Q.at0
                exact ⟨_, _, _, _, _, rfl, rfl, hkb, MO, ⟨hQ.mono (Nat.le_trans hkb (Nat.le_of_lt hal)), fun e => by have := (hz.1 _ e).1; omega, fun e => by have := (hz.2 _ e).1; omega⟩, f5⟩
            · go_simp
              have bAl : Below y1.heap.size y1 (y1.alloc (.cells #[.int .i64 0, .int .i64 0, .int .i64 0, .slice none 0 0, .int .i64 0, .int .i64 0, .int .i64 0, .slice none 0 0] 35)) := below_box (Below.refl _ _)
              have fA1 := below_step f1 bAl
              refine hK.out _ _ (hS _ fA1) (fun hHeld => ?_)
              clear hK K
              have N := Mut.new y1 #[.int .i64 0, .int .i64 0, .int .i64 0, .slice none 0 0, .int .i64 0, .int .i64 0, .int .i64 0, .slice none 0 0] 35
              refine wpAnyH_ready (rs := [3]) (by kernel_rfl) (by simp) (AllReadyH.cons rfl (fun K hK => ?_) AllReadyH.nil)
              go_simp
              refine (TR.out _ (R0.below (dW.trans (fA1.mono dW.size))) (R1.below (dW.trans (fA1.mono dW.size)))).mono ?_
              rintro e y2 ⟨c, d, rfl, hc, hd, oC, oD, b2⟩
              have f2 := below_step fA1 b2
              have N := N.below b2
              refine hK.out _ _ (hS _ f2) (fun hHeld => ?_)
              clear hK K
              refine wpAnyH_ready (rs := [4]) (by kernel_rfl) (by simp) (AllReadyH.cons rfl (fun K hK => ?_) AllReadyH.nil)
              have hal : y1.heap.size < _ := N.1
              go_simp
              refine (IA.out _ _ _ _ _ oC.row oD.row).mono ?_
              rintro e y3 ⟨b0, e0, b1, e1, rfl, Q, b3⟩
              have f3 := below_step f2 b3
              have N := N.below b3
              refine hK.out _ _ (hS _ f3) (fun hHeld => ?_)
              clear hK K
              refine wpAnyH_take (i := 5) (v := .tuple #[.agg #[.int .i64 tt.pa, .int .i64 tt.pl, .int .i64 tt.o, .slice b0 tt.n0 e0, .int .i64 tt.nx, .int .i64 tt.md, .int .i64 tt.pf, .slice b1 tt.n1 e1], .bool bb]) rfl (by kernel_rfl) (by kernel_rfl) (by kernel_rfl) (fun _ _ _ h => h) (Or.inl ⟨by rfl, fun w' hSw => by go_simp⟩) hHeld ?_
              simp only [List.getElem_toArray, List.getElem_cons_succ, List.getElem_cons_zero, Act.put, List.setIfInBounds_toArray, List.set_cons_zero, List.set_cons_succ]
              refine wpAnyH_take (i := 6) (v := .agg #[.int .i64 tt.pa, .int .i64 tt.pl, .int .i64 tt.o, .slice b0 tt.n0 e0, .int .i64 tt.nx, .int .i64 tt.md, .int .i64 tt.pf, .slice b1 tt.n1 e1]) rfl (by kernel_rfl) (by kernel_rfl) (by kernel_rfl) (fun _ _ _ h => h) (Or.inl ⟨by rfl, fun w' hSw => by go_simp⟩) hHeld ?_
              simp only [List.getElem_toArray, List.getElem_cons_succ, List.getElem_cons_zero, Act.put, List.setIfInBounds_toArray, List.set_cons_zero, List.set_cons_succ]
              refine wpAnyH_take (i := 7) (v := .bool bb) rfl (by kernel_rfl) (by kernel_rfl) (by kernel_rfl) (fun _ _ _ h => h) (Or.inl ⟨by rfl, fun w' hSw => by go_simp⟩) hHeld ?_
              simp only [List.getElem_toArray, List.getElem_cons_succ, List.getElem_cons_zero, Act.put, List.setIfInBounds_toArray, List.set_cons_zero, List.set_cons_succ]
              refine wpAnyH_ready (rs := [9]) (by kernel_rfl) (by simp) (AllReadyH.cons rfl (fun K hK => ?_) AllReadyH.nil)
              rw [if_pos (by rfl)]
              refine wp_storeM (us := [.int .i64 tt.pa, .int .i64 tt.pl, .int .i64 tt.o, .slice b0 tt.n0 e0, .int .i64 tt.nx, .int .i64 tt.md, .int .i64 tt.pf, .slice b1 tt.n1 e1]) rfl rfl rfl N rfl (by intro v hv; simp only [List.mem_cons, List.not_mem_nil, or_false] at hv; rcases hv with rfl | rfl | rfl | rfl | rfl | rfl | rfl | rfl <;> rfl) sizeRt7 ?_
              intro y5 MO oO
              have hkb : w13.heap.size ≤ y1.heap.size := f1.size
              have f5 : Below w13.heap.size w13 y5 := f3.trans (oO.below_of hkb f3.size)
              refine hK.out _ _ (hS _ f5) (fun hHeld => ?_)
              clear hK K
              refine wpAnyH_take (i := 10) (v := .bool bb) rfl (by kernel_rfl) (by kernel_rfl) (by kernel_rfl) (fun _ _ _ h => h) (Or.inl ⟨by rfl, fun w' hSw => by go_simp⟩) hHeld ?_
              simp only [List.getElem_toArray, List.getElem_cons_succ, List.getElem_cons_zero, Act.put, List.setIfInBounds_toArray, List.set_cons_zero, List.set_cons_succ]
              refine wpAnyH_done (by kernel_rfl) ?_ _
              go_wp2_with fail
              go_meet
              have hQ := Q.only oO hal
              have hz := Q.at0
              exact ⟨_, _, _, _, _, rfl, rfl, hkb, MO, ⟨hQ.mono (Nat.le_trans hkb (Nat.le_of_lt hal)), fun e => by have := (hz.1 _ e).1; omega, fun e => by have := (hz.2 _ e).1; omega⟩, f5⟩
          · go_simp
            have bAl : Below w13.drew.heap.size w13.drew (w13.drew.alloc (.cells #[.int .i64 0, .int .i64 0, .int .i64 0, .slice none 0 0, .int .i64 0, .int .i64 0, .int .i64 0, .slice none 0 0] 35)) := below_box (Below.refl _ _)
            have fA0 := below_step f0 bAl
            refine hK.out _ _ (hS _ fA0) (fun hHeld => ?_)
            clear hK K
            have N := Mut.new w13.drew #[.int .i64 0, .int .i64 0, .int .i64 0, .slice none 0 0, .int .i64 0, .int .i64 0, .int .i64 0, .slice none 0 0] 35
            refine wpAnyH_ready (rs := [1]) (by kernel_rfl) (by simp) (AllReadyH.cons rfl (fun K hK => ?_) AllReadyH.nil)
            go_simp
            refine (TA.out _).mono ?_
            rintro e y1 ⟨rfl, b1⟩
            have f1 := below_step fA0 b1
            have N := N.below b1
            refine hK.out _ _ (hS _ f1) (fun hHeld => ?_)
            clear hK K
            refine wpAnyH_ready (rs := [3]) (by kernel_rfl) (by simp) (AllReadyH.cons rfl (fun K hK => ?_) AllReadyH.nil)
            go_simp
            refine (TR.out _ (R0.below (dW.trans (f1.mono dW.size))) (R1.below (dW.trans (f1.mono dW.size)))).mono ?_
            rintro e y2 ⟨c, d, rfl, hc, hd, oC, oD, b2⟩
            have f2 := below_step f1 b2
            have N := N.below b2
            refine hK.out _ _ (hS _ f2) (fun hHeld => ?_)
            clear hK K
            refine wpAnyH_ready (rs := [4]) (by kernel_rfl) (by simp) (AllReadyH.cons rfl (fun K hK => ?_) AllReadyH.nil)
            have hal : w13.drew.heap.size < _ := N.1
            go_simp
            refine (IA.out _ _ _ _ _ oC.row oD.row).mono ?_
            rintro e y3 ⟨b0, e0, b1, e1, rfl, Q, b3⟩
            have f3 := below_step f2 b3
            have N := N.below b3
            refine hK.out _ _ (hS _ f3) (fun hHeld => ?_)
            clear hK K
            refine wpAnyH_take (i := 5) (v := .tuple #[.agg #[.int .i64 tt.pa, .int .i64 tt.pl, .int .i64 tt.o, .slice b0 tt.n0 e0, .int .i64 tt.nx, .int .i64 tt.md, .int .i64 tt.pf, .slice b1 tt.n1 e1], .bool bb]) rfl (by kernel_rfl) (by kernel_rfl) (by kernel_rfl) (fun _ _ _ h => h) (Or.inl ⟨by rfl, fun w' hSw => by go_simp⟩) hHeld ?_
            simp only [List.getElem_toArray, List.getElem_cons_succ, List.getElem_cons_zero, Act.put, List.setIfInBounds_toArray, List.set_cons_zero, List.set_cons_succ]
            refine wpAnyH_take (i := 6) (v := .agg #[.int .i64 tt.pa, .int .i64 tt.pl, .int .i64 tt.o, .slice b0 tt.n0 e0, .int .i64 tt.nx, .int .i64 tt.md, .int .i64 tt.pf, .slice b1 tt.n1 e1]) rfl (by kernel_rfl) (by kernel_rfl) (by kernel_rfl) (fun _ _ _ h => h) (Or.inl ⟨by rfl, fun w' hSw => by go_simp⟩) hHeld ?_
            simp only [List.getElem_toArray, List.getElem_cons_succ, List.getElem_cons_zero, Act.put, List.setIfInBounds_toArray, List.set_cons_zero, List.set_cons_succ]
            refine wpAnyH_take (i := 7) (v := .bool bb) rfl (by kernel_rfl) (by kernel_rfl) (by kernel_rfl) (fun _ _ _ h => h) (Or.inl ⟨by rfl, fun w' hSw => by go_simp⟩) hHeld ?_
            simp only [List.getElem_toArray, List.getElem_cons_succ, List.getElem_cons_zero, Act.put, List.setIfInBounds_toArray, List.set_cons_zero, List.set_cons_succ]
            refine wpAnyH_ready (rs := [9]) (by kernel_rfl) (by simp) (AllReadyH.cons rfl (fun K hK => ?_) AllReadyH.nil)
            rw [if_pos (by rfl)]
            refine wp_storeM (us := [.int .i64 tt.pa, .int .i64 tt.pl, .int .i64 tt.o, .slice b0 tt.n0 e0, .int .i64 tt.nx, .int .i64 tt.md, .int .i64 tt.pf, .slice b1 tt.n1 e1]) rfl rfl rfl N rfl (by intro v hv; simp only [List.mem_cons, List.not_mem_nil, or_false] at hv; rcases hv with rfl | rfl | rfl | rfl | rfl | rfl | rfl | rfl <;> rfl) sizeRt7 ?_
            intro y5 MO oO
            have hkb : w13.heap.size ≤ w13.drew.heap.size := Nat.le_of_eq rfl
            have f5 : Below w13.heap.size w13 y5 := f3.trans (oO.below_of hkb f3.size)
            refine hK.out _ _ (hS _ f5) (fun hHeld => ?_)
            clear hK K
            refine wpAnyH_take (i := 10) (v := .bool bb) rfl (by kernel_rfl) (by kernel_rfl) (by kernel_rfl) (fun _ _ _ h => h) (Or.inl ⟨by rfl, fun w' hSw => by go_simp⟩) hHeld ?_
            simp only [List.getElem_toArray, List.getElem_cons_succ, List.getElem_cons_zero, Act.put, List.setIfInBounds_toArray, List.set_cons_zero, List.set_cons_succ]
            refine wpAnyH_done (by kernel_rfl) ?_ _
            go_wp2_with fail
            go_meet
            have hQ := Q.only oO hal
            have hz := Q.at0
            exact ⟨_, _, _, _, _, rfl, rfl, hkb, MO, ⟨hQ.mono (Nat.le_trans hkb (Nat.le_of_lt hal)), fun e => by have := (hz.1 _ e).1; omega, fun e => by have := (hz.2 _ e).1; omega⟩, f5⟩
        case rest =>
          obtain ⟨kH, h0, hc0, h1, hc1, rfl, rfl, hkH, MH, AH, eD⟩ := hcut
          generalize wc = wD at *
          replace DA := DA.trans (eD.mono DA.size)
          replace dW := dW.trans (eD.mono dW.size)
          replace MB := MB.below eD
          replace MP := MP.below eD
          replace MG := MG.below eD
          have heD := eD.size
          replace RG := And.intro (RG.1.below eD) (RG.2.below eD)
          clear eD
          have MWc := MW.below DA
          have i0 := MWc.2.1 0 _ rfl
          have i1 := MWc.2.1 1 _ rfl
          have i2 := MWc.2.1 2 _ rfl
          have i3 := MWc.2.1 3 _ rfl
          have i4 := MWc.2.1 4 _ rfl
          have i5 := MWc.2.1 5 _ rfl
          have i6 := MWc.2.1 6 _ rfl
          have i7 := MWc.2.1 7 _ rfl
          have j0 := MH.2.1 0 _ rfl
          have j1 := MH.2.1 1 _ rfl
          have j2 := MH.2.1 2 _ rfl
          have j3 := MH.2.1 3 _ rfl
          have j4 := MH.2.1 4 _ rfl
          have j5 := MH.2.1 5 _ rfl
          have j6 := MH.2.1 6 _ rfl
          have j7 := MH.2.1 7 _ rfl
          go_upto_region 25 with fail
          go_wp2_with fail
          refine (EO.out _ _ _ _ _ _ _ _ _ AH.1.1.1 AH.1.1.2 (OW.out.1.below DA) (OW.out.2.below DA)).mono ?_
          rintro e w14 ⟨rfl, b14⟩
          clear i0 i1 i2 i3 i4 i5 i6 i7 j0 j1 j2 j3 j4 j5 j6 j7 MWc
          replace MG := MG.below b14
          replace dW := dW.trans (b14.mono dW.size)
          replace RG := And.intro (RG.1.below b14) (RG.2.below b14)
          have j0 := MG.2.1 0 _ rfl
          have j1 := MG.2.1 1 _ rfl
          have j2 := MG.2.1 2 _ rfl
          have j3 := MG.2.1 3 _ rfl
          have j4 := MG.2.1 4 _ rfl
          have j5 := MG.2.1 5 _ rfl
          have j6 := MG.2.1 6 _ rfl
          have j7 := MG.2.1 7 _ rfl
          go_upto_region 28 with fail
          go_wp2_with fail
          refine (HO.out _ _ _ _ _ RG).mono ?_
          rintro e w15 ⟨rfl, b15⟩
          replace dW := dW.trans (b15.mono dW.size)
          go_wp2_with fail
          go_ret
          exact ⟨rfl, dW⟩
  · rw [if_neg hs] at SZ
    clear hs h0 h1
    go_enter Try.func3, Try.ntmps3
    go_wp2_with fail
    refine (SZ.out _).mono ?_
    rintro e w0 ⟨rfl, d0⟩
    go_wp2_with fail
    go_ret
    exact ⟨rfl, hB0.trans (d0.mono hB0.size)⟩
end Go.Proofs.Ytflakkbodbnndaa
