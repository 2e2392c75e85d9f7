/- The law on StepStore: the program answers as the specification, in memory of its own. -/
import Derived.Test.YtnficndeblkjhaaGreatDoorGrp20
import Derived.Test.YtnficndeblkjhaaGreatDoorSt16b
import Derived.Test.YtnficndeblkjhaaGreatDoorSt16c
import Derived.Test.YtnficndeblkjhaaGreatDoorSt16e
import Derived.Deep.DeepCutAuto
import Derived.Deep.CutRange
import Derived.Deep.RegionHeld3
namespace Go.Proofs.YtnficndeblkjhaaGreatDoor
open Go.RowKit

/-- What a region that calls StepStore leaves: a store in a box, and a bool. -/
def BRs (W : World) (tt : Sto) (bb : Bool) (p b : Value) (wx : World) : Prop := ∃ (kb : Nat) (ca : Option Addr) (kc : Nat) (ra : Option Addr) (kr : Nat) (ha : Option Addr) (kh lo hi : Nat), p = .pointer (some ⟨kb, 0, none⟩) ∧ b = .bool bb ∧ W.heap.size ≤ kb ∧ Mut wx kb [.slice ca tt.C.n kc, .slice ra tt.R.n kr, .slice ha tt.h kh, .int .i64 tt.l] ∧ AnsSt (.agg #[.slice ca tt.C.n kc, .slice ra tt.R.n kr, .slice ha tt.h kh, .int .i64 tt.l]) tt lo hi wx ∧ W.heap.size ≤ lo ∧ (kb < lo ∨ hi ≤ kb) ∧ Below W.heap.size W wx
set_option maxRecDepth 100000 in
set_option maxHeartbeats 12800000 in
theorem w_stepStore (v0 : Value) (s0 : Sto) (k N : Int) (pa : Option Addr) (n pc : Nat) (f : Nat → ByteArray) (u : ByteArray) (gl gr : Addr) (w : World) (hX0 : MaxSt s0) (hR0 : RowSt false v0 s0 w) (hl : OkF ⟨n, f, u⟩ maxLen) (hQ0 : RowStr pa n f w) (hG : GW gl gr w) :
    Calls Tryz.prog 3 #[v0, .agg #[.int .i64 k, .slice pa n pc, .string u, .int .i64 N]] w fun e w' => e = .returned (.bool true) ∧ Below w.heap.size w w' := by
  obtain ⟨ca, kc, ra, kr, ha, kh, hv0⟩ := hR0.form
  subst hv0
  have SZ0 := hide (fun w R => w_szStore (.agg #[.slice ca s0.C.n kc, .slice ra s0.R.n kr, .slice ha s0.h kh, .int .i64 s0.l]) s0 1048576 w hX0 (by omega) (by omega) R)
  have SZ1 := hide (fun m w h0 hm R => w_szOp k N pa n pc f u m w hl h0 hm R)
  have MB := (Mut.new w #[.slice ca s0.C.n kc, .slice ra s0.R.n kr, .slice ha s0.h kh, .int .i64 s0.l] 25).alloc (.cells #[.int .i64 k, .slice pa n pc, .string u, .int .i64 N] 28)
  have MP := Mut.new (w.alloc (.cells #[.slice ca s0.C.n kc, .slice ra s0.R.n kr, .slice ha s0.h kh, .int .i64 s0.l] 25)) #[.int .i64 k, .slice pa n pc, .string u, .int .i64 N] 28
  simp only [World.size_alloc] at MP
  have hB0 : Below w.heap.size w ((w.alloc (.cells #[.slice ca s0.C.n kc, .slice ra s0.R.n kr, .slice ha s0.h kh, .int .i64 s0.l] 25)).alloc (.cells #[.int .i64 k, .slice pa n pc, .string u, .int .i64 N] 28)) := below_box2 (Below.refl _ _)
  have hlp := hide (fun i hi => hl.2.1 i hi)
  have hlv := hide hl.2.2
  clear hX0 hl
  go_enter Tryz.func3, Tryz.ntmps3
  go_wp2_with fail
  generalize (w.alloc (.cells #[.slice ca s0.C.n kc, .slice ra s0.R.n kr, .slice ha s0.h kh, .int .i64 s0.l] 25)).alloc (.cells #[.int .i64 k, .slice pa n pc, .string u, .int .i64 N] 28) = W0 at *
  refine (SZ0.out _ (hR0.below hB0)).mono ?_
  rintro e w1 ⟨r0, rfl, hr0, b1⟩
  replace MB := MB.below b1
  replace MP := MP.below b1
  have dA := hB0.trans (b1.mono hB0.size)
  clear b1 SZ0 hB0
  rcases hr0 with rfl | ⟨r0a, r0b, l0⟩
  · go_wp2_with fail
    go_ret
    exact ⟨rfl, dA⟩
  have z0 : ¬ (r0 < 0) := by omega
  have p0 := MP.2.1 0 _ rfl
  have p1 := MP.2.1 1 _ rfl
  have p2 := MP.2.1 2 _ rfl
  have p3 := MP.2.1 3 _ rfl
  go_wp2_with fail
  refine (SZ1.out _ _ r0a r0b (hQ0.below dA)).mono ?_
  rintro e w0 ⟨r1, rfl, hr1, b1⟩
  replace MB := MB.below b1
  replace MP := MP.below b1
  have dW := dA.trans (b1.mono dA.size)
  clear b1 SZ1 dA p0 p1 p2 p3
  rcases hr1 with rfl | ⟨r1a, r1b, _, _⟩
  · go_wp2_with fail
    go_ret
    exact ⟨rfl, dW⟩
  have z1 : ¬ (r1 < 0) := by omega
  have hn : n ≤ 1048576 := by omega
  have TO := hide (fun W R => w_toStore (.agg #[.slice ca s0.C.n kc, .slice ra s0.R.n kr, .slice ha s0.h kh, .int .i64 s0.l]) s0 W l0 R)
  have TP := hide (fun W R => w_toOp k N pa n pc f u W hn R)
  have SA := hide (fun v x W (hR : RowSt true v s0 W) (hQ : RowStr x n f W) (_ : Below w.heap.size w W) => s_stepStore v s0 ⟨k, n, f, u, N⟩ x n W l0 hR hn hlp.out hlv.out hQ)
  have IA := hide (fun v x W (hR : RowSt true v s0 W) (hQ : RowStr x n f W) (h : Below w.heap.size w W) => i_stepStore v s0 ⟨k, n, f, u, N⟩ x n W l0 hR gl gr (hG.below h) hQ (Nat.le_refl _))
  have ER := hide (fun v v' w R Q => w_eqStore v v' s0 w ⟨l0.1.n, l0.1.2, l0.2.1.n, l0.2.1.2, l0.2.2.1, fun i hi => ⟨(l0.2.2.2.1 i hi).n, (l0.2.2.2.1 i hi).2⟩⟩ R Q)
  have EP := hide (fun a0 a1 c0 c1 w R Q => w_eqOp k N a0 a1 n c0 c1 f u w hn R Q)
  have MK := hide (fun v lo hi w A => (show Calls Tryz.prog 13 #[v, .int .i64 1] w _ from w_markStore v s0 lo hi 1 w l0 (by omega) (by omega) A))
  obtain ⟨ks0, ks1⟩ := kmSt_le (k0 := 1) l0 (by omega)
  generalize kmSt 1 s0 = ks at *
  have MKO := hide (fun x c w O => w_markOp k N x n c f u ks w (by omega) (by omega) (by omega) O)
  have lA := low_stA s0 ⟨k, n, f, u, N⟩
  generalize stA s0 ⟨k, n, f, u, N⟩ = D at *
  obtain ⟨tt, bb⟩ := D
  dsimp only at SA IA lA
  have EO := hide (fun v v' w R Q => w_eqStore v v' tt w ⟨lA.1.n, lA.1.2, lA.2.1.n, lA.2.1.2, lA.2.2.1, fun i hi => ⟨(lA.2.2.2.1 i hi).n, (lA.2.2.2.1 i hi).2⟩⟩ R Q)
  have MG9 := hide (fun v lo hi w A => (show Calls Tryz.prog 13 #[v, .int .i64 1] w _ from w_markStore v tt lo hi 1 w lA (by omega) (by omega) A))
  have HO := hide (fun v w R => (show Calls Tryz.prog 15 #[v, .int .i64 1] w _ from w_heldStore v tt 1 w lA (by omega) (by omega) R))
  obtain ⟨kt0, kt1⟩ := kmSt_le (k0 := 1) lA (by omega)
  generalize kmSt 1 tt = kt at *
  generalize mkSt 1 tt = tm at *
  generalize mkSt 1 s0 = sm at *
  have kb0 : (bb != bb) = false := by simp
  have km0 : ((kt : Int) != (kt : Int)) = false := by simp
  have km1 : ¬ ((kt : Int) < 0) := by omega
  have km2 : ¬ ((ks : Int) + (n : Int) < 0) := by omega
  have MBc := MB
  have MPc := MP
  clear r0a r0b r1a r1b l0 lA ks0 ks1 kt0 kt1 hlp hlv hn
  go_upto_region 8 with fail
  go_cut [6, 7] (fun p b wx => BRs w0 tt bb p b wx)
  case first =>
    have hS : ∀ w' : World, Below w0.heap.size w0 w' → w'.cell? ⟨w.heap.size, 0, none⟩ = some (.slice ca s0.C.n kc) ∧ w'.cell? ⟨w.heap.size, 1, none⟩ = some (.slice ra s0.R.n kr) ∧ w'.cell? ⟨w.heap.size, 2, none⟩ = some (.slice ha s0.h kh) ∧ w'.cell? ⟨w.heap.size, 3, none⟩ = some (.int .i64 s0.l) ∧ w'.cell? ⟨w.heap.size + 1, 0, none⟩ = some (.int .i64 k) ∧ w'.cell? ⟨w.heap.size + 1, 1, none⟩ = some (.slice pa n pc) ∧ w'.cell? ⟨w.heap.size + 1, 2, none⟩ = some (.string u) ∧ w'.cell? ⟨w.heap.size + 1, 3, none⟩ = some (.int .i64 N) := fun w' b => ⟨(MBc.below b).2.1 0 _ rfl, (MBc.below b).2.1 1 _ rfl, (MBc.below b).2.1 2 _ rfl, (MBc.below b).2.1 3 _ rfl, (MPc.below b).2.1 0 _ rfl, (MPc.below b).2.1 1 _ rfl, (MPc.below b).2.1 2 _ rfl, (MPc.below b).2.1 3 _ rfl⟩
    refine wp_region_held_drew (S := fun w' => w'.cell? ⟨w.heap.size, 0, none⟩ = some (.slice ca s0.C.n kc) ∧ w'.cell? ⟨w.heap.size, 1, none⟩ = some (.slice ra s0.R.n kr) ∧ w'.cell? ⟨w.heap.size, 2, none⟩ = some (.slice ha s0.h kh) ∧ w'.cell? ⟨w.heap.size, 3, none⟩ = some (.int .i64 s0.l) ∧ w'.cell? ⟨w.heap.size + 1, 0, none⟩ = some (.int .i64 k) ∧ w'.cell? ⟨w.heap.size + 1, 1, none⟩ = some (.slice pa n pc) ∧ w'.cell? ⟨w.heap.size + 1, 2, none⟩ = some (.string u) ∧ w'.cell? ⟨w.heap.size + 1, 3, none⟩ = some (.int .i64 N)) (by kernel_rfl) (hS _ (Below.refl _ _).drew) (fun hHeld => ?_)
    refine wpAnyH_take (i := 0) (v := .agg #[.slice ca s0.C.n kc, .slice ra s0.R.n kr, .slice ha s0.h kh, .int .i64 s0.l]) rfl (by kernel_rfl) (by kernel_rfl) (by kernel_rfl) (fun _ _ _ h => h) (Or.inl ⟨by rfl, fun w' hSw => by go_simp⟩) hHeld ?_
    simp only [List.getElem_toArray, List.getElem_cons_zero, Act.put, List.setIfInBounds_toArray, List.set_cons_zero, List.set_cons_succ]
    refine wpAnyH_take (i := 2) (v := .agg #[.int .i64 k, .slice pa n pc, .string u, .int .i64 N]) rfl (by kernel_rfl) (by kernel_rfl) (by kernel_rfl) (fun _ _ _ h => h) (Or.inl ⟨by rfl, fun w' hSw => by go_simp⟩) hHeld ?_
    simp only [List.getElem_toArray, List.getElem_cons_succ, List.getElem_cons_zero, Act.put, List.setIfInBounds_toArray, List.set_cons_zero, List.set_cons_succ]
    have f0 : Below w0.heap.size w0 w0.drew := (Below.refl _ _).drew
    refine wpAnyH_ready (rs := [1, 8]) (by kernel_rfl) (by simp) (AllReadyH.cons rfl (fun K hK => ?_) (AllReadyH.cons rfl (fun K hK => ?_) AllReadyH.nil))
    · go_simp
      refine (TO.out _ (hR0.below (dW.trans (f0.mono dW.size)))).mono ?_
      rintro e y1 ⟨v1, rfl, O1, b1⟩
      have f1 := below_step f0 b1
      refine hK.out _ _ (hS _ f1) (fun hHeld => ?_)
      clear hK K
      refine wpAnyH_ready (rs := [3, 8]) (by kernel_rfl) (by simp) (AllReadyH.cons rfl (fun K hK => ?_) (AllReadyH.cons rfl (fun K hK => ?_) AllReadyH.nil))
      · go_simp
        refine (TP.out _ (hQ0.below (dW.trans (f1.mono dW.size)))).mono ?_
        rintro e y2 ⟨x1, rfl, hx1, oS, b2⟩
        replace O1 := O1.below b2
        have f2 := below_step f1 b2
        refine hK.out _ _ (hS _ f2) (fun hHeld => ?_)
        clear hK K
        refine wpAnyH_ready (rs := [4, 8]) (by kernel_rfl) (by simp) (AllReadyH.cons rfl (fun K hK => ?_) (AllReadyH.cons rfl (fun K hK => ?_) AllReadyH.nil))
        · go_simp
          have hs3 : w0.heap.size ≤ _ := f2.size
          refine (SA.out v1 (some ⟨x1, 0, none⟩) _ O1.row oS.row (dW.trans (f2.mono dW.size))).mono ?_
          rintro e y3 ⟨v3, rfl, A3, b3⟩
          have f3 := below_step f2 b3
          refine hK.out _ _ (hS _ f3) (fun hHeld => ?_)
          clear hK K
          have h3 := A3.size
          obtain ⟨ca3, kc3, ra3, kr3, ha3, kh3, hv3⟩ := A3.form
          subst hv3
          refine wpAnyH_take (i := 5) (v := .tuple #[.agg #[.slice ca3 tt.C.n kc3, .slice ra3 tt.R.n kr3, .slice ha3 tt.h kh3, .int .i64 tt.l], .bool bb]) rfl (by kernel_rfl) (by kernel_rfl) (by kernel_rfl) (fun _ _ _ h => h) (Or.inl ⟨by rfl, fun w' hSw => by go_simp⟩) hHeld ?_
          simp only [List.getElem_toArray, List.getElem_cons_succ, List.getElem_cons_zero, Act.put, List.setIfInBounds_toArray, List.set_cons_zero, List.set_cons_succ]
          refine wpAnyH_take (i := 6) (v := .agg #[.slice ca3 tt.C.n kc3, .slice ra3 tt.R.n kr3, .slice ha3 tt.h kh3, .int .i64 tt.l]) rfl (by kernel_rfl) (by kernel_rfl) (by kernel_rfl) (fun _ _ _ h => h) (Or.inl ⟨by rfl, fun w' hSw => by go_simp⟩) hHeld ?_
          simp only [List.getElem_toArray, List.getElem_cons_succ, List.getElem_cons_zero, Act.put, List.setIfInBounds_toArray, List.set_cons_zero, List.set_cons_succ]
          refine wpAnyH_take (i := 7) (v := .bool bb) rfl (by kernel_rfl) (by kernel_rfl) (by kernel_rfl) (fun _ _ _ h => h) (Or.inl ⟨by rfl, fun w' hSw => by go_simp⟩) hHeld ?_
          simp only [List.getElem_toArray, List.getElem_cons_succ, List.getElem_cons_zero, Act.put, List.setIfInBounds_toArray, List.set_cons_zero, List.set_cons_succ]
          refine wpAnyH_ready (rs := [8]) (by kernel_rfl) (by simp) (AllReadyH.cons rfl (fun K hK => ?_) AllReadyH.nil)
          go_simp
          have bA : Below y3.heap.size y3 (y3.alloc (.cells #[.slice none 0 0, .slice none 0 0, .slice none 0 0, .int .i64 0] 34)) := below_box (Below.refl _ _)
          have f4 := below_step f3 bA
          refine hK.out _ _ (hS _ f4) (fun hHeld => ?_)
          clear hK K
          have N9 := Mut.new y3 #[.slice none 0 0, .slice none 0 0, .slice none 0 0, .int .i64 0] 34
          have hq3 := f3.size
          replace A3 := A3.below bA
          refine wpAnyH_ready (rs := [9]) (by kernel_rfl) (by simp) (AllReadyH.cons rfl (fun K hK => ?_) AllReadyH.nil)
          rw [if_pos (by rfl)]
          refine wp_storeM (us := [.slice ca3 tt.C.n kc3, .slice ra3 tt.R.n kr3, .slice ha3 tt.h kh3, .int .i64 tt.l]) rfl rfl rfl N9 rfl (by intro v hv; simp only [List.mem_cons, List.not_mem_nil, or_false] at hv; rcases hv with rfl | rfl | rfl | rfl <;> rfl) sizeSto ?_
          intro y5 MO oO
          have onb := OnlyP.of_only (P := fun x => x = y3.heap.size) oO rfl
          have hkl : w0.heap.size ≤ y3.heap.size := by omega
          have f5 : Below w0.heap.size w0 y5 := f4.trans (onb.below (base := w0.heap.size) (fun x _ hx => by have h : x = y3.heap.size := hx; omega) f4.size)
          refine hK.out _ _ (hS _ f5) (fun hHeld => ?_)
          clear hK K
          refine wpAnyH_take (i := 10) (v := .bool bb) rfl (by kernel_rfl) (by kernel_rfl) (by kernel_rfl) (fun _ _ _ h => h) (Or.inl ⟨by rfl, fun w' hSw => by go_simp⟩) hHeld ?_
          simp only [List.getElem_toArray, List.getElem_cons_succ, List.getElem_cons_zero, Act.put, List.setIfInBounds_toArray, List.set_cons_zero, List.set_cons_succ]
          refine wpAnyH_done (by kernel_rfl) ?_ _
          clear hHeld
          go_wp2_with fail
          go_meet
          exact ⟨_, _, _, _, _, _, _, _, _, rfl, rfl, hkl, MO, A3.onlyP onb (fun x h1 h2 h3 => by have h3 : x = y3.heap.size := h3; omega), by omega, .inr (by omega), f5⟩
        · go_simp
          have bAl : Below y2.heap.size y2 (y2.alloc (.cells #[.slice none 0 0, .slice none 0 0, .slice none 0 0, .int .i64 0] 34)) := below_box (Below.refl _ _)
          have hqA := f2.size
          have fA := below_step f2 bAl
          refine hK.out _ _ (hS _ fA) (fun hHeld => ?_)
          clear hK K
          have N9 := Mut.new y2 #[.slice none 0 0, .slice none 0 0, .slice none 0 0, .int .i64 0] 34
          replace O1 := O1.below bAl
          replace oS := oS.below bAl
          refine wpAnyH_ready (rs := [4]) (by kernel_rfl) (by simp) (AllReadyH.cons rfl (fun K hK => ?_) AllReadyH.nil)
          have hal := N9.1
          go_simp
          have hs3 : w0.heap.size ≤ _ := fA.size
          refine (SA.out v1 (some ⟨x1, 0, none⟩) _ O1.row oS.row (dW.trans (fA.mono dW.size))).mono ?_
          rintro e y3 ⟨v3, rfl, A3, b3⟩
          have f3 := below_step fA b3
          have N9 := N9.below b3
          refine hK.out _ _ (hS _ f3) (fun hHeld => ?_)
          clear hK K
          have h3 := A3.size
          obtain ⟨ca3, kc3, ra3, kr3, ha3, kh3, hv3⟩ := A3.form
          subst hv3
          refine wpAnyH_take (i := 5) (v := .tuple #[.agg #[.slice ca3 tt.C.n kc3, .slice ra3 tt.R.n kr3, .slice ha3 tt.h kh3, .int .i64 tt.l], .bool bb]) rfl (by kernel_rfl) (by kernel_rfl) (by kernel_rfl) (fun _ _ _ h => h) (Or.inl ⟨by rfl, fun w' hSw => by go_simp⟩) hHeld ?_
          simp only [List.getElem_toArray, List.getElem_cons_succ, List.getElem_cons_zero, Act.put, List.setIfInBounds_toArray, List.set_cons_zero, List.set_cons_succ]
          refine wpAnyH_take (i := 6) (v := .agg #[.slice ca3 tt.C.n kc3, .slice ra3 tt.R.n kr3, .slice ha3 tt.h kh3, .int .i64 tt.l]) rfl (by kernel_rfl) (by kernel_rfl) (by kernel_rfl) (fun _ _ _ h => h) (Or.inl ⟨by rfl, fun w' hSw => by go_simp⟩) hHeld ?_
          simp only [List.getElem_toArray, List.getElem_cons_succ, List.getElem_cons_zero, Act.put, List.setIfInBounds_toArray, List.set_cons_zero, List.set_cons_succ]
          refine wpAnyH_take (i := 7) (v := .bool bb) rfl (by kernel_rfl) (by kernel_rfl) (by kernel_rfl) (fun _ _ _ h => h) (Or.inl ⟨by rfl, fun w' hSw => by go_simp⟩) hHeld ?_
          simp only [List.getElem_toArray, List.getElem_cons_succ, List.getElem_cons_zero, Act.put, List.setIfInBounds_toArray, List.set_cons_zero, List.set_cons_succ]
          refine wpAnyH_ready (rs := [9]) (by kernel_rfl) (by simp) (AllReadyH.cons rfl (fun K hK => ?_) AllReadyH.nil)
          rw [if_pos (by rfl)]
          refine wp_storeM (us := [.slice ca3 tt.C.n kc3, .slice ra3 tt.R.n kr3, .slice ha3 tt.h kh3, .int .i64 tt.l]) rfl rfl rfl N9 rfl (by intro v hv; simp only [List.mem_cons, List.not_mem_nil, or_false] at hv; rcases hv with rfl | rfl | rfl | rfl <;> rfl) sizeSto ?_
          intro y5 MO oO
          have onb := OnlyP.of_only (P := fun x => x = y2.heap.size) oO rfl
          have hkl : w0.heap.size ≤ y2.heap.size := by omega
          have f5 : Below w0.heap.size w0 y5 := f3.trans (onb.below (base := w0.heap.size) (fun x _ hx => by have h : x = y2.heap.size := hx; omega) f3.size)
          refine hK.out _ _ (hS _ f5) (fun hHeld => ?_)
          clear hK K
          refine wpAnyH_take (i := 10) (v := .bool bb) rfl (by kernel_rfl) (by kernel_rfl) (by kernel_rfl) (fun _ _ _ h => h) (Or.inl ⟨by rfl, fun w' hSw => by go_simp⟩) hHeld ?_
          simp only [List.getElem_toArray, List.getElem_cons_succ, List.getElem_cons_zero, Act.put, List.setIfInBounds_toArray, List.set_cons_zero, List.set_cons_succ]
          refine wpAnyH_done (by kernel_rfl) ?_ _
          clear hHeld
          go_wp2_with fail
          go_meet
          exact ⟨_, _, _, _, _, _, _, _, _, rfl, rfl, hkl, MO, A3.onlyP onb (fun x h1 h2 h3 => by have h3 : x = y2.heap.size := h3; omega), by omega, .inl (by omega), f5⟩
      · go_simp
        have bAl : Below y1.heap.size y1 (y1.alloc (.cells #[.slice none 0 0, .slice none 0 0, .slice none 0 0, .int .i64 0] 34)) := below_box (Below.refl _ _)
        have hqA := f1.size
        have fA := below_step f1 bAl
        refine hK.out _ _ (hS _ fA) (fun hHeld => ?_)
        clear hK K
        have N9 := Mut.new y1 #[.slice none 0 0, .slice none 0 0, .slice none 0 0, .int .i64 0] 34
        replace O1 := O1.below bAl
        refine wpAnyH_ready (rs := [3]) (by kernel_rfl) (by simp) (AllReadyH.cons rfl (fun K hK => ?_) AllReadyH.nil)
        go_simp
        refine (TP.out _ (hQ0.below (dW.trans (fA.mono dW.size)))).mono ?_
        rintro e y2 ⟨x1, rfl, hx1, oS, b2⟩
        replace O1 := O1.below b2
        have f2 := below_step fA b2
        have N9 := N9.below b2
        refine hK.out _ _ (hS _ f2) (fun hHeld => ?_)
        clear hK K
        refine wpAnyH_ready (rs := [4]) (by kernel_rfl) (by simp) (AllReadyH.cons rfl (fun K hK => ?_) AllReadyH.nil)
        have hal := N9.1
        go_simp
        have hs3 : w0.heap.size ≤ _ := f2.size
        refine (SA.out v1 (some ⟨x1, 0, none⟩) _ O1.row oS.row (dW.trans (f2.mono dW.size))).mono ?_
        rintro e y3 ⟨v3, rfl, A3, b3⟩
        have f3 := below_step f2 b3
        have N9 := N9.below b3
        refine hK.out _ _ (hS _ f3) (fun hHeld => ?_)
        clear hK K
        have h3 := A3.size
        obtain ⟨ca3, kc3, ra3, kr3, ha3, kh3, hv3⟩ := A3.form
        subst hv3
        refine wpAnyH_take (i := 5) (v := .tuple #[.agg #[.slice ca3 tt.C.n kc3, .slice ra3 tt.R.n kr3, .slice ha3 tt.h kh3, .int .i64 tt.l], .bool bb]) rfl (by kernel_rfl) (by kernel_rfl) (by kernel_rfl) (fun _ _ _ h => h) (Or.inl ⟨by rfl, fun w' hSw => by go_simp⟩) hHeld ?_
        simp only [List.getElem_toArray, List.getElem_cons_succ, List.getElem_cons_zero, Act.put, List.setIfInBounds_toArray, List.set_cons_zero, List.set_cons_succ]
        refine wpAnyH_take (i := 6) (v := .agg #[.slice ca3 tt.C.n kc3, .slice ra3 tt.R.n kr3, .slice ha3 tt.h kh3, .int .i64 tt.l]) rfl (by kernel_rfl) (by kernel_rfl) (by kernel_rfl) (fun _ _ _ h => h) (Or.inl ⟨by rfl, fun w' hSw => by go_simp⟩) hHeld ?_
        simp only [List.getElem_toArray, List.getElem_cons_succ, List.getElem_cons_zero, Act.put, List.setIfInBounds_toArray, List.set_cons_zero, List.set_cons_succ]
        refine wpAnyH_take (i := 7) (v := .bool bb) rfl (by kernel_rfl) (by kernel_rfl) (by kernel_rfl) (fun _ _ _ h => h) (Or.inl ⟨by rfl, fun w' hSw => by go_simp⟩) hHeld ?_
        simp only [List.getElem_toArray, List.getElem_cons_succ, List.getElem_cons_zero, Act.put, List.setIfInBounds_toArray, List.set_cons_zero, List.set_cons_succ]
        refine wpAnyH_ready (rs := [9]) (by kernel_rfl) (by simp) (AllReadyH.cons rfl (fun K hK => ?_) AllReadyH.nil)
        rw [if_pos (by rfl)]
        refine wp_storeM (us := [.slice ca3 tt.C.n kc3, .slice ra3 tt.R.n kr3, .slice ha3 tt.h kh3, .int .i64 tt.l]) rfl rfl rfl N9 rfl (by intro v hv; simp only [List.mem_cons, List.not_mem_nil, or_false] at hv; rcases hv with rfl | rfl | rfl | rfl <;> rfl) sizeSto ?_
        intro y5 MO oO
        have onb := OnlyP.of_only (P := fun x => x = y1.heap.size) oO rfl
        have hkl : w0.heap.size ≤ y1.heap.size := by omega
        have f5 : Below w0.heap.size w0 y5 := f3.trans (onb.below (base := w0.heap.size) (fun x _ hx => by have h : x = y1.heap.size := hx; omega) f3.size)
        refine hK.out _ _ (hS _ f5) (fun hHeld => ?_)
        clear hK K
        refine wpAnyH_take (i := 10) (v := .bool bb) rfl (by kernel_rfl) (by kernel_rfl) (by kernel_rfl) (fun _ _ _ h => h) (Or.inl ⟨by rfl, fun w' hSw => by go_simp⟩) hHeld ?_
        simp only [List.getElem_toArray, List.getElem_cons_succ, List.getElem_cons_zero, Act.put, List.setIfInBounds_toArray, List.set_cons_zero, List.set_cons_succ]
        refine wpAnyH_done (by kernel_rfl) ?_ _
        clear hHeld
        go_wp2_with fail
        go_meet
        exact ⟨_, _, _, _, _, _, _, _, _, rfl, rfl, hkl, MO, A3.onlyP onb (fun x h1 h2 h3 => by have h3 : x = y1.heap.size := h3; omega), by omega, .inl (by omega), f5⟩
    · go_simp
      have bAl : Below w0.drew.heap.size w0.drew (w0.drew.alloc (.cells #[.slice none 0 0, .slice none 0 0, .slice none 0 0, .int .i64 0] 34)) := below_box (Below.refl _ _)
      have hqA := f0.size
      have fA := below_step f0 bAl
      refine hK.out _ _ (hS _ fA) (fun hHeld => ?_)
      clear hK K
      have N9 := Mut.new w0.drew #[.slice none 0 0, .slice none 0 0, .slice none 0 0, .int .i64 0] 34
      refine wpAnyH_ready (rs := [1]) (by kernel_rfl) (by simp) (AllReadyH.cons rfl (fun K hK => ?_) AllReadyH.nil)
      go_simp
      refine (TO.out _ (hR0.below (dW.trans (fA.mono dW.size)))).mono ?_
      rintro e y1 ⟨v1, rfl, O1, b1⟩
      have f1 := below_step fA b1
      have N9 := N9.below b1
      refine hK.out _ _ (hS _ f1) (fun hHeld => ?_)
      clear hK K
      refine wpAnyH_ready (rs := [3]) (by kernel_rfl) (by simp) (AllReadyH.cons rfl (fun K hK => ?_) AllReadyH.nil)
      go_simp
      refine (TP.out _ (hQ0.below (dW.trans (f1.mono dW.size)))).mono ?_
      rintro e y2 ⟨x1, rfl, hx1, oS, b2⟩
      replace O1 := O1.below b2
      have f2 := below_step f1 b2
      have N9 := N9.below b2
      refine hK.out _ _ (hS _ f2) (fun hHeld => ?_)
      clear hK K
      refine wpAnyH_ready (rs := [4]) (by kernel_rfl) (by simp) (AllReadyH.cons rfl (fun K hK => ?_) AllReadyH.nil)
      have hal := N9.1
      go_simp
      have hs3 : w0.heap.size ≤ _ := f2.size
      refine (SA.out v1 (some ⟨x1, 0, none⟩) _ O1.row oS.row (dW.trans (f2.mono dW.size))).mono ?_
      rintro e y3 ⟨v3, rfl, A3, b3⟩
      have f3 := below_step f2 b3
      have N9 := N9.below b3
      refine hK.out _ _ (hS _ f3) (fun hHeld => ?_)
      clear hK K
      have h3 := A3.size
      obtain ⟨ca3, kc3, ra3, kr3, ha3, kh3, hv3⟩ := A3.form
      subst hv3
      refine wpAnyH_take (i := 5) (v := .tuple #[.agg #[.slice ca3 tt.C.n kc3, .slice ra3 tt.R.n kr3, .slice ha3 tt.h kh3, .int .i64 tt.l], .bool bb]) rfl (by kernel_rfl) (by kernel_rfl) (by kernel_rfl) (fun _ _ _ h => h) (Or.inl ⟨by rfl, fun w' hSw => by go_simp⟩) hHeld ?_
      simp only [List.getElem_toArray, List.getElem_cons_succ, List.getElem_cons_zero, Act.put, List.setIfInBounds_toArray, List.set_cons_zero, List.set_cons_succ]
      refine wpAnyH_take (i := 6) (v := .agg #[.slice ca3 tt.C.n kc3, .slice ra3 tt.R.n kr3, .slice ha3 tt.h kh3, .int .i64 tt.l]) rfl (by kernel_rfl) (by kernel_rfl) (by kernel_rfl) (fun _ _ _ h => h) (Or.inl ⟨by rfl, fun w' hSw => by go_simp⟩) hHeld ?_
      simp only [List.getElem_toArray, List.getElem_cons_succ, List.getElem_cons_zero, Act.put, List.setIfInBounds_toArray, List.set_cons_zero, List.set_cons_succ]
      refine wpAnyH_take (i := 7) (v := .bool bb) rfl (by kernel_rfl) (by kernel_rfl) (by kernel_rfl) (fun _ _ _ h => h) (Or.inl ⟨by rfl, fun w' hSw => by go_simp⟩) hHeld ?_
      simp only [List.getElem_toArray, List.getElem_cons_succ, List.getElem_cons_zero, Act.put, List.setIfInBounds_toArray, List.set_cons_zero, List.set_cons_succ]
      refine wpAnyH_ready (rs := [9]) (by kernel_rfl) (by simp) (AllReadyH.cons rfl (fun K hK => ?_) AllReadyH.nil)
      rw [if_pos (by rfl)]
      refine wp_storeM (us := [.slice ca3 tt.C.n kc3, .slice ra3 tt.R.n kr3, .slice ha3 tt.h kh3, .int .i64 tt.l]) rfl rfl rfl N9 rfl (by intro v hv; simp only [List.mem_cons, List.not_mem_nil, or_false] at hv; rcases hv with rfl | rfl | rfl | rfl <;> rfl) sizeSto ?_
      intro y5 MO oO
      have onb := OnlyP.of_only (P := fun x => x = w0.drew.heap.size) oO rfl
      have hkl : w0.heap.size ≤ w0.drew.heap.size := Nat.le_refl _
      have f5 : Below w0.heap.size w0 y5 := f3.trans (onb.below (base := w0.heap.size) (fun x _ hx => by have h : x = w0.drew.heap.size := hx; omega) f3.size)
      refine hK.out _ _ (hS _ f5) (fun hHeld => ?_)
      clear hK K
      refine wpAnyH_take (i := 10) (v := .bool bb) rfl (by kernel_rfl) (by kernel_rfl) (by kernel_rfl) (fun _ _ _ h => h) (Or.inl ⟨by rfl, fun w' hSw => by go_simp⟩) hHeld ?_
      simp only [List.getElem_toArray, List.getElem_cons_succ, List.getElem_cons_zero, Act.put, List.setIfInBounds_toArray, List.set_cons_zero, List.set_cons_succ]
      refine wpAnyH_done (by kernel_rfl) ?_ _
      clear hHeld
      go_wp2_with fail
      go_meet
      exact ⟨_, _, _, _, _, _, _, _, _, rfl, rfl, hkl, MO, A3.onlyP onb (fun x h1 h2 h3 => by have h3 : x = w0.drew.heap.size := h3; omega), by omega, .inl (by omega), f5⟩
  case rest =>
    obtain ⟨kW, caw, kcw, raw, krw, haw, khw, lw, hw, rfl, rfl, hkW, MW, AW, hlw, _, eA⟩ := hcut
    generalize wc = wA at *
    clear MBc MPc
    replace MB := MB.below eA
    replace MP := MP.below eA
    replace dW := dW.trans (eA.mono dW.size)
    have RW := hide AW.row
    have hMPl : w.heap.size + 1 < wA.heap.size := MP.1
    clear eA AW hlw hkW SA
    have u0 := MB.2.1 0 _ rfl
    have u1 := MB.2.1 1 _ rfl
    have u2 := MB.2.1 2 _ rfl
    have u3 := MB.2.1 3 _ rfl
    go_upto_region 9 with fail
    go_wp2_with fail
    refine (TO.out _ (hR0.below dW)).mono ?_
    rintro e w2 ⟨vx, rfl, OX, DA⟩
    clear u0 u1 u2 u3
    obtain ⟨cax, kcx, rax, krx, hax, khx, hvx⟩ := OX.form
    subst hvx
    have hx1 := OX.size
    have hlx : wA.heap.size ≤ wA.heap.size := Nat.le_refl _
    generalize hlox : wA.heap.size = lox at OX hx1 hlx
    generalize hhix : w2.heap.size = hix at OX hx1
    have hxx : hix ≤ w2.heap.size := by omega
    replace hlx : wA.heap.size ≤ lox := by omega
    clear hhix hlox
    have bB : Below w2.heap.size w2 (w2.alloc (.cells #[.slice cax s0.C.n kcx, .slice rax s0.R.n krx, .slice hax s0.h khx, .int .i64 s0.l] 34)) := below_box (Below.refl _ _)
    have MX := Mut.new w2 #[.slice cax s0.C.n kcx, .slice rax s0.R.n krx, .slice hax s0.h khx, .int .i64 s0.l] 34
    have hz6 : w2.heap.size < (w2.alloc (.cells #[.slice cax s0.C.n kcx, .slice rax s0.R.n krx, .slice hax s0.h khx, .int .i64 s0.l] 34)).heap.size := by simp
    replace OX := OX.below bB
    replace DA := below_step DA bB
    clear bB
    go_upto_region 10 with fail
    generalize w2.alloc (.cells #[.slice cax s0.C.n kcx, .slice rax s0.R.n krx, .slice hax s0.h khx, .int .i64 s0.l] 34) = w3 at *
    generalize w2.heap.size = bx at *
    have MPc := MP.below DA
    have j0 := MPc.2.1 0 _ rfl
    have j1 := MPc.2.1 1 _ rfl
    have j2 := MPc.2.1 2 _ rfl
    have j3 := MPc.2.1 3 _ rfl
    go_wp2_with fail
    refine (TP.out _ (hQ0.below (dW.trans (DA.mono dW.size)))).mono ?_
    rintro e w4 ⟨xq, rfl, hxq, OY, b4⟩
    clear j0 j1 j2 j3 MPc
    have hyl := OY.1
    replace OX := OX.below b4
    replace MX := MX.below b4
    replace DA := below_step DA b4
    have h34 := b4.size
    clear b4
    have bB : Below w4.heap.size w4 (w4.alloc (.cells #[.int .i64 k, .slice (some ⟨xq, 0, none⟩) n n, .string u, .int .i64 N] 38)) := below_box (Below.refl _ _)
    have MY := Mut.new w4 #[.int .i64 k, .slice (some ⟨xq, 0, none⟩) n n, .string u, .int .i64 N] 38
    have hz7 : w4.heap.size < (w4.alloc (.cells #[.int .i64 k, .slice (some ⟨xq, 0, none⟩) n n, .string u, .int .i64 N] 38)).heap.size := by simp
    replace OX := OX.below bB
    replace OY := OY.below bB
    replace MX := MX.below bB
    replace DA := below_step DA bB
    clear bB
    go_upto_region 11 with fail
    generalize w4.alloc (.cells #[.int .i64 k, .slice (some ⟨xq, 0, none⟩) n n, .string u, .int .i64 N] 38) = w5 at *
    have hby : xq < w4.heap.size := hyl
    generalize w4.heap.size = by_ at *
    have u0 := MX.2.1 0 _ rfl
    have u1 := MX.2.1 1 _ rfl
    have u2 := MX.2.1 2 _ rfl
    have u3 := MX.2.1 3 _ rfl
    have j0 := MY.2.1 0 _ rfl
    have j1 := MY.2.1 1 _ rfl
    have j2 := MY.2.1 2 _ rfl
    have j3 := MY.2.1 3 _ rfl
    go_wp2_with fail
    refine (IA.out _ (some ⟨xq, 0, none⟩) _ OX.row OY.row (dW.trans (DA.mono dW.size))).mono ?_
    rintro e w6 ⟨vG, rfl, AG, b6⟩
    clear u0 u1 u2 u3 j0 j1 j2 j3
    obtain ⟨cag, kcg, rag, krg, hag, khg, hvg⟩ := AG.form
    subst hvg
    have hg1 := AG.size
    have hlg : w5.heap.size ≤ w5.heap.size := Nat.le_refl _
    generalize hlog : w5.heap.size = log at AG hg1 hlg
    generalize hhig : w6.heap.size = hig at AG hg1
    have hgx : hig ≤ w6.heap.size := by omega
    replace hlg : w5.heap.size ≤ log := by omega
    clear hhig hlog
    replace OX := OX.below b6
    replace OY := OY.below b6
    replace MX := MX.below b6
    replace MY := MY.below b6
    replace DA := below_step DA b6
    have h56 := b6.size
    clear b6
    have bB : Below w6.heap.size w6 (w6.alloc (.cells #[.slice cag tt.C.n kcg, .slice rag tt.R.n krg, .slice hag tt.h khg, .int .i64 tt.l] 34)) := below_box (Below.refl _ _)
    have MG := Mut.new w6 #[.slice cag tt.C.n kcg, .slice rag tt.R.n krg, .slice hag tt.h khg, .int .i64 tt.l] 34
    have hz8 : w6.heap.size < (w6.alloc (.cells #[.slice cag tt.C.n kcg, .slice rag tt.R.n krg, .slice hag tt.h khg, .int .i64 tt.l] 34)).heap.size := by simp
    replace OX := OX.below bB
    replace OY := OY.below bB
    replace MX := MX.below bB
    replace MY := MY.below bB
    replace AG := AG.below bB
    replace DA := below_step DA bB
    clear bB
    go_upto_region 12 with fail
    generalize w6.alloc (.cells #[.slice cag tt.C.n kcg, .slice rag tt.R.n krg, .slice hag tt.h khg, .int .i64 tt.l] 34) = w7 at *
    generalize w6.heap.size = bg at *
    have hxl := MX.1
    have hyl2 := MY.1
    have MWc := MW.below DA
    have i0 := MWc.2.1 0 _ rfl
    have i1 := MWc.2.1 1 _ rfl
    have i2 := MWc.2.1 2 _ rfl
    have i3 := MWc.2.1 3 _ rfl
    have j0 := MG.2.1 0 _ rfl
    have j1 := MG.2.1 1 _ rfl
    have j2 := MG.2.1 2 _ rfl
    have j3 := MG.2.1 3 _ rfl
    go_wp2_with fail
    refine (EO.out _ _ _ AG.row.any (RW.out.below DA).any).mono ?_
    rintro e w8 ⟨rfl, b8⟩
    clear i0 i1 i2 i3 j0 j1 j2 j3 MWc
    replace OX := OX.below b8
    replace OY := OY.below b8
    replace MX := MX.below b8
    replace MY := MY.below b8
    replace AG := AG.below b8
    replace MG := MG.below b8
    replace DA := below_step DA b8
    have hb8 := b8.size
    clear b8
    go_upto_region 14 with fail
    have MLc := MB.below DA
    have hS : ∀ w' : World, Below w8.heap.size w8 w' → w'.cell? ⟨bx, 0, none⟩ = some (.slice cax s0.C.n kcx) ∧ w'.cell? ⟨bx, 1, none⟩ = some (.slice rax s0.R.n krx) ∧ w'.cell? ⟨bx, 2, none⟩ = some (.slice hax s0.h khx) ∧ w'.cell? ⟨bx, 3, none⟩ = some (.int .i64 s0.l) ∧ w'.cell? ⟨w.heap.size, 0, none⟩ = some (.slice ca s0.C.n kc) ∧ w'.cell? ⟨w.heap.size, 1, none⟩ = some (.slice ra s0.R.n kr) ∧ w'.cell? ⟨w.heap.size, 2, none⟩ = some (.slice ha s0.h kh) ∧ w'.cell? ⟨w.heap.size, 3, none⟩ = some (.int .i64 s0.l) := fun w' b => ⟨(MX.below b).2.1 0 _ rfl, (MX.below b).2.1 1 _ rfl, (MX.below b).2.1 2 _ rfl, (MX.below b).2.1 3 _ rfl, (MLc.below b).2.1 0 _ rfl, (MLc.below b).2.1 1 _ rfl, (MLc.below b).2.1 2 _ rfl, (MLc.below b).2.1 3 _ rfl⟩
    have f0 : Below w8.heap.size w8 w8.drew := (Below.refl _ _).drew
    refine wp_region_held_drew (S := fun w' => w'.cell? ⟨bx, 0, none⟩ = some (.slice cax s0.C.n kcx) ∧ w'.cell? ⟨bx, 1, none⟩ = some (.slice rax s0.R.n krx) ∧ w'.cell? ⟨bx, 2, none⟩ = some (.slice hax s0.h khx) ∧ w'.cell? ⟨bx, 3, none⟩ = some (.int .i64 s0.l) ∧ w'.cell? ⟨w.heap.size, 0, none⟩ = some (.slice ca s0.C.n kc) ∧ w'.cell? ⟨w.heap.size, 1, none⟩ = some (.slice ra s0.R.n kr) ∧ w'.cell? ⟨w.heap.size, 2, none⟩ = some (.slice ha s0.h kh) ∧ w'.cell? ⟨w.heap.size, 3, none⟩ = some (.int .i64 s0.l)) (by kernel_rfl) (hS _ f0) (fun hHeld => ?_)
    refine wpAnyH_take (i := 0) (v := .agg #[.slice cax s0.C.n kcx, .slice rax s0.R.n krx, .slice hax s0.h khx, .int .i64 s0.l]) rfl (by kernel_rfl) (by kernel_rfl) (by kernel_rfl) (fun _ _ _ h => h) (Or.inl ⟨by rfl, fun w' hSw => by go_simp⟩) hHeld ?_
    simp only [List.getElem_toArray, List.getElem_cons_zero, Act.put, List.setIfInBounds_toArray, List.set_cons_zero, List.set_cons_succ]
    refine wpAnyH_take (i := 1) (v := .agg #[.slice ca s0.C.n kc, .slice ra s0.R.n kr, .slice ha s0.h kh, .int .i64 s0.l]) rfl (by kernel_rfl) (by kernel_rfl) (by kernel_rfl) (fun _ _ _ h => h) (Or.inl ⟨by rfl, fun w' hSw => by go_simp⟩) hHeld ?_
    simp only [List.getElem_toArray, List.getElem_cons_succ, List.getElem_cons_zero, Act.put, List.setIfInBounds_toArray, List.set_cons_zero, List.set_cons_succ]
    refine wpAnyH_ready (rs := [2]) (by kernel_rfl) (by simp) (AllReadyH.cons rfl (fun K hK => ?_) AllReadyH.nil)
    go_simp
    have dW8 := dW.trans (DA.mono dW.size)
    refine (TO.out _ (hR0.below (dW8.trans (f0.mono dW8.size)))).mono ?_
    rintro e y1 ⟨v1, rfl, O1, b1⟩
    have f1 := below_step f0 b1
    refine hK.out _ _ (hS _ f1) (fun hHeld => ?_)
    clear hK K
    refine wpAnyH_ready (rs := [3]) (by kernel_rfl) (by simp) (AllReadyH.cons rfl (fun K hK => ?_) AllReadyH.nil)
    go_simp
    refine (ER.out _ _ _ (OX.below f1).row.any O1.row.any).mono ?_
    rintro e w9 ⟨rfl, b2⟩
    have b9 := below_step f1 b2
    refine hK.out _ _ (hS _ b9) (fun hHeld => ?_)
    clear hK K
    refine wpAnyH_take (i := 4) (v := .bool false) rfl (by kernel_rfl) (by kernel_rfl) (by kernel_rfl) (fun _ _ _ h => h) (Or.inl ⟨by rfl, fun w' hSw => by go_simp⟩) hHeld ?_
    simp only [List.getElem_toArray, List.getElem_cons_succ, List.getElem_cons_zero, Act.put, List.setIfInBounds_toArray, List.set_cons_zero, List.set_cons_succ]
    refine wpAnyH_done (by kernel_rfl) ?_ _
    clear hS f0 f1 b1 b2 O1 hHeld MLc dW8
    replace OX := OX.below b9
    replace OY := OY.below b9
    replace MX := MX.below b9
    replace MY := MY.below b9
    replace AG := AG.below b9
    replace MG := MG.below b9
    replace DA := below_step DA b9
    have hw9 := b9.size
    clear b9
    go_upto_region 16 with fail
    have MLc := MP.below DA
    have hS : ∀ w' : World, Below w9.heap.size w9 w' → w'.cell? ⟨by_, 0, none⟩ = some (.int .i64 k) ∧ w'.cell? ⟨by_, 1, none⟩ = some (.slice (some ⟨xq, 0, none⟩) n n) ∧ w'.cell? ⟨by_, 2, none⟩ = some (.string u) ∧ w'.cell? ⟨by_, 3, none⟩ = some (.int .i64 N) ∧ w'.cell? ⟨w.heap.size + 1, 0, none⟩ = some (.int .i64 k) ∧ w'.cell? ⟨w.heap.size + 1, 1, none⟩ = some (.slice pa n pc) ∧ w'.cell? ⟨w.heap.size + 1, 2, none⟩ = some (.string u) ∧ w'.cell? ⟨w.heap.size + 1, 3, none⟩ = some (.int .i64 N) := fun w' b => ⟨(MY.below b).2.1 0 _ rfl, (MY.below b).2.1 1 _ rfl, (MY.below b).2.1 2 _ rfl, (MY.below b).2.1 3 _ rfl, (MLc.below b).2.1 0 _ rfl, (MLc.below b).2.1 1 _ rfl, (MLc.below b).2.1 2 _ rfl, (MLc.below b).2.1 3 _ rfl⟩
    have f0 : Below w9.heap.size w9 w9.drew := (Below.refl _ _).drew
    refine wp_region_held_drew (S := fun w' => w'.cell? ⟨by_, 0, none⟩ = some (.int .i64 k) ∧ w'.cell? ⟨by_, 1, none⟩ = some (.slice (some ⟨xq, 0, none⟩) n n) ∧ w'.cell? ⟨by_, 2, none⟩ = some (.string u) ∧ w'.cell? ⟨by_, 3, none⟩ = some (.int .i64 N) ∧ w'.cell? ⟨w.heap.size + 1, 0, none⟩ = some (.int .i64 k) ∧ w'.cell? ⟨w.heap.size + 1, 1, none⟩ = some (.slice pa n pc) ∧ w'.cell? ⟨w.heap.size + 1, 2, none⟩ = some (.string u) ∧ w'.cell? ⟨w.heap.size + 1, 3, none⟩ = some (.int .i64 N)) (by kernel_rfl) (hS _ f0) (fun hHeld => ?_)
    refine wpAnyH_take (i := 0) (v := .agg #[.int .i64 k, .slice (some ⟨xq, 0, none⟩) n n, .string u, .int .i64 N]) rfl (by kernel_rfl) (by kernel_rfl) (by kernel_rfl) (fun _ _ _ h => h) (Or.inl ⟨by rfl, fun w' hSw => by go_simp⟩) hHeld ?_
    simp only [List.getElem_toArray, List.getElem_cons_zero, Act.put, List.setIfInBounds_toArray, List.set_cons_zero, List.set_cons_succ]
    refine wpAnyH_take (i := 1) (v := .agg #[.int .i64 k, .slice pa n pc, .string u, .int .i64 N]) rfl (by kernel_rfl) (by kernel_rfl) (by kernel_rfl) (fun _ _ _ h => h) (Or.inl ⟨by rfl, fun w' hSw => by go_simp⟩) hHeld ?_
    simp only [List.getElem_toArray, List.getElem_cons_succ, List.getElem_cons_zero, Act.put, List.setIfInBounds_toArray, List.set_cons_zero, List.set_cons_succ]
    refine wpAnyH_ready (rs := [2]) (by kernel_rfl) (by simp) (AllReadyH.cons rfl (fun K hK => ?_) AllReadyH.nil)
    go_simp
    have dW8 := dW.trans (DA.mono dW.size)
    refine (TP.out _ (hQ0.below (dW8.trans (f0.mono dW8.size)))).mono ?_
    rintro e y1 ⟨x1, rfl, _, O1, b1⟩
    have f1 := below_step f0 b1
    refine hK.out _ _ (hS _ f1) (fun hHeld => ?_)
    clear hK K
    refine wpAnyH_ready (rs := [3]) (by kernel_rfl) (by simp) (AllReadyH.cons rfl (fun K hK => ?_) AllReadyH.nil)
    go_simp
    refine (EP.out _ _ _ _ _ (OY.below f1).row O1.row).mono ?_
    rintro e w10 ⟨rfl, b2⟩
    have b9 := below_step f1 b2
    refine hK.out _ _ (hS _ b9) (fun hHeld => ?_)
    clear hK K
    refine wpAnyH_take (i := 4) (v := .bool false) rfl (by kernel_rfl) (by kernel_rfl) (by kernel_rfl) (fun _ _ _ h => h) (Or.inl ⟨by rfl, fun w' hSw => by go_simp⟩) hHeld ?_
    simp only [List.getElem_toArray, List.getElem_cons_succ, List.getElem_cons_zero, Act.put, List.setIfInBounds_toArray, List.set_cons_zero, List.set_cons_succ]
    refine wpAnyH_done (by kernel_rfl) ?_ _
    clear hS f0 f1 b1 b2 O1 hHeld MLc dW8
    replace OX := OX.below b9
    replace OY := OY.below b9
    replace MX := MX.below b9
    replace MY := MY.below b9
    replace AG := AG.below b9
    replace MG := MG.below b9
    replace DA := below_step DA b9
    have hw10 := b9.size
    clear b9
    have u0 := MX.2.1 0 _ rfl
    have u1 := MX.2.1 1 _ rfl
    have u2 := MX.2.1 2 _ rfl
    have u3 := MX.2.1 3 _ rfl
    go_upto_region 19 with fail
    go_wp2_with fail
    refine (MK.out _ _ _ _ OX).mono ?_
    rintro e w11 ⟨rfl, _, on⟩
    clear u0 u1 u2 u3 OX
    have e11 := DA.trans (on.below (base := wA.heap.size) (fun x _ hx => by have hx : lox ≤ x ∧ x < hix := hx; omega) DA.size)
    replace DA := e11
    replace OY := OY.onlyP on (fun h => by have h : lox ≤ xq ∧ xq < hix := h; omega)
    replace MY := MY.onlyP on (fun h => by have h : lox ≤ by_ ∧ by_ < hix := h; omega)
    replace AG := AG.onlyP on (fun x h1 h2 h => by have h : lox ≤ x ∧ x < hix := h; omega)
    replace MG := MG.onlyP on (fun h => by have h : lox ≤ bg ∧ bg < hix := h; omega)
    clear on e11 MX
    have j0 := MY.2.1 0 _ rfl
    have j1 := MY.2.1 1 _ rfl
    have j2 := MY.2.1 2 _ rfl
    have j3 := MY.2.1 3 _ rfl
    go_wp2_with fail
    refine (MKO.out _ _ _ OY).mono ?_
    rintro e w12 ⟨rfl, on⟩
    clear j0 j1 j2 j3 OY
    have e12 := DA.trans (on.below (base := wA.heap.size) (fun x _ hx => by have hx : x = xq := hx; omega) DA.size)
    replace DA := e12
    replace AG := AG.onlyP on (fun x h1 h2 h => by have h : x = xq := h; omega)
    replace MG := MG.onlyP on (fun h => by have h : bg = xq := h; omega)
    clear on e12 MY
    have MWc := MW.below DA
    have i0 := MWc.2.1 0 _ rfl
    have i1 := MWc.2.1 1 _ rfl
    have i2 := MWc.2.1 2 _ rfl
    have i3 := MWc.2.1 3 _ rfl
    have j0 := MG.2.1 0 _ rfl
    have j1 := MG.2.1 1 _ rfl
    have j2 := MG.2.1 2 _ rfl
    have j3 := MG.2.1 3 _ rfl
    go_wp2_with fail
    refine (EO.out _ _ _ AG.row.any (RW.out.below DA).any).mono ?_
    rintro e w13 ⟨rfl, b13⟩
    clear i0 i1 i2 i3 j0 j1 j2 j3 MWc
    replace AG := AG.below b13
    replace MG := MG.below b13
    replace DA := below_step DA b13
    have hb13 := b13.size
    clear b13
    have j0 := MG.2.1 0 _ rfl
    have j1 := MG.2.1 1 _ rfl
    have j2 := MG.2.1 2 _ rfl
    have j3 := MG.2.1 3 _ rfl
    go_upto_region 24 with fail
    go_wp2_with fail
    refine (MG9.out _ _ _ _ AG).mono ?_
    rintro e w14 ⟨rfl, AM, on⟩
    clear j0 j1 j2 j3 AG
    have e14 := DA.trans (on.below (base := wA.heap.size) (fun x _ hx => by have hx : log ≤ x ∧ x < hig := hx; omega) DA.size)
    replace DA := e14
    replace MG := MG.onlyP on (fun h => by have h : log ≤ bg ∧ bg < hig := h; omega)
    clear on e14
    have j0 := MG.2.1 0 _ rfl
    have j1 := MG.2.1 1 _ rfl
    have j2 := MG.2.1 2 _ rfl
    have j3 := MG.2.1 3 _ rfl
    go_wp2_with fail
    refine (HO.out _ _ AM.row).mono ?_
    rintro e w15 ⟨rfl, b15⟩
    clear j0 j1 j2 j3
    replace AM := AM.below b15
    replace MG := MG.below b15
    replace DA := below_step DA b15
    have hb15 := b15.size
    clear b15
    have MBc := MB.below DA
    have MPc := MP.below DA
    have dW0 := dW
    replace dW := dW.trans (DA.mono dW.size)
    go_upto_region 31 with fail
    go_cut [15, 16] (fun p b wx => BRs w15 tt bb p b wx)
    case first =>
      have hS : ∀ w' : World, Below w15.heap.size w15 w' → w'.cell? ⟨w.heap.size, 0, none⟩ = some (.slice ca s0.C.n kc) ∧ w'.cell? ⟨w.heap.size, 1, none⟩ = some (.slice ra s0.R.n kr) ∧ w'.cell? ⟨w.heap.size, 2, none⟩ = some (.slice ha s0.h kh) ∧ w'.cell? ⟨w.heap.size, 3, none⟩ = some (.int .i64 s0.l) ∧ w'.cell? ⟨w.heap.size + 1, 0, none⟩ = some (.int .i64 k) ∧ w'.cell? ⟨w.heap.size + 1, 1, none⟩ = some (.slice pa n pc) ∧ w'.cell? ⟨w.heap.size + 1, 2, none⟩ = some (.string u) ∧ w'.cell? ⟨w.heap.size + 1, 3, none⟩ = some (.int .i64 N) := fun w' b => ⟨(MBc.below b).2.1 0 _ rfl, (MBc.below b).2.1 1 _ rfl, (MBc.below b).2.1 2 _ rfl, (MBc.below b).2.1 3 _ rfl, (MPc.below b).2.1 0 _ rfl, (MPc.below b).2.1 1 _ rfl, (MPc.below b).2.1 2 _ rfl, (MPc.below b).2.1 3 _ rfl⟩
      refine wp_region_held_drew (S := fun w' => w'.cell? ⟨w.heap.size, 0, none⟩ = some (.slice ca s0.C.n kc) ∧ w'.cell? ⟨w.heap.size, 1, none⟩ = some (.slice ra s0.R.n kr) ∧ w'.cell? ⟨w.heap.size, 2, none⟩ = some (.slice ha s0.h kh) ∧ w'.cell? ⟨w.heap.size, 3, none⟩ = some (.int .i64 s0.l) ∧ w'.cell? ⟨w.heap.size + 1, 0, none⟩ = some (.int .i64 k) ∧ w'.cell? ⟨w.heap.size + 1, 1, none⟩ = some (.slice pa n pc) ∧ w'.cell? ⟨w.heap.size + 1, 2, none⟩ = some (.string u) ∧ w'.cell? ⟨w.heap.size + 1, 3, none⟩ = some (.int .i64 N)) (by kernel_rfl) (hS _ (Below.refl _ _).drew) (fun hHeld => ?_)
      refine wpAnyH_take (i := 0) (v := .agg #[.slice ca s0.C.n kc, .slice ra s0.R.n kr, .slice ha s0.h kh, .int .i64 s0.l]) rfl (by kernel_rfl) (by kernel_rfl) (by kernel_rfl) (fun _ _ _ h => h) (Or.inl ⟨by rfl, fun w' hSw => by go_simp⟩) hHeld ?_
      simp only [List.getElem_toArray, List.getElem_cons_zero, Act.put, List.setIfInBounds_toArray, List.set_cons_zero, List.set_cons_succ]
      refine wpAnyH_take (i := 2) (v := .agg #[.int .i64 k, .slice pa n pc, .string u, .int .i64 N]) rfl (by kernel_rfl) (by kernel_rfl) (by kernel_rfl) (fun _ _ _ h => h) (Or.inl ⟨by rfl, fun w' hSw => by go_simp⟩) hHeld ?_
      simp only [List.getElem_toArray, List.getElem_cons_succ, List.getElem_cons_zero, Act.put, List.setIfInBounds_toArray, List.set_cons_zero, List.set_cons_succ]
      have f0 : Below w15.heap.size w15 w15.drew := (Below.refl _ _).drew
      refine wpAnyH_ready (rs := [1, 8]) (by kernel_rfl) (by simp) (AllReadyH.cons rfl (fun K hK => ?_) (AllReadyH.cons rfl (fun K hK => ?_) AllReadyH.nil))
      · go_simp
        refine (TO.out _ (hR0.below (dW.trans (f0.mono dW.size)))).mono ?_
        rintro e y1 ⟨v1, rfl, O1, b1⟩
        have f1 := below_step f0 b1
        refine hK.out _ _ (hS _ f1) (fun hHeld => ?_)
        clear hK K
        refine wpAnyH_ready (rs := [3, 8]) (by kernel_rfl) (by simp) (AllReadyH.cons rfl (fun K hK => ?_) (AllReadyH.cons rfl (fun K hK => ?_) AllReadyH.nil))
        · go_simp
          refine (TP.out _ (hQ0.below (dW.trans (f1.mono dW.size)))).mono ?_
          rintro e y2 ⟨x1, rfl, hx1, oS, b2⟩
          replace O1 := O1.below b2
          have f2 := below_step f1 b2
          refine hK.out _ _ (hS _ f2) (fun hHeld => ?_)
          clear hK K
          refine wpAnyH_ready (rs := [4, 8]) (by kernel_rfl) (by simp) (AllReadyH.cons rfl (fun K hK => ?_) (AllReadyH.cons rfl (fun K hK => ?_) AllReadyH.nil))
          · go_simp
            have hs3 : w15.heap.size ≤ _ := f2.size
            refine (IA.out v1 (some ⟨x1, 0, none⟩) _ O1.row oS.row (dW.trans (f2.mono dW.size))).mono ?_
            rintro e y3 ⟨v3, rfl, A3, b3⟩
            have f3 := below_step f2 b3
            refine hK.out _ _ (hS _ f3) (fun hHeld => ?_)
            clear hK K
            have h3 := A3.size
            obtain ⟨ca3, kc3, ra3, kr3, ha3, kh3, hv3⟩ := A3.form
            subst hv3
            refine wpAnyH_take (i := 5) (v := .tuple #[.agg #[.slice ca3 tt.C.n kc3, .slice ra3 tt.R.n kr3, .slice ha3 tt.h kh3, .int .i64 tt.l], .bool bb]) rfl (by kernel_rfl) (by kernel_rfl) (by kernel_rfl) (fun _ _ _ h => h) (Or.inl ⟨by rfl, fun w' hSw => by go_simp⟩) hHeld ?_
            simp only [List.getElem_toArray, List.getElem_cons_succ, List.getElem_cons_zero, Act.put, List.setIfInBounds_toArray, List.set_cons_zero, List.set_cons_succ]
            refine wpAnyH_take (i := 6) (v := .agg #[.slice ca3 tt.C.n kc3, .slice ra3 tt.R.n kr3, .slice ha3 tt.h kh3, .int .i64 tt.l]) rfl (by kernel_rfl) (by kernel_rfl) (by kernel_rfl) (fun _ _ _ h => h) (Or.inl ⟨by rfl, fun w' hSw => by go_simp⟩) hHeld ?_
            simp only [List.getElem_toArray, List.getElem_cons_succ, List.getElem_cons_zero, Act.put, List.setIfInBounds_toArray, List.set_cons_zero, List.set_cons_succ]
            refine wpAnyH_take (i := 7) (v := .bool bb) rfl (by kernel_rfl) (by kernel_rfl) (by kernel_rfl) (fun _ _ _ h => h) (Or.inl ⟨by rfl, fun w' hSw => by go_simp⟩) hHeld ?_
            simp only [List.getElem_toArray, List.getElem_cons_succ, List.getElem_cons_zero, Act.put, List.setIfInBounds_toArray, List.set_cons_zero, List.set_cons_succ]
            refine wpAnyH_ready (rs := [8]) (by kernel_rfl) (by simp) (AllReadyH.cons rfl (fun K hK => ?_) AllReadyH.nil)
            go_simp
            have bA : Below y3.heap.size y3 (y3.alloc (.cells #[.slice none 0 0, .slice none 0 0, .slice none 0 0, .int .i64 0] 34)) := below_box (Below.refl _ _)
            have f4 := below_step f3 bA
            refine hK.out _ _ (hS _ f4) (fun hHeld => ?_)
            clear hK K
            have N9 := Mut.new y3 #[.slice none 0 0, .slice none 0 0, .slice none 0 0, .int .i64 0] 34
            have hq3 := f3.size
            replace A3 := A3.below bA
            refine wpAnyH_ready (rs := [9]) (by kernel_rfl) (by simp) (AllReadyH.cons rfl (fun K hK => ?_) AllReadyH.nil)
            rw [if_pos (by rfl)]
            refine wp_storeM (us := [.slice ca3 tt.C.n kc3, .slice ra3 tt.R.n kr3, .slice ha3 tt.h kh3, .int .i64 tt.l]) rfl rfl rfl N9 rfl (by intro v hv; simp only [List.mem_cons, List.not_mem_nil, or_false] at hv; rcases hv with rfl | rfl | rfl | rfl <;> rfl) sizeSto ?_
            intro y5 MO oO
            have onb := OnlyP.of_only (P := fun x => x = y3.heap.size) oO rfl
            have hkl : w15.heap.size ≤ y3.heap.size := by omega
            have f5 : Below w15.heap.size w15 y5 := f4.trans (onb.below (base := w15.heap.size) (fun x _ hx => by have h : x = y3.heap.size := hx; omega) f4.size)
            refine hK.out _ _ (hS _ f5) (fun hHeld => ?_)
            clear hK K
            refine wpAnyH_take (i := 10) (v := .bool bb) rfl (by kernel_rfl) (by kernel_rfl) (by kernel_rfl) (fun _ _ _ h => h) (Or.inl ⟨by rfl, fun w' hSw => by go_simp⟩) hHeld ?_
            simp only [List.getElem_toArray, List.getElem_cons_succ, List.getElem_cons_zero, Act.put, List.setIfInBounds_toArray, List.set_cons_zero, List.set_cons_succ]
            refine wpAnyH_done (by kernel_rfl) ?_ _
            clear hHeld
            go_wp2_with fail
            go_meet
            exact ⟨_, _, _, _, _, _, _, _, _, rfl, rfl, hkl, MO, A3.onlyP onb (fun x h1 h2 h3 => by have h3 : x = y3.heap.size := h3; omega), by omega, .inr (by omega), f5⟩
          · go_simp
            have bAl : Below y2.heap.size y2 (y2.alloc (.cells #[.slice none 0 0, .slice none 0 0, .slice none 0 0, .int .i64 0] 34)) := below_box (Below.refl _ _)
            have hqA := f2.size
            have fA := below_step f2 bAl
            refine hK.out _ _ (hS _ fA) (fun hHeld => ?_)
            clear hK K
            have N9 := Mut.new y2 #[.slice none 0 0, .slice none 0 0, .slice none 0 0, .int .i64 0] 34
            replace O1 := O1.below bAl
            replace oS := oS.below bAl
            refine wpAnyH_ready (rs := [4]) (by kernel_rfl) (by simp) (AllReadyH.cons rfl (fun K hK => ?_) AllReadyH.nil)
            have hal := N9.1
            go_simp
            have hs3 : w15.heap.size ≤ _ := fA.size
            refine (IA.out v1 (some ⟨x1, 0, none⟩) _ O1.row oS.row (dW.trans (fA.mono dW.size))).mono ?_
            rintro e y3 ⟨v3, rfl, A3, b3⟩
            have f3 := below_step fA b3
            have N9 := N9.below b3
            refine hK.out _ _ (hS _ f3) (fun hHeld => ?_)
            clear hK K
            have h3 := A3.size
            obtain ⟨ca3, kc3, ra3, kr3, ha3, kh3, hv3⟩ := A3.form
            subst hv3
            refine wpAnyH_take (i := 5) (v := .tuple #[.agg #[.slice ca3 tt.C.n kc3, .slice ra3 tt.R.n kr3, .slice ha3 tt.h kh3, .int .i64 tt.l], .bool bb]) rfl (by kernel_rfl) (by kernel_rfl) (by kernel_rfl) (fun _ _ _ h => h) (Or.inl ⟨by rfl, fun w' hSw => by go_simp⟩) hHeld ?_
            simp only [List.getElem_toArray, List.getElem_cons_succ, List.getElem_cons_zero, Act.put, List.setIfInBounds_toArray, List.set_cons_zero, List.set_cons_succ]
            refine wpAnyH_take (i := 6) (v := .agg #[.slice ca3 tt.C.n kc3, .slice ra3 tt.R.n kr3, .slice ha3 tt.h kh3, .int .i64 tt.l]) rfl (by kernel_rfl) (by kernel_rfl) (by kernel_rfl) (fun _ _ _ h => h) (Or.inl ⟨by rfl, fun w' hSw => by go_simp⟩) hHeld ?_
            simp only [List.getElem_toArray, List.getElem_cons_succ, List.getElem_cons_zero, Act.put, List.setIfInBounds_toArray, List.set_cons_zero, List.set_cons_succ]
            refine wpAnyH_take (i := 7) (v := .bool bb) rfl (by kernel_rfl) (by kernel_rfl) (by kernel_rfl) (fun _ _ _ h => h) (Or.inl ⟨by rfl, fun w' hSw => by go_simp⟩) hHeld ?_
            simp only [List.getElem_toArray, List.getElem_cons_succ, List.getElem_cons_zero, Act.put, List.setIfInBounds_toArray, List.set_cons_zero, List.set_cons_succ]
            refine wpAnyH_ready (rs := [9]) (by kernel_rfl) (by simp) (AllReadyH.cons rfl (fun K hK => ?_) AllReadyH.nil)
            rw [if_pos (by rfl)]
            refine wp_storeM (us := [.slice ca3 tt.C.n kc3, .slice ra3 tt.R.n kr3, .slice ha3 tt.h kh3, .int .i64 tt.l]) rfl rfl rfl N9 rfl (by intro v hv; simp only [List.mem_cons, List.not_mem_nil, or_false] at hv; rcases hv with rfl | rfl | rfl | rfl <;> rfl) sizeSto ?_
            intro y5 MO oO
            have onb := OnlyP.of_only (P := fun x => x = y2.heap.size) oO rfl
            have hkl : w15.heap.size ≤ y2.heap.size := by omega
            have f5 : Below w15.heap.size w15 y5 := f3.trans (onb.below (base := w15.heap.size) (fun x _ hx => by have h : x = y2.heap.size := hx; omega) f3.size)
            refine hK.out _ _ (hS _ f5) (fun hHeld => ?_)
            clear hK K
            refine wpAnyH_take (i := 10) (v := .bool bb) rfl (by kernel_rfl) (by kernel_rfl) (by kernel_rfl) (fun _ _ _ h => h) (Or.inl ⟨by rfl, fun w' hSw => by go_simp⟩) hHeld ?_
            simp only [List.getElem_toArray, List.getElem_cons_succ, List.getElem_cons_zero, Act.put, List.setIfInBounds_toArray, List.set_cons_zero, List.set_cons_succ]
            refine wpAnyH_done (by kernel_rfl) ?_ _
            clear hHeld
            go_wp2_with fail
            go_meet
            exact ⟨_, _, _, _, _, _, _, _, _, rfl, rfl, hkl, MO, A3.onlyP onb (fun x h1 h2 h3 => by have h3 : x = y2.heap.size := h3; omega), by omega, .inl (by omega), f5⟩
        · go_simp
          have bAl : Below y1.heap.size y1 (y1.alloc (.cells #[.slice none 0 0, .slice none 0 0, .slice none 0 0, .int .i64 0] 34)) := below_box (Below.refl _ _)
          have hqA := f1.size
          have fA := below_step f1 bAl
          refine hK.out _ _ (hS _ fA) (fun hHeld => ?_)
          clear hK K
          have N9 := Mut.new y1 #[.slice none 0 0, .slice none 0 0, .slice none 0 0, .int .i64 0] 34
          replace O1 := O1.below bAl
          refine wpAnyH_ready (rs := [3]) (by kernel_rfl) (by simp) (AllReadyH.cons rfl (fun K hK => ?_) AllReadyH.nil)
          go_simp
          refine (TP.out _ (hQ0.below (dW.trans (fA.mono dW.size)))).mono ?_
          rintro e y2 ⟨x1, rfl, hx1, oS, b2⟩
          replace O1 := O1.below b2
          have f2 := below_step fA b2
          have N9 := N9.below b2
          refine hK.out _ _ (hS _ f2) (fun hHeld => ?_)
          clear hK K
          refine wpAnyH_ready (rs := [4]) (by kernel_rfl) (by simp) (AllReadyH.cons rfl (fun K hK => ?_) AllReadyH.nil)
          have hal := N9.1
          go_simp
          have hs3 : w15.heap.size ≤ _ := f2.size
          refine (IA.out v1 (some ⟨x1, 0, none⟩) _ O1.row oS.row (dW.trans (f2.mono dW.size))).mono ?_
          rintro e y3 ⟨v3, rfl, A3, b3⟩
          have f3 := below_step f2 b3
          have N9 := N9.below b3
          refine hK.out _ _ (hS _ f3) (fun hHeld => ?_)
          clear hK K
          have h3 := A3.size
          obtain ⟨ca3, kc3, ra3, kr3, ha3, kh3, hv3⟩ := A3.form
          subst hv3
          refine wpAnyH_take (i := 5) (v := .tuple #[.agg #[.slice ca3 tt.C.n kc3, .slice ra3 tt.R.n kr3, .slice ha3 tt.h kh3, .int .i64 tt.l], .bool bb]) rfl (by kernel_rfl) (by kernel_rfl) (by kernel_rfl) (fun _ _ _ h => h) (Or.inl ⟨by rfl, fun w' hSw => by go_simp⟩) hHeld ?_
          simp only [List.getElem_toArray, List.getElem_cons_succ, List.getElem_cons_zero, Act.put, List.setIfInBounds_toArray, List.set_cons_zero, List.set_cons_succ]
          refine wpAnyH_take (i := 6) (v := .agg #[.slice ca3 tt.C.n kc3, .slice ra3 tt.R.n kr3, .slice ha3 tt.h kh3, .int .i64 tt.l]) rfl (by kernel_rfl) (by kernel_rfl) (by kernel_rfl) (fun _ _ _ h => h) (Or.inl ⟨by rfl, fun w' hSw => by go_simp⟩) hHeld ?_
          simp only [List.getElem_toArray, List.getElem_cons_succ, List.getElem_cons_zero, Act.put, List.setIfInBounds_toArray, List.set_cons_zero, List.set_cons_succ]
          refine wpAnyH_take (i := 7) (v := .bool bb) rfl (by kernel_rfl) (by kernel_rfl) (by kernel_rfl) (fun _ _ _ h => h) (Or.inl ⟨by rfl, fun w' hSw => by go_simp⟩) hHeld ?_
          simp only [List.getElem_toArray, List.getElem_cons_succ, List.getElem_cons_zero, Act.put, List.setIfInBounds_toArray, List.set_cons_zero, List.set_cons_succ]
          refine wpAnyH_ready (rs := [9]) (by kernel_rfl) (by simp) (AllReadyH.cons rfl (fun K hK => ?_) AllReadyH.nil)
          rw [if_pos (by rfl)]
          refine wp_storeM (us := [.slice ca3 tt.C.n kc3, .slice ra3 tt.R.n kr3, .slice ha3 tt.h kh3, .int .i64 tt.l]) rfl rfl rfl N9 rfl (by intro v hv; simp only [List.mem_cons, List.not_mem_nil, or_false] at hv; rcases hv with rfl | rfl | rfl | rfl <;> rfl) sizeSto ?_
          intro y5 MO oO
          have onb := OnlyP.of_only (P := fun x => x = y1.heap.size) oO rfl
          have hkl : w15.heap.size ≤ y1.heap.size := by omega
          have f5 : Below w15.heap.size w15 y5 := f3.trans (onb.below (base := w15.heap.size) (fun x _ hx => by have h : x = y1.heap.size := hx; omega) f3.size)
          refine hK.out _ _ (hS _ f5) (fun hHeld => ?_)
          clear hK K
          refine wpAnyH_take (i := 10) (v := .bool bb) rfl (by kernel_rfl) (by kernel_rfl) (by kernel_rfl) (fun _ _ _ h => h) (Or.inl ⟨by rfl, fun w' hSw => by go_simp⟩) hHeld ?_
          simp only [List.getElem_toArray, List.getElem_cons_succ, List.getElem_cons_zero, Act.put, List.setIfInBounds_toArray, List.set_cons_zero, List.set_cons_succ]
          refine wpAnyH_done (by kernel_rfl) ?_ _
          clear hHeld
          go_wp2_with fail
          go_meet
          exact ⟨_, _, _, _, _, _, _, _, _, rfl, rfl, hkl, MO, A3.onlyP onb (fun x h1 h2 h3 => by have h3 : x = y1.heap.size := h3; omega), by omega, .inl (by omega), f5⟩
      · go_simp
        have bAl : Below w15.drew.heap.size w15.drew (w15.drew.alloc (.cells #[.slice none 0 0, .slice none 0 0, .slice none 0 0, .int .i64 0] 34)) := below_box (Below.refl _ _)
        have hqA := f0.size
        have fA := below_step f0 bAl
        refine hK.out _ _ (hS _ fA) (fun hHeld => ?_)
        clear hK K
        have N9 := Mut.new w15.drew #[.slice none 0 0, .slice none 0 0, .slice none 0 0, .int .i64 0] 34
        refine wpAnyH_ready (rs := [1]) (by kernel_rfl) (by simp) (AllReadyH.cons rfl (fun K hK => ?_) AllReadyH.nil)
        go_simp
        refine (TO.out _ (hR0.below (dW.trans (fA.mono dW.size)))).mono ?_
        rintro e y1 ⟨v1, rfl, O1, b1⟩
        have f1 := below_step fA b1
        have N9 := N9.below b1
        refine hK.out _ _ (hS _ f1) (fun hHeld => ?_)
        clear hK K
        refine wpAnyH_ready (rs := [3]) (by kernel_rfl) (by simp) (AllReadyH.cons rfl (fun K hK => ?_) AllReadyH.nil)
        go_simp
        refine (TP.out _ (hQ0.below (dW.trans (f1.mono dW.size)))).mono ?_
        rintro e y2 ⟨x1, rfl, hx1, oS, b2⟩
        replace O1 := O1.below b2
        have f2 := below_step f1 b2
        have N9 := N9.below b2
        refine hK.out _ _ (hS _ f2) (fun hHeld => ?_)
        clear hK K
        refine wpAnyH_ready (rs := [4]) (by kernel_rfl) (by simp) (AllReadyH.cons rfl (fun K hK => ?_) AllReadyH.nil)
        have hal := N9.1
        go_simp
        have hs3 : w15.heap.size ≤ _ := f2.size
        refine (IA.out v1 (some ⟨x1, 0, none⟩) _ O1.row oS.row (dW.trans (f2.mono dW.size))).mono ?_
        rintro e y3 ⟨v3, rfl, A3, b3⟩
        have f3 := below_step f2 b3
        have N9 := N9.below b3
        refine hK.out _ _ (hS _ f3) (fun hHeld => ?_)
        clear hK K
        have h3 := A3.size
        obtain ⟨ca3, kc3, ra3, kr3, ha3, kh3, hv3⟩ := A3.form
        subst hv3
        refine wpAnyH_take (i := 5) (v := .tuple #[.agg #[.slice ca3 tt.C.n kc3, .slice ra3 tt.R.n kr3, .slice ha3 tt.h kh3, .int .i64 tt.l], .bool bb]) rfl (by kernel_rfl) (by kernel_rfl) (by kernel_rfl) (fun _ _ _ h => h) (Or.inl ⟨by rfl, fun w' hSw => by go_simp⟩) hHeld ?_
        simp only [List.getElem_toArray, List.getElem_cons_succ, List.getElem_cons_zero, Act.put, List.setIfInBounds_toArray, List.set_cons_zero, List.set_cons_succ]
        refine wpAnyH_take (i := 6) (v := .agg #[.slice ca3 tt.C.n kc3, .slice ra3 tt.R.n kr3, .slice ha3 tt.h kh3, .int .i64 tt.l]) rfl (by kernel_rfl) (by kernel_rfl) (by kernel_rfl) (fun _ _ _ h => h) (Or.inl ⟨by rfl, fun w' hSw => by go_simp⟩) hHeld ?_
        simp only [List.getElem_toArray, List.getElem_cons_succ, List.getElem_cons_zero, Act.put, List.setIfInBounds_toArray, List.set_cons_zero, List.set_cons_succ]
        refine wpAnyH_take (i := 7) (v := .bool bb) rfl (by kernel_rfl) (by kernel_rfl) (by kernel_rfl) (fun _ _ _ h => h) (Or.inl ⟨by rfl, fun w' hSw => by go_simp⟩) hHeld ?_
        simp only [List.getElem_toArray, List.getElem_cons_succ, List.getElem_cons_zero, Act.put, List.setIfInBounds_toArray, List.set_cons_zero, List.set_cons_succ]
        refine wpAnyH_ready (rs := [9]) (by kernel_rfl) (by simp) (AllReadyH.cons rfl (fun K hK => ?_) AllReadyH.nil)
        rw [if_pos (by rfl)]
        refine wp_storeM (us := [.slice ca3 tt.C.n kc3, .slice ra3 tt.R.n kr3, .slice ha3 tt.h kh3, .int .i64 tt.l]) rfl rfl rfl N9 rfl (by intro v hv; simp only [List.mem_cons, List.not_mem_nil, or_false] at hv; rcases hv with rfl | rfl | rfl | rfl <;> rfl) sizeSto ?_
        intro y5 MO oO
        have onb := OnlyP.of_only (P := fun x => x = w15.drew.heap.size) oO rfl
        have hkl : w15.heap.size ≤ w15.drew.heap.size := Nat.le_refl _
        have f5 : Below w15.heap.size w15 y5 := f3.trans (onb.below (base := w15.heap.size) (fun x _ hx => by have h : x = w15.drew.heap.size := hx; omega) f3.size)
        refine hK.out _ _ (hS _ f5) (fun hHeld => ?_)
        clear hK K
        refine wpAnyH_take (i := 10) (v := .bool bb) rfl (by kernel_rfl) (by kernel_rfl) (by kernel_rfl) (fun _ _ _ h => h) (Or.inl ⟨by rfl, fun w' hSw => by go_simp⟩) hHeld ?_
        simp only [List.getElem_toArray, List.getElem_cons_succ, List.getElem_cons_zero, Act.put, List.setIfInBounds_toArray, List.set_cons_zero, List.set_cons_succ]
        refine wpAnyH_done (by kernel_rfl) ?_ _
        clear hHeld
        go_wp2_with fail
        go_meet
        exact ⟨_, _, _, _, _, _, _, _, _, rfl, rfl, hkl, MO, A3.onlyP onb (fun x h1 h2 h3 => by have h3 : x = w15.drew.heap.size := h3; omega), by omega, .inl (by omega), f5⟩
    case rest =>
      obtain ⟨kH, cah, kch, rah, krh, hah, khh, lh, hh, rfl, rfl, hkH, MH, AH, hlh, _, eD⟩ := hcut
      generalize wc = wD at *
      clear MBc MPc
      replace MG := MG.below eD
      replace AM := AM.below eD
      replace DA := below_step DA eD
      clear eD dW
      have MWc := MW.below DA
      have i0 := MWc.2.1 0 _ rfl
      have i1 := MWc.2.1 1 _ rfl
      have i2 := MWc.2.1 2 _ rfl
      have i3 := MWc.2.1 3 _ rfl
      have j0 := MH.2.1 0 _ rfl
      have j1 := MH.2.1 1 _ rfl
      have j2 := MH.2.1 2 _ rfl
      have j3 := MH.2.1 3 _ rfl
      go_upto_region 32 with fail
      go_wp2_with fail
      refine (EO.out _ _ _ AH.row.any (RW.out.below DA).any).mono ?_
      rintro e w16 ⟨rfl, b16⟩
      clear i0 i1 i2 i3 j0 j1 j2 j3 MWc
      replace AM := AM.below b16
      replace MG := MG.below b16
      replace DA := below_step DA b16
      have hb16 := b16.size
      clear b16
      have j0 := MG.2.1 0 _ rfl
      have j1 := MG.2.1 1 _ rfl
      have j2 := MG.2.1 2 _ rfl
      have j3 := MG.2.1 3 _ rfl
      go_upto_region 35 with fail
      go_wp2_with fail
      refine (HO.out _ _ AM.row).mono ?_
      rintro e w17 ⟨rfl, b17⟩
      have dE := dW0.trans ((below_step DA b17).mono dW0.size)
      go_wp2_with fail
      go_ret
      exact ⟨rfl, dE⟩
end Go.Proofs.YtnficndeblkjhaaGreatDoor
