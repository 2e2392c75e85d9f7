/- One op of a store. -/
import Derived.Test.YtnficndeblkjhaaGreatDoorGrp7
import Derived.Test.YtnficndeblkjhaaGreatDoorGrp8
import Derived.Test.YtnficndeblkjhaaGreatDoorI16s
import Derived.Test.YtnficndeblkjhaaGreatDoorI16t
import Derived.Deep.RegionHeld3


namespace Go.Proofs.YtnficndeblkjhaaGreatDoor
open Go.RowKit

set_option maxRecDepth 100000 in
set_option maxHeartbeats 1600000 in
theorem i_step2 (v : Value) (s : Sto) (o : OpX) (pa : Option Addr) (pc : Nat) (gl gr : Addr) (w0 w : World) (hG : GW gl gr w) (hb : Below w0.heap.size w0 w) (hR : RowSt true v s w0) (hs : OkS s) (hP : RowStr pa o.n o.p w0) (hN : NeedX o) (hk : o.k = 2) :
    Calls Tryz.prog 36 #[v, .agg #[.int .i64 o.k, .slice pa o.n pc, .string o.v, .int .i64 o.N]] w (MetP gl gr w0 w.heap.size s (stepX s o) w) := by
  replace hk := hide hk
  replace hN := hide hN
  obtain ⟨ca, kc, ra, kr, ha, kh, rfl, R1, R2, R3, R4⟩ := hR
  have hRS : RowSt true (stV s ca kc ra kr ha kh) s w0 := ⟨ca, kc, ra, kr, ha, kh, rfl, R1, R2, R3, R4⟩
  unfold stV
  unfold stV at hRS
  have M1 := ((Mut.new w #[.slice ca s.C.n kc, .slice ra s.R.n kr, .slice ha s.h kh, .int .i64 s.l] 34).alloc (.cells #[.int .i64 o.k, .slice pa o.n pc, .string o.v, .int .i64 o.N] 38)).alloc (.cells #[.slice none 0 0, .slice none 0 0, .slice none 0 0, .int .i64 0] 34)
  have MO := (Mut.new (w.alloc (.cells #[.slice ca s.C.n kc, .slice ra s.R.n kr, .slice ha s.h kh, .int .i64 s.l] 34)) #[.int .i64 o.k, .slice pa o.n pc, .string o.v, .int .i64 o.N] 38).alloc (.cells #[.slice none 0 0, .slice none 0 0, .slice none 0 0, .int .i64 0] 34)
  have M2 := Mut.new ((w.alloc (.cells #[.slice ca s.C.n kc, .slice ra s.R.n kr, .slice ha s.h kh, .int .i64 s.l] 34)).alloc (.cells #[.int .i64 o.k, .slice pa o.n pc, .string o.v, .int .i64 o.N] 38)) #[.slice none 0 0, .slice none 0 0, .slice none 0 0, .int .i64 0] 34
  have d1 : Below w.heap.size w (((w.alloc (.cells #[.slice ca s.C.n kc, .slice ra s.R.n kr, .slice ha s.h kh, .int .i64 s.l] 34)).alloc (.cells #[.int .i64 o.k, .slice pa o.n pc, .string o.v, .int .i64 o.N] 38)).alloc (.cells #[.slice none 0 0, .slice none 0 0, .slice none 0 0, .int .i64 0] 34)) := below_box3 (Below.refl _ _)
  simp only [World.size_alloc] at MO M2
  have HN := hide (fun w => i_hasNeedless o pa pc w)
  go_enter Tryz.func36, Tryz.ntmps36
  go_wp2_with fail
  generalize (((w.alloc (.cells #[.slice ca s.C.n kc, .slice ra s.R.n kr, .slice ha s.h kh, .int .i64 s.l] 34)).alloc (.cells #[.int .i64 o.k, .slice pa o.n pc, .string o.v, .int .i64 o.N] 38)).alloc (.cells #[.slice none 0 0, .slice none 0 0, .slice none 0 0, .int .i64 0] 34)) = wa at *
  refine (HN.out _).mono ?_
  rintro e w1 ⟨rfl, bb⟩
  replace M1 := M1.below bb
  replace MO := MO.below bb
  replace M2 := M2.below bb
  replace d1 := d1.trans (bb.mono d1.size)
  have hw2 : w.heap.size + 1 + 1 < w1.heap.size := M2.1
  have hGB := hG.below d1
  have hB1 := hb.trans (d1.mono hb.size)
  clear bb HN
  rw [tB_f (fun h => h hN.out)]
  replace hk := hk.out
  have q1 : (o.k == 1) = false := by simp only [beq_eq_false_iff_ne]; omega
  have q2 : (o.k == 2) = true := by simp only [beq_iff_eq]; exact hk
  have hres := hide ((stepX_yes hN.out).trans (opX_2 (s := s) hk))
  clear hN hk
  have k0 := MO.2.1 0 _ rfl
  have k1 := MO.2.1 1 _ rfl
  have k2 := MO.2.1 2 _ rfl
  have k3 := MO.2.1 3 _ rfl
  go_wp2_with fail
  clear k0 k1 k2 k3
  have SA := hide (fun w R Q => i_deleteAt ca s.C.n kc s.C.T pa o.n pc o.p w hs.1.low.1 hs.1.low.2 R Q)
  generalize hDA : delA s.C.n s.C.T o.n o.p = DA at *
  obtain ⟨DL, is⟩ := DA
  dsimp only at SA hres
  clear hDA
  have hS : ∀ w' : World, Below w1.heap.size w1 w' → w'.cell? ⟨w.heap.size, 0, none⟩ = some (.slice ca s.C.n kc) ∧ w'.cell? ⟨w.heap.size, 1, none⟩ = some (.slice ra s.R.n kr) ∧ w'.cell? ⟨w.heap.size, 2, none⟩ = some (.slice ha s.h kh) ∧ w'.cell? ⟨w.heap.size, 3, none⟩ = some (.int .i64 s.l) ∧ w'.cell? ⟨w.heap.size + 1, 1, none⟩ = some (.slice pa o.n pc) := fun w' b => ⟨(M1.below b).2.1 0 _ rfl, (M1.below b).2.1 1 _ rfl, (M1.below b).2.1 2 _ rfl, (M1.below b).2.1 3 _ rfl, (MO.below b).2.1 1 _ rfl⟩
  refine wp_region_held_drew (S := fun w' => w'.cell? ⟨w.heap.size, 0, none⟩ = some (.slice ca s.C.n kc) ∧ w'.cell? ⟨w.heap.size, 1, none⟩ = some (.slice ra s.R.n kr) ∧ w'.cell? ⟨w.heap.size, 2, none⟩ = some (.slice ha s.h kh) ∧ w'.cell? ⟨w.heap.size, 3, none⟩ = some (.int .i64 s.l) ∧ w'.cell? ⟨w.heap.size + 1, 1, none⟩ = some (.slice pa o.n pc)) (by kernel_rfl) (hS _ (Below.refl _ _).drew) (fun hHeld => ?_)
  refine wpAnyH_take (i := 0) (v := .agg #[.slice ca s.C.n kc, .slice ra s.R.n kr, .slice ha s.h kh, .int .i64 s.l]) rfl (by kernel_rfl) (by kernel_rfl) (by kernel_rfl) (fun _ _ _ h => h) (Or.inl ⟨by rfl, fun w' hSw => by go_simp⟩) hHeld ?_
  simp only [List.getElem_toArray, List.getElem_cons_zero, Act.put, List.setIfInBounds_toArray, List.set_cons_zero, List.set_cons_succ]
  refine wpAnyH_take (i := 1) (v := .pointer (some ⟨w.heap.size, 0, none⟩)) rfl (by kernel_rfl) (by kernel_rfl) (by kernel_rfl) (fun _ _ _ h => h) (Or.inl ⟨by rfl, fun w' hSw => by go_simp⟩) hHeld ?_
  simp only [List.getElem_toArray, List.getElem_cons_succ, List.getElem_cons_zero, Act.put, List.setIfInBounds_toArray, List.set_cons_zero, List.set_cons_succ]
  refine wpAnyH_take (i := 2) (v := .slice ca s.C.n kc) rfl (by kernel_rfl) (by kernel_rfl) (by kernel_rfl) (fun _ _ _ h => h) (Or.inl ⟨by rfl, fun w' hSw => by go_simp⟩) hHeld ?_
  simp only [List.getElem_toArray, List.getElem_cons_succ, List.getElem_cons_zero, Act.put, List.setIfInBounds_toArray, List.set_cons_zero, List.set_cons_succ]
  refine wpAnyH_take (i := 3) (v := .pointer (some ⟨w.heap.size + 1, 1, none⟩)) rfl (by kernel_rfl) (by kernel_rfl) (by kernel_rfl) (fun _ _ _ h => h) (Or.inl ⟨by rfl, fun w' hSw => by go_simp⟩) hHeld ?_
  simp only [List.getElem_toArray, List.getElem_cons_succ, List.getElem_cons_zero, Act.put, List.setIfInBounds_toArray, List.set_cons_zero, List.set_cons_succ]
  refine wpAnyH_take (i := 4) (v := .slice pa o.n pc) rfl (by kernel_rfl) (by kernel_rfl) (by kernel_rfl) (fun _ _ _ h => h) (Or.inl ⟨by rfl, fun w' hSw => by go_simp⟩) hHeld ?_
  simp only [List.getElem_toArray, List.getElem_cons_succ, List.getElem_cons_zero, Act.put, List.setIfInBounds_toArray, List.set_cons_zero, List.set_cons_succ]
  have f0 : Below w1.heap.size w1 w1.drew := (Below.refl _ _).drew
  refine wpAnyH_ready (rs := [5]) (by kernel_rfl) (by simp) (AllReadyH.cons rfl (fun K hK => ?_) AllReadyH.nil)
  go_simp
  refine (SA.out _ (R1.below (hB1.trans (f0.mono hB1.size))) (hP.below (hB1.trans (f0.mono hB1.size)))).mono ?_
  rintro e y1 ⟨u, rfl, L, hL, hm, b1⟩
  obtain ⟨la, lc, rfl, hstb⟩ := hL.stb hm
  have f1 : Below w1.heap.size w1 y1 := f0.trans (b1.mono (Nat.le_of_eq rfl))
  have hy1 := f1.size
  clear hL hm b1
  refine hK.out _ _ (hS _ f1) (fun hHeld => ?_)
  clear hK K
  refine wpAnyH_take (i := 6) (v := .slice la DL.length lc) rfl (by kernel_rfl) (by kernel_rfl) (by kernel_rfl) (fun _ _ _ h => h) (Or.inl ⟨by rfl, fun w' hSw => by go_simp⟩) hHeld ?_
  simp only [List.getElem_toArray, List.getElem_cons_succ, List.getElem_cons_zero, Act.put, List.setIfInBounds_toArray, List.set_cons_zero, List.set_cons_succ]
  refine wpAnyH_take (i := 7) (v := .bool is) rfl (by kernel_rfl) (by kernel_rfl) (by kernel_rfl) (fun _ _ _ h => h) (Or.inl ⟨by rfl, fun w' hSw => by go_simp⟩) hHeld ?_
  simp only [List.getElem_toArray, List.getElem_cons_succ, List.getElem_cons_zero, Act.put, List.setIfInBounds_toArray, List.set_cons_zero, List.set_cons_succ]
  refine wpAnyH_ready (rs := [8]) (by kernel_rfl) (by simp) (AllReadyH.cons rfl (fun K hK => ?_) AllReadyH.nil)
  go_simp
  refine (i_withCandidate (.agg #[.slice ca s.C.n kc, .slice ra s.R.n kr, .slice ha s.h kh, .int .i64 s.l]) s gl gr w0 y1 (hGB.below f1) (hB1.trans (f1.mono hB1.size)) hRS w1.heap.size hy1 (cfL DL) la lc is (fun _ => hstb _)).mono ?_
  intro e y2 hmet
  obtain ⟨b2, vv, er, rfl, MV⟩ := hmet.vals
  obtain ⟨xa, xn, xk, ya, yn, yk, za, zn, zk, zl, hvf⟩ := MV.form
  subst hvf
  have f2 : Below w1.heap.size w1 y2 := f1.trans (b2.mono f1.size)
  clear hmet b2
  refine hK.out _ _ (hS _ f2) (fun hHeld => ?_)
  clear hK K
  refine wpAnyH_take (i := 9) (v := .agg #[.slice xa xn xk, .slice ya yn yk, .slice za zn zk, .int .i64 zl]) rfl (by kernel_rfl) (by kernel_rfl) (by kernel_rfl) (fun _ _ _ h => h) (Or.inl ⟨by rfl, fun w' hSw => by go_simp⟩) hHeld ?_
  simp only [List.getElem_toArray, List.getElem_cons_succ, List.getElem_cons_zero, Act.put, List.setIfInBounds_toArray, List.set_cons_zero, List.set_cons_succ]
  refine wpAnyH_take (i := 10) (v := er) rfl (by kernel_rfl) (by kernel_rfl) (by kernel_rfl) (fun _ _ _ h => h) (Or.inl ⟨by rfl, fun w' hSw => by go_simp⟩) hHeld ?_
  simp only [List.getElem_toArray, List.getElem_cons_succ, List.getElem_cons_zero, Act.put, List.setIfInBounds_toArray, List.set_cons_zero, List.set_cons_succ]
  refine wpAnyH_ready (rs := [11]) (by kernel_rfl) (by simp) (AllReadyH.cons rfl (fun K hK => ?_) AllReadyH.nil)
  rw [if_pos (by rfl)]
  refine wp_storeM (us := [.slice xa xn xk, .slice ya yn yk, .slice za zn zk, .int .i64 zl]) rfl rfl rfl (M2.below f2) rfl (by intro v hv; simp only [List.mem_cons, List.not_mem_nil, or_false] at hv; rcases hv with rfl | rfl | rfl | rfl <;> rfl) sizeSto ?_
  intro w9 M9 o9
  have on := OnlyP.of_only (P := fun x => x = w.heap.size + 1 + 1) o9 rfl
  have d2 := d1.trans (f2.mono d1.size)
  have N1 := (M1.below f2).onlyP on (fun h => by have h : w.heap.size = w.heap.size + 1 + 1 := h; omega)
  have NO := (MO.below f2).onlyP on (fun h => by have h : w.heap.size + 1 = w.heap.size + 1 + 1 := h; omega)
  refine hK.out _ _ (⟨N1.2.1 0 _ rfl, N1.2.1 1 _ rfl, N1.2.1 2 _ rfl, N1.2.1 3 _ rfl, NO.2.1 1 _ rfl⟩) (fun hHeld => ?_)
  clear hK K
  refine wpAnyH_take (i := 12) (v := er) rfl (by kernel_rfl) (by kernel_rfl) (by kernel_rfl) (fun _ _ _ h => h) (Or.inl ⟨by rfl, fun w' hSw => by go_simp⟩) hHeld ?_
  simp only [List.getElem_toArray, List.getElem_cons_succ, List.getElem_cons_zero, Act.put, List.setIfInBounds_toArray, List.set_cons_zero, List.set_cons_succ]
  have e9 := d2.trans (on.below (base := w.heap.size) (fun x _ hx => by have h : x = w.heap.size + 1 + 1 := hx; omega) d2.size)
  have hb0 := hb.size
  have MW := (MV.only (on.mono (fun x _ hx => by have h : x = w.heap.size + 1 + 1 := hx; exact ⟨by omega, by omega⟩))).less (base' := w.heap.size) (by omega)
  have r0 := M9.2.1 0 _ rfl
  have r1 := M9.2.1 1 _ rfl
  have r2 := M9.2.1 2 _ rfl
  have r3 := M9.2.1 3 _ rfl
  refine wpAnyH_done (by kernel_rfl) ?_ _
  clear hHeld hS
  go_wp2_with fail
  rw [hres.out]
  have MQ := MW.met e9
  exact bodyPost_ret (v := .tuple #[.agg #[.slice xa xn xk, .slice ya yn yk, .slice za zn zk, .int .i64 zl], er]) (by simp [results, Tryz.results36, go_sem, r0, r1, r2, r3]) rfl MQ
end Go.Proofs.YtnficndeblkjhaaGreatDoor
