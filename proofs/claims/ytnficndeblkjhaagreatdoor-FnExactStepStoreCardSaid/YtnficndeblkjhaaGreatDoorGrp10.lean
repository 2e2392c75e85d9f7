/- One op of a store. -/
import Derived.Test.YtnficndeblkjhaaGreatDoorGrp7
import Derived.Test.YtnficndeblkjhaaGreatDoorI16r
import Derived.Test.YtnficndeblkjhaaGreatDoorI16s
import Derived.Test.YtnficndeblkjhaaGreatDoorI16t
import Derived.Deep.RegionHeld3
/- One op of a store. -/


namespace Go.Proofs.YtnficndeblkjhaaGreatDoor
open Go.RowKit

set_option maxRecDepth 100000 in
set_option maxHeartbeats 1600000 in
theorem i_step5 (v : Value) (s : Sto) (o : OpX) (pa : Option Addr) (pc : Nat) (gl gr : Addr) (w0 w : World) (hG : GW gl gr w) (hb : Below w0.heap.size w0 w) (hR : RowSt true v s w0) (hs : OkS s) (hN : NeedX o) (hk : o.k = 5) :
    Calls Tryz.prog 36 #[v, .agg #[.int .i64 o.k, .slice pa o.n pc, .string o.v, .int .i64 o.N]] w (MetP gl gr w0 w.heap.size s (stepX s o) w) := by
  replace hk := hide hk
  replace hN := hide hN
  obtain ⟨ca, kc, ra, kr, ha, kh, rfl, R1, R2, R3, R4⟩ := hR
  have hRS : RowSt true (stV s ca kc ra kr ha kh) s w0 := ⟨ca, kc, ra, kr, ha, kh, rfl, R1, R2, R3, R4⟩
  unfold stV
  unfold stV at hRS
  have M1 := ((Mut.new w #[.slice ca s.C.n kc, .slice ra s.R.n kr, .slice ha s.h kh, .int .i64 s.l] 34).alloc (.cells #[.int .i64 o.k, .slice pa o.n pc, .string o.v, .int .i64 o.N] 38)).alloc (.cells #[.slice none 0 0, .slice none 0 0, .slice none 0 0, .int .i64 0] 34)
  have MO := (Mut.new (w.alloc (.cells #[.slice ca s.C.n kc, .slice ra s.R.n kr, .slice ha s.h kh, .int .i64 s.l] 34)) #[.int .i64 o.k, .slice pa o.n pc, .string o.v, .int .i64 o.N] 38).alloc (.cells #[.slice none 0 0, .slice none 0 0, .slice none 0 0, .int .i64 0] 34)
  have M2 := Mut.new ((w.alloc (.cells #[.slice ca s.C.n kc, .slice ra s.R.n kr, .slice ha s.h kh, .int .i64 s.l] 34)).alloc (.cells #[.int .i64 o.k, .slice pa o.n pc, .string o.v, .int .i64 o.N] 38)) #[.slice none 0 0, .slice none 0 0, .slice none 0 0, .int .i64 0] 34
  have d1 : Below w.heap.size w (((w.alloc (.cells #[.slice ca s.C.n kc, .slice ra s.R.n kr, .slice ha s.h kh, .int .i64 s.l] 34)).alloc (.cells #[.int .i64 o.k, .slice pa o.n pc, .string o.v, .int .i64 o.N] 38)).alloc (.cells #[.slice none 0 0, .slice none 0 0, .slice none 0 0, .int .i64 0] 34)) := below_box3 (Below.refl _ _)
  simp only [World.size_alloc] at MO M2
  have HN := hide (fun w => i_hasNeedless o pa pc w)
  go_enter Tryz.func36, Tryz.ntmps36
  go_wp2_with fail
  generalize (((w.alloc (.cells #[.slice ca s.C.n kc, .slice ra s.R.n kr, .slice ha s.h kh, .int .i64 s.l] 34)).alloc (.cells #[.int .i64 o.k, .slice pa o.n pc, .string o.v, .int .i64 o.N] 38)).alloc (.cells #[.slice none 0 0, .slice none 0 0, .slice none 0 0, .int .i64 0] 34)) = wa at *
  refine (HN.out _).mono ?_
  rintro e w1 ⟨rfl, bb⟩
  replace M1 := M1.below bb
  replace MO := MO.below bb
  replace M2 := M2.below bb
  replace d1 := d1.trans (bb.mono d1.size)
  have hw2 : w.heap.size + 1 + 1 < w1.heap.size := M2.1
  have hGB := hG.below d1
  have hB1 := hb.trans (d1.mono hb.size)
  clear bb HN
  rw [tB_f (fun h => h hN.out)]
  replace hk := hk.out
  have q1 : (o.k == 1) = false := by simp only [beq_eq_false_iff_ne]; omega
  have q2 : (o.k == 2) = false := by simp only [beq_eq_false_iff_ne]; omega
  have q3 : (o.k == 3) = false := by simp only [beq_eq_false_iff_ne]; omega
  have q4 : (o.k == 4) = false := by simp only [beq_eq_false_iff_ne]; omega
  have q5 : (o.k == 5) = true := by simp only [beq_iff_eq]; exact hk
  have hres := hide ((stepX_yes hN.out).trans (opX_5 (s := s) hk))
  clear hN hk
  have v0 := M1.2.1 0 _ rfl
  have v1 := M1.2.1 1 _ rfl
  have v2 := M1.2.1 2 _ rfl
  have v3 := M1.2.1 3 _ rfl
  have k0 := MO.2.1 0 _ rfl
  have k1 := MO.2.1 1 _ rfl
  have k2 := MO.2.1 2 _ rfl
  have k3 := MO.2.1 3 _ rfl
  go_wp2_with fail
  refine (i_confirmedInTime (.agg #[.slice ca s.C.n kc, .slice ra s.R.n kr, .slice ha s.h kh, .int .i64 s.l]) s gl gr w0 w1 hGB hB1 hRS hs).mono ?_
  intro e w2 hm
  obtain ⟨bb, vv, er, rfl, MV⟩ := hm.vals
  have M22 := M2.below bb
  have d2 := d1.trans (bb.mono d1.size)
  clear hm bb
  obtain ⟨xa, xn, xk, ya, yn, yk, za, zn, zk, zl, hvf⟩ := MV.form
  subst hvf
  go_wp2_with (refine wpList_storeM (us := [.slice xa xn xk, .slice ya yn yk, .slice za zn zk, .int .i64 zl]) rfl rfl rfl rfl M22 rfl (by intro v hv; simp only [List.mem_cons, List.not_mem_nil, or_false] at hv; rcases hv with rfl | rfl | rfl | rfl <;> rfl) sizeSto ?_; intro w9 M9 o9)
  have on := OnlyP.of_only (P := fun x => x = w.heap.size + 1 + 1) o9 rfl
  have e9 := (d2).trans (on.below (base := w.heap.size) (fun x _ hx => by have h : x = w.heap.size + 1 + 1 := hx; omega) (d2).size)
  have hb0 := hb.size
  have MW := (MV.only (on.mono (fun x _ hx => by have h : x = w.heap.size + 1 + 1 := hx; exact ⟨by omega, by omega⟩))).less (base' := w.heap.size) (by omega)
  have r0 := M9.2.1 0 _ rfl
  have r1 := M9.2.1 1 _ rfl
  have r2 := M9.2.1 2 _ rfl
  have r3 := M9.2.1 3 _ rfl
  rw [hres.out]
  have MQ := MW.met e9
  exact bodyPost_ret (v := .tuple #[.agg #[.slice xa xn xk, .slice ya yn yk, .slice za zn zk, .int .i64 zl], er]) (by simp [results, Tryz.results36, go_sem, r0, r1, r2, r3]) rfl MQ
end Go.Proofs.YtnficndeblkjhaaGreatDoor



namespace Go.Proofs.YtnficndeblkjhaaGreatDoor
open Go.RowKit

set_option maxRecDepth 100000 in
set_option maxHeartbeats 1600000 in
theorem i_step6 (v : Value) (s : Sto) (o : OpX) (pa : Option Addr) (pc : Nat) (gl gr : Addr) (w0 w : World) (hG : GW gl gr w) (hb : Below w0.heap.size w0 w) (hR : RowSt true v s w0) (hN : NeedX o) (hk : o.k = 6) :
    Calls Tryz.prog 36 #[v, .agg #[.int .i64 o.k, .slice pa o.n pc, .string o.v, .int .i64 o.N]] w (MetP gl gr w0 w.heap.size s (stepX s o) w) := by
  replace hk := hide hk
  replace hN := hide hN
  obtain ⟨ca, kc, ra, kr, ha, kh, rfl, R1, R2, R3, R4⟩ := hR
  have hRS : RowSt true (stV s ca kc ra kr ha kh) s w0 := ⟨ca, kc, ra, kr, ha, kh, rfl, R1, R2, R3, R4⟩
  unfold stV
  unfold stV at hRS
  have M1 := ((Mut.new w #[.slice ca s.C.n kc, .slice ra s.R.n kr, .slice ha s.h kh, .int .i64 s.l] 34).alloc (.cells #[.int .i64 o.k, .slice pa o.n pc, .string o.v, .int .i64 o.N] 38)).alloc (.cells #[.slice none 0 0, .slice none 0 0, .slice none 0 0, .int .i64 0] 34)
  have MO := (Mut.new (w.alloc (.cells #[.slice ca s.C.n kc, .slice ra s.R.n kr, .slice ha s.h kh, .int .i64 s.l] 34)) #[.int .i64 o.k, .slice pa o.n pc, .string o.v, .int .i64 o.N] 38).alloc (.cells #[.slice none 0 0, .slice none 0 0, .slice none 0 0, .int .i64 0] 34)
  have M2 := Mut.new ((w.alloc (.cells #[.slice ca s.C.n kc, .slice ra s.R.n kr, .slice ha s.h kh, .int .i64 s.l] 34)).alloc (.cells #[.int .i64 o.k, .slice pa o.n pc, .string o.v, .int .i64 o.N] 38)) #[.slice none 0 0, .slice none 0 0, .slice none 0 0, .int .i64 0] 34
  have d1 : Below w.heap.size w (((w.alloc (.cells #[.slice ca s.C.n kc, .slice ra s.R.n kr, .slice ha s.h kh, .int .i64 s.l] 34)).alloc (.cells #[.int .i64 o.k, .slice pa o.n pc, .string o.v, .int .i64 o.N] 38)).alloc (.cells #[.slice none 0 0, .slice none 0 0, .slice none 0 0, .int .i64 0] 34)) := below_box3 (Below.refl _ _)
  simp only [World.size_alloc] at MO M2
  have HN := hide (fun w => i_hasNeedless o pa pc w)
  go_enter Tryz.func36, Tryz.ntmps36
  go_wp2_with fail
  generalize (((w.alloc (.cells #[.slice ca s.C.n kc, .slice ra s.R.n kr, .slice ha s.h kh, .int .i64 s.l] 34)).alloc (.cells #[.int .i64 o.k, .slice pa o.n pc, .string o.v, .int .i64 o.N] 38)).alloc (.cells #[.slice none 0 0, .slice none 0 0, .slice none 0 0, .int .i64 0] 34)) = wa at *
  refine (HN.out _).mono ?_
  rintro e w1 ⟨rfl, bb⟩
  replace M1 := M1.below bb
  replace MO := MO.below bb
  replace M2 := M2.below bb
  replace d1 := d1.trans (bb.mono d1.size)
  have hw2 : w.heap.size + 1 + 1 < w1.heap.size := M2.1
  have hGB := hG.below d1
  have hB1 := hb.trans (d1.mono hb.size)
  clear bb HN
  rw [tB_f (fun h => h hN.out)]
  replace hk := hk.out
  have q1 : (o.k == 1) = false := by simp only [beq_eq_false_iff_ne]; omega
  have q2 : (o.k == 2) = false := by simp only [beq_eq_false_iff_ne]; omega
  have q3 : (o.k == 3) = false := by simp only [beq_eq_false_iff_ne]; omega
  have q4 : (o.k == 4) = false := by simp only [beq_eq_false_iff_ne]; omega
  have q5 : (o.k == 5) = false := by simp only [beq_eq_false_iff_ne]; omega
  have q6 : (o.k == 6) = true := by simp only [beq_iff_eq]; exact hk
  have hres := hide ((stepX_yes hN.out).trans (opX_6 (s := s) hk))
  clear hN hk
  have v0 := M1.2.1 0 _ rfl
  have v1 := M1.2.1 1 _ rfl
  have v2 := M1.2.1 2 _ rfl
  have v3 := M1.2.1 3 _ rfl
  have k0 := MO.2.1 0 _ rfl
  have k1 := MO.2.1 1 _ rfl
  have k2 := MO.2.1 2 _ rfl
  have k3 := MO.2.1 3 _ rfl
  go_wp2_with fail
  refine (i_rolledBack (.agg #[.slice ca s.C.n kc, .slice ra s.R.n kr, .slice ha s.h kh, .int .i64 s.l]) s gl gr w0 w1 hGB hB1 hRS o.N).mono ?_
  intro e w2 hm
  obtain ⟨bb, vv, er, rfl, MV⟩ := hm.vals
  have M22 := M2.below bb
  have d2 := d1.trans (bb.mono d1.size)
  clear hm bb
  obtain ⟨xa, xn, xk, ya, yn, yk, za, zn, zk, zl, hvf⟩ := MV.form
  subst hvf
  go_wp2_with (refine wpList_storeM (us := [.slice xa xn xk, .slice ya yn yk, .slice za zn zk, .int .i64 zl]) rfl rfl rfl rfl M22 rfl (by intro v hv; simp only [List.mem_cons, List.not_mem_nil, or_false] at hv; rcases hv with rfl | rfl | rfl | rfl <;> rfl) sizeSto ?_; intro w9 M9 o9)
  have on := OnlyP.of_only (P := fun x => x = w.heap.size + 1 + 1) o9 rfl
  have e9 := (d2).trans (on.below (base := w.heap.size) (fun x _ hx => by have h : x = w.heap.size + 1 + 1 := hx; omega) (d2).size)
  have hb0 := hb.size
  have MW := (MV.only (on.mono (fun x _ hx => by have h : x = w.heap.size + 1 + 1 := hx; exact ⟨by omega, by omega⟩))).less (base' := w.heap.size) (by omega)
  have r0 := M9.2.1 0 _ rfl
  have r1 := M9.2.1 1 _ rfl
  have r2 := M9.2.1 2 _ rfl
  have r3 := M9.2.1 3 _ rfl
  rw [hres.out]
  have MQ := MW.met e9
  exact bodyPost_ret (v := .tuple #[.agg #[.slice xa xn xk, .slice ya yn yk, .slice za zn zk, .int .i64 zl], er]) (by simp [results, Tryz.results36, go_sem, r0, r1, r2, r3]) rfl MQ
end Go.Proofs.YtnficndeblkjhaaGreatDoor
