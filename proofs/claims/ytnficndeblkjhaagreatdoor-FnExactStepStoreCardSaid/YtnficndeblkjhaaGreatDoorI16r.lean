/- Methods of a store that confirm. -/
import Derived.Test.YtnficndeblkjhaaGreatDoorGrp5
import Derived.Test.YtnficndeblkjhaaGreatDoorGrp6
namespace Go.Proofs.YtnficndeblkjhaaGreatDoor
open Go.RowKit

set_option maxRecDepth 100000 in
set_option maxHeartbeats 1600000 in
theorem i_committed (v : Value) (s : Sto) (w0 w : World) (hb : Below w0.heap.size w0 w) (hR : RowSt true v s w0) (hs : OkS s) :
    Calls Tryz.prog 69 #[v] w fun e w' => ∃ v', e = .returned v' ∧ Stb w0.heap.size w.heap.size (RowSt true v' (conS ⟨s.C, s.C, s.h, s.H, s.l⟩)) w' ∧ Below w.heap.size w w' := by
  obtain ⟨ca, kc, ra, kr, ha, kh, rfl, R1, R2, R3, R4⟩ := hR
  have hRS : RowSt true (stV s ca kc ra kr ha kh) s w0 := ⟨ca, kc, ra, kr, ha, kh, rfl, R1, R2, R3, R4⟩
  unfold stV
  unfold stV at hRS
  have M1 := (Mut.new w #[.slice ca s.C.n kc, .slice ca s.C.n kc, .slice ha s.h kh, .int .i64 s.l] 34).alloc (.cells #[.slice none 0 0, .slice none 0 0, .slice none 0 0, .int .i64 0] 34)
  have M2 := Mut.new (w.alloc (.cells #[.slice ca s.C.n kc, .slice ca s.C.n kc, .slice ha s.h kh, .int .i64 s.l] 34)) #[.slice none 0 0, .slice none 0 0, .slice none 0 0, .int .i64 0] 34
  have d1 : Below w.heap.size w ((w.alloc (.cells #[.slice ca s.C.n kc, .slice ca s.C.n kc, .slice ha s.h kh, .int .i64 s.l] 34)).alloc (.cells #[.slice none 0 0, .slice none 0 0, .slice none 0 0, .int .i64 0] 34)) := below_box2 (Below.refl _ _)
  simp only [World.size_alloc] at M2
  have hs2 : OkS ⟨s.C, s.C, s.h, s.H, s.l⟩ := ⟨hs.1, hs.1, hs.2.2⟩
  have CF := hide (fun W hB => i_confirmed (.agg #[.slice ca s.C.n kc, .slice ca s.C.n kc, .slice ha s.h kh, .int .i64 s.l]) ⟨s.C, s.C, s.h, s.H, s.l⟩ w0 W hB ⟨ca, kc, ca, kc, ha, kh, rfl, R1, R1, R3, R4⟩ hs2)
  generalize conS ⟨s.C, s.C, s.h, s.H, s.l⟩ = GA at *
  go_enter Tryz.func69, Tryz.ntmps69
  go_wp2_with fail
  generalize ((w.alloc (.cells #[.slice ca s.C.n kc, .slice ca s.C.n kc, .slice ha s.h kh, .int .i64 s.l] 34)).alloc (.cells #[.slice none 0 0, .slice none 0 0, .slice none 0 0, .int .i64 0] 34)) = w1 at *
  refine (CF.out _ (hb.trans ((d1).mono hb.size))).mono ?_
  rintro e w2 ⟨v2, rfl, hS, bb⟩
  have d2 := (d1).trans (bb.mono (d1).size)
  have hlt := M2.1
  have M22 := M2.below bb
  clear bb
  obtain ⟨cx, kx, rx, kr2, hx, kh2, hv2⟩ := hS.here.form
  subst hv2
  go_wp2_with (refine wpList_storeM (us := [.slice cx (GA).C.n kx, .slice rx (GA).R.n kr2, .slice hx (GA).h kh2, .int .i64 (GA).l]) rfl rfl rfl rfl M22 rfl (by intro v hv; simp only [List.mem_cons, List.not_mem_nil, or_false] at hv; rcases hv with rfl | rfl | rfl | rfl <;> rfl) sizeSto ?_; intro w9 M9 o9)
  have on := OnlyP.of_only (P := fun x => x = w.heap.size + 1) o9 rfl
  have e9 := d2.trans (on.below (base := w.heap.size) (fun x _ hx => by have h : x = w.heap.size + 1 := hx; omega) d2.size)
  have r0 := M9.2.1 0 _ rfl
  have r1 := M9.2.1 1 _ rfl
  have r2 := M9.2.1 2 _ rfl
  have r3 := M9.2.1 3 _ rfl
  have hb0 := hb.size
  have hS9 := (hS.only (on.mono (fun x _ hx => by have h : x = w.heap.size + 1 := hx; exact ⟨by omega, by omega⟩))).less (Nat.le_refl _) (d1).size
  refine bodyPost_ret (v := .agg #[.slice cx (GA).C.n kx, .slice rx (GA).R.n kr2, .slice hx (GA).h kh2, .int .i64 (GA).l]) (by simp [results, Tryz.results69, go_sem, r0, r1, r2, r3]) rfl (⟨_, rfl, hS9, e9⟩)
set_option maxRecDepth 100000 in
set_option maxHeartbeats 1600000 in
theorem i_confirmedInTime (v : Value) (s : Sto) (gl gr : Addr) (w0 w : World) (hG : GW gl gr w) (hb : Below w0.heap.size w0 w) (hR : RowSt true v s w0) (hs : OkS s) :
    Calls Tryz.prog 71 #[v] w (MetP gl gr w0 w.heap.size s (if s.l = 0 then (s, false) else (conS s, true)) w) := by
  obtain ⟨ca, kc, ra, kr, ha, kh, rfl, R1, R2, R3, R4⟩ := hR
  have hRS : RowSt true (stV s ca kc ra kr ha kh) s w0 := ⟨ca, kc, ra, kr, ha, kh, rfl, R1, R2, R3, R4⟩
  unfold stV
  unfold stV at hRS
  have M1 := (Mut.new w #[.slice ca s.C.n kc, .slice ra s.R.n kr, .slice ha s.h kh, .int .i64 s.l] 34).alloc (.cells #[.slice none 0 0, .slice none 0 0, .slice none 0 0, .int .i64 0] 34)
  have M2 := Mut.new (w.alloc (.cells #[.slice ca s.C.n kc, .slice ra s.R.n kr, .slice ha s.h kh, .int .i64 s.l] 34)) #[.slice none 0 0, .slice none 0 0, .slice none 0 0, .int .i64 0] 34
  have d1 : Below w.heap.size w ((w.alloc (.cells #[.slice ca s.C.n kc, .slice ra s.R.n kr, .slice ha s.h kh, .int .i64 s.l] 34)).alloc (.cells #[.slice none 0 0, .slice none 0 0, .slice none 0 0, .int .i64 0] 34)) := below_box2 (Below.refl _ _)
  simp only [World.size_alloc] at M2
  have RF := hide (fun W (hG : GW gl gr W) => i_refused (.agg #[.slice ca s.C.n kc, .slice ra s.R.n kr, .slice ha s.h kh, .int .i64 s.l]) s gl gr w0 W hG hRS)
  have CF := hide (fun W hB => i_confirmed (.agg #[.slice ca s.C.n kc, .slice ra s.R.n kr, .slice ha s.h kh, .int .i64 s.l]) s w0 W hB hRS hs)
  have hY : Hid (¬ s.l = 0 → (if s.l = 0 then (s, false) else (conS s, true)) = (conS s, true)) := fun a => if_neg a
  have hZ : Hid (s.l = 0 → (if s.l = 0 then (s, false) else (conS s, true)) = (s, false)) := fun a => if_pos a
  generalize (if s.l = 0 then (s, false) else (conS s, true)) = GB at *
  generalize conS s = GA at *
  by_cases k0 : s.l = 0
  · have hE := hide (hZ.out k0)
    have k1 : (s.l == 0) = true := by simp [k0]
    clear hY hZ CF k0
    go_enter Tryz.func71, Tryz.ntmps71
    go_wp2_with fail
    refine (RF.out _ (hG.below (d1))).mono ?_
    rintro e w2 ⟨b, rfl, hbb, FA, bb⟩
    have d2 := (d1).trans (bb.mono (d1).size)
    have M22 := (M2).below bb
    have hbk : w.heap.size + 1 < b := by have h := (M2).1; have h2 : ((w.alloc (.cells #[.slice ca s.C.n kc, .slice ra s.R.n kr, .slice ha s.h kh, .int .i64 s.l] 34)).alloc (.cells #[.slice none 0 0, .slice none 0 0, .slice none 0 0, .int .i64 0] 34)).heap.size ≤ b := hbb; omega
    clear bb
    unfold zSt
    go_wp2_with (refine wpList_storeM (us := [.slice none 0 0, .slice none 0 0, .slice none 0 0, .int .i64 0]) rfl rfl rfl rfl M22 rfl (by intro v hv; simp only [List.mem_cons, List.not_mem_nil, or_false] at hv; rcases hv with rfl | rfl | rfl | rfl <;> rfl) sizeSto ?_; intro w9 M9 o9)
    have on := OnlyP.of_only (P := fun x => x = w.heap.size + 1) o9 rfl
    have q9 := on.2.2.2.1
    have e9 := (d2).trans (on.below (base := w.heap.size) (fun x _ hx => by have h : x = w.heap.size + 1 := hx; omega) (d2).size)
    have b9 := hb.trans (e9.mono hb.size)
    have r0 := M9.2.1 0 _ rfl
    have r1 := M9.2.1 1 _ rfl
    have r2 := M9.2.1 2 _ rfl
    have r3 := M9.2.1 3 _ rfl
    refine bodyPost_ret (v := .tuple #[zSt, .iface 91 (.pointer (some ⟨b, 0, none⟩))]) (by simp [results, Tryz.results71, go_sem, zSt, r0, r1, r2, r3]) rfl (⟨e9, .inr (.inl ⟨b, rfl, by rw [hE.out], by omega, FA.onlyP on (fun h => by have h : b = w.heap.size + 1 := h; omega)⟩)⟩)
  have hE := hide (hY.out k0)
  have k1 : (s.l == 0) = false := by simp [k0]
  clear hY hZ RF k0
  go_enter Tryz.func71, Tryz.ntmps71
  go_wp2_with fail
  generalize ((w.alloc (.cells #[.slice ca s.C.n kc, .slice ra s.R.n kr, .slice ha s.h kh, .int .i64 s.l] 34)).alloc (.cells #[.slice none 0 0, .slice none 0 0, .slice none 0 0, .int .i64 0] 34)) = w1 at *
  refine (CF.out _ (hb.trans ((d1).mono hb.size))).mono ?_
  rintro e w2 ⟨v2, rfl, hS, bb⟩
  have d2 := (d1).trans (bb.mono (d1).size)
  have hlt := M2.1
  have M22 := M2.below bb
  clear bb
  obtain ⟨cx, kx, rx, kr2, hx, kh2, hv2⟩ := hS.here.form
  subst hv2
  go_wp2_with (refine wpList_storeM (us := [.slice cx (GA).C.n kx, .slice rx (GA).R.n kr2, .slice hx (GA).h kh2, .int .i64 (GA).l]) rfl rfl rfl rfl M22 rfl (by intro v hv; simp only [List.mem_cons, List.not_mem_nil, or_false] at hv; rcases hv with rfl | rfl | rfl | rfl <;> rfl) sizeSto ?_; intro w9 M9 o9)
  have on := OnlyP.of_only (P := fun x => x = w.heap.size + 1) o9 rfl
  have e9 := d2.trans (on.below (base := w.heap.size) (fun x _ hx => by have h : x = w.heap.size + 1 := hx; omega) d2.size)
  have r0 := M9.2.1 0 _ rfl
  have r1 := M9.2.1 1 _ rfl
  have r2 := M9.2.1 2 _ rfl
  have r3 := M9.2.1 3 _ rfl
  have hb0 := hb.size
  have hS9 := (hS.only (on.mono (fun x _ hx => by have h : x = w.heap.size + 1 := hx; exact ⟨by omega, by omega⟩))).less (Nat.le_refl _) (d1).size
  refine bodyPost_ret (v := .tuple #[.agg #[.slice cx (GA).C.n kx, .slice rx (GA).R.n kr2, .slice hx (GA).h kh2, .int .i64 (GA).l], .nilIface]) (by simp [results, Tryz.results71, go_sem, r0, r1, r2, r3]) rfl (⟨e9, .inl ⟨_, rfl, by rw [hE.out], by rw [hE.out]; exact hS9⟩⟩)
set_option maxRecDepth 100000 in
set_option maxHeartbeats 1600000 in
theorem i_committedFor (v : Value) (s : Sto) (gl gr : Addr) (w0 w : World) (hG : GW gl gr w) (hb : Below w0.heap.size w0 w) (hR : RowSt true v s w0) (N : Int) (hs : OkS s) :
    Calls Tryz.prog 70 #[v, .int .i64 N] w (MetP gl gr w0 w.heap.size s (if 1 ≤ N ∧ N ≤ 100 then (⟨s.C, s.C, s.h, s.H, if tB (SameC s.C (s.H 0)) then 0 else N⟩, true) else (s, false)) w) := by
  obtain ⟨ca, kc, ra, kr, ha, kh, rfl, R1, R2, R3, R4⟩ := hR
  have hRS : RowSt true (stV s ca kc ra kr ha kh) s w0 := ⟨ca, kc, ra, kr, ha, kh, rfl, R1, R2, R3, R4⟩
  unfold stV
  unfold stV at hRS
  have M1 := (Mut.new w #[.slice ca s.C.n kc, .slice ra s.R.n kr, .slice ha s.h kh, .int .i64 s.l] 34).alloc (.cells #[.slice none 0 0, .slice none 0 0, .slice none 0 0, .int .i64 0] 34)
  have M2 := Mut.new (w.alloc (.cells #[.slice ca s.C.n kc, .slice ra s.R.n kr, .slice ha s.h kh, .int .i64 s.l] 34)) #[.slice none 0 0, .slice none 0 0, .slice none 0 0, .int .i64 0] 34
  have d1 : Below w.heap.size w ((w.alloc (.cells #[.slice ca s.C.n kc, .slice ra s.R.n kr, .slice ha s.h kh, .int .i64 s.l] 34)).alloc (.cells #[.slice none 0 0, .slice none 0 0, .slice none 0 0, .int .i64 0] 34)) := below_box2 (Below.refl _ _)
  simp only [World.size_alloc] at M2
  have RF := hide (fun W (hG : GW gl gr W) => i_refused (.agg #[.slice ca s.C.n kc, .slice ra s.R.n kr, .slice ha s.h kh, .int .i64 s.l]) s gl gr w0 W hG hRS)
  have hY : Hid (1 ≤ N → N ≤ 100 → (if 1 ≤ N ∧ N ≤ 100 then (⟨s.C, s.C, s.h, s.H, if tB (SameC s.C (s.H 0)) then 0 else N⟩, true) else (s, false)) = (⟨s.C, s.C, s.h, s.H, if tB (SameC s.C (s.H 0)) then 0 else N⟩, true)) := fun a b => if_pos ⟨a, b⟩
  have hZ : Hid (¬ (1 ≤ N ∧ N ≤ 100) → (if 1 ≤ N ∧ N ≤ 100 then (⟨s.C, s.C, s.h, s.H, if tB (SameC s.C (s.H 0)) then 0 else N⟩, true) else (s, false)) = (s, false)) := fun a => if_neg a
  generalize (if 1 ≤ N ∧ N ≤ 100 then (⟨s.C, s.C, s.h, s.H, if tB (SameC s.C (s.H 0)) then 0 else N⟩, true) else (s, false)) = GB at *
  by_cases k1 : N < 1
  · have hE := hide (hZ.out (by omega))
    clear hY hZ
    go_enter Tryz.func70, Tryz.ntmps70
    go_wp2_with fail
    refine (RF.out _ (hG.below (d1))).mono ?_
    rintro e w2 ⟨b, rfl, hbb, FA, bb⟩
    have d2 := (d1).trans (bb.mono (d1).size)
    have M22 := (M2).below bb
    have hbk : w.heap.size + 1 < b := by have h := (M2).1; have h2 : ((w.alloc (.cells #[.slice ca s.C.n kc, .slice ra s.R.n kr, .slice ha s.h kh, .int .i64 s.l] 34)).alloc (.cells #[.slice none 0 0, .slice none 0 0, .slice none 0 0, .int .i64 0] 34)).heap.size ≤ b := hbb; omega
    clear bb
    unfold zSt
    go_wp2_with (refine wpList_storeM (us := [.slice none 0 0, .slice none 0 0, .slice none 0 0, .int .i64 0]) rfl rfl rfl rfl M22 rfl (by intro v hv; simp only [List.mem_cons, List.not_mem_nil, or_false] at hv; rcases hv with rfl | rfl | rfl | rfl <;> rfl) sizeSto ?_; intro w9 M9 o9)
    have on := OnlyP.of_only (P := fun x => x = w.heap.size + 1) o9 rfl
    have q9 := on.2.2.2.1
    have e9 := (d2).trans (on.below (base := w.heap.size) (fun x _ hx => by have h : x = w.heap.size + 1 := hx; omega) (d2).size)
    have b9 := hb.trans (e9.mono hb.size)
    have r0 := M9.2.1 0 _ rfl
    have r1 := M9.2.1 1 _ rfl
    have r2 := M9.2.1 2 _ rfl
    have r3 := M9.2.1 3 _ rfl
    refine bodyPost_ret (v := .tuple #[zSt, .iface 91 (.pointer (some ⟨b, 0, none⟩))]) (by simp [results, Tryz.results70, go_sem, zSt, r0, r1, r2, r3]) rfl (⟨e9, .inr (.inl ⟨b, rfl, by rw [hE.out], by omega, FA.onlyP on (fun h => by have h : b = w.heap.size + 1 := h; omega)⟩)⟩)
  by_cases k2 : 100 < N
  · have hE := hide (hZ.out (by omega))
    clear hY hZ
    go_enter Tryz.func70, Tryz.ntmps70
    go_wp2_with fail
    refine (RF.out _ (hG.below (d1))).mono ?_
    rintro e w2 ⟨b, rfl, hbb, FA, bb⟩
    have d2 := (d1).trans (bb.mono (d1).size)
    have M22 := (M2).below bb
    have hbk : w.heap.size + 1 < b := by have h := (M2).1; have h2 : ((w.alloc (.cells #[.slice ca s.C.n kc, .slice ra s.R.n kr, .slice ha s.h kh, .int .i64 s.l] 34)).alloc (.cells #[.slice none 0 0, .slice none 0 0, .slice none 0 0, .int .i64 0] 34)).heap.size ≤ b := hbb; omega
    clear bb
    unfold zSt
    go_wp2_with (refine wpList_storeM (us := [.slice none 0 0, .slice none 0 0, .slice none 0 0, .int .i64 0]) rfl rfl rfl rfl M22 rfl (by intro v hv; simp only [List.mem_cons, List.not_mem_nil, or_false] at hv; rcases hv with rfl | rfl | rfl | rfl <;> rfl) sizeSto ?_; intro w9 M9 o9)
    have on := OnlyP.of_only (P := fun x => x = w.heap.size + 1) o9 rfl
    have q9 := on.2.2.2.1
    have e9 := (d2).trans (on.below (base := w.heap.size) (fun x _ hx => by have h : x = w.heap.size + 1 := hx; omega) (d2).size)
    have b9 := hb.trans (e9.mono hb.size)
    have r0 := M9.2.1 0 _ rfl
    have r1 := M9.2.1 1 _ rfl
    have r2 := M9.2.1 2 _ rfl
    have r3 := M9.2.1 3 _ rfl
    refine bodyPost_ret (v := .tuple #[zSt, .iface 91 (.pointer (some ⟨b, 0, none⟩))]) (by simp [results, Tryz.results70, go_sem, zSt, r0, r1, r2, r3]) rfl (⟨e9, .inr (.inl ⟨b, rfl, by rw [hE.out], by omega, FA.onlyP on (fun h => by have h : b = w.heap.size + 1 := h; omega)⟩)⟩)
  have hE := hide (hY.out (by omega) (by omega))
  clear hY hZ RF M1 M2 d1
  obtain ⟨o1, o2, o3, o4, o5, o6, o7⟩ := hs
  have RN := hide (fun w R => i_runsNewest (stV ⟨s.C, s.C, s.h, s.H, N⟩ ca kc ca kc ha kh) ⟨s.C, s.C, s.h, s.H, N⟩ w o3 o1.low.1 o1.low.2 (o5 0 (by omega)).low.1 R)
  unfold stV at RN
  have hR3 : RowSt true (.agg #[.slice ca s.C.n kc, .slice ca s.C.n kc, .slice ha s.h kh, .int .i64 N]) ⟨s.C, s.C, s.h, s.H, N⟩ w0 := ⟨ca, kc, ca, kc, ha, kh, rfl, R1, R1, R3, R4⟩
  have M1 := (Mut.new w #[.slice ca s.C.n kc, .slice ca s.C.n kc, .slice ha s.h kh, .int .i64 N] 34).alloc (.cells #[.slice none 0 0, .slice none 0 0, .slice none 0 0, .int .i64 0] 34)
  have M2 := Mut.new (w.alloc (.cells #[.slice ca s.C.n kc, .slice ca s.C.n kc, .slice ha s.h kh, .int .i64 N] 34)) #[.slice none 0 0, .slice none 0 0, .slice none 0 0, .int .i64 0] 34
  have d1 : Below w.heap.size w ((w.alloc (.cells #[.slice ca s.C.n kc, .slice ca s.C.n kc, .slice ha s.h kh, .int .i64 N] 34)).alloc (.cells #[.slice none 0 0, .slice none 0 0, .slice none 0 0, .int .i64 0] 34)) := below_box2 (Below.refl _ _)
  simp only [World.size_alloc] at M2
  go_enter Tryz.func70, Tryz.ntmps70
  go_wp2_with fail
  generalize ((w.alloc (.cells #[.slice ca s.C.n kc, .slice ca s.C.n kc, .slice ha s.h kh, .int .i64 N] 34)).alloc (.cells #[.slice none 0 0, .slice none 0 0, .slice none 0 0, .int .i64 0] 34)) = w1 at *
  refine (RN.out _ (hR3.below (hb.trans (d1.mono hb.size))).any).mono ?_
  rintro e w2 ⟨rfl, bb⟩
  replace M1 := M1.below bb
  replace M2 := M2.below bb
  have d2 := d1.trans (bb.mono d1.size)
  clear bb RN
  have v0 := M1.2.1 0 _ rfl
  have v1 := M1.2.1 1 _ rfl
  have v2 := M1.2.1 2 _ rfl
  have v3 := M1.2.1 3 _ rfl
  have f3 := M1.2.2 3 (by simp)
  by_cases hsm : SameC s.C (s.H 0)
  · have hE := hide (hE.out.trans (by rw [if_pos (tB_t hsm)]))
    rw [tB_t hsm]
    go_wp2_with (refine wpList_storeM (us := [.slice ca s.C.n kc, .slice ca s.C.n kc, .slice ha s.h kh, .int .i64 0]) rfl rfl rfl rfl (M2.other (c := w.heap.size) (by omega) 3 (.int .i64 0)) rfl (by intro v hv; simp only [List.mem_cons, List.not_mem_nil, or_false] at hv; rcases hv with rfl | rfl | rfl | rfl <;> rfl) sizeSto ?_; intro w9 M9 o9)
    have dA := d2.setCell (p := ⟨w.heap.size, 3, none⟩) (Nat.le_refl _) (.int .i64 0)
    have on := OnlyP.of_only (P := fun x => x = w.heap.size + 1) o9 rfl
    have q9 := on.2.2.2.1
    have e9 := (dA).trans (on.below (base := w.heap.size) (fun x _ hx => by have h : x = w.heap.size + 1 := hx; omega) (dA).size)
    have b9 := hb.trans (e9.mono hb.size)
    have r0 := M9.2.1 0 _ rfl
    have r1 := M9.2.1 1 _ rfl
    have r2 := M9.2.1 2 _ rfl
    have r3 := M9.2.1 3 _ rfl
    refine bodyPost_ret (v := .tuple #[.agg #[.slice ca s.C.n kc, .slice ca s.C.n kc, .slice ha s.h kh, .int .i64 0], .nilIface]) (by simp [results, Tryz.results70, go_sem, r0, r1, r2, r3]) rfl (⟨e9, .inl ⟨_, rfl, by rw [hE.out], by rw [hE.out]; exact Stb.old (fun w' b => RowSt.below (s := ⟨s.C, s.C, s.h, s.H, 0⟩) ⟨ca, kc, ca, kc, ha, kh, rfl, R1, R1, R3, R4⟩ b) b9⟩⟩)
  · have hE := hide (hE.out.trans (by rw [if_neg (by simp [tB_f hsm])]))
    rw [tB_f hsm]
    go_wp2_with (refine wpList_storeM (us := [.slice ca s.C.n kc, .slice ca s.C.n kc, .slice ha s.h kh, .int .i64 N]) rfl rfl rfl rfl M2 rfl (by intro v hv; simp only [List.mem_cons, List.not_mem_nil, or_false] at hv; rcases hv with rfl | rfl | rfl | rfl <;> rfl) sizeSto ?_; intro w9 M9 o9)
    have on := OnlyP.of_only (P := fun x => x = w.heap.size + 1) o9 rfl
    have q9 := on.2.2.2.1
    have e9 := (d2).trans (on.below (base := w.heap.size) (fun x _ hx => by have h : x = w.heap.size + 1 := hx; omega) (d2).size)
    have b9 := hb.trans (e9.mono hb.size)
    have r0 := M9.2.1 0 _ rfl
    have r1 := M9.2.1 1 _ rfl
    have r2 := M9.2.1 2 _ rfl
    have r3 := M9.2.1 3 _ rfl
    refine bodyPost_ret (v := .tuple #[.agg #[.slice ca s.C.n kc, .slice ca s.C.n kc, .slice ha s.h kh, .int .i64 N], .nilIface]) (by simp [results, Tryz.results70, go_sem, r0, r1, r2, r3]) rfl (⟨e9, .inl ⟨_, rfl, by rw [hE.out], by rw [hE.out]; exact Stb.old (fun w' b => hR3.below b) b9⟩⟩)
end Go.Proofs.YtnficndeblkjhaaGreatDoor
