/- One op of the specification, whatever it is. -/
import Derived.Test.YtnficndeblkjhaaGreatDoorGrp15
import Derived.Test.YtnficndeblkjhaaGreatDoorGrp16
import Derived.Test.YtnficndeblkjhaaGreatDoorGrp17
import Derived.Test.YtnficndeblkjhaaGreatDoorS16i5
import Derived.Test.YtnficndeblkjhaaGreatDoorGrp18
/- An op done by the specification, kind 8. -/
namespace Go.Proofs.YtnficndeblkjhaaGreatDoor
open Go.RowKit

set_option maxRecDepth 100000 in
set_option maxHeartbeats 1600000 in
theorem s_step8 (P : Nat → Prop) (v : Value) (s : Sto) (o : OpX) (pa : Option Addr) (pc : Nat) (w : World) (hP : ∀ k, P k → k < w.heap.size) (hS : StF P v s w) (hs : OkS s) (hn : o.n ≤ 1048576) (hp : ∀ i, i < o.n → (o.p i).size ≤ maxLen) (hv : o.v.size ≤ maxLen) (hQ : RowStr pa o.n o.p w) (hW : WellX o) (hk : o.k = 8) :
    Calls Tryz.prog 29 #[v, .agg #[.int .i64 o.k, .slice pa o.n pc, .string o.v, .int .i64 o.N]] w (SteP P (stepX s o) w) := by
  have q1 : (o.k == 1) = false := by simp; omega
  have q2 : (o.k == 2) = false := by simp; omega
  have q3 : (o.k == 3) = false := by simp; omega
  have q4 : (o.k == 4) = false := by simp; omega
  have q5 : (o.k == 5) = false := by simp; omega
  have q6 : (o.k == 6) = false := by simp; omega
  have q7 : (o.k == 7) = false := by simp; omega
  have q8 : (o.k == 8) = true := by simp; omega
  replace hk := hide hk
  obtain ⟨ca, kc, ra, kr, ha, kh, a, c, rfl, hkh, hS⟩ := hS
  unfold stV
  have M1 := ((Mut.new w #[.slice ca s.C.n kc, .slice ra s.R.n kr, .slice ha s.h kh, .int .i64 s.l] 34).alloc (.cells #[.int .i64 o.k, .slice pa o.n pc, .string o.v, .int .i64 o.N] 38)).alloc (.cells #[.slice none 0 0, .slice none 0 0, .slice none 0 0, .int .i64 0] 34)
  have MO := (Mut.new (w.alloc (.cells #[.slice ca s.C.n kc, .slice ra s.R.n kr, .slice ha s.h kh, .int .i64 s.l] 34)) #[.int .i64 o.k, .slice pa o.n pc, .string o.v, .int .i64 o.N] 38).alloc (.cells #[.slice none 0 0, .slice none 0 0, .slice none 0 0, .int .i64 0] 34)
  have M2 := Mut.new ((w.alloc (.cells #[.slice ca s.C.n kc, .slice ra s.R.n kr, .slice ha s.h kh, .int .i64 s.l] 34)).alloc (.cells #[.int .i64 o.k, .slice pa o.n pc, .string o.v, .int .i64 o.N] 38)) #[.slice none 0 0, .slice none 0 0, .slice none 0 0, .int .i64 0] 34
  have d1 : Below w.heap.size w (((w.alloc (.cells #[.slice ca s.C.n kc, .slice ra s.R.n kr, .slice ha s.h kh, .int .i64 s.l] 34)).alloc (.cells #[.int .i64 o.k, .slice pa o.n pc, .string o.v, .int .i64 o.N] 38)).alloc (.cells #[.slice none 0 0, .slice none 0 0, .slice none 0 0, .int .i64 0] 34)) := below_box3 (Below.refl _ _)
  simp only [World.size_alloc] at MO M2
  have HO := hide (fun W R => s_l16Op o pa pc W hn hp hv R)
  have hPx := hide (fun k => bx_lt (P := P) (w := w) hP (k := k))
  replace hP := hide hP
  have j0 := MO.2.1 0 _ rfl
  have j1 := MO.2.1 1 _ rfl
  have j2 := MO.2.1 2 _ rfl
  have j3 := MO.2.1 3 _ rfl
  go_enter Tryz.func29, Tryz.ntmps29
  go_wp2_with fail
  clear j0 j1 j2 j3
  generalize (((w.alloc (.cells #[.slice ca s.C.n kc, .slice ra s.R.n kr, .slice ha s.h kh, .int .i64 s.l] 34)).alloc (.cells #[.int .i64 o.k, .slice pa o.n pc, .string o.v, .int .i64 o.N] 38)).alloc (.cells #[.slice none 0 0, .slice none 0 0, .slice none 0 0, .int .i64 0] 34)) = wa at *
  refine (HO.out _ (hQ.below d1)).mono ?_
  rintro e w1 ⟨rfl, bb⟩
  replace M1 := M1.below bb
  replace MO := MO.below bb
  replace M2 := M2.below bb
  replace d1 := d1.trans (bb.mono d1.size)
  have hw2 : w.heap.size + 1 + 1 < w1.heap.size := M2.1
  clear bb HO
  replace hS : StP (BxP P w) (HasSt s ca ra ha a c) w1 := hS.more d1 (fun x hx hq => by rcases hq with hq | hq; exact hq; omega)
  have k0 := M1.2.1 0 _ rfl
  have k1 := M1.2.1 1 _ rfl
  have k2 := M1.2.1 2 _ rfl
  have k3 := M1.2.1 3 _ rfl
  have j0 := MO.2.1 0 _ rfl
  have j1 := MO.2.1 1 _ rfl
  have j2 := MO.2.1 2 _ rfl
  have j3 := MO.2.1 3 _ rfl
  have f0 := M1.2.2 0 (by simp)
  have f1 := M1.2.2 1 (by simp)
  have f3 := M1.2.2 3 (by simp)
  rw [tB_t hW]
  have hr := hide ((stepX_yes (s := s) (well_need hW)).trans (opX_8 (s := s) hk.out))
  replace hW := hide hW
  have hZ : Hid (s.l = 0 → (stepX s o) = (s, false)) := fun h => by rw [hr.out, if_pos h]
  have hY : Hid (s.l ≠ 0 → s.l - 1 = 0 → (stepX s o) = (⟨s.C, s.H 0, s.h, s.H, 0⟩, true)) := fun h k => by rw [hr.out, if_neg h, if_pos k]
  have hX : Hid (s.l ≠ 0 → ¬ s.l - 1 = 0 → (stepX s o) = (⟨s.C, s.R, s.h, s.H, s.l - 1⟩, true)) := fun h k => by rw [hr.out, if_neg h, if_neg k]
  have hlo : 0 ≤ s.l := hs.2.2.2.2.2.1
  have hhi : s.l ≤ 100 := hs.2.2.2.2.2.2
  by_cases hl : s.l = 0
  · have z1 : (s.l == 0) = true := by simp [hl]
    replace hl := hide hl
    go_wp2_with (refine wpList_storeM (us := [.slice ca s.C.n kc, .slice ra s.R.n kr, .slice ha s.h kh, .int .i64 s.l]) rfl rfl rfl rfl M2 rfl (by intro v hv; simp only [List.mem_cons, List.not_mem_nil, or_false] at hv; rcases hv with rfl | rfl | rfl | rfl <;> rfl) sizeSto ?_; intro w9 M9 o9)
    have on := OnlyP.of_only (P := fun x => x = w.heap.size + 1 + 1) o9 rfl
    have e9 := (d1).trans (on.below (base := w.heap.size) (fun x _ hx => by have h : x = w.heap.size + 1 + 1 := hx; omega) (d1).size)
    have r0 := M9.2.1 0 _ rfl
    have r1 := M9.2.1 1 _ rfl
    have r2 := M9.2.1 2 _ rfl
    have r3 := M9.2.1 3 _ rfl
    exact bodyPost_ret (v := .tuple #[.agg #[.slice ca s.C.n kc, .slice ra s.R.n kr, .slice ha s.h kh, .int .i64 s.l], .bool false]) (by simp [results, Tryz.results29, go_sem, r0, r1, r2, r3]) rfl ⟨e9, _, by rw [hZ.out hl.out], ⟨_, _, _, _, _, _, _, _, _, _, rfl⟩, fun h => by rw [hZ.out hl.out] at h; exact absurd h (by simp)⟩
  have z1 : (s.l == 0) = false := by simp [hl]
  replace hl := hide hl
  by_cases hl1 : s.l - 1 = 0
  case neg =>
    have z2 : (s.l - 1 == 0) = false := by simp only [beq_eq_false_iff_ne]; exact hl1
    have hE := hide (hX.out hl.out hl1)
    clear hX hY hZ hl1
    go_wp2_with (refine wpList_storeM (us := [.slice ca s.C.n kc, .slice ra s.R.n kr, .slice ha s.h kh, .int .i64 (s.l - 1)]) rfl rfl rfl rfl (M2.other (c := w.heap.size) (by omega) 3 (.int .i64 (s.l - 1))) rfl (by intro v hv; simp only [List.mem_cons, List.not_mem_nil, or_false] at hv; rcases hv with rfl | rfl | rfl | rfl <;> rfl) sizeSto ?_; intro w9 M9 o9)
    have on := OnlyP.of_only (P := fun x => x = w.heap.size + 1 + 1) o9 rfl
    have onB : OnlyP (BxP P w) _ w9 := on.mono (fun x _ hx => .inr ⟨by have hx : x = w.heap.size + 1 + 1 := hx; omega, by have hx : x = w.heap.size + 1 + 1 := hx; omega⟩)
    have e9 := (d1.setCell (p := ⟨w.heap.size, 3, none⟩) (Nat.le_refl _) (.int .i64 (s.l - 1))).trans (on.below (base := w.heap.size) (fun x _ hx => by have h : x = w.heap.size + 1 + 1 := hx; omega) (d1.setCell (p := ⟨w.heap.size, 3, none⟩) (Nat.le_refl _) (.int .i64 (s.l - 1))).size)
    have r0 := M9.2.1 0 _ rfl
    have r1 := M9.2.1 1 _ rfl
    have r2 := M9.2.1 2 _ rfl
    have r3 := M9.2.1 3 _ rfl
    have on0 : OnlyP (BxP P w) w1 (w1.setCell ⟨w.heap.size, 3, none⟩ (.int .i64 (s.l - 1))) := (OnlyP.refl _ w1).set15 (.inr ⟨Nat.le_refl _, by omega⟩) _ _
    have onA := on0.trans onB
    have hF : StF P (.agg #[.slice ca s.C.n kc, .slice ra s.R.n kr, .slice ha s.h kh, .int .i64 (s.l - 1)]) (⟨s.C, s.R, s.h, s.H, s.l - 1⟩) w9 := ⟨_, _, _, _, _, _, a, c, rfl, hkh, fun X oX => hS X (onA.trans (oX.mono (fun x _ hx => (.inl hx : BxP P w x))))⟩
    exact bodyPost_ret (v := .tuple #[.agg #[.slice ca s.C.n kc, .slice ra s.R.n kr, .slice ha s.h kh, .int .i64 (s.l - 1)], .bool true]) (by simp [results, Tryz.results29, go_sem, r0, r1, r2, r3]) rfl ⟨e9, _, by rw [hE.out], ⟨_, _, _, _, _, _, _, _, _, _, rfl⟩, fun _ => by rw [hE.out]; exact hF⟩
  have z2 : (s.l - 1 == 0) = true := by simp only [beq_iff_eq]; exact hl1
  have hE := hide (hY.out hl.out hl1)
  have hl2 := hide hl1
  clear hX hY hZ hl1
  have h1 := hs.2.2.1
  have hh1 : (0 : Int) < (s.h : Int) := by omega
  have on0 : OnlyP (BxP P w) w1 (w1.setCell ⟨w.heap.size, 3, none⟩ (.int .i64 (s.l - 1))) := (OnlyP.refl _ w1).set15 (.inr ⟨Nat.le_refl _, by omega⟩) _ _
  have d2 := d1.setCell (p := ⟨w.heap.size, 3, none⟩) (Nat.le_refl _) (.int .i64 (s.l - 1))
  have M21 := M2.other (c := w.heap.size) (by omega) 3 (.int .i64 (s.l - 1))
  have M11 := M1.set 3 (.int .i64 (s.l - 1))
  replace hS := hS.only on0
  have hz3 := M21.1
  obtain ⟨bh, oh, hva, hbw, u0⟩ := hS.here.2.2.1 0 _ (hdX_at (by omega))
  subst hva
  rw [Nat.add_zero] at u0
  have OW := hide (fun W R => s_ownAns (s.H 0) (hs.2.2.2.2.1 0 (by omega)).own (a 0) (c 0) W R)
  have hR0 := hide ((hS.here.2.2.2 0 (by omega)).any)
  clear h1
  go_wp2_with fail
  generalize (w1.setCell ⟨w.heap.size, 3, none⟩ (.int .i64 (s.l - 1))) = w3 at *
  clear on0 d1 M1 M2 MO k0 k1 k2 k3 f0 f1 f3 j0 j1 j2 j3
  refine (OW.out _ hR0.out).mono ?_
  rintro e w2 ⟨va, vc, rfl, hA, bb⟩
  replace M11 := M11.below bb
  replace M21 := M21.below bb
  have d3 := d2.trans (bb.mono d2.size)
  have hz : w.heap.size + 3 ≤ w3.heap.size := by have := hw2; have := hz3; omega
  replace hS := hS.below bb
  clear bb OW hR0 u0 d2
  have k0 := M11.2.1 0 _ rfl
  have k1 := M11.2.1 1 _ rfl
  have k2 := M11.2.1 2 _ rfl
  have k3 := M11.2.1 3 _ rfl
  have f1 := M11.2.2 1 (by simp)
  go_wp2_with (refine wpList_storeM (us := [.slice ca s.C.n kc, .slice va (s.H 0).n vc, .slice (some ⟨bh, oh, none⟩) s.h kh, .int .i64 (s.l - 1)]) rfl rfl rfl rfl (M21.other (c := w.heap.size) (by omega) 1 (.slice va (s.H 0).n vc)) rfl (by intro v hv; simp only [List.mem_cons, List.not_mem_nil, or_false] at hv; rcases hv with rfl | rfl | rfl | rfl <;> rfl) sizeSto ?_; intro w9 M9 o9)
  have on := OnlyP.of_only (P := fun x => x = w.heap.size + 1 + 1) o9 rfl
  have onB : OnlyP (BxP P w) _ w9 := on.mono (fun x _ hx => .inr ⟨by have hx : x = w.heap.size + 1 + 1 := hx; omega, by have hx : x = w.heap.size + 1 + 1 := hx; omega⟩)
  have e9 := (d3.setCell (p := ⟨w.heap.size, 1, none⟩) (Nat.le_refl _) (.slice va (s.H 0).n vc)).trans (on.below (base := w.heap.size) (fun x _ hx => by have h : x = w.heap.size + 1 + 1 := hx; omega) (d3.setCell (p := ⟨w.heap.size, 1, none⟩) (Nat.le_refl _) (.slice va (s.H 0).n vc)).size)
  have r0 := M9.2.1 0 _ rfl
  have r1 := M9.2.1 1 _ rfl
  have r2 := M9.2.1 2 _ rfl
  have r3 := M9.2.1 3 _ rfl
  have hAP := hA.stP (P := BxP P w) (fun x hx => by have := hPx.out x hx; omega)
  have on0 : OnlyP (BxP P w) w2 (w2.setCell ⟨w.heap.size, 1, none⟩ (.slice va (s.H 0).n vc)) := (OnlyP.refl _ w2).set15 (.inr ⟨Nat.le_refl _, by omega⟩) _ _
  have onA := on0.trans onB
  have hF : StF P (.agg #[.slice ca s.C.n kc, .slice va (s.H 0).n vc, .slice (some ⟨bh, oh, none⟩) s.h kh, .int .i64 (s.l - 1)]) (⟨s.C, s.H 0, s.h, s.H, s.l - 1⟩) w9 := ⟨_, _, _, _, _, _, a, c, rfl, hkh, fun X oX => by
    have oX := onA.trans (oX.mono (fun x _ hx => (.inl hx : BxP P w x)))
    obtain ⟨x1, x2, x3, x4⟩ := hS X oX
    exact ⟨x1, hAP X oX, x3, x4⟩⟩
  have el : (⟨s.C, s.H 0, s.h, s.H, s.l - 1⟩ : Sto) = ⟨s.C, s.H 0, s.h, s.H, 0⟩ := by rw [hl2.out]
  exact bodyPost_ret (v := .tuple #[.agg #[.slice ca s.C.n kc, .slice va (s.H 0).n vc, .slice (some ⟨bh, oh, none⟩) s.h kh, .int .i64 (s.l - 1)], .bool true]) (by simp [results, Tryz.results29, go_sem, r0, r1, r2, r3]) rfl ⟨e9, _, by rw [hE.out], ⟨_, _, _, _, _, _, _, _, _, _, rfl⟩, fun _ => by rw [hE.out]; exact el ▸ hF⟩
end Go.Proofs.YtnficndeblkjhaaGreatDoor

namespace Go.Proofs.YtnficndeblkjhaaGreatDoor
open Go.RowKit

theorem s_step (P : Nat → Prop) (v : Value) (s : Sto) (o : OpX) (pa : Option Addr) (pc : Nat) (w : World) (hP : ∀ k, P k → k < w.heap.size) (hS : StF P v s w) (hs : OkS s) (hn : o.n ≤ 1048576) (hp : ∀ i, i < o.n → (o.p i).size ≤ maxLen) (hv : o.v.size ≤ maxLen) (hQ : RowStr pa o.n o.p w) :
    Calls Tryz.prog 29 #[v, .agg #[.int .i64 o.k, .slice pa o.n pc, .string o.v, .int .i64 o.N]] w (SteP P (stepX s o) w) := by
  by_cases hW : WellX o
  · have h : o.k = 1 ∨ o.k = 2 ∨ o.k = 3 ∨ o.k = 4 ∨ o.k = 5 ∨ o.k = 6 ∨ o.k = 7 ∨ o.k = 8 := by
      rcases hW with q | q | q | q | q <;> omega
    rcases h with k | k | k | k | k | k | k | k
    · exact s_step1 P v s o pa pc w hP hS hs hn hp hv hQ hW k
    · exact s_step2 P v s o pa pc w hP hS hs hn hp hv hQ hW k
    · exact s_step3 P v s o pa pc w hP hS hs hn hp hv hQ hW k
    · exact s_step4 P v s o pa pc w hP hS hs hn hp hv hQ hW k
    · exact s_step5 P v s o pa pc w hP hS hs hn hp hv hQ hW k
    · exact s_step6 P v s o pa pc w hP hS hs hn hp hv hQ hW k
    · exact s_step7 P v s o pa pc w hP hS hs hn hp hv hQ hW k
    · exact s_step8 P v s o pa pc w hP hS hs hn hp hv hQ hW k
  · exact s_step0 P v s o pa pc w hP hS hs hn hp hv hQ hW
end Go.Proofs.YtnficndeblkjhaaGreatDoor
