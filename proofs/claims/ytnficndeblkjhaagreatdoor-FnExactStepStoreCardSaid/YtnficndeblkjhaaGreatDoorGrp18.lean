/- An op done by the specification, kind 7. -/
import Derived.Test.YtnficndeblkjhaaGreatDoorGrp15
/- An op done by the specification, kind 6. -/
namespace Go.Proofs.YtnficndeblkjhaaGreatDoor
open Go.RowKit

set_option maxRecDepth 100000 in
set_option maxHeartbeats 1600000 in
theorem s_step6 (P : Nat → Prop) (v : Value) (s : Sto) (o : OpX) (pa : Option Addr) (pc : Nat) (w : World) (hP : ∀ k, P k → k < w.heap.size) (hS : StF P v s w) (hs : OkS s) (hn : o.n ≤ 1048576) (hp : ∀ i, i < o.n → (o.p i).size ≤ maxLen) (hv : o.v.size ≤ maxLen) (hQ : RowStr pa o.n o.p w) (hW : WellX o) (hk : o.k = 6) :
    Calls Tryz.prog 29 #[v, .agg #[.int .i64 o.k, .slice pa o.n pc, .string o.v, .int .i64 o.N]] w (SteP P (stepX s o) w) := by
  have q1 : (o.k == 1) = false := by simp; omega
  have q2 : (o.k == 2) = false := by simp; omega
  have q3 : (o.k == 3) = false := by simp; omega
  have q4 : (o.k == 4) = false := by simp; omega
  have q5 : (o.k == 5) = false := by simp; omega
  have q6 : (o.k == 6) = true := by simp; omega
  have q7 : (o.k == 7) = false := by simp; omega
  have q8 : (o.k == 8) = false := by simp; omega
  replace hk := hide hk
  obtain ⟨ca, kc, ra, kr, ha, kh, a, c, rfl, hkh, hS⟩ := hS
  unfold stV
  have M1 := ((Mut.new w #[.slice ca s.C.n kc, .slice ra s.R.n kr, .slice ha s.h kh, .int .i64 s.l] 34).alloc (.cells #[.int .i64 o.k, .slice pa o.n pc, .string o.v, .int .i64 o.N] 38)).alloc (.cells #[.slice none 0 0, .slice none 0 0, .slice none 0 0, .int .i64 0] 34)
  have MO := (Mut.new (w.alloc (.cells #[.slice ca s.C.n kc, .slice ra s.R.n kr, .slice ha s.h kh, .int .i64 s.l] 34)) #[.int .i64 o.k, .slice pa o.n pc, .string o.v, .int .i64 o.N] 38).alloc (.cells #[.slice none 0 0, .slice none 0 0, .slice none 0 0, .int .i64 0] 34)
  have M2 := Mut.new ((w.alloc (.cells #[.slice ca s.C.n kc, .slice ra s.R.n kr, .slice ha s.h kh, .int .i64 s.l] 34)).alloc (.cells #[.int .i64 o.k, .slice pa o.n pc, .string o.v, .int .i64 o.N] 38)) #[.slice none 0 0, .slice none 0 0, .slice none 0 0, .int .i64 0] 34
  have d1 : Below w.heap.size w (((w.alloc (.cells #[.slice ca s.C.n kc, .slice ra s.R.n kr, .slice ha s.h kh, .int .i64 s.l] 34)).alloc (.cells #[.int .i64 o.k, .slice pa o.n pc, .string o.v, .int .i64 o.N] 38)).alloc (.cells #[.slice none 0 0, .slice none 0 0, .slice none 0 0, .int .i64 0] 34)) := below_box3 (Below.refl _ _)
  simp only [World.size_alloc] at MO M2
  have HO := hide (fun W R => s_l16Op o pa pc W hn hp hv R)
  have hPx := hide (fun k => bx_lt (P := P) (w := w) hP (k := k))
  replace hP := hide hP
  have j0 := MO.2.1 0 _ rfl
  have j1 := MO.2.1 1 _ rfl
  have j2 := MO.2.1 2 _ rfl
  have j3 := MO.2.1 3 _ rfl
  go_enter Tryz.func29, Tryz.ntmps29
  go_wp2_with fail
  clear j0 j1 j2 j3
  generalize (((w.alloc (.cells #[.slice ca s.C.n kc, .slice ra s.R.n kr, .slice ha s.h kh, .int .i64 s.l] 34)).alloc (.cells #[.int .i64 o.k, .slice pa o.n pc, .string o.v, .int .i64 o.N] 38)).alloc (.cells #[.slice none 0 0, .slice none 0 0, .slice none 0 0, .int .i64 0] 34)) = wa at *
  refine (HO.out _ (hQ.below d1)).mono ?_
  rintro e w1 ⟨rfl, bb⟩
  replace M1 := M1.below bb
  replace MO := MO.below bb
  replace M2 := M2.below bb
  replace d1 := d1.trans (bb.mono d1.size)
  have hw2 : w.heap.size + 1 + 1 < w1.heap.size := M2.1
  clear bb HO
  replace hS : StP (BxP P w) (HasSt s ca ra ha a c) w1 := hS.more d1 (fun x hx hq => by rcases hq with hq | hq; exact hq; omega)
  have k0 := M1.2.1 0 _ rfl
  have k1 := M1.2.1 1 _ rfl
  have k2 := M1.2.1 2 _ rfl
  have k3 := M1.2.1 3 _ rfl
  have j0 := MO.2.1 0 _ rfl
  have j1 := MO.2.1 1 _ rfl
  have j2 := MO.2.1 2 _ rfl
  have j3 := MO.2.1 3 _ rfl
  have f0 := M1.2.2 0 (by simp)
  have f1 := M1.2.2 1 (by simp)
  have f3 := M1.2.2 3 (by simp)
  rw [tB_t hW]
  have hr := hide ((stepX_yes (s := s) (well_need hW)).trans (opX_6 (s := s) hk.out))
  replace hW := hide hW
  have hN := ((well6 hk.out).1 hW.out).2
  have hZ : Hid (¬ (0 ≤ o.N ∧ o.N < s.h) → (stepX s o) = (s, false)) := fun h => by rw [hr.out, if_neg h]
  obtain ⟨n, hn1⟩ : ∃ n : Nat, o.N = n := ⟨o.N.toNat, by omega⟩
  have hY : Hid (n < s.h → (stepX s o) = (⟨s.H n, s.R, s.h, s.H, s.l⟩, true)) := fun h => by rw [hr.out, if_pos (by omega), hn1]; rfl
  rw [hn1] at j3
  replace hn1 := hide hn1
  clear hN MO
  by_cases hl : (n : Int) ≥ (s.h : Int)
  · have hbad : Hid (¬ (0 ≤ o.N ∧ o.N < s.h)) := fun h => by have := hn1.out; omega
    go_wp2_with (refine wpList_storeM (us := [.slice ca s.C.n kc, .slice ra s.R.n kr, .slice ha s.h kh, .int .i64 s.l]) rfl rfl rfl rfl M2 rfl (by intro v hv; simp only [List.mem_cons, List.not_mem_nil, or_false] at hv; rcases hv with rfl | rfl | rfl | rfl <;> rfl) sizeSto ?_; intro w9 M9 o9)
    have on := OnlyP.of_only (P := fun x => x = w.heap.size + 1 + 1) o9 rfl
    have e9 := (d1).trans (on.below (base := w.heap.size) (fun x _ hx => by have h : x = w.heap.size + 1 + 1 := hx; omega) (d1).size)
    have r0 := M9.2.1 0 _ rfl
    have r1 := M9.2.1 1 _ rfl
    have r2 := M9.2.1 2 _ rfl
    have r3 := M9.2.1 3 _ rfl
    exact bodyPost_ret (v := .tuple #[.agg #[.slice ca s.C.n kc, .slice ra s.R.n kr, .slice ha s.h kh, .int .i64 s.l], .bool false]) (by simp [results, Tryz.results29, go_sem, r0, r1, r2, r3]) rfl ⟨e9, _, by rw [hZ.out hbad.out], ⟨_, _, _, _, _, _, _, _, _, _, rfl⟩, fun h => by rw [hZ.out hbad.out] at h; exact absurd h (by simp)⟩
  have hnh : n < s.h := by omega
  obtain ⟨bh, oh, hva, hbw, u0⟩ := hS.here.2.2.1 n _ (hdX_at hnh)
  subst hva
  have OW := hide (fun W R => s_ownAns (s.H n) (hs.2.2.2.2.1 n hnh).own (a n) (c n) W R)
  have h0 : ¬ (n : Int) < 0 := by omega
  go_wp2_with fail
  refine (OW.out _ ((hS.here.2.2.2 n hnh).any)).mono ?_
  rintro e w2 ⟨va, vc, rfl, hA, bb⟩
  replace M1 := M1.below bb
  replace M2 := M2.below bb
  have d2 := d1.trans (bb.mono d1.size)
  have hw3 : w1.heap.size ≤ w2.heap.size := bb.size
  replace hS := hS.below bb
  clear bb OW
  replace k0 := M1.2.1 0 _ rfl
  replace k1 := M1.2.1 1 _ rfl
  replace k2 := M1.2.1 2 _ rfl
  replace k3 := M1.2.1 3 _ rfl
  replace f0 := M1.2.2 0 (by simp)
  replace f1 := M1.2.2 1 (by simp)
  replace f3 := M1.2.2 3 (by simp)
  go_wp2_with (refine wpList_storeM (us := [.slice va (s.H n).n vc, .slice ra s.R.n kr, .slice (some ⟨bh, oh, none⟩) s.h kh, .int .i64 s.l]) rfl rfl rfl rfl (M2.other (c := w.heap.size) (by omega) 0 (.slice va (s.H n).n vc)) rfl (by intro v hv; simp only [List.mem_cons, List.not_mem_nil, or_false] at hv; rcases hv with rfl | rfl | rfl | rfl <;> rfl) sizeSto ?_; intro w9 M9 o9)
  have on := OnlyP.of_only (P := fun x => x = w.heap.size + 1 + 1) o9 rfl
  have onB : OnlyP (BxP P w) _ w9 := on.mono (fun x _ hx => .inr ⟨by have hx : x = w.heap.size + 1 + 1 := hx; omega, by have hx : x = w.heap.size + 1 + 1 := hx; omega⟩)
  have e9 := (d2.setCell (p := ⟨w.heap.size, 0, none⟩) (Nat.le_refl _) (.slice va (s.H n).n vc)).trans (on.below (base := w.heap.size) (fun x _ hx => by have h : x = w.heap.size + 1 + 1 := hx; omega) (d2.setCell (p := ⟨w.heap.size, 0, none⟩) (Nat.le_refl _) (.slice va (s.H n).n vc)).size)
  have r0 := M9.2.1 0 _ rfl
  have r1 := M9.2.1 1 _ rfl
  have r2 := M9.2.1 2 _ rfl
  have r3 := M9.2.1 3 _ rfl
  have hAP := hA.stP (P := BxP P w) (fun x hx => by have := hPx.out x hx; omega)
  have on0 : OnlyP (BxP P w) w2 (w2.setCell ⟨w.heap.size, 0, none⟩ (.slice va (s.H n).n vc)) := (OnlyP.refl _ w2).set15 (.inr ⟨Nat.le_refl _, by omega⟩) _ _
  have onA := on0.trans onB
  have hF : StF P (.agg #[.slice va (s.H n).n vc, .slice ra s.R.n kr, .slice (some ⟨bh, oh, none⟩) s.h kh, .int .i64 s.l]) (⟨s.H n, s.R, s.h, s.H, s.l⟩) w9 := ⟨_, _, _, _, _, _, a, c, rfl, hkh, fun X oX => by
    have oX := onA.trans (oX.mono (fun x _ hx => (.inl hx : BxP P w x)))
    obtain ⟨x1, x2, x3, x4⟩ := hS X oX
    exact ⟨hAP X oX, x2, x3, x4⟩⟩
  exact bodyPost_ret (v := .tuple #[.agg #[.slice va (s.H n).n vc, .slice ra s.R.n kr, .slice (some ⟨bh, oh, none⟩) s.h kh, .int .i64 s.l], .bool true]) (by simp [results, Tryz.results29, go_sem, r0, r1, r2, r3]) rfl ⟨e9, _, by rw [hY.out hnh], ⟨_, _, _, _, _, _, _, _, _, _, rfl⟩, fun _ => by rw [hY.out hnh]; exact hF⟩
end Go.Proofs.YtnficndeblkjhaaGreatDoor

namespace Go.Proofs.YtnficndeblkjhaaGreatDoor
open Go.RowKit

set_option maxRecDepth 100000 in
set_option maxHeartbeats 1600000 in
theorem s_step7 (P : Nat → Prop) (v : Value) (s : Sto) (o : OpX) (pa : Option Addr) (pc : Nat) (w : World) (hP : ∀ k, P k → k < w.heap.size) (hS : StF P v s w) (hs : OkS s) (hn : o.n ≤ 1048576) (hp : ∀ i, i < o.n → (o.p i).size ≤ maxLen) (hv : o.v.size ≤ maxLen) (hQ : RowStr pa o.n o.p w) (hW : WellX o) (hk : o.k = 7) :
    Calls Tryz.prog 29 #[v, .agg #[.int .i64 o.k, .slice pa o.n pc, .string o.v, .int .i64 o.N]] w (SteP P (stepX s o) w) := by
  have q1 : (o.k == 1) = false := by simp; omega
  have q2 : (o.k == 2) = false := by simp; omega
  have q3 : (o.k == 3) = false := by simp; omega
  have q4 : (o.k == 4) = false := by simp; omega
  have q5 : (o.k == 5) = false := by simp; omega
  have q6 : (o.k == 6) = false := by simp; omega
  have q7 : (o.k == 7) = true := by simp; omega
  have q8 : (o.k == 8) = false := by simp; omega
  replace hk := hide hk
  obtain ⟨ca, kc, ra, kr, ha, kh, a, c, rfl, hkh, hS⟩ := hS
  unfold stV
  have M1 := ((Mut.new w #[.slice ca s.C.n kc, .slice ra s.R.n kr, .slice ha s.h kh, .int .i64 s.l] 34).alloc (.cells #[.int .i64 o.k, .slice pa o.n pc, .string o.v, .int .i64 o.N] 38)).alloc (.cells #[.slice none 0 0, .slice none 0 0, .slice none 0 0, .int .i64 0] 34)
  have MO := (Mut.new (w.alloc (.cells #[.slice ca s.C.n kc, .slice ra s.R.n kr, .slice ha s.h kh, .int .i64 s.l] 34)) #[.int .i64 o.k, .slice pa o.n pc, .string o.v, .int .i64 o.N] 38).alloc (.cells #[.slice none 0 0, .slice none 0 0, .slice none 0 0, .int .i64 0] 34)
  have M2 := Mut.new ((w.alloc (.cells #[.slice ca s.C.n kc, .slice ra s.R.n kr, .slice ha s.h kh, .int .i64 s.l] 34)).alloc (.cells #[.int .i64 o.k, .slice pa o.n pc, .string o.v, .int .i64 o.N] 38)) #[.slice none 0 0, .slice none 0 0, .slice none 0 0, .int .i64 0] 34
  have d1 : Below w.heap.size w (((w.alloc (.cells #[.slice ca s.C.n kc, .slice ra s.R.n kr, .slice ha s.h kh, .int .i64 s.l] 34)).alloc (.cells #[.int .i64 o.k, .slice pa o.n pc, .string o.v, .int .i64 o.N] 38)).alloc (.cells #[.slice none 0 0, .slice none 0 0, .slice none 0 0, .int .i64 0] 34)) := below_box3 (Below.refl _ _)
  simp only [World.size_alloc] at MO M2
  have HO := hide (fun W R => s_l16Op o pa pc W hn hp hv R)
  have hPx := hide (fun k => bx_lt (P := P) (w := w) hP (k := k))
  replace hP := hide hP
  have j0 := MO.2.1 0 _ rfl
  have j1 := MO.2.1 1 _ rfl
  have j2 := MO.2.1 2 _ rfl
  have j3 := MO.2.1 3 _ rfl
  go_enter Tryz.func29, Tryz.ntmps29
  go_wp2_with fail
  clear j0 j1 j2 j3
  generalize (((w.alloc (.cells #[.slice ca s.C.n kc, .slice ra s.R.n kr, .slice ha s.h kh, .int .i64 s.l] 34)).alloc (.cells #[.int .i64 o.k, .slice pa o.n pc, .string o.v, .int .i64 o.N] 38)).alloc (.cells #[.slice none 0 0, .slice none 0 0, .slice none 0 0, .int .i64 0] 34)) = wa at *
  refine (HO.out _ (hQ.below d1)).mono ?_
  rintro e w1 ⟨rfl, bb⟩
  replace M1 := M1.below bb
  replace MO := MO.below bb
  replace M2 := M2.below bb
  replace d1 := d1.trans (bb.mono d1.size)
  have hw2 : w.heap.size + 1 + 1 < w1.heap.size := M2.1
  clear bb HO
  replace hS : StP (BxP P w) (HasSt s ca ra ha a c) w1 := hS.more d1 (fun x hx hq => by rcases hq with hq | hq; exact hq; omega)
  have k0 := M1.2.1 0 _ rfl
  have k1 := M1.2.1 1 _ rfl
  have k2 := M1.2.1 2 _ rfl
  have k3 := M1.2.1 3 _ rfl
  have j0 := MO.2.1 0 _ rfl
  have j1 := MO.2.1 1 _ rfl
  have j2 := MO.2.1 2 _ rfl
  have j3 := MO.2.1 3 _ rfl
  have f0 := M1.2.2 0 (by simp)
  have f1 := M1.2.2 1 (by simp)
  have f3 := M1.2.2 3 (by simp)
  rw [tB_t hW]
  have hr := hide ((stepX_yes (s := s) (well_need hW)).trans (opX_7 (s := s) hk.out))
  replace hW := hide hW
  have OW := hide (fun W R => s_ownAns s.R hs.2.1.own ra kr W R)
  go_wp2_with fail
  refine (OW.out _ (hS.here.2.1.any)).mono ?_
  rintro e w2 ⟨va, vc, rfl, hA, bb⟩
  replace M1 := M1.below bb
  replace M2 := M2.below bb
  replace MO := MO.below bb
  have d2 := d1.trans (bb.mono d1.size)
  have hw3 : w1.heap.size ≤ w2.heap.size := bb.size
  replace hS := hS.below bb
  clear bb OW
  replace j0 := MO.2.1 0 _ rfl
  replace j1 := MO.2.1 1 _ rfl
  replace j2 := MO.2.1 2 _ rfl
  replace j3 := MO.2.1 3 _ rfl
  replace k0 := M1.2.1 0 _ rfl
  replace k1 := M1.2.1 1 _ rfl
  replace k2 := M1.2.1 2 _ rfl
  replace k3 := M1.2.1 3 _ rfl
  replace f0 := M1.2.2 0 (by simp)
  replace f1 := M1.2.2 1 (by simp)
  replace f3 := M1.2.2 3 (by simp)
  have M3 := M2.other (c := w.heap.size) (by omega) 0 (.slice va s.R.n vc)
  go_wp2_with (refine wpList_storeM (us := [.slice va s.R.n vc, .slice ra s.R.n kr, .slice ha s.h kh, .int .i64 s.l]) rfl rfl rfl rfl M3 rfl (by intro v hv; simp only [List.mem_cons, List.not_mem_nil, or_false] at hv; rcases hv with rfl | rfl | rfl | rfl <;> rfl) sizeSto ?_; intro w9 M9 o9)
  have on := OnlyP.of_only (P := fun x => x = w.heap.size + 1 + 1) o9 rfl
  have onB : OnlyP (BxP P w) _ w9 := on.mono (fun x _ hx => .inr ⟨by have hx : x = w.heap.size + 1 + 1 := hx; omega, by have hx : x = w.heap.size + 1 + 1 := hx; omega⟩)
  have e9 := (d2.setCell (p := ⟨w.heap.size, 0, none⟩) (Nat.le_refl _) (.slice va s.R.n vc)).trans (on.below (base := w.heap.size) (fun x _ hx => by have h : x = w.heap.size + 1 + 1 := hx; omega) (d2.setCell (p := ⟨w.heap.size, 0, none⟩) (Nat.le_refl _) (.slice va s.R.n vc)).size)
  have r0 := M9.2.1 0 _ rfl
  have r1 := M9.2.1 1 _ rfl
  have r2 := M9.2.1 2 _ rfl
  have r3 := M9.2.1 3 _ rfl
  have hAP := hA.stP (P := BxP P w) (fun x hx => by have := hPx.out x hx; omega)
  have on0 : OnlyP (BxP P w) w2 (w2.setCell ⟨w.heap.size, 0, none⟩ (.slice va s.R.n vc)) := (OnlyP.refl _ w2).set15 (.inr ⟨Nat.le_refl _, by omega⟩) _ _
  have onA := on0.trans onB
  have hF : StF P (.agg #[.slice va s.R.n vc, .slice ra s.R.n kr, .slice ha s.h kh, .int .i64 s.l]) (⟨s.R, s.R, s.h, s.H, s.l⟩) w9 := ⟨_, _, _, _, _, _, a, c, rfl, hkh, fun X oX => by
    have oX := onA.trans (oX.mono (fun x _ hx => (.inl hx : BxP P w x)))
    obtain ⟨x1, x2, x3, x4⟩ := hS X oX
    exact ⟨hAP X oX, x2, x3, x4⟩⟩
  exact bodyPost_ret (v := .tuple #[.agg #[.slice va s.R.n vc, .slice ra s.R.n kr, .slice ha s.h kh, .int .i64 s.l], .bool true]) (by simp [results, Tryz.results29, go_sem, r0, r1, r2, r3]) rfl ⟨e9, _, by rw [hr.out], ⟨_, _, _, _, _, _, _, _, _, _, rfl⟩, fun _ => by rw [hr.out]; exact hF⟩
end Go.Proofs.YtnficndeblkjhaaGreatDoor
