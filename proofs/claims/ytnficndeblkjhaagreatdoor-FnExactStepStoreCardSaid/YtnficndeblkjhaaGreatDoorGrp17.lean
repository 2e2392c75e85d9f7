/- An op done by the specification, kind 4. -/
import Derived.Test.YtnficndeblkjhaaGreatDoorGrp15
/- An op done by the specification, kind 3. -/
namespace Go.Proofs.YtnficndeblkjhaaGreatDoor
open Go.RowKit

set_option maxRecDepth 100000 in
set_option maxHeartbeats 1600000 in
theorem s_step3 (P : Nat → Prop) (v : Value) (s : Sto) (o : OpX) (pa : Option Addr) (pc : Nat) (w : World) (hP : ∀ k, P k → k < w.heap.size) (hS : StF P v s w) (hs : OkS s) (hn : o.n ≤ 1048576) (hp : ∀ i, i < o.n → (o.p i).size ≤ maxLen) (hv : o.v.size ≤ maxLen) (hQ : RowStr pa o.n o.p w) (hW : WellX o) (hk : o.k = 3) :
    Calls Tryz.prog 29 #[v, .agg #[.int .i64 o.k, .slice pa o.n pc, .string o.v, .int .i64 o.N]] w (SteP P (stepX s o) w) := by
  have q1 : (o.k == 1) = false := by simp; omega
  have q2 : (o.k == 2) = false := by simp; omega
  have q3 : (o.k == 3) = true := by simp; omega
  have q4 : (o.k == 4) = false := by simp; omega
  have q5 : (o.k == 5) = false := by simp; omega
  have q6 : (o.k == 6) = false := by simp; omega
  have q7 : (o.k == 7) = false := by simp; omega
  have q8 : (o.k == 8) = false := by simp; omega
  replace hk := hide hk
  obtain ⟨ca, kc, ra, kr, ha, kh, a, c, rfl, hkh, hS⟩ := hS
  unfold stV
  have M1 := ((Mut.new w #[.slice ca s.C.n kc, .slice ra s.R.n kr, .slice ha s.h kh, .int .i64 s.l] 34).alloc (.cells #[.int .i64 o.k, .slice pa o.n pc, .string o.v, .int .i64 o.N] 38)).alloc (.cells #[.slice none 0 0, .slice none 0 0, .slice none 0 0, .int .i64 0] 34)
  have MO := (Mut.new (w.alloc (.cells #[.slice ca s.C.n kc, .slice ra s.R.n kr, .slice ha s.h kh, .int .i64 s.l] 34)) #[.int .i64 o.k, .slice pa o.n pc, .string o.v, .int .i64 o.N] 38).alloc (.cells #[.slice none 0 0, .slice none 0 0, .slice none 0 0, .int .i64 0] 34)
  have M2 := Mut.new ((w.alloc (.cells #[.slice ca s.C.n kc, .slice ra s.R.n kr, .slice ha s.h kh, .int .i64 s.l] 34)).alloc (.cells #[.int .i64 o.k, .slice pa o.n pc, .string o.v, .int .i64 o.N] 38)) #[.slice none 0 0, .slice none 0 0, .slice none 0 0, .int .i64 0] 34
  have d1 : Below w.heap.size w (((w.alloc (.cells #[.slice ca s.C.n kc, .slice ra s.R.n kr, .slice ha s.h kh, .int .i64 s.l] 34)).alloc (.cells #[.int .i64 o.k, .slice pa o.n pc, .string o.v, .int .i64 o.N] 38)).alloc (.cells #[.slice none 0 0, .slice none 0 0, .slice none 0 0, .int .i64 0] 34)) := below_box3 (Below.refl _ _)
  simp only [World.size_alloc] at MO M2
  have HO := hide (fun W R => s_l16Op o pa pc W hn hp hv R)
  have hPx := hide (fun k => bx_lt (P := P) (w := w) hP (k := k))
  replace hP := hide hP
  have j0 := MO.2.1 0 _ rfl
  have j1 := MO.2.1 1 _ rfl
  have j2 := MO.2.1 2 _ rfl
  have j3 := MO.2.1 3 _ rfl
  go_enter Tryz.func29, Tryz.ntmps29
  go_wp2_with fail
  clear j0 j1 j2 j3
  generalize (((w.alloc (.cells #[.slice ca s.C.n kc, .slice ra s.R.n kr, .slice ha s.h kh, .int .i64 s.l] 34)).alloc (.cells #[.int .i64 o.k, .slice pa o.n pc, .string o.v, .int .i64 o.N] 38)).alloc (.cells #[.slice none 0 0, .slice none 0 0, .slice none 0 0, .int .i64 0] 34)) = wa at *
  refine (HO.out _ (hQ.below d1)).mono ?_
  rintro e w1 ⟨rfl, bb⟩
  replace M1 := M1.below bb
  replace MO := MO.below bb
  replace M2 := M2.below bb
  replace d1 := d1.trans (bb.mono d1.size)
  have hw2 : w.heap.size + 1 + 1 < w1.heap.size := M2.1
  clear bb HO
  replace hS : StP (BxP P w) (HasSt s ca ra ha a c) w1 := hS.more d1 (fun x hx hq => by rcases hq with hq | hq; exact hq; omega)
  have k0 := M1.2.1 0 _ rfl
  have k1 := M1.2.1 1 _ rfl
  have k2 := M1.2.1 2 _ rfl
  have k3 := M1.2.1 3 _ rfl
  have j0 := MO.2.1 0 _ rfl
  have j1 := MO.2.1 1 _ rfl
  have j2 := MO.2.1 2 _ rfl
  have j3 := MO.2.1 3 _ rfl
  have f0 := M1.2.2 0 (by simp)
  have f1 := M1.2.2 1 (by simp)
  have f3 := M1.2.2 3 (by simp)
  rw [tB_t hW]
  have hr := hide ((stepX_yes (s := s) (well_need hW)).trans (opX_3 (s := s) hk.out))
  replace hW := hide hW
  obtain ⟨t, ht⟩ : ∃ t, Hid (t = conS ⟨s.C, s.C, s.h, s.H, s.l⟩) := ⟨_, rfl⟩
  have hY : Hid ((stepX s o) = (t, true)) := hr.out.trans (by rw [ht.out])
  have CF : Hid (∀ va vc W, (∀ k, BxP P w k → k < W.heap.size) → StF (BxP P w) (.agg #[.slice ca s.C.n kc, .slice va s.C.n vc, .slice ha s.h kh, .int .i64 s.l]) ⟨s.C, s.C, s.h, s.H, s.l⟩ W → Calls Tryz.prog 57 #[.agg #[.slice ca s.C.n kc, .slice va s.C.n vc, .slice ha s.h kh, .int .i64 s.l]] W fun e w' => ∃ v', e = .returned v' ∧ StF (BxP P w) v' t w' ∧ Below W.heap.size W w') := fun va vc W h1 h2 => by rw [ht.out]; exact s_l16Confirm _ _ _ W h1 h2 ⟨hs.1, hs.1, hs.2.2⟩
  have OW := hide (fun W R => s_ownAns s.C hs.1.own ca kc W R)
  go_wp2_with fail
  refine (OW.out _ (hS.here.1.any)).mono ?_
  rintro e w2 ⟨va, vc, rfl, hA, bb⟩
  replace M1 := M1.below bb
  replace M2 := M2.below bb
  replace MO := MO.below bb
  have d2 := d1.trans (bb.mono d1.size)
  have hw3 : w1.heap.size ≤ w2.heap.size := bb.size
  replace hS := hS.below bb
  clear bb OW
  replace j0 := MO.2.1 0 _ rfl
  replace j1 := MO.2.1 1 _ rfl
  replace j2 := MO.2.1 2 _ rfl
  replace j3 := MO.2.1 3 _ rfl
  replace k0 := M1.2.1 0 _ rfl
  replace k1 := M1.2.1 1 _ rfl
  replace k2 := M1.2.1 2 _ rfl
  replace k3 := M1.2.1 3 _ rfl
  replace f0 := M1.2.2 0 (by simp)
  replace f1 := M1.2.2 1 (by simp)
  replace f3 := M1.2.2 3 (by simp)
  have hAP := hA.stP (P := BxP P w) (fun x hx => by have := hPx.out x hx; omega)
  have on0 : OnlyP (BxP P w) w2 (w2.setCell ⟨w.heap.size, 1, none⟩ (.slice va s.C.n vc)) := (OnlyP.refl _ w2).set15 (.inr ⟨Nat.le_refl _, by omega⟩) _ _
  have d3 := d2.setCell (p := ⟨w.heap.size, 1, none⟩) (Nat.le_refl _) (.slice va s.C.n vc)
  have M21 := M2.other (c := w.heap.size) (by omega) 1 (.slice va s.C.n vc)
  have M11 := M1.set 1 (.slice va s.C.n vc)
  have hS1 : StF (BxP P w) (.agg #[.slice ca s.C.n kc, .slice va s.C.n vc, .slice ha s.h kh, .int .i64 s.l]) ⟨s.C, s.C, s.h, s.H, s.l⟩ (w2.setCell ⟨w.heap.size, 1, none⟩ (.slice va s.C.n vc)) := ⟨_, _, _, _, _, _, a, c, rfl, hkh, fun X oX => by
    have oX := on0.trans oX
    obtain ⟨x1, x2, x3, x4⟩ := hS X oX
    exact ⟨x1, hAP X oX, x3, x4⟩⟩
  have hz3 : w.heap.size + 3 ≤ (w2.setCell ⟨w.heap.size, 1, none⟩ (.slice va s.C.n vc)).heap.size := by have := M21.1; omega
  go_wp2_with fail
  generalize (w2.setCell ⟨w.heap.size, 1, none⟩ (.slice va s.C.n vc)) = w3 at *
  refine (CF.out _ _ _ (fun k h => by have := hPx.out k h; omega) hS1).mono ?_
  rintro e w5 ⟨v5, rfl, hF5, b5⟩
  have d5 := (d3).trans (b5.mono (d3).size)
  have M25 := (M21).below b5
  obtain ⟨xa, xc, ya, yc, za, zc, rfl⟩ := hF5.form
  go_wp2_with (refine wpList_storeM (us := [.slice xa t.C.n xc, .slice ya t.R.n yc, .slice za t.h zc, .int .i64 t.l]) rfl rfl rfl rfl M25 rfl (by intro v hv; simp only [List.mem_cons, List.not_mem_nil, or_false] at hv; rcases hv with rfl | rfl | rfl | rfl <;> rfl) sizeSto ?_; intro w9 M9 o9)
  have on := OnlyP.of_only (P := fun x => x = w.heap.size + 1 + 1) o9 rfl
  have onB : OnlyP (BxP P w) _ w9 := on.mono (fun x _ hx => .inr ⟨by have hx : x = w.heap.size + 1 + 1 := hx; omega, by have hx : x = w.heap.size + 1 + 1 := hx; omega⟩)
  have e9 := (d5).trans (on.below (base := w.heap.size) (fun x _ hx => by have h : x = w.heap.size + 1 + 1 := hx; omega) (d5).size)
  have r0 := M9.2.1 0 _ rfl
  have r1 := M9.2.1 1 _ rfl
  have r2 := M9.2.1 2 _ rfl
  have r3 := M9.2.1 3 _ rfl
  have hF : StF P (.agg #[.slice xa t.C.n xc, .slice ya t.R.n yc, .slice za t.h zc, .int .i64 t.l]) t w9 := (hF5.only onB).more (Below.refl _ _) (fun x _ hx => .inl hx)
  exact bodyPost_ret (v := .tuple #[.agg #[.slice xa t.C.n xc, .slice ya t.R.n yc, .slice za t.h zc, .int .i64 t.l], .bool true]) (by simp [results, Tryz.results29, go_sem, r0, r1, r2, r3]) rfl ⟨e9, _, by rw [hY.out], ⟨_, _, _, _, _, _, _, _, _, _, rfl⟩, fun _ => by rw [hY.out]; exact hF⟩
end Go.Proofs.YtnficndeblkjhaaGreatDoor

namespace Go.Proofs.YtnficndeblkjhaaGreatDoor
open Go.RowKit

set_option maxRecDepth 100000 in
set_option maxHeartbeats 1600000 in
theorem s_step4 (P : Nat → Prop) (v : Value) (s : Sto) (o : OpX) (pa : Option Addr) (pc : Nat) (w : World) (hP : ∀ k, P k → k < w.heap.size) (hS : StF P v s w) (hs : OkS s) (hn : o.n ≤ 1048576) (hp : ∀ i, i < o.n → (o.p i).size ≤ maxLen) (hv : o.v.size ≤ maxLen) (hQ : RowStr pa o.n o.p w) (hW : WellX o) (hk : o.k = 4) :
    Calls Tryz.prog 29 #[v, .agg #[.int .i64 o.k, .slice pa o.n pc, .string o.v, .int .i64 o.N]] w (SteP P (stepX s o) w) := by
  have q1 : (o.k == 1) = false := by simp; omega
  have q2 : (o.k == 2) = false := by simp; omega
  have q3 : (o.k == 3) = false := by simp; omega
  have q4 : (o.k == 4) = true := by simp; omega
  have q5 : (o.k == 5) = false := by simp; omega
  have q6 : (o.k == 6) = false := by simp; omega
  have q7 : (o.k == 7) = false := by simp; omega
  have q8 : (o.k == 8) = false := by simp; omega
  replace hk := hide hk
  obtain ⟨ca, kc, ra, kr, ha, kh, a, c, rfl, hkh, hS⟩ := hS
  unfold stV
  have M1 := ((Mut.new w #[.slice ca s.C.n kc, .slice ra s.R.n kr, .slice ha s.h kh, .int .i64 s.l] 34).alloc (.cells #[.int .i64 o.k, .slice pa o.n pc, .string o.v, .int .i64 o.N] 38)).alloc (.cells #[.slice none 0 0, .slice none 0 0, .slice none 0 0, .int .i64 0] 34)
  have MO := (Mut.new (w.alloc (.cells #[.slice ca s.C.n kc, .slice ra s.R.n kr, .slice ha s.h kh, .int .i64 s.l] 34)) #[.int .i64 o.k, .slice pa o.n pc, .string o.v, .int .i64 o.N] 38).alloc (.cells #[.slice none 0 0, .slice none 0 0, .slice none 0 0, .int .i64 0] 34)
  have M2 := Mut.new ((w.alloc (.cells #[.slice ca s.C.n kc, .slice ra s.R.n kr, .slice ha s.h kh, .int .i64 s.l] 34)).alloc (.cells #[.int .i64 o.k, .slice pa o.n pc, .string o.v, .int .i64 o.N] 38)) #[.slice none 0 0, .slice none 0 0, .slice none 0 0, .int .i64 0] 34
  have d1 : Below w.heap.size w (((w.alloc (.cells #[.slice ca s.C.n kc, .slice ra s.R.n kr, .slice ha s.h kh, .int .i64 s.l] 34)).alloc (.cells #[.int .i64 o.k, .slice pa o.n pc, .string o.v, .int .i64 o.N] 38)).alloc (.cells #[.slice none 0 0, .slice none 0 0, .slice none 0 0, .int .i64 0] 34)) := below_box3 (Below.refl _ _)
  simp only [World.size_alloc] at MO M2
  have HO := hide (fun W R => s_l16Op o pa pc W hn hp hv R)
  have hPx := hide (fun k => bx_lt (P := P) (w := w) hP (k := k))
  replace hP := hide hP
  have j0 := MO.2.1 0 _ rfl
  have j1 := MO.2.1 1 _ rfl
  have j2 := MO.2.1 2 _ rfl
  have j3 := MO.2.1 3 _ rfl
  go_enter Tryz.func29, Tryz.ntmps29
  go_wp2_with fail
  clear j0 j1 j2 j3
  generalize (((w.alloc (.cells #[.slice ca s.C.n kc, .slice ra s.R.n kr, .slice ha s.h kh, .int .i64 s.l] 34)).alloc (.cells #[.int .i64 o.k, .slice pa o.n pc, .string o.v, .int .i64 o.N] 38)).alloc (.cells #[.slice none 0 0, .slice none 0 0, .slice none 0 0, .int .i64 0] 34)) = wa at *
  refine (HO.out _ (hQ.below d1)).mono ?_
  rintro e w1 ⟨rfl, bb⟩
  replace M1 := M1.below bb
  replace MO := MO.below bb
  replace M2 := M2.below bb
  replace d1 := d1.trans (bb.mono d1.size)
  have hw2 : w.heap.size + 1 + 1 < w1.heap.size := M2.1
  clear bb HO
  replace hS : StP (BxP P w) (HasSt s ca ra ha a c) w1 := hS.more d1 (fun x hx hq => by rcases hq with hq | hq; exact hq; omega)
  have k0 := M1.2.1 0 _ rfl
  have k1 := M1.2.1 1 _ rfl
  have k2 := M1.2.1 2 _ rfl
  have k3 := M1.2.1 3 _ rfl
  have j0 := MO.2.1 0 _ rfl
  have j1 := MO.2.1 1 _ rfl
  have j2 := MO.2.1 2 _ rfl
  have j3 := MO.2.1 3 _ rfl
  have f0 := M1.2.2 0 (by simp)
  have f1 := M1.2.2 1 (by simp)
  have f3 := M1.2.2 3 (by simp)
  rw [tB_t hW]
  have hr := hide ((stepX_yes (s := s) (well_need hW)).trans (opX_4 (s := s) hk.out))
  replace hW := hide hW
  have hN := ((well4 hk.out).1 hW.out).2
  have hY : Hid (SameC s.C (s.H 0) → stepX s o = (⟨s.C, s.C, s.h, s.H, 0⟩, true)) := fun h => by rw [hr.out, if_pos hN, if_pos (tB_t h)]
  have hZ : Hid (¬ SameC s.C (s.H 0) → stepX s o = (⟨s.C, s.C, s.h, s.H, o.N⟩, true)) := fun h => by rw [hr.out, if_pos hN, if_neg (by simp [tB_f h])]
  have h1 := hs.2.2.1
  have hh1 : (0 : Int) < (s.h : Int) := by omega
  have OW := hide (fun W R => s_ownAns s.C hs.1.own ca kc W R)
  go_wp2_with fail
  refine (OW.out _ (hS.here.1.any)).mono ?_
  rintro e w2 ⟨va, vc, rfl, hA, bb⟩
  replace M1 := M1.below bb
  replace M2 := M2.below bb
  replace MO := MO.below bb
  have d2 := d1.trans (bb.mono d1.size)
  have hw3 : w1.heap.size ≤ w2.heap.size := bb.size
  replace hS := hS.below bb
  clear bb OW
  replace j0 := MO.2.1 0 _ rfl
  replace j1 := MO.2.1 1 _ rfl
  replace j2 := MO.2.1 2 _ rfl
  replace j3 := MO.2.1 3 _ rfl
  replace k0 := M1.2.1 0 _ rfl
  replace k1 := M1.2.1 1 _ rfl
  replace k2 := M1.2.1 2 _ rfl
  replace k3 := M1.2.1 3 _ rfl
  replace f0 := M1.2.2 0 (by simp)
  replace f1 := M1.2.2 1 (by simp)
  replace f3 := M1.2.2 3 (by simp)
  have hAP := hA.stP (P := BxP P w) (fun x hx => by have := hPx.out x hx; omega)
  have on0 : OnlyP (BxP P w) w2 ((w2.setCell ⟨w.heap.size, 1, none⟩ (.slice va s.C.n vc)).setCell ⟨w.heap.size, 3, none⟩ (.int .i64 o.N)) := ((OnlyP.refl _ w2).set15 (.inr ⟨Nat.le_refl _, by omega⟩) _ _).set15 (.inr ⟨Nat.le_refl _, by omega⟩) _ _
  have d3 := (d2.setCell (p := ⟨w.heap.size, 1, none⟩) (Nat.le_refl _) (.slice va s.C.n vc)).setCell (p := ⟨w.heap.size, 3, none⟩) (Nat.le_refl _) (.int .i64 o.N)
  have M21 := (M2.other (c := w.heap.size) (by omega) 1 (.slice va s.C.n vc)).other (c := w.heap.size) (by omega) 3 (.int .i64 o.N)
  have M11 := (M1.set 1 (.slice va s.C.n vc)).set 3 (.int .i64 o.N)
  replace hS : StP (BxP P w) (fun X => HasSt s ca ra ha a c X ∧ RowF true va s.C.n s.C.T X) ((w2.setCell ⟨w.heap.size, 1, none⟩ (.slice va s.C.n vc)).setCell ⟨w.heap.size, 3, none⟩ (.int .i64 o.N)) := (hS.both hAP).only on0
  go_wp2_with fail
  generalize ((w2.setCell ⟨w.heap.size, 1, none⟩ (.slice va s.C.n vc)).setCell ⟨w.heap.size, 3, none⟩ (.int .i64 o.N)) = w3 at *
  clear on0 hA hAP d2 M1 M2 MO k0 k1 k2 k3 j0 j1 j2 j3 f0 f1 f3
  obtain ⟨⟨x1, x2, x3, x4⟩, x5⟩ := hS.here
  obtain ⟨bh, oh, hva, hbw, u0⟩ := x3 0 _ (hdX_at (by omega))
  subst hva
  rw [Nat.add_zero] at u0
  replace u0 := cell_regrown u0
  have RR := hide x5
  have R5 := hide (x4 0 (by omega))
  have SM := hide (fun W R Q => s_l16Same va s.C vc (a 0) (s.H 0) (c 0) W hs.1.low.1 hs.1.low.2 (hs.2.2.2.2.1 0 (by omega)).low.1 R Q)
  have k1 := cell_regrown (M11.2.1 1 _ rfl)
  have k2 := cell_regrown (M11.2.1 2 _ rfl)
  clear x1 x2 x3 x4 x5
  replace hs := hide hs
  clear h1
  refine wp_region_quiet_below (by kernel_rfl) (by kernel_rfl) ?_
  repeat (first | go_big_quiet_step (((go_at_call 52; exact Calls.regrown_of (SM.out _ (RR.out.any.below (below_regrown _ _ _)) (R5.out.any.below (below_regrown _ _ _)))))) | quiet_step (((go_at_call 52; exact Calls.regrown_of (SM.out _ (RR.out.any.below (below_regrown _ _ _)) (R5.out.any.below (below_regrown _ _ _)))))))
  refine wpQuiet_nil ?_
  intro _ hw'
  obtain ⟨⟨dq, osq⟩, hw''⟩ := hw'
  subst hw''
  have hq := below_regrown w3 dq osq
  generalize Go.Sort.grow (redrawn w3 dq) osq = wq at hq ⊢
  replace M11 := M11.below hq
  replace M21 := M21.below hq
  have d4 := d3.trans (hq.mono d3.size)
  replace hS := hS.below hq
  clear hq u0 k1 k2 RR R5 SM d3
  have k0 := M11.2.1 0 _ rfl
  have k1 := M11.2.1 1 _ rfl
  have k2 := M11.2.1 2 _ rfl
  have k3 := M11.2.1 3 _ rfl
  have f3 := M11.2.2 3 (by simp)
  by_cases hsm : SameC s.C (s.H 0)
  · rw [tB_t hsm]
    have hE := hide (hY.out hsm)
    clear hY hZ hsm
    go_wp2_with (refine wpList_storeM (us := [.slice ca s.C.n kc, .slice va s.C.n vc, .slice (some ⟨bh, oh, none⟩) s.h kh, .int .i64 0]) rfl rfl rfl rfl (M21.other (c := w.heap.size) (by omega) 3 (.int .i64 0)) rfl (by intro v hv; simp only [List.mem_cons, List.not_mem_nil, or_false] at hv; rcases hv with rfl | rfl | rfl | rfl <;> rfl) sizeSto ?_; intro w9 M9 o9)
    have on := OnlyP.of_only (P := fun x => x = w.heap.size + 1 + 1) o9 rfl
    have onB : OnlyP (BxP P w) _ w9 := on.mono (fun x _ hx => .inr ⟨by have hx : x = w.heap.size + 1 + 1 := hx; omega, by have hx : x = w.heap.size + 1 + 1 := hx; omega⟩)
    have e9 := (d4.setCell (p := ⟨w.heap.size, 3, none⟩) (Nat.le_refl _) (.int .i64 0)).trans (on.below (base := w.heap.size) (fun x _ hx => by have h : x = w.heap.size + 1 + 1 := hx; omega) (d4.setCell (p := ⟨w.heap.size, 3, none⟩) (Nat.le_refl _) (.int .i64 0)).size)
    have r0 := M9.2.1 0 _ rfl
    have r1 := M9.2.1 1 _ rfl
    have r2 := M9.2.1 2 _ rfl
    have r3 := M9.2.1 3 _ rfl
    have on0 : OnlyP (BxP P w) wq (wq.setCell ⟨w.heap.size, 3, none⟩ (.int .i64 0)) := (OnlyP.refl _ wq).set15 (.inr ⟨Nat.le_refl _, by omega⟩) _ _
    have onA := on0.trans onB
    have hF : StF P (.agg #[.slice ca s.C.n kc, .slice va s.C.n vc, .slice (some ⟨bh, oh, none⟩) s.h kh, .int .i64 0]) (⟨s.C, s.C, s.h, s.H, 0⟩) w9 := ⟨_, _, _, _, _, _, a, c, rfl, hkh, fun X oX => by
      have oX := onA.trans (oX.mono (fun x _ hx => (.inl hx : BxP P w x)))
      obtain ⟨⟨x1, x2, x3, x4⟩, x5⟩ := hS X oX
      exact ⟨x1, x5, x3, x4⟩⟩
    exact bodyPost_ret (v := .tuple #[.agg #[.slice ca s.C.n kc, .slice va s.C.n vc, .slice (some ⟨bh, oh, none⟩) s.h kh, .int .i64 0], .bool true]) (by simp [results, Tryz.results29, go_sem, r0, r1, r2, r3]) rfl ⟨e9, _, by rw [hE.out], ⟨_, _, _, _, _, _, _, _, _, _, rfl⟩, fun _ => by rw [hE.out]; exact hF⟩
  · rw [tB_f hsm]
    have hE := hide (hZ.out hsm)
    clear hY hZ hsm
    go_wp2_with (refine wpList_storeM (us := [.slice ca s.C.n kc, .slice va s.C.n vc, .slice (some ⟨bh, oh, none⟩) s.h kh, .int .i64 o.N]) rfl rfl rfl rfl M21 rfl (by intro v hv; simp only [List.mem_cons, List.not_mem_nil, or_false] at hv; rcases hv with rfl | rfl | rfl | rfl <;> rfl) sizeSto ?_; intro w9 M9 o9)
    have on := OnlyP.of_only (P := fun x => x = w.heap.size + 1 + 1) o9 rfl
    have onB : OnlyP (BxP P w) _ w9 := on.mono (fun x _ hx => .inr ⟨by have hx : x = w.heap.size + 1 + 1 := hx; omega, by have hx : x = w.heap.size + 1 + 1 := hx; omega⟩)
    have e9 := (d4).trans (on.below (base := w.heap.size) (fun x _ hx => by have h : x = w.heap.size + 1 + 1 := hx; omega) (d4).size)
    have r0 := M9.2.1 0 _ rfl
    have r1 := M9.2.1 1 _ rfl
    have r2 := M9.2.1 2 _ rfl
    have r3 := M9.2.1 3 _ rfl
    have hF : StF P (.agg #[.slice ca s.C.n kc, .slice va s.C.n vc, .slice (some ⟨bh, oh, none⟩) s.h kh, .int .i64 o.N]) (⟨s.C, s.C, s.h, s.H, o.N⟩) w9 := ⟨_, _, _, _, _, _, a, c, rfl, hkh, fun X oX => by
      have oX := onB.trans (oX.mono (fun x _ hx => (.inl hx : BxP P w x)))
      obtain ⟨⟨x1, x2, x3, x4⟩, x5⟩ := hS X oX
      exact ⟨x1, x5, x3, x4⟩⟩
    exact bodyPost_ret (v := .tuple #[.agg #[.slice ca s.C.n kc, .slice va s.C.n vc, .slice (some ⟨bh, oh, none⟩) s.h kh, .int .i64 o.N], .bool true]) (by simp [results, Tryz.results29, go_sem, r0, r1, r2, r3]) rfl ⟨e9, _, by rw [hE.out], ⟨_, _, _, _, _, _, _, _, _, _, rfl⟩, fun _ => by rw [hE.out]; exact hF⟩
end Go.Proofs.YtnficndeblkjhaaGreatDoor
