/- An op done by the specification, kind 5. -/
import Derived.Test.YtnficndeblkjhaaGreatDoorGrp15
namespace Go.Proofs.YtnficndeblkjhaaGreatDoor
open Go.RowKit

set_option maxRecDepth 100000 in
set_option maxHeartbeats 1600000 in
theorem s_step5 (P : Nat → Prop) (v : Value) (s : Sto) (o : OpX) (pa : Option Addr) (pc : Nat) (w : World) (hP : ∀ k, P k → k < w.heap.size) (hS : StF P v s w) (hs : OkS s) (hn : o.n ≤ 1048576) (hp : ∀ i, i < o.n → (o.p i).size ≤ maxLen) (hv : o.v.size ≤ maxLen) (hQ : RowStr pa o.n o.p w) (hW : WellX o) (hk : o.k = 5) :
    Calls Tryz.prog 29 #[v, .agg #[.int .i64 o.k, .slice pa o.n pc, .string o.v, .int .i64 o.N]] w (SteP P (stepX s o) w) := by
  have q1 : (o.k == 1) = false := by simp; omega
  have q2 : (o.k == 2) = false := by simp; omega
  have q3 : (o.k == 3) = false := by simp; omega
  have q4 : (o.k == 4) = false := by simp; omega
  have q5 : (o.k == 5) = true := by simp; omega
  have q6 : (o.k == 6) = false := by simp; omega
  have q7 : (o.k == 7) = false := by simp; omega
  have q8 : (o.k == 8) = false := by simp; omega
  replace hk := hide hk
  obtain ⟨ca, kc, ra, kr, ha, kh, a, c, rfl, hkh, hS⟩ := hS
  unfold stV
  have M1 := ((Mut.new w #[.slice ca s.C.n kc, .slice ra s.R.n kr, .slice ha s.h kh, .int .i64 s.l] 34).alloc (.cells #[.int .i64 o.k, .slice pa o.n pc, .string o.v, .int .i64 o.N] 38)).alloc (.cells #[.slice none 0 0, .slice none 0 0, .slice none 0 0, .int .i64 0] 34)
  have MO := (Mut.new (w.alloc (.cells #[.slice ca s.C.n kc, .slice ra s.R.n kr, .slice ha s.h kh, .int .i64 s.l] 34)) #[.int .i64 o.k, .slice pa o.n pc, .string o.v, .int .i64 o.N] 38).alloc (.cells #[.slice none 0 0, .slice none 0 0, .slice none 0 0, .int .i64 0] 34)
  have M2 := Mut.new ((w.alloc (.cells #[.slice ca s.C.n kc, .slice ra s.R.n kr, .slice ha s.h kh, .int .i64 s.l] 34)).alloc (.cells #[.int .i64 o.k, .slice pa o.n pc, .string o.v, .int .i64 o.N] 38)) #[.slice none 0 0, .slice none 0 0, .slice none 0 0, .int .i64 0] 34
  have d1 : Below w.heap.size w (((w.alloc (.cells #[.slice ca s.C.n kc, .slice ra s.R.n kr, .slice ha s.h kh, .int .i64 s.l] 34)).alloc (.cells #[.int .i64 o.k, .slice pa o.n pc, .string o.v, .int .i64 o.N] 38)).alloc (.cells #[.slice none 0 0, .slice none 0 0, .slice none 0 0, .int .i64 0] 34)) := below_box3 (Below.refl _ _)
  simp only [World.size_alloc] at MO M2
  have HO := hide (fun W R => s_l16Op o pa pc W hn hp hv R)
  have hPx := hide (fun k => bx_lt (P := P) (w := w) hP (k := k))
  replace hP := hide hP
  have j0 := MO.2.1 0 _ rfl
  have j1 := MO.2.1 1 _ rfl
  have j2 := MO.2.1 2 _ rfl
  have j3 := MO.2.1 3 _ rfl
  go_enter Tryz.func29, Tryz.ntmps29
  go_wp2_with fail
  clear j0 j1 j2 j3
  generalize (((w.alloc (.cells #[.slice ca s.C.n kc, .slice ra s.R.n kr, .slice ha s.h kh, .int .i64 s.l] 34)).alloc (.cells #[.int .i64 o.k, .slice pa o.n pc, .string o.v, .int .i64 o.N] 38)).alloc (.cells #[.slice none 0 0, .slice none 0 0, .slice none 0 0, .int .i64 0] 34)) = wa at *
  refine (HO.out _ (hQ.below d1)).mono ?_
  rintro e w1 ⟨rfl, bb⟩
  replace M1 := M1.below bb
  replace MO := MO.below bb
  replace M2 := M2.below bb
  replace d1 := d1.trans (bb.mono d1.size)
  have hw2 : w.heap.size + 1 + 1 < w1.heap.size := M2.1
  clear bb HO
  replace hS : StP (BxP P w) (HasSt s ca ra ha a c) w1 := hS.more d1 (fun x hx hq => by rcases hq with hq | hq; exact hq; omega)
  have k0 := M1.2.1 0 _ rfl
  have k1 := M1.2.1 1 _ rfl
  have k2 := M1.2.1 2 _ rfl
  have k3 := M1.2.1 3 _ rfl
  have j0 := MO.2.1 0 _ rfl
  have j1 := MO.2.1 1 _ rfl
  have j2 := MO.2.1 2 _ rfl
  have j3 := MO.2.1 3 _ rfl
  have f0 := M1.2.2 0 (by simp)
  have f1 := M1.2.2 1 (by simp)
  have f3 := M1.2.2 3 (by simp)
  rw [tB_t hW]
  have hr := hide ((stepX_yes (s := s) (well_need hW)).trans (opX_5 (s := s) hk.out))
  replace hW := hide hW
  have hZ : Hid (s.l = 0 → (stepX s o) = (s, false)) := fun h => by rw [hr.out, if_pos h]
  obtain ⟨t, ht⟩ : ∃ t, Hid (t = conS s) := ⟨_, rfl⟩
  have hY : Hid (s.l ≠ 0 → (stepX s o) = (t, true)) := fun h => by rw [hr.out, if_neg h, ht.out]
  have CF : Hid (∀ W, (∀ k, BxP P w k → k < W.heap.size) → StF (BxP P w) (.agg #[.slice ca s.C.n kc, .slice ra s.R.n kr, .slice ha s.h kh, .int .i64 s.l]) s W → Calls Tryz.prog 57 #[.agg #[.slice ca s.C.n kc, .slice ra s.R.n kr, .slice ha s.h kh, .int .i64 s.l]] W fun e w' => ∃ v', e = .returned v' ∧ StF (BxP P w) v' t w' ∧ Below W.heap.size W w') := fun W h1 h2 => by rw [ht.out]; exact s_l16Confirm _ _ s W h1 h2 hs
  by_cases hl : s.l = 0
  · have z1 : (s.l == 0) = true := by simp [hl]
    replace hl := hide hl
    go_wp2_with (refine wpList_storeM (us := [.slice ca s.C.n kc, .slice ra s.R.n kr, .slice ha s.h kh, .int .i64 s.l]) rfl rfl rfl rfl M2 rfl (by intro v hv; simp only [List.mem_cons, List.not_mem_nil, or_false] at hv; rcases hv with rfl | rfl | rfl | rfl <;> rfl) sizeSto ?_; intro w9 M9 o9)
    have on := OnlyP.of_only (P := fun x => x = w.heap.size + 1 + 1) o9 rfl
    have e9 := (d1).trans (on.below (base := w.heap.size) (fun x _ hx => by have h : x = w.heap.size + 1 + 1 := hx; omega) (d1).size)
    have r0 := M9.2.1 0 _ rfl
    have r1 := M9.2.1 1 _ rfl
    have r2 := M9.2.1 2 _ rfl
    have r3 := M9.2.1 3 _ rfl
    exact bodyPost_ret (v := .tuple #[.agg #[.slice ca s.C.n kc, .slice ra s.R.n kr, .slice ha s.h kh, .int .i64 s.l], .bool false]) (by simp [results, Tryz.results29, go_sem, r0, r1, r2, r3]) rfl ⟨e9, _, by rw [hZ.out hl.out], ⟨_, _, _, _, _, _, _, _, _, _, rfl⟩, fun h => by rw [hZ.out hl.out] at h; exact absurd h (by simp)⟩
  have z1 : (s.l == 0) = false := by simp [hl]
  replace hl := hide hl
  go_wp2_with fail
  refine (CF.out _ (fun k h => by have := hPx.out k h; omega) ⟨ca, kc, ra, kr, ha, kh, a, c, rfl, hkh, hS⟩).mono ?_
  rintro e w5 ⟨v5, rfl, hF5, b5⟩
  have d5 := (d1).trans (b5.mono (d1).size)
  have M25 := (M2).below b5
  obtain ⟨xa, xc, ya, yc, za, zc, rfl⟩ := hF5.form
  go_wp2_with (refine wpList_storeM (us := [.slice xa t.C.n xc, .slice ya t.R.n yc, .slice za t.h zc, .int .i64 t.l]) rfl rfl rfl rfl M25 rfl (by intro v hv; simp only [List.mem_cons, List.not_mem_nil, or_false] at hv; rcases hv with rfl | rfl | rfl | rfl <;> rfl) sizeSto ?_; intro w9 M9 o9)
  have on := OnlyP.of_only (P := fun x => x = w.heap.size + 1 + 1) o9 rfl
  have onB : OnlyP (BxP P w) _ w9 := on.mono (fun x _ hx => .inr ⟨by have hx : x = w.heap.size + 1 + 1 := hx; omega, by have hx : x = w.heap.size + 1 + 1 := hx; omega⟩)
  have e9 := (d5).trans (on.below (base := w.heap.size) (fun x _ hx => by have h : x = w.heap.size + 1 + 1 := hx; omega) (d5).size)
  have r0 := M9.2.1 0 _ rfl
  have r1 := M9.2.1 1 _ rfl
  have r2 := M9.2.1 2 _ rfl
  have r3 := M9.2.1 3 _ rfl
  have hF : StF P (.agg #[.slice xa t.C.n xc, .slice ya t.R.n yc, .slice za t.h zc, .int .i64 t.l]) t w9 := (hF5.only onB).more (Below.refl _ _) (fun x _ hx => .inl hx)
  exact bodyPost_ret (v := .tuple #[.agg #[.slice xa t.C.n xc, .slice ya t.R.n yc, .slice za t.h zc, .int .i64 t.l], .bool true]) (by simp [results, Tryz.results29, go_sem, r0, r1, r2, r3]) rfl ⟨e9, _, by rw [hY.out hl.out], ⟨_, _, _, _, _, _, _, _, _, _, rfl⟩, fun _ => by rw [hY.out hl.out]; exact hF⟩
end Go.Proofs.YtnficndeblkjhaaGreatDoor
