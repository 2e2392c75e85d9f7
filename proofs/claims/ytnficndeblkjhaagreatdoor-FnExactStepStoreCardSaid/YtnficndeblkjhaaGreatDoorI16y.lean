/- StepStore of the program. -/
import Derived.Test.YtnficndeblkjhaaGreatDoorGrp12
import Derived.Test.YtnficndeblkjhaaGreatDoorI16x
import Derived.Test.YtnficndeblkjhaaGreatDoorI16a
import Derived.Test.YtnficndeblkjhaaGreatDoorI16e
namespace Go.Proofs.YtnficndeblkjhaaGreatDoor
open Go.RowKit

set_option maxRecDepth 100000 in
set_option maxHeartbeats 1600000 in
theorem i_stepStoreN (v : Value) (s : Sto) (o : OpX) (pa : Option Addr) (pc : Nat) (w : World) (hl : LowSt s) (hR : RowSt true v s w) (hg : ¬ GS s) :
    Calls Tryz.prog 10 #[v, .agg #[.int .i64 o.k, .slice pa o.n pc, .string o.v, .int .i64 o.N]] w fun e w' => e = .returned (.tuple #[zSt, .bool false]) ∧ Below w.heap.size w w' := by
  obtain ⟨ca, kc, ra, kr, ha, kh, rfl, R1, R2, R3, R4⟩ := hR
  have hRS : RowSt true (stV s ca kc ra kr ha kh) s w := ⟨ca, kc, ra, kr, ha, kh, rfl, R1, R2, R3, R4⟩
  unfold stV
  unfold stV at hRS
  have M1 := ((Mut.new w #[.slice ca s.C.n kc, .slice ra s.R.n kr, .slice ha s.h kh, .int .i64 s.l] 34).alloc (.cells #[.int .i64 o.k, .slice pa o.n pc, .string o.v, .int .i64 o.N] 38)).alloc (.cells #[.slice none 0 0, .slice none 0 0, .slice none 0 0, .int .i64 0] 34)
  have MO := (Mut.new (w.alloc (.cells #[.slice ca s.C.n kc, .slice ra s.R.n kr, .slice ha s.h kh, .int .i64 s.l] 34)) #[.int .i64 o.k, .slice pa o.n pc, .string o.v, .int .i64 o.N] 38).alloc (.cells #[.slice none 0 0, .slice none 0 0, .slice none 0 0, .int .i64 0] 34)
  have M2 := Mut.new ((w.alloc (.cells #[.slice ca s.C.n kc, .slice ra s.R.n kr, .slice ha s.h kh, .int .i64 s.l] 34)).alloc (.cells #[.int .i64 o.k, .slice pa o.n pc, .string o.v, .int .i64 o.N] 38)) #[.slice none 0 0, .slice none 0 0, .slice none 0 0, .int .i64 0] 34
  have d1 : Below w.heap.size w (((w.alloc (.cells #[.slice ca s.C.n kc, .slice ra s.R.n kr, .slice ha s.h kh, .int .i64 s.l] 34)).alloc (.cells #[.int .i64 o.k, .slice pa o.n pc, .string o.v, .int .i64 o.N] 38)).alloc (.cells #[.slice none 0 0, .slice none 0 0, .slice none 0 0, .int .i64 0] 34)) := below_box3 (Below.refl _ _)
  simp only [World.size_alloc] at MO M2
  have HG := hide (fun W R => i_goodStore (.agg #[.slice ca s.C.n kc, .slice ra s.R.n kr, .slice ha s.h kh, .int .i64 s.l]) s W hl R)
  go_enter Tryz.func10, Tryz.ntmps10
  go_wp2_with fail
  generalize (((w.alloc (.cells #[.slice ca s.C.n kc, .slice ra s.R.n kr, .slice ha s.h kh, .int .i64 s.l] 34)).alloc (.cells #[.int .i64 o.k, .slice pa o.n pc, .string o.v, .int .i64 o.N] 38)).alloc (.cells #[.slice none 0 0, .slice none 0 0, .slice none 0 0, .int .i64 0] 34)) = wa at *
  refine (HG.out _ (hRS.below d1)).mono ?_
  rintro e w1 ⟨rfl, bb⟩
  replace M1 := M1.below bb
  replace MO := MO.below bb
  replace M2 := M2.below bb
  replace d1 := d1.trans (bb.mono d1.size)
  have hw2 : w.heap.size + 1 + 1 < w1.heap.size := M2.1
  clear bb HG
  rw [tB_f hg]
  clear hg
  go_wp2_with (refine wpList_storeM (us := [.slice none 0 0, .slice none 0 0, .slice none 0 0, .int .i64 0]) rfl rfl rfl rfl M2 rfl (by intro v hv; simp only [List.mem_cons, List.not_mem_nil, or_false] at hv; rcases hv with rfl | rfl | rfl | rfl <;> rfl) sizeSto ?_; intro w9 M9 o9)
  have on := OnlyP.of_only (P := fun x => x = w.heap.size + 1 + 1) o9 rfl
  have e9 := (d1).trans (on.below (base := w.heap.size) (fun x _ hx => by have h : x = w.heap.size + 1 + 1 := hx; omega) (d1).size)
  have r0 := M9.2.1 0 _ rfl
  have r1 := M9.2.1 1 _ rfl
  have r2 := M9.2.1 2 _ rfl
  have r3 := M9.2.1 3 _ rfl
  exact bodyPost_ret (v := .tuple #[zSt, .bool false]) (by simp [results, Tryz.results10, go_sem, zSt, r0, r1, r2, r3]) rfl ⟨rfl, e9⟩
set_option maxRecDepth 100000 in
set_option maxHeartbeats 1600000 in
theorem i_stepStoreY (v : Value) (s : Sto) (o : OpX) (pa : Option Addr) (pc : Nat) (w : World) (hl : LowSt s) (hR : RowSt true v s w) (hg : GS s) (gl gr : Addr) (hG : GW gl gr w) (hP : RowStr pa o.n o.p w) (hpc : o.n ≤ pc) :
    Calls Tryz.prog 10 #[v, .agg #[.int .i64 o.k, .slice pa o.n pc, .string o.v, .int .i64 o.N]] w fun e w' => Below w.heap.size w w' ∧
      (((stepX s o).2 = false ∧ e = .returned (.tuple #[zSt, .bool false])) ∨
       ((stepX s o).2 = true ∧ ∃ v', e = .returned (.tuple #[v', .bool true]) ∧ AnsSt v' (stepX s o).1 w.heap.size w'.heap.size w')) := by
  have hs : OkS s := GS.ok hg
  obtain ⟨ca, kc, ra, kr, ha, kh, rfl, R1, R2, R3, R4⟩ := hR
  have hRS : RowSt true (stV s ca kc ra kr ha kh) s w := ⟨ca, kc, ra, kr, ha, kh, rfl, R1, R2, R3, R4⟩
  unfold stV
  unfold stV at hRS
  have M1 := ((Mut.new w #[.slice ca s.C.n kc, .slice ra s.R.n kr, .slice ha s.h kh, .int .i64 s.l] 34).alloc (.cells #[.int .i64 o.k, .slice pa o.n pc, .string o.v, .int .i64 o.N] 38)).alloc (.cells #[.slice none 0 0, .slice none 0 0, .slice none 0 0, .int .i64 0] 34)
  have MO := (Mut.new (w.alloc (.cells #[.slice ca s.C.n kc, .slice ra s.R.n kr, .slice ha s.h kh, .int .i64 s.l] 34)) #[.int .i64 o.k, .slice pa o.n pc, .string o.v, .int .i64 o.N] 38).alloc (.cells #[.slice none 0 0, .slice none 0 0, .slice none 0 0, .int .i64 0] 34)
  have M2 := Mut.new ((w.alloc (.cells #[.slice ca s.C.n kc, .slice ra s.R.n kr, .slice ha s.h kh, .int .i64 s.l] 34)).alloc (.cells #[.int .i64 o.k, .slice pa o.n pc, .string o.v, .int .i64 o.N] 38)) #[.slice none 0 0, .slice none 0 0, .slice none 0 0, .int .i64 0] 34
  have d1 : Below w.heap.size w (((w.alloc (.cells #[.slice ca s.C.n kc, .slice ra s.R.n kr, .slice ha s.h kh, .int .i64 s.l] 34)).alloc (.cells #[.int .i64 o.k, .slice pa o.n pc, .string o.v, .int .i64 o.N] 38)).alloc (.cells #[.slice none 0 0, .slice none 0 0, .slice none 0 0, .int .i64 0] 34)) := below_box3 (Below.refl _ _)
  simp only [World.size_alloc] at MO M2
  have HG := hide (fun W R => i_goodStore (.agg #[.slice ca s.C.n kc, .slice ra s.R.n kr, .slice ha s.h kh, .int .i64 s.l]) s W hl R)
  go_enter Tryz.func10, Tryz.ntmps10
  go_wp2_with fail
  generalize (((w.alloc (.cells #[.slice ca s.C.n kc, .slice ra s.R.n kr, .slice ha s.h kh, .int .i64 s.l] 34)).alloc (.cells #[.int .i64 o.k, .slice pa o.n pc, .string o.v, .int .i64 o.N] 38)).alloc (.cells #[.slice none 0 0, .slice none 0 0, .slice none 0 0, .int .i64 0] 34)) = wa at *
  refine (HG.out _ (hRS.below d1)).mono ?_
  rintro e w1 ⟨rfl, bb⟩
  replace M1 := M1.below bb
  replace MO := MO.below bb
  replace M2 := M2.below bb
  replace d1 := d1.trans (bb.mono d1.size)
  have hw2 : w.heap.size + 1 + 1 < w1.heap.size := M2.1
  clear bb HG
  rw [tB_t hg]
  clear hg
  obtain ⟨r, hr0⟩ : ∃ r, Hid (r = stepX s o) := ⟨_, rfl⟩
  have hO : Hid (OwnSt r.1) := by rw [hr0.out]; exact (stepX_ok (o := o) hs).own
  have ST : Hid (∀ W, GW gl gr W → Below w.heap.size w W → Calls Tryz.prog 36 #[.agg #[.slice ca s.C.n kc, .slice ra s.R.n kr, .slice ha s.h kh, .int .i64 s.l], .agg #[.int .i64 o.k, .slice pa o.n pc, .string o.v, .int .i64 o.N]] W (MetP gl gr w W.heap.size s r W)) := hide (fun W hG hb => by rw [hr0.out]; exact i_step (.agg #[.slice ca s.C.n kc, .slice ra s.R.n kr, .slice ha s.h kh, .int .i64 s.l]) s o pa pc gl gr w W hG hb hRS hs hP hpc)
  have SE := hide (fun W base v er hG hb hV => i_settled gl gr w W base s r v er hG hb hV)
  have k0 := M1.2.1 0 _ rfl
  have k1 := M1.2.1 1 _ rfl
  have k2 := M1.2.1 2 _ rfl
  have k3 := M1.2.1 3 _ rfl
  have j0 := MO.2.1 0 _ rfl
  have j1 := MO.2.1 1 _ rfl
  have j2 := MO.2.1 2 _ rfl
  have j3 := MO.2.1 3 _ rfl
  go_wp2_with fail
  clear k0 k1 k2 k3 j0 j1 j2 j3
  refine (ST.out _ (hG.below d1) d1).mono ?_
  rintro e w2 hM
  obtain ⟨b2, v2, er, rfl, hV⟩ := hM.vals
  have d2 := d1.trans (b2.mono d1.size)
  go_wp2_with fail
  refine (SE.out w2 _ v2 er (hG.below d2) d2 hV).mono ?_
  rintro e w3 ⟨v3, rfl, hR3, b3⟩
  have d3 := d2.trans (b3.mono d2.size)
  have M23 := (M2.below b2).below b3
  have h3 := hR3.here
  obtain ⟨xa, xc, ya, yc, za, zc, rfl⟩ := h3.form
  clear hM hV hR3 M1 MO M2 ST SE b2 b3
  have d4 : Below w.heap.size w (w3.alloc (.cells #[.slice xa r.1.C.n xc, .slice ya r.1.R.n yc, .slice za r.1.h zc, .int .i64 r.1.l] 34)) := d3.alloc d3.size _
  have M24 := M23.alloc (.cells #[.slice xa r.1.C.n xc, .slice ya r.1.R.n yc, .slice za r.1.h zc, .int .i64 r.1.l] 34)
  have h4 := h3.below (below_box (o := .cells #[.slice xa r.1.C.n xc, .slice ya r.1.R.n yc, .slice za r.1.h zc, .int .i64 r.1.l] 34) (Below.refl _ _))
  by_cases hr : r.2 = true
  case neg =>
    have hr : r.2 = false := by simpa using hr
    rw [hr]
    go_wp2_with (refine wpList_storeM (us := [.slice none 0 0, .slice none 0 0, .slice none 0 0, .int .i64 0]) rfl rfl rfl rfl M24 rfl (by intro v hv; simp only [List.mem_cons, List.not_mem_nil, or_false] at hv; rcases hv with rfl | rfl | rfl | rfl <;> rfl) sizeSto ?_; intro w9 M9 o9)
    have on := OnlyP.of_only (P := fun x => x = w.heap.size + 1 + 1) o9 rfl
    have e9 := (d4).trans (on.below (base := w.heap.size) (fun x _ hx => by have h : x = w.heap.size + 1 + 1 := hx; omega) (d4).size)
    have r0 := M9.2.1 0 _ rfl
    have r1 := M9.2.1 1 _ rfl
    have r2 := M9.2.1 2 _ rfl
    have r3 := M9.2.1 3 _ rfl
    exact bodyPost_ret (v := .tuple #[zSt, .bool false]) (by simp [results, Tryz.results10, go_sem, zSt, r0, r1, r2, r3]) rfl ⟨e9, .inl ⟨hr0.out ▸ hr, rfl⟩⟩
  rw [hr]
  have OW := hide (fun W R => i_ownStore (.agg #[.slice xa r.1.C.n xc, .slice ya r.1.R.n yc, .slice za r.1.h zc, .int .i64 r.1.l]) r.1 W hO.out R)
  go_wp2_with fail
  refine (OW.out _ h4.any).mono ?_
  rintro e w5 ⟨v5, rfl, hA, b5⟩
  have d5 := d4.trans (b5.mono d4.size)
  have M25 := M24.below b5
  obtain ⟨pa', pc', qa, qc, ta, tc, rfl⟩ := hA.form
  go_wp2_with (refine wpList_storeM (us := [.slice pa' r.1.C.n pc', .slice qa r.1.R.n qc, .slice ta r.1.h tc, .int .i64 r.1.l]) rfl rfl rfl rfl M25 rfl (by intro v hv; simp only [List.mem_cons, List.not_mem_nil, or_false] at hv; rcases hv with rfl | rfl | rfl | rfl <;> rfl) sizeSto ?_; intro w9 M9 o9)
  have on := OnlyP.of_only (P := fun x => x = w.heap.size + 1 + 1) o9 rfl
  have e9 := (d5).trans (on.below (base := w.heap.size) (fun x _ hx => by have h : x = w.heap.size + 1 + 1 := hx; omega) (d5).size)
  have r0 := M9.2.1 0 _ rfl
  have r1 := M9.2.1 1 _ rfl
  have r2 := M9.2.1 2 _ rfl
  have r3 := M9.2.1 3 _ rfl
  exact bodyPost_ret (v := .tuple #[.agg #[.slice pa' r.1.C.n pc', .slice qa r.1.R.n qc, .slice ta r.1.h tc, .int .i64 r.1.l], .bool true]) (by simp [results, Tryz.results10, go_sem, r0, r1, r2, r3]) rfl ⟨e9, .inr ⟨hr0.out ▸ hr, _, rfl, by rw [← hr0.out]; exact (hA.onlyP on (fun k q1 q2 q3 => by have h := M24.1; have q3 : k = w.heap.size + 1 + 1 := q3; omega)).wide (Nat.le_trans d4.size (Nat.le_refl _)) on.2.2.2.1 (Nat.le_refl _)⟩⟩
end Go.Proofs.YtnficndeblkjhaaGreatDoor
