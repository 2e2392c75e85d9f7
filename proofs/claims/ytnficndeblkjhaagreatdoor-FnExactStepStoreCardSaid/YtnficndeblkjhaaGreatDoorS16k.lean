/- StepStore of the specification. -/
import Derived.Test.YtnficndeblkjhaaGreatDoorGrp19
import Derived.Test.YtnficndeblkjhaaGreatDoorGrp5
import Derived.Deep.RegionHeld3
namespace Go.Proofs.YtnficndeblkjhaaGreatDoor
open Go.RowKit

set_option maxRecDepth 100000 in
set_option maxHeartbeats 1600000 in
theorem s_stepStoreN (v : Value) (s : Sto) (o : OpX) (pa : Option Addr) (pc : Nat) (w : World) (hl : LowSt s) (hR : RowSt true v s w) (hg : ¬ GS s) :
    Calls Tryz.prog 7 #[v, .agg #[.int .i64 o.k, .slice pa o.n pc, .string o.v, .int .i64 o.N]] w fun e w' => e = .returned (.tuple #[zSt, .bool false]) ∧ Below w.heap.size w w' := by
  obtain ⟨ca, kc, ra, kr, ha, kh, rfl, R1, R2, R3, R4⟩ := hR
  have hRS : RowSt true (stV s ca kc ra kr ha kh) s w := ⟨ca, kc, ra, kr, ha, kh, rfl, R1, R2, R3, R4⟩
  unfold stV
  unfold stV at hRS
  have M1 := ((Mut.new w #[.slice ca s.C.n kc, .slice ra s.R.n kr, .slice ha s.h kh, .int .i64 s.l] 34).alloc (.cells #[.int .i64 o.k, .slice pa o.n pc, .string o.v, .int .i64 o.N] 38)).alloc (.cells #[.slice none 0 0, .slice none 0 0, .slice none 0 0, .int .i64 0] 34)
  have MO := (Mut.new (w.alloc (.cells #[.slice ca s.C.n kc, .slice ra s.R.n kr, .slice ha s.h kh, .int .i64 s.l] 34)) #[.int .i64 o.k, .slice pa o.n pc, .string o.v, .int .i64 o.N] 38).alloc (.cells #[.slice none 0 0, .slice none 0 0, .slice none 0 0, .int .i64 0] 34)
  have M2 := Mut.new ((w.alloc (.cells #[.slice ca s.C.n kc, .slice ra s.R.n kr, .slice ha s.h kh, .int .i64 s.l] 34)).alloc (.cells #[.int .i64 o.k, .slice pa o.n pc, .string o.v, .int .i64 o.N] 38)) #[.slice none 0 0, .slice none 0 0, .slice none 0 0, .int .i64 0] 34
  have d1 : Below w.heap.size w (((w.alloc (.cells #[.slice ca s.C.n kc, .slice ra s.R.n kr, .slice ha s.h kh, .int .i64 s.l] 34)).alloc (.cells #[.int .i64 o.k, .slice pa o.n pc, .string o.v, .int .i64 o.N] 38)).alloc (.cells #[.slice none 0 0, .slice none 0 0, .slice none 0 0, .int .i64 0] 34)) := below_box3 (Below.refl _ _)
  simp only [World.size_alloc] at MO M2
  have HG := hide (fun W R => s_goodStore (.agg #[.slice ca s.C.n kc, .slice ra s.R.n kr, .slice ha s.h kh, .int .i64 s.l]) s W hl R)
  go_enter Tryz.func7, Tryz.ntmps7
  go_wp2_with fail
  generalize (((w.alloc (.cells #[.slice ca s.C.n kc, .slice ra s.R.n kr, .slice ha s.h kh, .int .i64 s.l] 34)).alloc (.cells #[.int .i64 o.k, .slice pa o.n pc, .string o.v, .int .i64 o.N] 38)).alloc (.cells #[.slice none 0 0, .slice none 0 0, .slice none 0 0, .int .i64 0] 34)) = wa at *
  refine (HG.out _ (hRS.below d1)).mono ?_
  rintro e w1 ⟨rfl, bb⟩
  replace M1 := M1.below bb
  replace MO := MO.below bb
  replace M2 := M2.below bb
  replace d1 := d1.trans (bb.mono d1.size)
  have hw2 : w.heap.size + 1 + 1 < w1.heap.size := M2.1
  clear bb HG
  rw [tB_f hg]
  clear hg
  go_wp2_with (refine wpList_storeM (us := [.slice none 0 0, .slice none 0 0, .slice none 0 0, .int .i64 0]) rfl rfl rfl rfl M2 rfl (by intro v hv; simp only [List.mem_cons, List.not_mem_nil, or_false] at hv; rcases hv with rfl | rfl | rfl | rfl <;> rfl) sizeSto ?_; intro w9 M9 o9)
  have on := OnlyP.of_only (P := fun x => x = w.heap.size + 1 + 1) o9 rfl
  have e9 := (d1).trans (on.below (base := w.heap.size) (fun x _ hx => by have h : x = w.heap.size + 1 + 1 := hx; omega) (d1).size)
  have r0 := M9.2.1 0 _ rfl
  have r1 := M9.2.1 1 _ rfl
  have r2 := M9.2.1 2 _ rfl
  have r3 := M9.2.1 3 _ rfl
  exact bodyPost_ret (v := .tuple #[zSt, .bool false]) (by simp [results, Tryz.results7, go_sem, zSt, r0, r1, r2, r3]) rfl ⟨rfl, e9⟩
set_option maxRecDepth 100000 in
set_option maxHeartbeats 1600000 in
theorem s_stepStoreY (v : Value) (s : Sto) (o : OpX) (pa : Option Addr) (pc : Nat) (w : World) (hl : LowSt s) (hR : RowSt true v s w) (hg : GS s) (hn : o.n ≤ 1048576) (hp : ∀ i, i < o.n → (o.p i).size ≤ maxLen) (hv : o.v.size ≤ maxLen) (hQ : RowStr pa o.n o.p w) :
    Calls Tryz.prog 7 #[v, .agg #[.int .i64 o.k, .slice pa o.n pc, .string o.v, .int .i64 o.N]] w fun e w' => Below w.heap.size w w' ∧
      (((stepX s o).2 = false ∧ e = .returned (.tuple #[zSt, .bool false])) ∨
       ((stepX s o).2 = true ∧ ∃ v', e = .returned (.tuple #[v', .bool true]) ∧ AnsSt v' (stepX s o).1 w.heap.size w'.heap.size w')) := by
  have hs : OkS s := GS.ok hg
  obtain ⟨r, hr0⟩ : ∃ r, Hid (r = stepX s o) := ⟨_, rfl⟩
  have hO : Hid (OwnSt r.1) := by rw [hr0.out]; exact (stepX_ok (o := o) hs).own
  have ST : Hid (∀ P v W, (∀ k, P k → k < W.heap.size) → StF P v s W → Below w.heap.size w W → Calls Tryz.prog 29 #[v, .agg #[.int .i64 o.k, .slice pa o.n pc, .string o.v, .int .i64 o.N]] W (SteP P r W)) := fun P v W h1 h2 h3 => by rw [hr0.out]; exact s_step P v s o pa pc W h1 h2 hs hn hp hv (hQ.below h3)
  have OX : Hid (∀ v W, RowSt false v r.1 W → _) := fun v W R => s_own16 v r.1 W hO.out R
  obtain ⟨ca, kc, ra, kr, ha, kh, rfl, R1, R2, R3, R4⟩ := hR
  have hRS : RowSt true (stV s ca kc ra kr ha kh) s w := ⟨ca, kc, ra, kr, ha, kh, rfl, R1, R2, R3, R4⟩
  unfold stV
  unfold stV at hRS
  have M1 := ((Mut.new w #[.slice ca s.C.n kc, .slice ra s.R.n kr, .slice ha s.h kh, .int .i64 s.l] 34).alloc (.cells #[.int .i64 o.k, .slice pa o.n pc, .string o.v, .int .i64 o.N] 38)).alloc (.cells #[.slice none 0 0, .slice none 0 0, .slice none 0 0, .int .i64 0] 34)
  have MO := (Mut.new (w.alloc (.cells #[.slice ca s.C.n kc, .slice ra s.R.n kr, .slice ha s.h kh, .int .i64 s.l] 34)) #[.int .i64 o.k, .slice pa o.n pc, .string o.v, .int .i64 o.N] 38).alloc (.cells #[.slice none 0 0, .slice none 0 0, .slice none 0 0, .int .i64 0] 34)
  have M2 := Mut.new ((w.alloc (.cells #[.slice ca s.C.n kc, .slice ra s.R.n kr, .slice ha s.h kh, .int .i64 s.l] 34)).alloc (.cells #[.int .i64 o.k, .slice pa o.n pc, .string o.v, .int .i64 o.N] 38)) #[.slice none 0 0, .slice none 0 0, .slice none 0 0, .int .i64 0] 34
  have d1 : Below w.heap.size w (((w.alloc (.cells #[.slice ca s.C.n kc, .slice ra s.R.n kr, .slice ha s.h kh, .int .i64 s.l] 34)).alloc (.cells #[.int .i64 o.k, .slice pa o.n pc, .string o.v, .int .i64 o.N] 38)).alloc (.cells #[.slice none 0 0, .slice none 0 0, .slice none 0 0, .int .i64 0] 34)) := below_box3 (Below.refl _ _)
  simp only [World.size_alloc] at MO M2
  have HG := hide (fun W R => s_goodStore (.agg #[.slice ca s.C.n kc, .slice ra s.R.n kr, .slice ha s.h kh, .int .i64 s.l]) s W hl R)
  go_enter Tryz.func7, Tryz.ntmps7
  go_wp2_with fail
  generalize (((w.alloc (.cells #[.slice ca s.C.n kc, .slice ra s.R.n kr, .slice ha s.h kh, .int .i64 s.l] 34)).alloc (.cells #[.int .i64 o.k, .slice pa o.n pc, .string o.v, .int .i64 o.N] 38)).alloc (.cells #[.slice none 0 0, .slice none 0 0, .slice none 0 0, .int .i64 0] 34)) = wa at *
  refine (HG.out _ (hRS.below d1)).mono ?_
  rintro e w1 ⟨rfl, bb⟩
  replace M1 := M1.below bb
  replace MO := MO.below bb
  replace M2 := M2.below bb
  replace d1 := d1.trans (bb.mono d1.size)
  have hw2 : w.heap.size + 1 + 1 < w1.heap.size := M2.1
  clear bb HG
  rw [tB_t hg]
  clear hg hO
  have OW := hide (fun W R => s_own16 (.agg #[.slice ca s.C.n kc, .slice ra s.R.n kr, .slice ha s.h kh, .int .i64 s.l]) s W hs.own R)
  have hh1 := hide hs.2.2.1
  replace hs := hide hs
  go_wp2_with fail
  have hS : ∀ w' : World, Below w1.heap.size w1 w' → w'.cell? ⟨w.heap.size, 0, none⟩ = some (.slice ca s.C.n kc) ∧ w'.cell? ⟨w.heap.size, 1, none⟩ = some (.slice ra s.R.n kr) ∧ w'.cell? ⟨w.heap.size, 2, none⟩ = some (.slice ha s.h kh) ∧ w'.cell? ⟨w.heap.size, 3, none⟩ = some (.int .i64 s.l) ∧ w'.cell? ⟨w.heap.size + 1, 0, none⟩ = some (.int .i64 o.k) ∧ w'.cell? ⟨w.heap.size + 1, 1, none⟩ = some (.slice pa o.n pc) ∧ w'.cell? ⟨w.heap.size + 1, 2, none⟩ = some (.string o.v) ∧ w'.cell? ⟨w.heap.size + 1, 3, none⟩ = some (.int .i64 o.N) := fun w' b => ⟨(M1.below b).2.1 0 _ rfl, (M1.below b).2.1 1 _ rfl, (M1.below b).2.1 2 _ rfl, (M1.below b).2.1 3 _ rfl, (MO.below b).2.1 0 _ rfl, (MO.below b).2.1 1 _ rfl, (MO.below b).2.1 2 _ rfl, (MO.below b).2.1 3 _ rfl⟩
  refine wp_region_held_drew (S := fun w' => w'.cell? ⟨w.heap.size, 0, none⟩ = some (.slice ca s.C.n kc) ∧ w'.cell? ⟨w.heap.size, 1, none⟩ = some (.slice ra s.R.n kr) ∧ w'.cell? ⟨w.heap.size, 2, none⟩ = some (.slice ha s.h kh) ∧ w'.cell? ⟨w.heap.size, 3, none⟩ = some (.int .i64 s.l) ∧ w'.cell? ⟨w.heap.size + 1, 0, none⟩ = some (.int .i64 o.k) ∧ w'.cell? ⟨w.heap.size + 1, 1, none⟩ = some (.slice pa o.n pc) ∧ w'.cell? ⟨w.heap.size + 1, 2, none⟩ = some (.string o.v) ∧ w'.cell? ⟨w.heap.size + 1, 3, none⟩ = some (.int .i64 o.N)) (by kernel_rfl) (hS _ (Below.refl _ _).drew) (fun hHeld => ?_)
  have hz1 : w1.drew.heap.size = w1.heap.size := rfl
  refine wpAnyH_take (i := 0) (v := .agg #[.slice ca s.C.n kc, .slice ra s.R.n kr, .slice ha s.h kh, .int .i64 s.l]) rfl (by kernel_rfl) (by kernel_rfl) (by kernel_rfl) (fun _ _ _ h => h) (Or.inl ⟨by rfl, fun w' hSw => by go_simp⟩) hHeld ?_
  simp only [List.getElem_toArray, List.getElem_cons_zero, Act.put, List.setIfInBounds_toArray, List.set_cons_zero, List.set_cons_succ]
  refine wpAnyH_take (i := 2) (v := .agg #[.int .i64 o.k, .slice pa o.n pc, .string o.v, .int .i64 o.N]) rfl (by kernel_rfl) (by kernel_rfl) (by kernel_rfl) (fun _ _ _ h => h) (Or.inl ⟨by rfl, fun w' hSw => by go_simp⟩) hHeld ?_
  simp only [List.getElem_toArray, List.getElem_cons_succ, List.getElem_cons_zero, Act.put, List.setIfInBounds_toArray, List.set_cons_zero, List.set_cons_succ]
  refine wpAnyH_ready (rs := [1, 7]) (by kernel_rfl) (by simp) (AllReadyH.cons rfl (fun K hK => ?_) (AllReadyH.cons rfl (fun K hK => ?_) AllReadyH.nil))
  · have f0 : Below w1.heap.size w1 w1.drew := (Below.refl _ _).drew
    go_simp
    refine (OW.out _ (hRS.below (d1.trans (f0.mono d1.size))).any).mono ?_
    rintro e y1 ⟨v2, rfl, hA, b2⟩
    have d2 := (d1.trans (f0.mono d1.size)).trans (b2.mono (d1.trans (f0.mono d1.size)).size)
    have f2 := (f0).trans (b2.mono (f0).size)
    refine hK.out _ _ (hS _ (f2)) (fun hHeld => ?_)
    clear hK K
    refine wpAnyH_ready (rs := [3, 7]) (by kernel_rfl) (by simp) (AllReadyH.cons rfl (fun K hK => ?_) (AllReadyH.cons rfl (fun K hK => ?_) AllReadyH.nil))
    · have hP1 : ∀ k, k < w1.heap.size → k < y1.heap.size := fun k h => Nat.lt_of_lt_of_le h f2.size
      go_simp
      refine (ST.out (fun k => k < w1.heap.size) v2 _ hP1 (hA.stF _ (fun k h1 _ h2 => by omega) hh1.out) (d2)).mono ?_
      rintro e y2 ⟨b3, v3, rfl, ⟨xa, xn, xc, ya, yn, yc, za, zn, zc, xl, rfl⟩, hF⟩
      have f3 := f2.trans (b3.mono f2.size)
      refine hK.out _ _ (hS _ (f3)) (fun hHeld => ?_)
      clear hK K
      refine wpAnyH_take (i := 4) (v := .tuple #[.agg #[.slice xa xn xc, .slice ya yn yc, .slice za zn zc, .int .i64 xl], .bool r.2]) rfl (by kernel_rfl) (by kernel_rfl) (by kernel_rfl) (fun _ _ _ h => h) (Or.inl ⟨by rfl, fun w' hSw => by go_simp⟩) hHeld ?_
      simp only [List.getElem_toArray, List.getElem_cons_succ, List.getElem_cons_zero, Act.put, List.setIfInBounds_toArray, List.set_cons_zero, List.set_cons_succ]
      refine wpAnyH_take (i := 5) (v := .agg #[.slice xa xn xc, .slice ya yn yc, .slice za zn zc, .int .i64 xl]) rfl (by kernel_rfl) (by kernel_rfl) (by kernel_rfl) (fun _ _ _ h => h) (Or.inl ⟨by rfl, fun w' hSw => by go_simp⟩) hHeld ?_
      simp only [List.getElem_toArray, List.getElem_cons_succ, List.getElem_cons_zero, Act.put, List.setIfInBounds_toArray, List.set_cons_zero, List.set_cons_succ]
      refine wpAnyH_take (i := 6) (v := .bool r.2) rfl (by kernel_rfl) (by kernel_rfl) (by kernel_rfl) (fun _ _ _ h => h) (Or.inl ⟨by rfl, fun w' hSw => by go_simp⟩) hHeld ?_
      simp only [List.getElem_toArray, List.getElem_cons_succ, List.getElem_cons_zero, Act.put, List.setIfInBounds_toArray, List.set_cons_zero, List.set_cons_succ]
      refine wpAnyH_ready (rs := [7]) (by kernel_rfl) (by simp) (AllReadyH.cons rfl (fun K hK => ?_) AllReadyH.nil)
      go_simp
      have f4 : Below w1.heap.size w1 (y2.alloc (.cells #[.slice none 0 0, .slice none 0 0, .slice none 0 0, .int .i64 0] 34)) := f3.alloc f3.size _
      have b4 : Below y2.heap.size y2 (y2.alloc (.cells #[.slice none 0 0, .slice none 0 0, .slice none 0 0, .int .i64 0] 34)) := below_box (Below.refl _ _)
      have N := Mut.new y2 #[.slice none 0 0, .slice none 0 0, .slice none 0 0, .int .i64 0] 34
      have hz := f3.size
      refine hK.out _ _ (hS _ (f4)) (fun hHeld => ?_)
      clear hK K
      refine wpAnyH_ready (rs := [8]) (by kernel_rfl) (by simp) (AllReadyH.cons rfl (fun K hK => ?_) AllReadyH.nil)
      rw [if_pos (by rfl)]
      refine wp_storeM (us := [.slice xa xn xc, .slice ya yn yc, .slice za zn zc, .int .i64 xl]) rfl rfl rfl (N) rfl (by intro v hv; simp only [List.mem_cons, List.not_mem_nil, or_false] at hv; rcases hv with rfl | rfl | rfl | rfl <;> rfl) sizeSto ?_
      intro w8 MB o8
      have onb := OnlyP.of_only (P := fun x => x = y2.heap.size) o8 rfl
      have f9 := (f4).trans (onb.below (base := w1.heap.size) (fun x _ hx => by have h : x = y2.heap.size := hx; omega) (f4).size)
      have d9 := d1.trans (f9.mono d1.size)
      have M29 := M2.below f9
      replace hF : r.2 = true → RowSt true (.agg #[.slice xa xn xc, .slice ya yn yc, .slice za zn zc, .int .i64 xl]) r.1 w8 := fun h => ((hF h).more (b4.trans (onb.below (base := y2.heap.size) (fun x _ hx => Nat.le_of_eq (Eq.symm hx)) b4.size)) (fun x _ hx => hx)).row
      refine hK.out _ _ (hS _ f9) (fun hHeld => ?_)
      clear hK K
      refine wpAnyH_take (i := 9) (v := .bool r.2) rfl (by kernel_rfl) (by kernel_rfl) (by kernel_rfl) (fun _ _ _ h => h) (Or.inl ⟨by rfl, fun w' hSw => by go_simp⟩) hHeld ?_
      simp only [List.getElem_toArray, List.getElem_cons_succ, List.getElem_cons_zero, Act.put, List.setIfInBounds_toArray, List.set_cons_zero, List.set_cons_succ]
      refine wpAnyH_done (by kernel_rfl) ?_ _
      clear hHeld
      have g0 := MB.2.1 0 _ rfl
      have g1 := MB.2.1 1 _ rfl
      have g2 := MB.2.1 2 _ rfl
      have g3 := MB.2.1 3 _ rfl
      by_cases hr : r.2 = true
      case neg =>
        have hr : r.2 = false := by simpa using hr
        rw [hr]
        go_wp2_with (refine wpList_storeM (us := [.slice none 0 0, .slice none 0 0, .slice none 0 0, .int .i64 0]) rfl rfl rfl rfl M29 rfl (by intro v hv; simp only [List.mem_cons, List.not_mem_nil, or_false] at hv; rcases hv with rfl | rfl | rfl | rfl <;> rfl) sizeSto ?_; intro w9 M9 o9)
        have on := OnlyP.of_only (P := fun x => x = w.heap.size + 1 + 1) o9 rfl
        have e9 := (d9).trans (on.below (base := w.heap.size) (fun x _ hx => by have h : x = w.heap.size + 1 + 1 := hx; omega) (d9).size)
        have r0 := M9.2.1 0 _ rfl
        have r1 := M9.2.1 1 _ rfl
        have r2 := M9.2.1 2 _ rfl
        have r3 := M9.2.1 3 _ rfl
        exact bodyPost_ret (v := .tuple #[zSt, .bool false]) (by simp [results, Tryz.results7, go_sem, zSt, r0, r1, r2, r3]) rfl ⟨e9, .inl ⟨hr0.out ▸ hr, rfl⟩⟩
      rw [hr]
      replace hF := hF hr
      go_wp2_with fail
      refine (OX.out _ _ hF.any).mono ?_
      rintro e w5 ⟨v5, rfl, hA, b5⟩
      have d5 := d9.trans (b5.mono d9.size)
      have M25 := M29.below b5
      obtain ⟨pa', pc', qa, qc, ta, tc, rfl⟩ := hA.form
      go_wp2_with (refine wpList_storeM (us := [.slice pa' r.1.C.n pc', .slice qa r.1.R.n qc, .slice ta r.1.h tc, .int .i64 r.1.l]) rfl rfl rfl rfl M25 rfl (by intro v hv; simp only [List.mem_cons, List.not_mem_nil, or_false] at hv; rcases hv with rfl | rfl | rfl | rfl <;> rfl) sizeSto ?_; intro w9 M9 o9)
      have on := OnlyP.of_only (P := fun x => x = w.heap.size + 1 + 1) o9 rfl
      have e9 := (d5).trans (on.below (base := w.heap.size) (fun x _ hx => by have h : x = w.heap.size + 1 + 1 := hx; omega) (d5).size)
      have r0 := M9.2.1 0 _ rfl
      have r1 := M9.2.1 1 _ rfl
      have r2 := M9.2.1 2 _ rfl
      have r3 := M9.2.1 3 _ rfl
      exact bodyPost_ret (v := .tuple #[.agg #[.slice pa' r.1.C.n pc', .slice qa r.1.R.n qc, .slice ta r.1.h tc, .int .i64 r.1.l], .bool true]) (by simp [results, Tryz.results7, go_sem, r0, r1, r2, r3]) rfl ⟨e9, .inr ⟨hr0.out ▸ hr, _, rfl, by rw [← hr0.out]; exact (hA.onlyP on (fun k q1 q2 q3 => by have h := M29.1; have q3 : k = w.heap.size + 1 + 1 := q3; omega)).wide d9.size on.2.2.2.1 (Nat.le_refl _)⟩⟩
    · have f4 : Below w1.heap.size w1 (y1.alloc (.cells #[.slice none 0 0, .slice none 0 0, .slice none 0 0, .int .i64 0] 34)) := f2.alloc f2.size _
      go_simp
      have b4 : Below y1.heap.size y1 (y1.alloc (.cells #[.slice none 0 0, .slice none 0 0, .slice none 0 0, .int .i64 0] 34)) := below_box (Below.refl _ _)
      have N := Mut.new y1 #[.slice none 0 0, .slice none 0 0, .slice none 0 0, .int .i64 0] 34
      have hz := f2.size
      refine hK.out _ _ (hS _ (f4)) (fun hHeld => ?_)
      clear hK K
      refine wpAnyH_ready (rs := [3]) (by kernel_rfl) (by simp) (AllReadyH.cons rfl (fun K hK => ?_) AllReadyH.nil)
      have hN := N.1
      have hsz := hA.size
      go_simp
      refine (ST.out (fun k => k = y1.heap.size) v2 _ (fun k h => by omega) ((hA.below b4).stF _ (fun k h1 h2 h3 => by omega) hh1.out) (d2.trans (b4.mono d2.size))).mono ?_
      rintro e y2 ⟨b3, v3, rfl, ⟨xa, xn, xc, ya, yn, yc, za, zn, zc, xl, rfl⟩, hF⟩
      have f3 := f4.trans (b3.mono f4.size)
      refine hK.out _ _ (hS _ (f3)) (fun hHeld => ?_)
      clear hK K
      refine wpAnyH_take (i := 4) (v := .tuple #[.agg #[.slice xa xn xc, .slice ya yn yc, .slice za zn zc, .int .i64 xl], .bool r.2]) rfl (by kernel_rfl) (by kernel_rfl) (by kernel_rfl) (fun _ _ _ h => h) (Or.inl ⟨by rfl, fun w' hSw => by go_simp⟩) hHeld ?_
      simp only [List.getElem_toArray, List.getElem_cons_succ, List.getElem_cons_zero, Act.put, List.setIfInBounds_toArray, List.set_cons_zero, List.set_cons_succ]
      refine wpAnyH_take (i := 5) (v := .agg #[.slice xa xn xc, .slice ya yn yc, .slice za zn zc, .int .i64 xl]) rfl (by kernel_rfl) (by kernel_rfl) (by kernel_rfl) (fun _ _ _ h => h) (Or.inl ⟨by rfl, fun w' hSw => by go_simp⟩) hHeld ?_
      simp only [List.getElem_toArray, List.getElem_cons_succ, List.getElem_cons_zero, Act.put, List.setIfInBounds_toArray, List.set_cons_zero, List.set_cons_succ]
      refine wpAnyH_take (i := 6) (v := .bool r.2) rfl (by kernel_rfl) (by kernel_rfl) (by kernel_rfl) (fun _ _ _ h => h) (Or.inl ⟨by rfl, fun w' hSw => by go_simp⟩) hHeld ?_
      simp only [List.getElem_toArray, List.getElem_cons_succ, List.getElem_cons_zero, Act.put, List.setIfInBounds_toArray, List.set_cons_zero, List.set_cons_succ]
      refine wpAnyH_ready (rs := [8]) (by kernel_rfl) (by simp) (AllReadyH.cons rfl (fun K hK => ?_) AllReadyH.nil)
      rw [if_pos (by rfl)]
      refine wp_storeM (us := [.slice xa xn xc, .slice ya yn yc, .slice za zn zc, .int .i64 xl]) rfl rfl rfl (N.below b3) rfl (by intro v hv; simp only [List.mem_cons, List.not_mem_nil, or_false] at hv; rcases hv with rfl | rfl | rfl | rfl <;> rfl) sizeSto ?_
      intro w8 MB o8
      have onb := OnlyP.of_only (P := fun x => x = y1.heap.size) o8 rfl
      have f9 := (f3).trans (onb.below (base := w1.heap.size) (fun x _ hx => by have h : x = y1.heap.size := hx; omega) (f3).size)
      have d9 := d1.trans (f9.mono d1.size)
      have M29 := M2.below f9
      replace hF : r.2 = true → RowSt true (.agg #[.slice xa xn xc, .slice ya yn yc, .slice za zn zc, .int .i64 xl]) r.1 w8 := fun h => ((hF h).only onb).row
      refine hK.out _ _ (hS _ f9) (fun hHeld => ?_)
      clear hK K
      refine wpAnyH_take (i := 9) (v := .bool r.2) rfl (by kernel_rfl) (by kernel_rfl) (by kernel_rfl) (fun _ _ _ h => h) (Or.inl ⟨by rfl, fun w' hSw => by go_simp⟩) hHeld ?_
      simp only [List.getElem_toArray, List.getElem_cons_succ, List.getElem_cons_zero, Act.put, List.setIfInBounds_toArray, List.set_cons_zero, List.set_cons_succ]
      refine wpAnyH_done (by kernel_rfl) ?_ _
      clear hHeld
      have g0 := MB.2.1 0 _ rfl
      have g1 := MB.2.1 1 _ rfl
      have g2 := MB.2.1 2 _ rfl
      have g3 := MB.2.1 3 _ rfl
      by_cases hr : r.2 = true
      case neg =>
        have hr : r.2 = false := by simpa using hr
        rw [hr]
        go_wp2_with (refine wpList_storeM (us := [.slice none 0 0, .slice none 0 0, .slice none 0 0, .int .i64 0]) rfl rfl rfl rfl M29 rfl (by intro v hv; simp only [List.mem_cons, List.not_mem_nil, or_false] at hv; rcases hv with rfl | rfl | rfl | rfl <;> rfl) sizeSto ?_; intro w9 M9 o9)
        have on := OnlyP.of_only (P := fun x => x = w.heap.size + 1 + 1) o9 rfl
        have e9 := (d9).trans (on.below (base := w.heap.size) (fun x _ hx => by have h : x = w.heap.size + 1 + 1 := hx; omega) (d9).size)
        have r0 := M9.2.1 0 _ rfl
        have r1 := M9.2.1 1 _ rfl
        have r2 := M9.2.1 2 _ rfl
        have r3 := M9.2.1 3 _ rfl
        exact bodyPost_ret (v := .tuple #[zSt, .bool false]) (by simp [results, Tryz.results7, go_sem, zSt, r0, r1, r2, r3]) rfl ⟨e9, .inl ⟨hr0.out ▸ hr, rfl⟩⟩
      rw [hr]
      replace hF := hF hr
      go_wp2_with fail
      refine (OX.out _ _ hF.any).mono ?_
      rintro e w5 ⟨v5, rfl, hA, b5⟩
      have d5 := d9.trans (b5.mono d9.size)
      have M25 := M29.below b5
      obtain ⟨pa', pc', qa, qc, ta, tc, rfl⟩ := hA.form
      go_wp2_with (refine wpList_storeM (us := [.slice pa' r.1.C.n pc', .slice qa r.1.R.n qc, .slice ta r.1.h tc, .int .i64 r.1.l]) rfl rfl rfl rfl M25 rfl (by intro v hv; simp only [List.mem_cons, List.not_mem_nil, or_false] at hv; rcases hv with rfl | rfl | rfl | rfl <;> rfl) sizeSto ?_; intro w9 M9 o9)
      have on := OnlyP.of_only (P := fun x => x = w.heap.size + 1 + 1) o9 rfl
      have e9 := (d5).trans (on.below (base := w.heap.size) (fun x _ hx => by have h : x = w.heap.size + 1 + 1 := hx; omega) (d5).size)
      have r0 := M9.2.1 0 _ rfl
      have r1 := M9.2.1 1 _ rfl
      have r2 := M9.2.1 2 _ rfl
      have r3 := M9.2.1 3 _ rfl
      exact bodyPost_ret (v := .tuple #[.agg #[.slice pa' r.1.C.n pc', .slice qa r.1.R.n qc, .slice ta r.1.h tc, .int .i64 r.1.l], .bool true]) (by simp [results, Tryz.results7, go_sem, r0, r1, r2, r3]) rfl ⟨e9, .inr ⟨hr0.out ▸ hr, _, rfl, by rw [← hr0.out]; exact (hA.onlyP on (fun k q1 q2 q3 => by have h := M29.1; have q3 : k = w.heap.size + 1 + 1 := q3; omega)).wide d9.size on.2.2.2.1 (Nat.le_refl _)⟩⟩
  · have f0 : Below w1.heap.size w1 (w1.drew.alloc (.cells #[.slice none 0 0, .slice none 0 0, .slice none 0 0, .int .i64 0] 34)) := (Below.refl _ _).drew.alloc (Nat.le_refl _) _
    go_simp
    have N := Mut.new w1.drew #[.slice none 0 0, .slice none 0 0, .slice none 0 0, .int .i64 0] 34
    refine hK.out _ _ (hS _ (f0)) (fun hHeld => ?_)
    clear hK K
    refine wpAnyH_ready (rs := [1]) (by kernel_rfl) (by simp) (AllReadyH.cons rfl (fun K hK => ?_) AllReadyH.nil)
    go_simp
    refine (OW.out _ (hRS.below (d1.trans (f0.mono d1.size))).any).mono ?_
    rintro e y1 ⟨v2, rfl, hA, b2⟩
    have d2 := (d1.trans (f0.mono d1.size)).trans (b2.mono (d1.trans (f0.mono d1.size)).size)
    have f2 := (f0).trans (b2.mono (f0).size)
    have hN := N.1
    refine hK.out _ _ (hS _ (f2)) (fun hHeld => ?_)
    clear hK K
    refine wpAnyH_ready (rs := [3]) (by kernel_rfl) (by simp) (AllReadyH.cons rfl (fun K hK => ?_) AllReadyH.nil)
    go_simp
    refine (ST.out (fun k => k = w1.heap.size) v2 _ (fun k h => by have := b2.size; omega) (hA.stF _ (fun k h1 h2 h3 => by omega) hh1.out) (d2)).mono ?_
    rintro e y2 ⟨b3, v3, rfl, ⟨xa, xn, xc, ya, yn, yc, za, zn, zc, xl, rfl⟩, hF⟩
    have f3 := f2.trans (b3.mono f2.size)
    refine hK.out _ _ (hS _ (f3)) (fun hHeld => ?_)
    clear hK K
    refine wpAnyH_take (i := 4) (v := .tuple #[.agg #[.slice xa xn xc, .slice ya yn yc, .slice za zn zc, .int .i64 xl], .bool r.2]) rfl (by kernel_rfl) (by kernel_rfl) (by kernel_rfl) (fun _ _ _ h => h) (Or.inl ⟨by rfl, fun w' hSw => by go_simp⟩) hHeld ?_
    simp only [List.getElem_toArray, List.getElem_cons_succ, List.getElem_cons_zero, Act.put, List.setIfInBounds_toArray, List.set_cons_zero, List.set_cons_succ]
    refine wpAnyH_take (i := 5) (v := .agg #[.slice xa xn xc, .slice ya yn yc, .slice za zn zc, .int .i64 xl]) rfl (by kernel_rfl) (by kernel_rfl) (by kernel_rfl) (fun _ _ _ h => h) (Or.inl ⟨by rfl, fun w' hSw => by go_simp⟩) hHeld ?_
    simp only [List.getElem_toArray, List.getElem_cons_succ, List.getElem_cons_zero, Act.put, List.setIfInBounds_toArray, List.set_cons_zero, List.set_cons_succ]
    refine wpAnyH_take (i := 6) (v := .bool r.2) rfl (by kernel_rfl) (by kernel_rfl) (by kernel_rfl) (fun _ _ _ h => h) (Or.inl ⟨by rfl, fun w' hSw => by go_simp⟩) hHeld ?_
    simp only [List.getElem_toArray, List.getElem_cons_succ, List.getElem_cons_zero, Act.put, List.setIfInBounds_toArray, List.set_cons_zero, List.set_cons_succ]
    refine wpAnyH_ready (rs := [8]) (by kernel_rfl) (by simp) (AllReadyH.cons rfl (fun K hK => ?_) AllReadyH.nil)
    rw [if_pos (by rfl)]
    refine wp_storeM (us := [.slice xa xn xc, .slice ya yn yc, .slice za zn zc, .int .i64 xl]) rfl rfl rfl ((N.below b2).below b3) rfl (by intro v hv; simp only [List.mem_cons, List.not_mem_nil, or_false] at hv; rcases hv with rfl | rfl | rfl | rfl <;> rfl) sizeSto ?_
    intro w8 MB o8
    have onb := OnlyP.of_only (P := fun x => x = w1.heap.size) o8 rfl
    have f9 := (f3).trans (onb.below (base := w1.heap.size) (fun x _ hx => by have h : x = w1.heap.size := hx; omega) (f3).size)
    have d9 := d1.trans (f9.mono d1.size)
    have M29 := M2.below f9
    replace hF : r.2 = true → RowSt true (.agg #[.slice xa xn xc, .slice ya yn yc, .slice za zn zc, .int .i64 xl]) r.1 w8 := fun h => ((hF h).only onb).row
    refine hK.out _ _ (hS _ f9) (fun hHeld => ?_)
    clear hK K
    refine wpAnyH_take (i := 9) (v := .bool r.2) rfl (by kernel_rfl) (by kernel_rfl) (by kernel_rfl) (fun _ _ _ h => h) (Or.inl ⟨by rfl, fun w' hSw => by go_simp⟩) hHeld ?_
    simp only [List.getElem_toArray, List.getElem_cons_succ, List.getElem_cons_zero, Act.put, List.setIfInBounds_toArray, List.set_cons_zero, List.set_cons_succ]
    refine wpAnyH_done (by kernel_rfl) ?_ _
    clear hHeld
    have g0 := MB.2.1 0 _ rfl
    have g1 := MB.2.1 1 _ rfl
    have g2 := MB.2.1 2 _ rfl
    have g3 := MB.2.1 3 _ rfl
    by_cases hr : r.2 = true
    case neg =>
      have hr : r.2 = false := by simpa using hr
      rw [hr]
      go_wp2_with (refine wpList_storeM (us := [.slice none 0 0, .slice none 0 0, .slice none 0 0, .int .i64 0]) rfl rfl rfl rfl M29 rfl (by intro v hv; simp only [List.mem_cons, List.not_mem_nil, or_false] at hv; rcases hv with rfl | rfl | rfl | rfl <;> rfl) sizeSto ?_; intro w9 M9 o9)
      have on := OnlyP.of_only (P := fun x => x = w.heap.size + 1 + 1) o9 rfl
      have e9 := (d9).trans (on.below (base := w.heap.size) (fun x _ hx => by have h : x = w.heap.size + 1 + 1 := hx; omega) (d9).size)
      have r0 := M9.2.1 0 _ rfl
      have r1 := M9.2.1 1 _ rfl
      have r2 := M9.2.1 2 _ rfl
      have r3 := M9.2.1 3 _ rfl
      exact bodyPost_ret (v := .tuple #[zSt, .bool false]) (by simp [results, Tryz.results7, go_sem, zSt, r0, r1, r2, r3]) rfl ⟨e9, .inl ⟨hr0.out ▸ hr, rfl⟩⟩
    rw [hr]
    replace hF := hF hr
    go_wp2_with fail
    refine (OX.out _ _ hF.any).mono ?_
    rintro e w5 ⟨v5, rfl, hA, b5⟩
    have d5 := d9.trans (b5.mono d9.size)
    have M25 := M29.below b5
    obtain ⟨pa', pc', qa, qc, ta, tc, rfl⟩ := hA.form
    go_wp2_with (refine wpList_storeM (us := [.slice pa' r.1.C.n pc', .slice qa r.1.R.n qc, .slice ta r.1.h tc, .int .i64 r.1.l]) rfl rfl rfl rfl M25 rfl (by intro v hv; simp only [List.mem_cons, List.not_mem_nil, or_false] at hv; rcases hv with rfl | rfl | rfl | rfl <;> rfl) sizeSto ?_; intro w9 M9 o9)
    have on := OnlyP.of_only (P := fun x => x = w.heap.size + 1 + 1) o9 rfl
    have e9 := (d5).trans (on.below (base := w.heap.size) (fun x _ hx => by have h : x = w.heap.size + 1 + 1 := hx; omega) (d5).size)
    have r0 := M9.2.1 0 _ rfl
    have r1 := M9.2.1 1 _ rfl
    have r2 := M9.2.1 2 _ rfl
    have r3 := M9.2.1 3 _ rfl
    exact bodyPost_ret (v := .tuple #[.agg #[.slice pa' r.1.C.n pc', .slice qa r.1.R.n qc, .slice ta r.1.h tc, .int .i64 r.1.l], .bool true]) (by simp [results, Tryz.results7, go_sem, r0, r1, r2, r3]) rfl ⟨e9, .inr ⟨hr0.out ▸ hr, _, rfl, by rw [← hr0.out]; exact (hA.onlyP on (fun k q1 q2 q3 => by have h := M29.1; have q3 : k = w.heap.size + 1 + 1 := q3; omega)).wide d9.size on.2.2.2.1 (Nat.le_refl _)⟩⟩
end Go.Proofs.YtnficndeblkjhaaGreatDoor
