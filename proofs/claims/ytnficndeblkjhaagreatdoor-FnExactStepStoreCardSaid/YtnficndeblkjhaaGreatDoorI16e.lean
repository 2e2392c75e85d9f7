/- impl.ownStore: a copy of a store, in memory of its own. -/
import Derived.Test.YtnficndeblkjhaaGreatDoorGrp5
import Derived.Test.YtnficndeblkjhaaGreatDoorGrp7
import Derived.Deep.RegionHeld3
import Derived.Deep.DeepCutAuto
namespace Go.Proofs.YtnficndeblkjhaaGreatDoor
open Go.RowKit

theorem i_ownAns (c : Cf) (hc : OwnC c) (a : Option Addr) (k : Nat) (w : World) (hR : RowF false a c.n c.T w) :
    Calls Tryz.prog 75 #[.slice a c.n k] w fun e w' => ∃ va vc, e = .returned (.slice va c.n vc) ∧ AnsF va c.n c.T (fun k => w.heap.size ≤ k ∧ k < w'.heap.size) w' ∧ Below w.heap.size w w' := by
  refine (i_ownLeaves a c.n k c.T w hc.1 hc.2 hR).mono ?_
  rintro e w' ⟨v, rfl, L, hL, hm, hb⟩
  obtain ⟨va, vc, rfl, hA⟩ := hL.ansI hm
  exact ⟨va, vc, rfl, hA, hb⟩
set_option maxRecDepth 100000 in
set_option maxHeartbeats 3200000 in
theorem i_ownStore (v : Value) (s : Sto) (w : World) (hs : OwnSt s) (hR : RowSt false v s w) :
    Calls Tryz.prog 37 #[v] w fun e w' => ∃ v', e = .returned v' ∧ AnsSt v' s w.heap.size w'.heap.size w' ∧ Below w.heap.size w w' := by
  obtain ⟨ca, kc, ra, kr, ha, kh, rfl, R1, R2, R3, _⟩ := hR
  obtain ⟨l1, l2, l3, l4⟩ := hs
  have OC := hide (fun a k w R => i_ownAns s.C l1 a k w R)
  have OR := hide (fun a k w R => i_ownAns s.R l2 a k w R)
  have OH := hide (fun i (hi : i < s.h) a k w R => i_ownAns (s.H i) (l4 i hi) a k w R)
  clear l1 l2 l4
  unfold stV
  have M1 := (Mut.new w #[.slice ca s.C.n kc, .slice ra s.R.n kr, .slice ha s.h kh, .int .i64 s.l] 34).alloc (.cells #[.slice none 0 0, .slice none 0 0, .slice none 0 0, .int .i64 0] 34)
  have M2 := Mut.new (w.alloc (.cells #[.slice ca s.C.n kc, .slice ra s.R.n kr, .slice ha s.h kh, .int .i64 s.l] 34)) #[.slice none 0 0, .slice none 0 0, .slice none 0 0, .int .i64 0] 34
  have d1 : Below w.heap.size w ((w.alloc (.cells #[.slice ca s.C.n kc, .slice ra s.R.n kr, .slice ha s.h kh, .int .i64 s.l] 34)).alloc (.cells #[.slice none 0 0, .slice none 0 0, .slice none 0 0, .int .i64 0] 34)) := below_box2 (Below.refl _ _)
  simp only [World.size_alloc] at M2
  go_enter Tryz.func37, Tryz.ntmps37
  go_wp2_with fail
  generalize (w.alloc (.cells #[.slice ca s.C.n kc, .slice ra s.R.n kr, .slice ha s.h kh, .int .i64 s.l] 34)).alloc (.cells #[.slice none 0 0, .slice none 0 0, .slice none 0 0, .int .i64 0] 34) = w1 at *
  have hw1 : w.heap.size + 1 < w1.heap.size := M2.1
  replace R1 := hide (R1.below d1)
  replace R2 := hide (R2.below d1)
  have R3 := hide R3
  go_cut [3] (fun p wx => OwB w1 s p wx)
  case first =>
    have hS : ∀ w' : World, Below w1.heap.size w1 w' → w'.cell? ⟨w.heap.size, 0, none⟩ = some (.slice ca s.C.n kc) ∧ w'.cell? ⟨w.heap.size, 1, none⟩ = some (.slice ra s.R.n kr) ∧ w'.cell? ⟨w.heap.size, 3, none⟩ = some (.int .i64 s.l) := fun w' b => ⟨(M1.below b).2.1 0 _ rfl, (M1.below b).2.1 1 _ rfl, (M1.below b).2.1 3 _ rfl⟩
    refine wp_region_held_drew (S := fun w' => w'.cell? ⟨w.heap.size, 0, none⟩ = some (.slice ca s.C.n kc) ∧ w'.cell? ⟨w.heap.size, 1, none⟩ = some (.slice ra s.R.n kr) ∧ w'.cell? ⟨w.heap.size, 3, none⟩ = some (.int .i64 s.l)) (by kernel_rfl) (hS _ (Below.refl _ _).drew) (fun hHeld => ?_)
    refine wpAnyH_take (i := 0) (v := .pointer (some ⟨w.heap.size, 0, none⟩)) rfl (by kernel_rfl) (by kernel_rfl) (by kernel_rfl) (fun _ _ _ h => h) (Or.inl ⟨by rfl, fun w' hSw => by go_simp⟩) hHeld ?_
    simp only [List.getElem_toArray, List.getElem_cons_zero, Act.put, List.setIfInBounds_toArray, List.set_cons_zero, List.set_cons_succ]
    refine wpAnyH_take (i := 1) (v := .slice ca s.C.n kc) rfl (by kernel_rfl) (by kernel_rfl) (by kernel_rfl) (fun _ _ _ h => h) (Or.inl ⟨by rfl, fun w' hSw => by go_simp⟩) hHeld ?_
    simp only [List.getElem_toArray, List.getElem_cons_succ, List.getElem_cons_zero, Act.put, List.setIfInBounds_toArray, List.set_cons_zero, List.set_cons_succ]
    refine wpAnyH_take (i := 3) (v := .pointer (some ⟨w.heap.size, 1, none⟩)) rfl (by kernel_rfl) (by kernel_rfl) (by kernel_rfl) (fun _ _ _ h => h) (Or.inl ⟨by rfl, fun w' hSw => by go_simp⟩) hHeld ?_
    simp only [List.getElem_toArray, List.getElem_cons_succ, List.getElem_cons_zero, Act.put, List.setIfInBounds_toArray, List.set_cons_zero, List.set_cons_succ]
    refine wpAnyH_take (i := 4) (v := .slice ra s.R.n kr) rfl (by kernel_rfl) (by kernel_rfl) (by kernel_rfl) (fun _ _ _ h => h) (Or.inl ⟨by rfl, fun w' hSw => by go_simp⟩) hHeld ?_
    simp only [List.getElem_toArray, List.getElem_cons_succ, List.getElem_cons_zero, Act.put, List.setIfInBounds_toArray, List.set_cons_zero, List.set_cons_succ]
    refine wpAnyH_take (i := 6) (v := .pointer (some ⟨w.heap.size, 3, none⟩)) rfl (by kernel_rfl) (by kernel_rfl) (by kernel_rfl) (fun _ _ _ h => h) (Or.inl ⟨by rfl, fun w' hSw => by go_simp⟩) hHeld ?_
    simp only [List.getElem_toArray, List.getElem_cons_succ, List.getElem_cons_zero, Act.put, List.setIfInBounds_toArray, List.set_cons_zero, List.set_cons_succ]
    refine wpAnyH_take (i := 7) (v := .int .i64 s.l) rfl (by kernel_rfl) (by kernel_rfl) (by kernel_rfl) (fun _ _ _ h => h) (Or.inl ⟨by rfl, fun w' hSw => by go_simp⟩) hHeld ?_
    simp only [List.getElem_toArray, List.getElem_cons_succ, List.getElem_cons_zero, Act.put, List.setIfInBounds_toArray, List.set_cons_zero, List.set_cons_succ]
    have f0 : Below w1.heap.size w1 w1.drew := (Below.refl _ _).drew
    refine wpAnyH_ready (rs := [2, 9]) (by kernel_rfl) (by simp) (AllReadyH.cons rfl (fun K hK => ?_) (AllReadyH.cons rfl (fun K hK => ?_) AllReadyH.nil))
    · skip
      go_simp
      refine (OC.out _ _ _ (R1.out.below f0)).mono ?_
      rintro e y1 ⟨va1, vc1, rfl, A1, b1⟩
      have f1 : Below w1.heap.size w1 y1 := f0.trans (b1.mono f0.size)
      have z1 := b1.size
      refine hK.out _ _ (hS _ f1) (fun hHeld => ?_)
      clear hK K
      have zz : w1.drew.heap.size = w1.heap.size := rfl
      refine wpAnyH_ready (rs := [5, 9]) (by kernel_rfl) (by simp) (AllReadyH.cons rfl (fun K hK => ?_) (AllReadyH.cons rfl (fun K hK => ?_) AllReadyH.nil))
      · skip
        go_simp
        refine (OR.out _ _ _ (R2.out.below f1)).mono ?_
        rintro e y2 ⟨va2, vc2, rfl, A2, b2⟩
        have f2 : Below w1.heap.size w1 y2 := f1.trans (b2.mono f1.size)
        have z2 := b2.size
        refine hK.out _ _ (hS _ f2) (fun hHeld => ?_)
        clear hK K
        refine wpAnyH_take (i := 8) (v := .agg #[.slice va1 s.C.n vc1, .slice va2 s.R.n vc2, .slice none 0 0, .int .i64 s.l]) rfl (by kernel_rfl) (by kernel_rfl) (by kernel_rfl) (fun _ _ _ h => h) (Or.inl ⟨by rfl, fun w' hSw => by go_simp⟩) hHeld ?_
        simp only [List.getElem_toArray, List.getElem_cons_succ, List.getElem_cons_zero, Act.put, List.setIfInBounds_toArray, List.set_cons_zero, List.set_cons_succ]
        refine wpAnyH_ready (rs := [9]) (by kernel_rfl) (by simp) (AllReadyH.cons rfl (fun K hK => ?_) AllReadyH.nil)
        go_simp
        have bA : Below y2.heap.size y2 (y2.alloc (.cells #[.slice none 0 0, .slice none 0 0, .slice none 0 0, .int .i64 0] 34)) := below_box (Below.refl _ _)
        have N := Mut.new y2 #[.slice none 0 0, .slice none 0 0, .slice none 0 0, .int .i64 0] 34
        have zA := bA.size
        have f3 : Below w1.heap.size w1 _ := f2.trans (bA.mono f2.size)
        refine hK.out _ _ (hS _ f3) (fun hHeld => ?_)
        clear hK K
        refine wpAnyH_ready (rs := [10]) (by kernel_rfl) (by simp) (AllReadyH.cons rfl (fun K hK => ?_) AllReadyH.nil)
        rw [if_pos (by rfl)]
        refine wp_storeM (us := [.slice va1 s.C.n vc1, .slice va2 s.R.n vc2, .slice none 0 0, .int .i64 s.l]) rfl rfl rfl N rfl (by intro v hv; simp only [List.mem_cons, List.not_mem_nil, or_false] at hv; rcases hv with rfl | rfl | rfl | rfl <;> rfl) sizeSto ?_
        intro y5 MO oO
        have hkb : w1.heap.size ≤ y2.heap.size := f2.size
        have on := OnlyP.of_only (P := fun k => k = y2.heap.size) oO rfl
        have f5 : Below w1.heap.size w1 y5 := f3.trans (on.below (fun k _ hk => by have h : k = y2.heap.size := hk; omega) f3.size)
        refine hK.out _ _ (hS _ f5) (fun hHeld => ?_)
        clear hK K
        have z5 := on.2.2.2.1
        refine wpAnyH_done (by kernel_rfl) ?_ _
        go_wp2_with fail
        go_meet
        exact ⟨_, _, _, _, _, y1.heap.size, y2.heap.size, rfl, hkb, MO, by omega, by omega, by omega, (((A1.below b2).below bA).mono (Q := fun k => (w1.heap.size ≤ k ∧ k < y1.heap.size) ∧ k ≠ y2.heap.size) (fun x hx => by simp at hx ⊢; omega)).onlyP on (fun x hx e => by omega), ((A2.below bA).mono (Q := fun k => (y1.heap.size ≤ k ∧ k < y2.heap.size) ∧ k ≠ y2.heap.size) (fun x hx => by simp at hx ⊢; omega)).onlyP on (fun x hx e => by omega), f5⟩
      · skip
        go_simp
        have bA : Below y1.heap.size y1 (y1.alloc (.cells #[.slice none 0 0, .slice none 0 0, .slice none 0 0, .int .i64 0] 34)) := below_box (Below.refl _ _)
        have N := Mut.new y1 #[.slice none 0 0, .slice none 0 0, .slice none 0 0, .int .i64 0] 34
        have zA := bA.size
        have fA : Below w1.heap.size w1 _ := f1.trans (bA.mono f1.size)
        refine hK.out _ _ (hS _ fA) (fun hHeld => ?_)
        clear hK K
        refine wpAnyH_ready (rs := [5]) (by kernel_rfl) (by simp) (AllReadyH.cons rfl (fun K hK => ?_) AllReadyH.nil)
        go_simp
        refine (OR.out _ _ _ (R2.out.below fA)).mono ?_
        rintro e y2 ⟨va2, vc2, rfl, A2, b2⟩
        have f2 : Below w1.heap.size w1 y2 := fA.trans (b2.mono fA.size)
        have z2 := b2.size
        refine hK.out _ _ (hS _ f2) (fun hHeld => ?_)
        clear hK K
        refine wpAnyH_take (i := 8) (v := .agg #[.slice va1 s.C.n vc1, .slice va2 s.R.n vc2, .slice none 0 0, .int .i64 s.l]) rfl (by kernel_rfl) (by kernel_rfl) (by kernel_rfl) (fun _ _ _ h => h) (Or.inl ⟨by rfl, fun w' hSw => by go_simp⟩) hHeld ?_
        simp only [List.getElem_toArray, List.getElem_cons_succ, List.getElem_cons_zero, Act.put, List.setIfInBounds_toArray, List.set_cons_zero, List.set_cons_succ]
        replace N := N.below b2
        simp only [World.size_alloc] at z2 A2
        refine wpAnyH_ready (rs := [10]) (by kernel_rfl) (by simp) (AllReadyH.cons rfl (fun K hK => ?_) AllReadyH.nil)
        rw [if_pos (by rfl)]
        refine wp_storeM (us := [.slice va1 s.C.n vc1, .slice va2 s.R.n vc2, .slice none 0 0, .int .i64 s.l]) rfl rfl rfl N rfl (by intro v hv; simp only [List.mem_cons, List.not_mem_nil, or_false] at hv; rcases hv with rfl | rfl | rfl | rfl <;> rfl) sizeSto ?_
        intro y5 MO oO
        have hkb : w1.heap.size ≤ y1.heap.size := f1.size
        have on := OnlyP.of_only (P := fun k => k = y1.heap.size) oO rfl
        have f5 : Below w1.heap.size w1 y5 := f2.trans (on.below (fun k _ hk => by have h : k = y1.heap.size := hk; omega) f2.size)
        refine hK.out _ _ (hS _ f5) (fun hHeld => ?_)
        clear hK K
        have z5 := on.2.2.2.1
        refine wpAnyH_done (by kernel_rfl) ?_ _
        go_wp2_with fail
        go_meet
        exact ⟨_, _, _, _, _, y1.heap.size, y2.heap.size, rfl, hkb, MO, by omega, by omega, by omega, (((A1.below bA).below b2).mono (Q := fun k => (w1.heap.size ≤ k ∧ k < y1.heap.size) ∧ k ≠ y1.heap.size) (fun x hx => by simp at hx ⊢; omega)).onlyP on (fun x hx e => by omega), ((A2).mono (Q := fun k => (y1.heap.size ≤ k ∧ k < y2.heap.size) ∧ k ≠ y1.heap.size) (fun x hx => by simp at hx ⊢; omega)).onlyP on (fun x hx e => by omega), f5⟩
    · skip
      go_simp
      have bA : Below w1.drew.heap.size w1.drew (w1.drew.alloc (.cells #[.slice none 0 0, .slice none 0 0, .slice none 0 0, .int .i64 0] 34)) := below_box (Below.refl _ _)
      have N := Mut.new w1.drew #[.slice none 0 0, .slice none 0 0, .slice none 0 0, .int .i64 0] 34
      have zA := bA.size
      have fA : Below w1.heap.size w1 _ := f0.trans (bA.mono f0.size)
      refine hK.out _ _ (hS _ fA) (fun hHeld => ?_)
      clear hK K
      refine wpAnyH_ready (rs := [2]) (by kernel_rfl) (by simp) (AllReadyH.cons rfl (fun K hK => ?_) AllReadyH.nil)
      go_simp
      refine (OC.out _ _ _ (R1.out.below fA)).mono ?_
      rintro e y1 ⟨va1, vc1, rfl, A1, b1⟩
      have f1 : Below w1.heap.size w1 y1 := fA.trans (b1.mono fA.size)
      have z1 := b1.size
      refine hK.out _ _ (hS _ f1) (fun hHeld => ?_)
      clear hK K
      replace N := N.below b1
      have zz : w1.drew.heap.size = w1.heap.size := rfl
      simp only [World.size_alloc] at z1 A1
      refine wpAnyH_ready (rs := [5]) (by kernel_rfl) (by simp) (AllReadyH.cons rfl (fun K hK => ?_) AllReadyH.nil)
      go_simp
      refine (OR.out _ _ _ (R2.out.below f1)).mono ?_
      rintro e y2 ⟨va2, vc2, rfl, A2, b2⟩
      have f2 : Below w1.heap.size w1 y2 := f1.trans (b2.mono f1.size)
      have z2 := b2.size
      refine hK.out _ _ (hS _ f2) (fun hHeld => ?_)
      clear hK K
      refine wpAnyH_take (i := 8) (v := .agg #[.slice va1 s.C.n vc1, .slice va2 s.R.n vc2, .slice none 0 0, .int .i64 s.l]) rfl (by kernel_rfl) (by kernel_rfl) (by kernel_rfl) (fun _ _ _ h => h) (Or.inl ⟨by rfl, fun w' hSw => by go_simp⟩) hHeld ?_
      simp only [List.getElem_toArray, List.getElem_cons_succ, List.getElem_cons_zero, Act.put, List.setIfInBounds_toArray, List.set_cons_zero, List.set_cons_succ]
      replace N := N.below b2
      refine wpAnyH_ready (rs := [10]) (by kernel_rfl) (by simp) (AllReadyH.cons rfl (fun K hK => ?_) AllReadyH.nil)
      rw [if_pos (by rfl)]
      refine wp_storeM (us := [.slice va1 s.C.n vc1, .slice va2 s.R.n vc2, .slice none 0 0, .int .i64 s.l]) rfl rfl rfl N rfl (by intro v hv; simp only [List.mem_cons, List.not_mem_nil, or_false] at hv; rcases hv with rfl | rfl | rfl | rfl <;> rfl) sizeSto ?_
      intro y5 MO oO
      have hkb : w1.heap.size ≤ w1.drew.heap.size := Nat.le_of_eq rfl
      have on := OnlyP.of_only (P := fun k => k = w1.drew.heap.size) oO rfl
      have f5 : Below w1.heap.size w1 y5 := f2.trans (on.below (fun k _ hk => by have h : k = w1.drew.heap.size := hk; omega) f2.size)
      refine hK.out _ _ (hS _ f5) (fun hHeld => ?_)
      clear hK K
      have z5 := on.2.2.2.1
      refine wpAnyH_done (by kernel_rfl) ?_ _
      go_wp2_with fail
      go_meet
      exact ⟨_, _, _, _, _, y1.heap.size, y2.heap.size, rfl, hkb, MO, by omega, by omega, by omega, ((A1.below b2).mono (Q := fun k => (w1.heap.size ≤ k ∧ k < y1.heap.size) ∧ k ≠ w1.drew.heap.size) (fun x hx => by simp at hx ⊢; omega)).onlyP on (fun x hx e => by omega), ((A2).mono (Q := fun k => (y1.heap.size ≤ k ∧ k < y2.heap.size) ∧ k ≠ w1.drew.heap.size) (fun x hx => by simp at hx ⊢; omega)).onlyP on (fun x hx e => by omega), f5⟩
  case rest =>
    obtain ⟨kb, ca', kc', ra', kr', m1, m2, rfl, hkb, MO, q1, q2, q3, A1, A2, b5⟩ := hcut
    generalize wc = X0 at *
    have dX := d1.trans (b5.mono d1.size)
    have hw2 := d1.size
    replace M1 := M1.below b5
    replace M2 := M2.below b5
    have hkl := MO.1
    have z2 := M1.2.1 2 _ rfl
    clear OC OR R1 R2 d1 M1 b5
    go_wp2_with fail
    clear z2
    go_loopw [5, 18] (fun _ y wr => ∃ (k : Nat) (v : Value) (L : List Xl) (B E : Nat → Nat), y = .int .i64 k ∧ k ≤ s.h ∧ L.length = k ∧ Hid (L.map (·.c) = (List.range k).map s.H) ∧ Mut wr kb [.slice ca' s.C.n kc', .slice ra' s.R.n kr', v, .int .i64 s.l] ∧ LsX X0.heap.size v L B E wr ∧ OnlyP (fun x => x = kb) X0 wr) (fun _ y _ => s.h - (intOf y).toNat)
    case atStart => exact ⟨0, _, [], _, _, rfl, Nat.zero_le _, rfl, rfl, MO, LsX.nil _ _, OnlyP.refl _ _⟩
    case round =>
      clear MO
      obtain ⟨k, v, L, B, E, rfl, hk, hLk, hm, MO, LL, OP⟩ := hrel
      have dr : Below w.heap.size w wr := dX.trans (OP.below (base := w.heap.size) (fun x _ hx => by omega) dX.size)
      by_cases hlt : k < s.h
      · obtain ⟨b0, off, a0, c0, hva, hbw, u0, R0⟩ := R3.out k hlt
        subst hva
        replace u0 := (dr.cell (p := ⟨b0, off + k, none⟩) hbw).trans u0
        have R0 := hide (R0.below dr)
        have hlt' : (k : Int) < (s.h : Int) := by omega
        have OK := hide (OH.out k hlt)
        have hmN := hide (fun (a : Option Addr) (q : Nat) => (show (L ++ [(⟨a, q, s.H k⟩ : Xl)]).map (·.c) = (List.range (k + 1)).map s.H by rw [List.range_succ, List.map_append, List.map_append, hm.out]; rfl))
        have hXw := OP.2.2.2.1
        have hEl : Hid (∀ i, i < L.length → E i ≤ wr.heap.size) := fun i hi => (LL.2.1 i hi).2.2
        have hob : Hid (∀ g, v.ownBlock = some g → X0.heap.size ≤ g ∧ g < wr.heap.size) := fun g hg => ownW_lt LL.1 hg
        have hvk : Hid (v.ownBlock ≠ some kb) := fun e => by have := (hob.out kb e).1; omega
        have hlen9 : Hid (L.length + 1 ≤ 8589934593) := by show _ ≤ _; omega
        clear R3 OH hm
        generalize s.H k = t at *
        go_wp2_with fail
        clear u0
        refine wp_region_held_drew (S := fun _ => True) (by kernel_rfl) trivial (fun hHeld => ?_)
        refine wpAnyH_take (i := 0) (v := .pointer (some ⟨kb, 2, none⟩)) rfl (by kernel_rfl) (by kernel_rfl) (by kernel_rfl) (fun _ _ _ h => h) (Or.inl ⟨by rfl, fun w' hSw => by go_simp⟩) hHeld ?_
        simp only [List.getElem_toArray, List.getElem_cons_zero, Act.put, List.setIfInBounds_toArray, List.set_cons_zero, List.set_cons_succ]
        refine wpAnyH_take (i := 2) (v := .slice a0 t.n c0) rfl (by kernel_rfl) (by kernel_rfl) (by kernel_rfl) (fun _ _ _ h => h) (Or.inl ⟨by rfl, fun w' hSw => by go_simp⟩) hHeld ?_
        simp only [List.getElem_toArray, List.getElem_cons_succ, List.getElem_cons_zero, Act.put, List.setIfInBounds_toArray, List.set_cons_zero, List.set_cons_succ]
        have f0 : Below wr.heap.size wr wr.drew := (Below.refl _ _).drew
        refine wpAnyH_ready (rs := [1, 3]) (by kernel_rfl) (by simp) (AllReadyH.cons rfl (fun K hK => ?_) (AllReadyH.cons rfl (fun K hK => ?_) AllReadyH.nil))
        · skip
          have c2 := MO.2.1 2 _ rfl
          go_simp
          clear c2
          refine hK.out _ _ (trivial) (fun hHeld => ?_)
          clear hK K
          refine wpAnyH_ready (rs := [3]) (by kernel_rfl) (by simp) (AllReadyH.cons rfl (fun K hK => ?_) AllReadyH.nil)
          go_simp
          refine (OK.out _ _ _ (R0.out.below f0)).mono ?_
          rintro e y1 ⟨va, vc, rfl, AV, b1⟩
          have f1 : Below wr.heap.size wr y1 := f0.trans (b1.mono (Nat.le_of_eq rfl))
          have MO1 := MO.below f1
          have LL1 := LL.below f1
          have z1 : wr.heap.size ≤ y1.heap.size := b1.size
          refine hK.out _ _ (trivial) (fun hHeld => ?_)
          clear hK K
          refine wpAnyH_ready (rs := [4]) (by kernel_rfl) (by simp) (AllReadyH.cons rfl (fun K hK => ?_) AllReadyH.nil)
          go_simp
          have bA : Below y1.heap.size y1 (y1.alloc (.cells #[.slice va t.n vc] 31)) := below_box (Below.refl _ _)
          have N := Mut.new y1 #[.slice va t.n vc] 31
          have MO2 := MO1.below bA
          have LL2 := LL1.below bA
          have AV2 := AV.below bA
          have zA := bA.size
          have f2 := f1.trans (bA.mono f1.size)
          refine hK.out _ _ (trivial) (fun hHeld => ?_)
          clear hK K
          refine wpAnyH_ready (rs := [5]) (by kernel_rfl) (by simp) (AllReadyH.cons rfl (fun K hK => ?_) AllReadyH.nil)
          rw [if_pos (by rfl)]
          refine wp_appW leafST _ _ (by rfl) X0.heap.size v L.length (L.map xlc) (by rfl) LL2.1 y1.heap.size 0 1 1 [.slice va t.n vc] (by rfl) (by rfl) (RowW.mut N) (by intro v hv; simp only [List.mem_cons, List.not_mem_nil, or_false] at hv; subst hv; rfl) hlen9.out (by decide) (by omega) ?_
          intro v3 y3 own3 b3 gr3 ob3
          have MO3 := MO2.grown15 gr3 hvk.out
          obtain ⟨B3, E3, LL3⟩ := LL2.push (e := ⟨va, vc, t⟩) (lo := wr.heap.size) (top := y1.heap.size) hXw hEl.out z1 zA AV2 (fun g hg => (hob.out g hg).2) own3 gr3 ob3
          have f3 : Below X0.heap.size wr y3 := (f2.mono hXw).trans b3
          refine hK.out _ _ (trivial) (fun hHeld => ?_)
          clear hK K
          refine wpAnyH_take (i := 6) (v := .pointer (some ⟨kb, 2, none⟩)) rfl (by kernel_rfl) (by kernel_rfl) (by kernel_rfl) (fun _ _ _ h => h) (Or.inl ⟨by rfl, fun w' hSw => by go_simp⟩) hHeld ?_
          simp only [List.getElem_toArray, List.getElem_cons_succ, List.getElem_cons_zero, Act.put, List.setIfInBounds_toArray, List.set_cons_zero, List.set_cons_succ]
          refine wpAnyH_ready (rs := [7]) (by kernel_rfl) (by simp) (AllReadyH.cons rfl (fun K hK => ?_) AllReadyH.nil)
          obtain ⟨av3, cv3, hv3, _⟩ := ownW_row own3
          subst hv3
          have c2 := MO3.2.1 2 _ rfl
          have g2 := MO3.2.2 2 (by simp)
          go_simp
          clear c2 g2
          refine hK.out _ _ (trivial) (fun hHeld => ?_)
          clear hK K
          have on : OnlyP (fun x => x = kb) y3 (y3.setCell ⟨kb, 2, none⟩ (.slice av3 (L.length + 1) cv3)) := (OnlyP.refl (fun x => x = kb) y3).set15 rfl _ _
          have OP4 := (OP.after f3).trans on
          have LL4 := LL3.onlyP on (fun x hx e => by omega)
          have MO4 := MO3.set 2 (.slice av3 (L.length + 1) cv3)
          have hmN := hide (hmN.out va vc)
          clear on f3 MO3 LL3 own3 b3 gr3 ob3 MO2 LL2 AV2 N MO1 LL1 AV f1 f2 bA
          refine wpAnyH_done (by kernel_rfl) ?_ _
          go_wp2_with fail
          rw [hLk] at MO4 LL4 OP4
          exact ⟨⟨k + 1, _, _, B3, E3, by go_num, by omega, by simp [hLk], hmN.out, MO4, LL4, OP4⟩, by simp [intOf]; omega⟩
        · skip
          go_simp
          refine (OK.out _ _ _ (R0.out.below f0)).mono ?_
          rintro e y1 ⟨va, vc, rfl, AV, b1⟩
          have f1 : Below wr.heap.size wr y1 := f0.trans (b1.mono (Nat.le_of_eq rfl))
          have MO1 := MO.below f1
          have LL1 := LL.below f1
          have z1 : wr.heap.size ≤ y1.heap.size := b1.size
          refine hK.out _ _ (trivial) (fun hHeld => ?_)
          clear hK K
          refine wpAnyH_ready (rs := [1, 4]) (by kernel_rfl) (by simp) (AllReadyH.cons rfl (fun K hK => ?_) (AllReadyH.cons rfl (fun K hK => ?_) AllReadyH.nil))
          · skip
            have c2 := MO1.2.1 2 _ rfl
            go_simp
            clear c2
            refine hK.out _ _ (trivial) (fun hHeld => ?_)
            clear hK K
            refine wpAnyH_ready (rs := [4]) (by kernel_rfl) (by simp) (AllReadyH.cons rfl (fun K hK => ?_) AllReadyH.nil)
            go_simp
            have bA : Below y1.heap.size y1 (y1.alloc (.cells #[.slice va t.n vc] 31)) := below_box (Below.refl _ _)
            have N := Mut.new y1 #[.slice va t.n vc] 31
            have MO2 := MO1.below bA
            have LL2 := LL1.below bA
            have AV2 := AV.below bA
            have zA := bA.size
            have f2 := f1.trans (bA.mono f1.size)
            refine hK.out _ _ (trivial) (fun hHeld => ?_)
            clear hK K
            refine wpAnyH_ready (rs := [5]) (by kernel_rfl) (by simp) (AllReadyH.cons rfl (fun K hK => ?_) AllReadyH.nil)
            rw [if_pos (by rfl)]
            refine wp_appW leafST _ _ (by rfl) X0.heap.size v L.length (L.map xlc) (by rfl) LL2.1 y1.heap.size 0 1 1 [.slice va t.n vc] (by rfl) (by rfl) (RowW.mut N) (by intro v hv; simp only [List.mem_cons, List.not_mem_nil, or_false] at hv; subst hv; rfl) hlen9.out (by decide) (by omega) ?_
            intro v3 y3 own3 b3 gr3 ob3
            have MO3 := MO2.grown15 gr3 hvk.out
            obtain ⟨B3, E3, LL3⟩ := LL2.push (e := ⟨va, vc, t⟩) (lo := wr.heap.size) (top := y1.heap.size) hXw hEl.out z1 zA AV2 (fun g hg => (hob.out g hg).2) own3 gr3 ob3
            have f3 : Below X0.heap.size wr y3 := (f2.mono hXw).trans b3
            refine hK.out _ _ (trivial) (fun hHeld => ?_)
            clear hK K
            refine wpAnyH_take (i := 6) (v := .pointer (some ⟨kb, 2, none⟩)) rfl (by kernel_rfl) (by kernel_rfl) (by kernel_rfl) (fun _ _ _ h => h) (Or.inl ⟨by rfl, fun w' hSw => by go_simp⟩) hHeld ?_
            simp only [List.getElem_toArray, List.getElem_cons_succ, List.getElem_cons_zero, Act.put, List.setIfInBounds_toArray, List.set_cons_zero, List.set_cons_succ]
            refine wpAnyH_ready (rs := [7]) (by kernel_rfl) (by simp) (AllReadyH.cons rfl (fun K hK => ?_) AllReadyH.nil)
            obtain ⟨av3, cv3, hv3, _⟩ := ownW_row own3
            subst hv3
            have c2 := MO3.2.1 2 _ rfl
            have g2 := MO3.2.2 2 (by simp)
            go_simp
            clear c2 g2
            refine hK.out _ _ (trivial) (fun hHeld => ?_)
            clear hK K
            have on : OnlyP (fun x => x = kb) y3 (y3.setCell ⟨kb, 2, none⟩ (.slice av3 (L.length + 1) cv3)) := (OnlyP.refl (fun x => x = kb) y3).set15 rfl _ _
            have OP4 := (OP.after f3).trans on
            have LL4 := LL3.onlyP on (fun x hx e => by omega)
            have MO4 := MO3.set 2 (.slice av3 (L.length + 1) cv3)
            have hmN := hide (hmN.out va vc)
            clear on f3 MO3 LL3 own3 b3 gr3 ob3 MO2 LL2 AV2 N MO1 LL1 AV f1 f2 bA
            refine wpAnyH_done (by kernel_rfl) ?_ _
            go_wp2_with fail
            rw [hLk] at MO4 LL4 OP4
            exact ⟨⟨k + 1, _, _, B3, E3, by go_num, by omega, by simp [hLk], hmN.out, MO4, LL4, OP4⟩, by simp [intOf]; omega⟩
          · skip
            go_simp
            have bA : Below y1.heap.size y1 (y1.alloc (.cells #[.slice va t.n vc] 31)) := below_box (Below.refl _ _)
            have N := Mut.new y1 #[.slice va t.n vc] 31
            have MO2 := MO1.below bA
            have LL2 := LL1.below bA
            have AV2 := AV.below bA
            have zA := bA.size
            have f2 := f1.trans (bA.mono f1.size)
            refine hK.out _ _ (trivial) (fun hHeld => ?_)
            clear hK K
            refine wpAnyH_ready (rs := [1]) (by kernel_rfl) (by simp) (AllReadyH.cons rfl (fun K hK => ?_) AllReadyH.nil)
            have c2 := MO2.2.1 2 _ rfl
            go_simp
            clear c2
            refine hK.out _ _ (trivial) (fun hHeld => ?_)
            clear hK K
            refine wpAnyH_ready (rs := [5]) (by kernel_rfl) (by simp) (AllReadyH.cons rfl (fun K hK => ?_) AllReadyH.nil)
            rw [if_pos (by rfl)]
            refine wp_appW leafST _ _ (by rfl) X0.heap.size v L.length (L.map xlc) (by rfl) LL2.1 y1.heap.size 0 1 1 [.slice va t.n vc] (by rfl) (by rfl) (RowW.mut N) (by intro v hv; simp only [List.mem_cons, List.not_mem_nil, or_false] at hv; subst hv; rfl) hlen9.out (by decide) (by omega) ?_
            intro v3 y3 own3 b3 gr3 ob3
            have MO3 := MO2.grown15 gr3 hvk.out
            obtain ⟨B3, E3, LL3⟩ := LL2.push (e := ⟨va, vc, t⟩) (lo := wr.heap.size) (top := y1.heap.size) hXw hEl.out z1 zA AV2 (fun g hg => (hob.out g hg).2) own3 gr3 ob3
            have f3 : Below X0.heap.size wr y3 := (f2.mono hXw).trans b3
            refine hK.out _ _ (trivial) (fun hHeld => ?_)
            clear hK K
            refine wpAnyH_take (i := 6) (v := .pointer (some ⟨kb, 2, none⟩)) rfl (by kernel_rfl) (by kernel_rfl) (by kernel_rfl) (fun _ _ _ h => h) (Or.inl ⟨by rfl, fun w' hSw => by go_simp⟩) hHeld ?_
            simp only [List.getElem_toArray, List.getElem_cons_succ, List.getElem_cons_zero, Act.put, List.setIfInBounds_toArray, List.set_cons_zero, List.set_cons_succ]
            refine wpAnyH_ready (rs := [7]) (by kernel_rfl) (by simp) (AllReadyH.cons rfl (fun K hK => ?_) AllReadyH.nil)
            obtain ⟨av3, cv3, hv3, _⟩ := ownW_row own3
            subst hv3
            have c2 := MO3.2.1 2 _ rfl
            have g2 := MO3.2.2 2 (by simp)
            go_simp
            clear c2 g2
            refine hK.out _ _ (trivial) (fun hHeld => ?_)
            clear hK K
            have on : OnlyP (fun x => x = kb) y3 (y3.setCell ⟨kb, 2, none⟩ (.slice av3 (L.length + 1) cv3)) := (OnlyP.refl (fun x => x = kb) y3).set15 rfl _ _
            have OP4 := (OP.after f3).trans on
            have LL4 := LL3.onlyP on (fun x hx e => by omega)
            have MO4 := MO3.set 2 (.slice av3 (L.length + 1) cv3)
            have hmN := hide (hmN.out va vc)
            clear on f3 MO3 LL3 own3 b3 gr3 ob3 MO2 LL2 AV2 N MO1 LL1 AV f1 f2 bA
            refine wpAnyH_done (by kernel_rfl) ?_ _
            go_wp2_with fail
            rw [hLk] at MO4 LL4 OP4
            exact ⟨⟨k + 1, _, _, B3, E3, by go_num, by omega, by simp [hLk], hmN.out, MO4, LL4, OP4⟩, by simp [intOf]; omega⟩
      · have hlt' : ¬ (k : Int) < (s.h : Int) := by omega
        obtain rfl : k = s.h := by omega
        have hXw := OP.2.2.2.1
        obtain ⟨av, cv, rfl, hcv, AX⟩ := LL.ans hXw
        rw [hLk] at AX hcv MO
        have AX := hide (AX.congr (fun i hi => TX_map hm.out hLk hi))
        replace A1 := A1.onlyP OP (fun x hx => hx.2)
        replace A2 := A2.onlyP OP (fun x hx => hx.2)
        replace M2 := M2.onlyP OP (by omega)
        have k0 := MO.2.1 0 _ rfl
        have k1 := MO.2.1 1 _ rfl
        have k2 := MO.2.1 2 _ rfl
        have k3 := MO.2.1 3 _ rfl
        clear LL hm R3 OH MO
        go_wp2_with (refine wpList_storeM (us := [.slice ca' s.C.n kc', .slice ra' s.R.n kr', .slice av s.h cv, .int .i64 s.l]) rfl rfl rfl rfl M2 rfl (by intro v hv; simp only [List.mem_cons, List.not_mem_nil, or_false] at hv; rcases hv with rfl | rfl | rfl | rfl <;> rfl) sizeSto ?_; intro w9 M9 o9)
        have on := OnlyP.of_only (P := fun x => x = w.heap.size + 1) o9 rfl
        have z9 := on.2.2.2.1
        have r0 := M9.2.1 0 _ rfl
        have r1 := M9.2.1 1 _ rfl
        have r2 := M9.2.1 2 _ rfl
        have r3 := M9.2.1 3 _ rfl
        have d9 := dr.trans (on.below (base := w.heap.size) (fun x _ hx => by omega) dr.size)
        have A1 := (A1.mono (Q := fun x => w1.heap.size ≤ x ∧ x < m1) (fun x hx => hx.1)).onlyP on (fun x hx e => by omega)
        have A2 := (A2.mono (Q := fun x => m1 ≤ x ∧ x < m2) (fun x hx => hx.1)).onlyP on (fun x hx e => by omega)
        have AX := AX.out.onlyP on (fun x h1 h2 e => by omega)
        refine bodyPost_ret (v := stV s ca' kc' ra' kr' av cv) (by simp [results, Tryz.results37, go_sem, stV, r0, r1, r2, r3]) rfl ⟨_, rfl, ?_, d9⟩
        exact ⟨ca', kc', ra', kr', av, cv, m1, m2, rfl, by omega, q2, by omega, Nat.le_refl _, hcv, A1.mono (fun x hx => by omega), A2, AX.wide (by omega) z9 (Nat.le_refl _)⟩
end Go.Proofs.YtnficndeblkjhaaGreatDoor
