/- A disk that falls: crash of the program. -/
import Derived.Test.YtddjefmokpfplaaDoorWr17
import Derived.Test.YtddjefmokpfplaaDoorFlatBool
import Derived.Deep.DeepCutAuto
import Derived.Deep.RegionHeld3
namespace Go.Proofs.YtddjefmokpfplaaDoor
open Go.RowKit

/-- The sectors behind the first writes, those kept written. -/
def crF (f : Nat → ByteArray) (A : Nat → Int) (D : Nat → ByteArray) (K : Nat → Bool) : Nat → Nat → ByteArray
  | 0 => f
  | j + 1 => if K j = true then fun i => if i = (A j).toNat then D j else crF f A D K j i else crF f A D K j
/-- A disk behind a fall. -/
def crD (d : Dk) (K : Nat → Bool) : Dk := ⟨d.n, crF d.f d.A d.D K d.m, 0, fun _ => 0, fun _ => ByteArray.empty⟩
theorem crF_yes {f : Nat → ByteArray} {A : Nat → Int} {D : Nat → ByteArray} {K : Nat → Bool} {j q : Nat} (h : K j = true) (hq : A j = (q : Int)) : crF f A D K (j + 1) = fun i => if i = q then D j else crF f A D K j i := by
  show (if K j = true then fun i => if i = (A j).toNat then D j else crF f A D K j i else crF f A D K j) = _
  rw [if_pos h, hq]
  rfl
theorem crF_no {f : Nat → ByteArray} {A : Nat → Int} {D : Nat → ByteArray} {K : Nat → Bool} {j : Nat} (h : K j = false) : crF f A D K (j + 1) = crF f A D K j := by
  show (if K j = true then fun i => if i = (A j).toNat then D j else crF f A D K j i else crF f A D K j) = _
  rw [if_neg (by rw [h]; decide)]
theorem OutStr.set18 {c n : Nat} {f : Nat → ByteArray} {w : World} (h : OutStr c n n f w) {j : Nat} (hj : j < n) (x : ByteArray) : OutStr c n n (fun i => if i = j then x else f i) (w.setCell ⟨c, j, none⟩ (.string x)) := by
  refine ⟨by have := h.1; simpa using this, fun i hi => ?_⟩
  obtain ⟨⟨y, h1, h2⟩, g⟩ := h.2 i hi
  by_cases e : i = j
  · subst e
    refine ⟨⟨x, ?_, fun _ => (if_pos rfl).symm⟩, ?_⟩
    · simp [go_sem, h1]
    · simpa [go_sem] using g
  · refine ⟨⟨y, ?_, fun hlt => (h2 hlt).trans (if_neg e).symm⟩, ?_⟩
    · rw [World.cell?_setCell_other _ _ _ _ (by simp <;> omega)]; exact h1
    · simpa [go_sem] using g
theorem scells_set (n : Nat) (f : Nat → ByteArray) (j : Nat) (x : ByteArray) : scells n (fun i => if i = j then x else f i) = (scells n f).set j (.string x) := by
  apply List.ext_getElem
  · simp [scells]
  · intro i h1 h2
    simp only [scells, List.getElem_map, List.getElem_range, List.getElem_set]
    by_cases e : j = i
    · rw [if_pos e, if_pos e.symm]
    · rw [if_neg e, if_neg (fun h => e h.symm)]
theorem ownW_set {e : TypeId} {n c base g : Nat} {xs : List Value} {w : World} (h : OwnW e 1 base (.slice (some ⟨g, 0, none⟩) n c) n xs w) (j : Nat) (v : Value) : OwnW e 1 base (.slice (some ⟨g, 0, none⟩) n c) n (xs.set j v) (w.setCell ⟨g, j, none⟩ v) := by
  obtain ⟨h1, h2⟩ := h
  refine ⟨by rw [List.length_set]; exact h1, ?_⟩
  rcases h2 with ⟨q, _⟩ | ⟨g', cap, cur, hv, h3, h4, h5, h6, h7, h8⟩
  · exact absurd q (by simp)
  · simp only [Value.slice.injEq, Option.some.injEq, Addr.mk.injEq, and_true] at hv
    obtain ⟨rfl, _, rfl⟩ := hv
    refine .inr ⟨g, c, cur.setIfInBounds j v, rfl, h3, ?_, h5, h6, by rw [Array.size_setIfInBounds]; exact h7, ?_⟩
    · simp [World.setCell, Array.getElem?_modify, h4]
    · rw [Array.toList_setIfInBounds, List.take_set, h8]
theorem RowWrite.onlyP17 {P : Nat → Prop} {a : Option Addr} {n : Nat} {A : Nat → Int} {D : Nat → ByteArray} {w w' : World} (h : RowWrite a n A D w) (b : OnlyP P w w') (hn : ∀ x off, a = some ⟨x, off, none⟩ → ¬ P x) : RowWrite a n A D w' := fun i hi => by
  obtain ⟨x, off, e, hx, c0, c1⟩ := h i hi
  exact ⟨x, off, e, Nat.lt_of_lt_of_le hx b.2.2.2.1, (b.cell hx (hn x off e)).trans c0, (b.cell hx (hn x off e)).trans c1⟩
set_option maxRecDepth 100000 in
set_option maxHeartbeats 3200000 in
theorem i_crashY (S : Nat → Prop) (k : Nat) (d : Dk) (ka : Option Addr) (kc : Nat) (K : Nat → Bool) (w : World) (hg : GD17 d) (hD : HasD S k d w) (hK : ∀ w', OnlyP S w w' → RowBl ka d.m K w') :
    Calls Tryd.prog 40 #[.pointer (some ⟨k, 0, none⟩), .slice ka d.m kc] w fun e w' => e = .returned (.tuple #[]) ∧ HasD S k (crD d K) w' ∧ OnlyP S w w' := by
  obtain ⟨hk, va, vb, M, T, hA, hB⟩ := hD
  have MY := hide (fun w => i_mustY w)
  obtain ⟨hn, hm, _, hgw⟩ := hg
  obtain ⟨a1, c1, rfl, _, hOa⟩ := T.1.out
  obtain ⟨g, rfl, _, hgl, O⟩ := hOa (by omega)
  obtain ⟨b1, e1, rfl, hWb, _⟩ := T.2.1.out
  have hgS : S g := (hA g rfl).1
  have hgk : g ≠ k := (hA g rfl).2
  have hbg : ∀ x off, b1 = some ⟨x, off, none⟩ → ¬ x = g := fun x off e h => T.2.2 g rfl (by rw [e, ← h]; rfl)
  have v1 := M.2.1 1 _ rfl
  have hmm : d.m ≤ 1048576 := by omega
  have hkw := M.1
  go_enter Tryd.func40, Tryd.ntmps40
  go_wp2_with fail
  refine (MY.out _).mono ?_
  rintro e w1 ⟨rfl, rfl⟩
  go_wp2_with fail
  clear v1
  have O := T.1
  replace T := hide T.2.1
  go_loopw [20] (fun y wr => ∃ j : Nat, y = .int .i64 j ∧ j ≤ d.m ∧ Mut wr k [.slice (some ⟨g, 0, none⟩) d.n c1, .slice b1 d.m e1] ∧ OwnS 0 (.slice (some ⟨g, 0, none⟩) d.n c1) d.n (crF d.f d.A d.D K j) wr ∧ OnlyP (fun z => z = g) w1 wr) (fun y _ => d.m - (intOf y).toNat)
  case atStart => exact ⟨0, rfl, Nat.zero_le _, M, O, OnlyP.refl _ _⟩
  case round =>
    clear M O
    obtain ⟨j, rfl, hj, M, O, on⟩ := hrel
    have RW := hWb.onlyP17 on hbg
    have RK := hK wr (on.mono (fun z _ h => by have h : z = g := h; rw [h]; exact hgS))
    by_cases hlt : j < d.m
    · obtain ⟨xb, off, rfl, hxb, q0, q1⟩ := RW j hlt
      obtain ⟨kb, koff, rfl, hkb, kk⟩ := RK j hlt
      have hlt' : (j : Int) < (d.m : Int) := by omega
      obtain ⟨x0, x1, _⟩ := hgw j hlt
      obtain ⟨q, hq⟩ : ∃ q : Nat, d.A j = (q : Int) := ⟨(d.A j).toNat, by omega⟩
      have hqn : q < d.n := by omega
      have hqn' : (q : Int) < (d.n : Int) := by omega
      have hY := hide (fun h : K j = true => crF_yes (f := d.f) (D := d.D) h hq)
      have hN := hide (fun h : K j = false => crF_no (f := d.f) (A := d.A) (D := d.D) h)
      rw [hq] at q0 x0 x1
      clear hgw hWb hK RW RK hq
      have N := Mut.new wr #[.int .i64 (q : Int), .string (d.D j)] 50
      have bA : Below wr.heap.size wr (wr.alloc (.cells #[.int .i64 (q : Int), .string (d.D j)] 50)) := below_box (Below.refl _ _)
      have hgr : g < wr.heap.size := (ownW_lt O rfl).2
      have hkr := M.1
      have kk2 := (bA.cell (p := ⟨kb, koff + j, none⟩) hkb).trans kk
      have on2 := on.trans (OnlyP.of_below (P := fun z => z = g) bA)
      replace O := ownW_below O bA
      replace M := M.below bA
      generalize crF d.f d.A d.D K j = F at *
      generalize d.D j = sj at *
      generalize K j = bj at *
      cases bj with
      | false =>
        have hN2 := hide (hN.out rfl)
        clear hY hN
        go_wp2_with fail
        exact ⟨⟨j + 1, by go_num, by omega, M, by rw [hN2.out]; exact O, on2⟩, by simp [intOf]; omega⟩
      | true =>
        have hY2 := hide (hY.out rfl)
        clear hN hY
        go_wp2_with fail
        generalize wr.alloc (.cells #[.int .i64 (q : Int), .string sj] 50) = w2 at *
        have hS : ∀ w' : World, OnlyP (fun z => z = g) w2 w' → w'.cell? ⟨k, 0, none⟩ = some (.slice (some ⟨g, 0, none⟩) d.n c1) ∧ w'.cell? ⟨wr.heap.size, 0, none⟩ = some (.int .i64 (q : Int)) ∧ w'.cell? ⟨wr.heap.size, 1, none⟩ = some (.string sj) := fun w' b => ⟨(M.onlyP b (by omega)).2.1 0 _ rfl, (N.onlyP b (by omega)).2.1 0 _ rfl, (N.onlyP b (by omega)).2.1 1 _ rfl⟩
        have f0 : Below w2.heap.size w2 w2.drew := (Below.refl _ _).drew
        refine wp_region_held_drew (S := fun w' => w'.cell? ⟨k, 0, none⟩ = some (.slice (some ⟨g, 0, none⟩) d.n c1) ∧ w'.cell? ⟨wr.heap.size, 0, none⟩ = some (.int .i64 (q : Int)) ∧ w'.cell? ⟨wr.heap.size, 1, none⟩ = some (.string sj)) (by kernel_rfl) (hS _ (OnlyP.of_below f0)) (fun hHeld => ?_)
        refine wpAnyH_take (i := 0) (v := .pointer (some ⟨k, 0, none⟩)) rfl (by kernel_rfl) (by kernel_rfl) (by kernel_rfl) (fun _ _ _ h => h) (Or.inl ⟨by rfl, fun w' hSw => by go_simp⟩) hHeld ?_
        simp only [List.getElem_toArray, List.getElem_cons_zero, Act.put, List.setIfInBounds_toArray, List.set_cons_zero, List.set_cons_succ]
        refine wpAnyH_take (i := 1) (v := .pointer (some ⟨k, 0, none⟩)) rfl (by kernel_rfl) (by kernel_rfl) (by kernel_rfl) (fun _ _ _ h => h) (Or.inl ⟨by rfl, fun w' hSw => by go_simp⟩) hHeld ?_
        simp only [List.getElem_toArray, List.getElem_cons_succ, List.getElem_cons_zero, Act.put, List.setIfInBounds_toArray, List.set_cons_zero, List.set_cons_succ]
        refine wpAnyH_take (i := 2) (v := .pointer (some ⟨k, 0, none⟩)) rfl (by kernel_rfl) (by kernel_rfl) (by kernel_rfl) (fun _ _ _ h => h) (Or.inl ⟨by rfl, fun w' hSw => by go_simp⟩) hHeld ?_
        simp only [List.getElem_toArray, List.getElem_cons_succ, List.getElem_cons_zero, Act.put, List.setIfInBounds_toArray, List.set_cons_zero, List.set_cons_succ]
        refine wpAnyH_take (i := 3) (v := .slice (some ⟨g, 0, none⟩) d.n c1) rfl (by kernel_rfl) (by kernel_rfl) (by kernel_rfl) (fun _ _ _ h => h) (Or.inl ⟨by rfl, fun w' hSw => by go_simp⟩) hHeld ?_
        simp only [List.getElem_toArray, List.getElem_cons_succ, List.getElem_cons_zero, Act.put, List.setIfInBounds_toArray, List.set_cons_zero, List.set_cons_succ]
        refine wpAnyH_take (i := 4) (v := .pointer (some ⟨wr.heap.size, 0, none⟩)) rfl (by kernel_rfl) (by kernel_rfl) (by kernel_rfl) (fun _ _ _ h => h) (Or.inl ⟨by rfl, fun w' hSw => by go_simp⟩) hHeld ?_
        simp only [List.getElem_toArray, List.getElem_cons_succ, List.getElem_cons_zero, Act.put, List.setIfInBounds_toArray, List.set_cons_zero, List.set_cons_succ]
        refine wpAnyH_take (i := 5) (v := .int .i64 (q : Int)) rfl (by kernel_rfl) (by kernel_rfl) (by kernel_rfl) (fun _ _ _ h => h) (Or.inl ⟨by rfl, fun w' hSw => by go_simp⟩) hHeld ?_
        simp only [List.getElem_toArray, List.getElem_cons_succ, List.getElem_cons_zero, Act.put, List.setIfInBounds_toArray, List.set_cons_zero, List.set_cons_succ]
        refine wpAnyH_take (i := 6) (v := .pointer (some ⟨wr.heap.size, 1, none⟩)) rfl (by kernel_rfl) (by kernel_rfl) (by kernel_rfl) (fun _ _ _ h => h) (Or.inl ⟨by rfl, fun w' hSw => by go_simp⟩) hHeld ?_
        simp only [List.getElem_toArray, List.getElem_cons_succ, List.getElem_cons_zero, Act.put, List.setIfInBounds_toArray, List.set_cons_zero, List.set_cons_succ]
        refine wpAnyH_take (i := 7) (v := .string sj) rfl (by kernel_rfl) (by kernel_rfl) (by kernel_rfl) (fun _ _ _ h => h) (Or.inl ⟨by rfl, fun w' hSw => by go_simp⟩) hHeld ?_
        simp only [List.getElem_toArray, List.getElem_cons_succ, List.getElem_cons_zero, Act.put, List.setIfInBounds_toArray, List.set_cons_zero, List.set_cons_succ]
        refine wpAnyH_take (i := 8) (v := .pointer (some ⟨g, q, none⟩)) rfl (by kernel_rfl) (by kernel_rfl) (by kernel_rfl) (fun _ _ _ h => h) (Or.inl ⟨by rfl, fun w' hSw => by go_simp⟩) hHeld ?_
        simp only [List.getElem_toArray, List.getElem_cons_succ, List.getElem_cons_zero, Act.put, List.setIfInBounds_toArray, List.set_cons_zero, List.set_cons_succ]
        refine wpAnyH_ready (rs := [9]) (by kernel_rfl) (by simp) (AllReadyH.cons rfl (fun K hK => ?_) AllReadyH.nil)
        have Od : OwnS 0 (.slice (some ⟨g, 0, none⟩) d.n c1) d.n F w2.drew := ownW_below O f0
        obtain ⟨_, _, _, _, hOd⟩ := Od.out
        obtain ⟨g9, eg9, _, _, O9⟩ := hOd (by omega)
        obtain rfl : g = g9 := by simp only [Value.slice.injEq] at *; rename_i hh; simp_all
        obtain ⟨⟨y8, c8, _⟩, z8⟩ := O9.2 q hqn
        go_simp
        have O2 := ownW_set Od q (.string sj)
        rw [← scells_set, ← hY2.out] at O2
        have on3 := (on2.trans (OnlyP.of_below (P := fun z => z = g) f0)).trans (OnlyP.of_only (P := fun z => z = g) ((Only.refl g w2.drew).setCell q (.string sj)) rfl)
        have on4 := (OnlyP.of_below (P := fun z => z = g) f0).trans (OnlyP.of_only (P := fun z => z = g) ((Only.refl g w2.drew).setCell q (.string sj)) rfl)
        have M3 := M.onlyP on4 (by omega)
        refine hK.out _ _ (hS _ on4) (fun hHeld => ?_)
        clear hK K
        refine wpAnyH_done (by kernel_rfl) ?_ _
        clear hHeld hS on4
        go_wp2_with fail
        exact ⟨⟨j + 1, by go_num, by omega, M3, O2, on3⟩, by simp [intOf]; omega⟩
    · obtain rfl : j = d.m := by omega
      have m1 := M.2.1 1 _ rfl
      have z1 := M.2.2 1 (by simp)
      go_wp2_with fail
      have oz := OnlyP.of_only (P := fun z => z = k) ((Only.refl k wr).setCell 1 (.slice none 0 0)) rfl
      have M5 := M.set 1 (.slice none 0 0)
      have hcv : OwnS 0 (.slice (some ⟨g, 0, none⟩) d.n c1) d.n (crD d K).f (wr.setCell ⟨k, 1, none⟩ (.slice none 0 0)) := ownW_onlyP O oz (fun z h q => hgk ((Option.some.inj h).trans q))
      refine ⟨rfl, .tuple #[], by simp [results, Tryd.results40, go_sem], rfl, ?_, ?_⟩
      · exact ⟨hk, _, _, M5, ⟨hcv, ownW_nil _ _ _ _, fun z _ h => by simp [Value.ownBlock] at h⟩, hA, fun z h => by simp [Value.ownBlock] at h⟩
      · exact (on.mono (fun z _ h => by have h : z = g := h; rw [h]; exact hgS)).trans (oz.mono (fun z _ h => by have h : z = k := h; rw [h]; exact hk))
set_option maxRecDepth 100000 in
set_option maxHeartbeats 3200000 in
theorem i_crashN (gp : Addr) (S : Nat → Prop) (k : Nat) (d : Dk) (ka : Option Addr) (km kc : Nat) (w : World) (hne : km ≠ d.m) (hG : GU gp w) (hD : HasD S k d w) :
    Calls Tryd.prog 40 #[.pointer (some ⟨k, 0, none⟩), .slice ka km kc] w fun e w' => e = gaveUp gp ∧ w' = w := by
  obtain ⟨_, va, vb, M, T, _, _⟩ := hD
  have MN := hide (fun w (h : GU gp w) => i_mustN gp w h)
  obtain ⟨b1, e1, rfl, _, _⟩ := T.2.1.out
  have v1 := M.2.1 1 _ rfl
  have hme : ((km : Int) == (d.m : Int)) = false := by simp; omega
  clear hne
  go_enter Tryd.func40, Tryd.ntmps40
  go_wp2_with fail
  refine (MN.out _ hG).mono ?_
  rintro e w1 ⟨rfl, rfl⟩
  exact ⟨rfl, rfl, rfl⟩
end Go.Proofs.YtddjefmokpfplaaDoor
