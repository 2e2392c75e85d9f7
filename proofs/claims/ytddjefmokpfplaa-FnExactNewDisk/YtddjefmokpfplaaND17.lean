/- NewDisk: of the program and of the specification. -/
import Derived.Test.YtddjefmokpfplaaTel17
import Derived.Test.YtddjefmokpfplaaLaw17b
import Derived.Test.YtddjefmokpfplaaStoreM
import Derived.Deep.RegionHeld3
namespace Go.Proofs.Ytddjefmokpfplaa
open Go.RowKit

/-- The new disk. -/
def nwD : Dk := ⟨10, fun i => if i = 8 then teB 0 0 else ByteArray.empty, 0, fun _ => 0, fun _ => ByteArray.empty⟩
theorem OutStr.set17 {c n : Nat} {f : Nat → ByteArray} {w : World} (h : OutStr c n n f w) {j : Nat} (hj : j < n) (x : ByteArray) : OutStr c n n (fun i => if i = j then x else f i) (w.setCell ⟨c, j, none⟩ (.string x)) := by
  refine ⟨by have := h.1; simpa using this, fun i hi => ?_⟩
  obtain ⟨⟨y, h1, h2⟩, g⟩ := h.2 i hi
  by_cases e : i = j
  · subst e
    refine ⟨⟨x, ?_, fun _ => (if_pos rfl).symm⟩, ?_⟩
    · simp [go_sem, h1]
    · simpa [go_sem] using g
  · refine ⟨⟨y, ?_, fun hlt => (h2 hlt).trans (if_neg e).symm⟩, ?_⟩
    · rw [World.cell?_setCell_other _ _ _ _ (by simp <;> omega)]; exact h1
    · simpa [go_sem] using g
theorem OutStr.made17 (w : World) (n : Nat) (t : TypeId) : OutStr w.heap.size n n (fun _ => ByteArray.empty) (w.alloc (.cells (madeCells #[.string ByteArray.empty] n) t)) := by
  refine ⟨by simp, fun i hi => ?_⟩
  have e : (madeCells #[.string ByteArray.empty] n)[i]? = some (.string ByteArray.empty) := by
    simp only [madeCells, Array.getElem?_map, Array.getElem?_range, hi, if_true, Option.map_some]
    simp only [List.size_toArray, List.length_cons, List.length_nil, Nat.zero_add, Nat.mod_one]
    rfl
  refine ⟨⟨ByteArray.empty, ?_, fun _ => rfl⟩, ?_⟩ <;> simp [go_sem, e]
theorem sizeDisk : (Try.prog.info? 25).map (·.size) = some 2 := by kernel_rfl
set_option maxRecDepth 100000 in
set_option maxHeartbeats 1600000 in
theorem i_newDisk (w : World) :
    Calls Try.prog 6 #[] w fun e w' => ∃ a b, (∃ c e', e = .returned (.agg #[.slice a nwD.n c, .slice b nwD.m e'])) ∧ AnsD w.heap.size w'.heap.size a b nwD w' ∧ Below w.heap.size w w' := by
  have TE : Hid (∀ w, Calls Try.prog 16 #[.int .i64 0, .string ⟨#[]⟩] w fun e w' => e = .returned (.string (teB 0 0)) ∧ Below w.heap.size w w') := fun w => i_tellingOf 0 ⟨#[]⟩ w
  generalize hTB : teB 0 0 = TB at *
  replace hTB := hide hTB.symm
  have hinfo : (Try.prog.info? 9).map (fun i => (i.zero, i.size, i.bytes)) = some (some (.string ByteArray.empty), 1, 16) := by kernel_rfl
  obtain ⟨i, hi, hzz⟩ := Option.map_eq_some_iff.1 hinfo
  simp only [Prod.mk.injEq] at hzz
  obtain ⟨hz, hsz, hby⟩ := hzz
  have hmk := fun w : World => run_make (P := Try.prog) w 22 9 i _ Try.underlying22 hi hz .i64 .i64 10 10 (by omega) (by omega) (by rw [hby]; omega) (by omega)
  rw [hsz] at hmk
  clear hi hz hsz hby hinfo
  go_enter Try.func6, Try.ntmps6
  go_wp2_with fail
  have hoS : OutStr (w.heap.size + 1) 10 10 (fun _ => ByteArray.empty) (((w.alloc (.cells #[.slice none 0 0, .slice none 0 0] 25)).alloc (.cells (madeCells #[.string ByteArray.empty] 10) 9)).alloc (.cells #[.slice (some ⟨w.heap.size + 1, 0, none⟩) 10 10, .slice none 0 0] 25)) := by
    have o := OutStr.made17 (w.alloc (.cells #[.slice none 0 0, .slice none 0 0] 25)) 10 9
    simp only [World.size_alloc] at o
    exact o.below (below_box (Below.refl _ _))
  have M := Mut.new ((w.alloc (.cells #[.slice none 0 0, .slice none 0 0] 25)).alloc (.cells (madeCells #[.string ByteArray.empty] 10) 9)) #[.slice (some ⟨w.heap.size + 1, 0, none⟩) 10 10, .slice none 0 0] 25
  have MR : Mut (((w.alloc (.cells #[.slice none 0 0, .slice none 0 0] 25)).alloc (.cells (madeCells #[.string ByteArray.empty] 10) 9)).alloc (.cells #[.slice (some ⟨w.heap.size + 1, 0, none⟩) 10 10, .slice none 0 0] 25)) w.heap.size [.slice none 0 0, .slice none 0 0] := ((Mut.new w #[.slice none 0 0, .slice none 0 0] 25).alloc _).alloc _
  have d0 : Below w.heap.size w (((w.alloc (.cells #[.slice none 0 0, .slice none 0 0] 25)).alloc (.cells (madeCells #[.string ByteArray.empty] 10) 9)).alloc (.cells #[.slice (some ⟨w.heap.size + 1, 0, none⟩) 10 10, .slice none 0 0] 25)) := below_box3 (Below.refl _ _)
  simp only [World.size_alloc] at M
  clear hmk
  generalize ((w.alloc (.cells #[.slice none 0 0, .slice none 0 0] 25)).alloc (.cells (madeCells #[.string ByteArray.empty] 10) 9)).alloc (.cells #[.slice (some ⟨w.heap.size + 1, 0, none⟩) 10 10, .slice none 0 0] 25) = w1 at *
  have hS : ∀ w' : World, OnlyP (fun x => x = w.heap.size + 1) w1 w' → w'.cell? ⟨w.heap.size + 1 + 1, 0, none⟩ = some (.slice (some ⟨w.heap.size + 1, 0, none⟩) 10 10) := fun w' b => (M.onlyP b (by omega)).2.1 0 _ rfl
  refine wp_region_held_drew (S := fun w' => w'.cell? ⟨w.heap.size + 1 + 1, 0, none⟩ = some (.slice (some ⟨w.heap.size + 1, 0, none⟩) 10 10)) (by kernel_rfl) (hS _ (OnlyP.of_below (Below.refl _ _).drew)) (fun hHeld => ?_)
  refine wpAnyH_take (i := 0) (v := .pointer (some ⟨w.heap.size + 1 + 1, 0, none⟩)) rfl (by kernel_rfl) (by kernel_rfl) (by kernel_rfl) (fun _ _ _ h => h) (Or.inl ⟨by rfl, fun w' hSw => by go_simp⟩) hHeld ?_
  simp only [List.getElem_toArray, List.getElem_cons_zero, Act.put, List.setIfInBounds_toArray, List.set_cons_zero, List.set_cons_succ]
  refine wpAnyH_take (i := 1) (v := .slice (some ⟨w.heap.size + 1, 0, none⟩) 10 10) rfl (by kernel_rfl) (by kernel_rfl) (by kernel_rfl) (fun _ _ _ h => h) (Or.inl ⟨by rfl, fun w' hSw => by go_simp⟩) hHeld ?_
  simp only [List.getElem_toArray, List.getElem_cons_succ, List.getElem_cons_zero, Act.put, List.setIfInBounds_toArray, List.set_cons_zero, List.set_cons_succ]
  refine wpAnyH_ready (rs := [2]) (by kernel_rfl) (by simp) (AllReadyH.cons rfl (fun K hK => ?_) AllReadyH.nil)
  go_simp
  refine (TE.out _).mono ?_
  rintro e w2 ⟨rfl, b2⟩
  have f2 := (Below.refl w1.heap.size w1).drew.trans b2
  have o2 := hoS.below f2
  refine hK.out _ _ (hS _ (OnlyP.of_below f2)) (fun hHeld => ?_)
  clear hK K
  refine wpAnyH_take (i := 3) (v := .pointer (some ⟨w.heap.size + 1, 8, none⟩)) rfl (by kernel_rfl) (by kernel_rfl) (by kernel_rfl) (fun _ _ _ h => h) (Or.inl ⟨by rfl, fun w' hSw => by go_simp⟩) hHeld ?_
  simp only [List.getElem_toArray, List.getElem_cons_succ, List.getElem_cons_zero, Act.put, List.setIfInBounds_toArray, List.set_cons_zero, List.set_cons_succ]
  refine wpAnyH_ready (rs := [4]) (by kernel_rfl) (by simp) (AllReadyH.cons rfl (fun K hK => ?_) AllReadyH.nil)
  obtain ⟨⟨y8, c8, _⟩, z8⟩ := o2.2 8 (by omega)
  have hg8 : w.heap.size + 1 < w2.heap.size := o2.1
  go_simp
  have on := OnlyP.of_only (P := fun x => x = w.heap.size + 1) ((Only.refl (w.heap.size + 1) w2).setCell 8 (.string TB)) rfl
  refine hK.out _ _ (hS _ ((OnlyP.of_below f2).trans on)) (fun hHeld => ?_)
  clear hK K
  refine wpAnyH_done (by kernel_rfl) ?_ _
  have o3 := o2.set17 (j := 8) (by omega) TB
  have M3 := (M.below f2).onlyP on (by omega)
  have MR3 := (MR.below f2).onlyP on (by omega)
  have d3 := (d0.trans (f2.mono d0.size)).trans (on.below (base := w.heap.size) (fun x _ hx => by have h : x = w.heap.size + 1 := hx; omega) (d0.trans (f2.mono d0.size)).size)
  generalize w2.setCell ⟨w.heap.size + 1, 8, none⟩ (.string TB) = w3 at *
  have r0 := M3.2.1 0 _ rfl
  have r1 := M3.2.1 1 _ rfl
  clear hHeld hS M3 MR M hoS d0 TE c8 z8 o2 f2 b2 hg8
  go_wp2_with (refine wpList_storeM (us := [.slice (some ⟨w.heap.size + 1, 0, none⟩) 10 10, .slice none 0 0]) rfl rfl rfl rfl MR3 rfl (by intro v hv; simp only [List.mem_cons, List.not_mem_nil, or_false] at hv; rcases hv with rfl | rfl <;> rfl) sizeDisk ?_; intro w4 M4 o4)
  have on4 := OnlyP.of_only (P := fun x => x = w.heap.size) o4 rfl
  have d4 := d3.trans (on4.below (base := w.heap.size) (fun x _ hx => by have h : x = w.heap.size := hx; omega) d3.size)
  have o5 := o3.onlyP17 on4 (by omega)
  have q0 := M4.2.1 0 _ rfl
  have q1 := M4.2.1 1 _ rfl
  have hgl := o5.1
  refine bodyPost_ret (v := .agg #[.slice (some ⟨w.heap.size + 1, 0, none⟩) 10 10, .slice none 0 0]) (by simp [results, Try.results6, go_sem, q0, q1]) rfl ⟨some ⟨w.heap.size + 1, 0, none⟩, none, ⟨10, 0, rfl⟩, ⟨Nat.le_refl _, fun _ => ⟨w.heap.size + 1, rfl, ⟨by omega, hgl⟩, by rw [hTB.out] at o5; exact o5⟩, fun z => absurd z (Nat.lt_irrefl _), fun _ z => absurd z (Nat.lt_irrefl _)⟩, d4⟩
set_option maxRecDepth 100000 in
set_option maxHeartbeats 1600000 in
theorem s_l17Empty (w : World) :
    Calls Try.prog 14 #[] w fun e w' => e = .returned (.agg #[.slice (some ⟨w.heap.size + 1, 0, none⟩) 10 10, .slice none 0 0]) ∧ OutStr (w.heap.size + 1) 10 10 (fun _ => ByteArray.empty) w' ∧ Below w.heap.size w w' := by
  have hinfo : (Try.prog.info? 9).map (fun i => (i.zero, i.size, i.bytes)) = some (some (.string ByteArray.empty), 1, 16) := by kernel_rfl
  obtain ⟨i, hi, hzz⟩ := Option.map_eq_some_iff.1 hinfo
  simp only [Prod.mk.injEq] at hzz
  obtain ⟨hz, hsz, hby⟩ := hzz
  have hmk := fun w : World => run_make (P := Try.prog) w 22 9 i _ Try.underlying22 hi hz .i64 .i64 10 10 (by omega) (by omega) (by rw [hby]; omega) (by omega)
  rw [hsz] at hmk
  clear hi hz hsz hby hinfo
  go_enter Try.func14, Try.ntmps14
  go_wp2_with fail
  clear hmk
  have hoS := OutStr.made17 (w.alloc (.cells #[.slice (some ⟨w.heap.size + 1, 0, none⟩) 10 10, .slice none 0 0] 25)) 10 9
  have M := (Mut.new w #[.slice (some ⟨w.heap.size + 1, 0, none⟩) 10 10, .slice none 0 0] 25).alloc (.cells (madeCells #[.string ByteArray.empty] 10) 9)
  have d0 : Below w.heap.size w ((w.alloc (.cells #[.slice (some ⟨w.heap.size + 1, 0, none⟩) 10 10, .slice none 0 0] 25)).alloc (.cells (madeCells #[.string ByteArray.empty] 10) 9)) := below_box2 (Below.refl _ _)
  simp only [World.size_alloc] at hoS
  have q0 := M.2.1 0 _ rfl
  have q1 := M.2.1 1 _ rfl
  generalize (w.alloc (.cells #[.slice (some ⟨w.heap.size + 1, 0, none⟩) 10 10, .slice none 0 0] 25)).alloc (.cells (madeCells #[.string ByteArray.empty] 10) 9) = w1 at *
  exact bodyPost_ret (v := .agg #[.slice (some ⟨w.heap.size + 1, 0, none⟩) 10 10, .slice none 0 0]) (by simp [results, Try.results14, go_sem, q0, q1]) rfl ⟨rfl, hoS, d0⟩
set_option maxRecDepth 100000 in
set_option maxHeartbeats 1600000 in
theorem s_newDisk (w : World) :
    Calls Try.prog 5 #[] w fun e w' => ∃ a b, (∃ c e', e = .returned (.agg #[.slice a nwD.n c, .slice b nwD.m e'])) ∧ AnsD w.heap.size w'.heap.size a b nwD w' ∧ Below w.heap.size w w' := by
  have TE := hide (fun w => s_l17Tell 0 0 w)
  generalize hTB : teB 0 0 = TB at *
  replace hTB := hide hTB.symm
  have EM := hide (fun w => s_l17Empty w)
  have MR := Mut.new w #[.slice none 0 0, .slice none 0 0] 25
  have d0 : Below w.heap.size w (w.alloc (.cells #[.slice none 0 0, .slice none 0 0] 25)) := below_box (Below.refl _ _)
  go_enter Try.func5, Try.ntmps5
  go_wp2_with fail
  refine (EM.out _).mono ?_
  rintro e w0 ⟨rfl, hoS, b0⟩
  simp only [World.size_alloc] at hoS
  have hgl := hoS.1
  replace MR := MR.below b0
  replace d0 := d0.trans (b0.mono d0.size)
  clear b0 EM
  have M := Mut.new w0 #[.slice (some ⟨w.heap.size + 1 + 1, 0, none⟩) 10 10, .slice none 0 0] 25
  have bA : Below w0.heap.size w0 (w0.alloc (.cells #[.slice (some ⟨w.heap.size + 1 + 1, 0, none⟩) 10 10, .slice none 0 0] 25)) := below_box (Below.refl _ _)
  replace hoS := hoS.below bA
  replace MR := MR.below bA
  replace d0 := d0.trans (bA.mono d0.size)
  clear bA
  go_wp2_with fail
  generalize w0.alloc (.cells #[.slice (some ⟨w.heap.size + 1 + 1, 0, none⟩) 10 10, .slice none 0 0] 25) = w1 at *
  have hS : ∀ w' : World, OnlyP (fun x => x = w.heap.size + 1 + 1) w1 w' → w'.cell? ⟨w0.heap.size, 0, none⟩ = some (.slice (some ⟨w.heap.size + 1 + 1, 0, none⟩) 10 10) := fun w' b => (M.onlyP b (by omega)).2.1 0 _ rfl
  refine wp_region_held_drew (S := fun w' => w'.cell? ⟨w0.heap.size, 0, none⟩ = some (.slice (some ⟨w.heap.size + 1 + 1, 0, none⟩) 10 10)) (by kernel_rfl) (hS _ (OnlyP.of_below (Below.refl _ _).drew)) (fun hHeld => ?_)
  refine wpAnyH_take (i := 0) (v := .pointer (some ⟨w0.heap.size, 0, none⟩)) rfl (by kernel_rfl) (by kernel_rfl) (by kernel_rfl) (fun _ _ _ h => h) (Or.inl ⟨by rfl, fun w' hSw => by go_simp⟩) hHeld ?_
  simp only [List.getElem_toArray, List.getElem_cons_zero, Act.put, List.setIfInBounds_toArray, List.set_cons_zero, List.set_cons_succ]
  refine wpAnyH_take (i := 1) (v := .slice (some ⟨w.heap.size + 1 + 1, 0, none⟩) 10 10) rfl (by kernel_rfl) (by kernel_rfl) (by kernel_rfl) (fun _ _ _ h => h) (Or.inl ⟨by rfl, fun w' hSw => by go_simp⟩) hHeld ?_
  simp only [List.getElem_toArray, List.getElem_cons_succ, List.getElem_cons_zero, Act.put, List.setIfInBounds_toArray, List.set_cons_zero, List.set_cons_succ]
  refine wpAnyH_ready (rs := [2]) (by kernel_rfl) (by simp) (AllReadyH.cons rfl (fun K hK => ?_) AllReadyH.nil)
  go_simp
  refine (TE.out _).mono ?_
  rintro e w2 ⟨rfl, b2⟩
  have f2 := (Below.refl w1.heap.size w1).drew.trans b2
  have o2 := hoS.below f2
  refine hK.out _ _ (hS _ (OnlyP.of_below f2)) (fun hHeld => ?_)
  clear hK K
  refine wpAnyH_take (i := 3) (v := .pointer (some ⟨w.heap.size + 1 + 1, 8, none⟩)) rfl (by kernel_rfl) (by kernel_rfl) (by kernel_rfl) (fun _ _ _ h => h) (Or.inl ⟨by rfl, fun w' hSw => by go_simp⟩) hHeld ?_
  simp only [List.getElem_toArray, List.getElem_cons_succ, List.getElem_cons_zero, Act.put, List.setIfInBounds_toArray, List.set_cons_zero, List.set_cons_succ]
  refine wpAnyH_ready (rs := [4]) (by kernel_rfl) (by simp) (AllReadyH.cons rfl (fun K hK => ?_) AllReadyH.nil)
  obtain ⟨⟨y8, c8, _⟩, z8⟩ := o2.2 8 (by omega)
  have hg8 : w.heap.size + 1 + 1 < w2.heap.size := o2.1
  go_simp
  have on := OnlyP.of_only (P := fun x => x = w.heap.size + 1 + 1) ((Only.refl (w.heap.size + 1 + 1) w2).setCell 8 (.string TB)) rfl
  refine hK.out _ _ (hS _ ((OnlyP.of_below f2).trans on)) (fun hHeld => ?_)
  clear hK K
  refine wpAnyH_done (by kernel_rfl) ?_ _
  have o3 := o2.set17 (j := 8) (by omega) TB
  have M3 := (M.below f2).onlyP on (by omega)
  have MR3 := (MR.below f2).onlyP on (by omega)
  have d3 := (d0.trans (f2.mono d0.size)).trans (on.below (base := w.heap.size) (fun x _ hx => by have h : x = w.heap.size + 1 + 1 := hx; omega) (d0.trans (f2.mono d0.size)).size)
  generalize w2.setCell ⟨w.heap.size + 1 + 1, 8, none⟩ (.string TB) = w3 at *
  have r0 := M3.2.1 0 _ rfl
  have r1 := M3.2.1 1 _ rfl
  clear hHeld hS M3 MR M hoS d0 TE c8 z8 o2 f2 b2 hg8
  go_wp2_with (refine wpList_storeM (us := [.slice (some ⟨w.heap.size + 1 + 1, 0, none⟩) 10 10, .slice none 0 0]) rfl rfl rfl rfl MR3 rfl (by intro v hv; simp only [List.mem_cons, List.not_mem_nil, or_false] at hv; rcases hv with rfl | rfl <;> rfl) sizeDisk ?_; intro w4 M4 o4)
  have on4 := OnlyP.of_only (P := fun x => x = w.heap.size) o4 rfl
  have d4 := d3.trans (on4.below (base := w.heap.size) (fun x _ hx => by have h : x = w.heap.size := hx; omega) d3.size)
  have o5 := o3.onlyP17 on4 (by omega)
  have q0 := M4.2.1 0 _ rfl
  have q1 := M4.2.1 1 _ rfl
  have hgl := o5.1
  refine bodyPost_ret (v := .agg #[.slice (some ⟨w.heap.size + 1 + 1, 0, none⟩) 10 10, .slice none 0 0]) (by simp [results, Try.results5, go_sem, q0, q1]) rfl ⟨some ⟨w.heap.size + 1 + 1, 0, none⟩, none, ⟨10, 0, rfl⟩, ⟨Nat.le_refl _, fun _ => ⟨w.heap.size + 1 + 1, rfl, ⟨by omega, hgl⟩, by rw [hTB.out] at o5; exact o5⟩, fun z => absurd z (Nat.lt_irrefl _), fun _ z => absurd z (Nat.lt_irrefl _)⟩, d4⟩
end Go.Proofs.Ytddjefmokpfplaa
