/- load of the program. -/
import Derived.Test.YtnpnhdaehddnmaaDoorNe17
namespace Go.Proofs.YtnpnhdaehddnmaaDoor
open Go.RowKit

theorem sizeLoaded17 : (Tryd.prog.info? 52).map (·.size) = some 4 := by kernel_rfl
set_option maxRecDepth 100000 in
set_option maxHeartbeats 1600000 in
theorem i_load0Y (k : Nat) (x : Int) (l : Nat) (b off n c : Nat) (f : Nat → ByteArray) (w : World) (cw : w.cell? ⟨k, 0, none⟩ = some (.slice (some ⟨b, off, none⟩) n c)) (hR : RowStr (some ⟨b, off, none⟩) n f w) (h10 : n = 10) (hc : n ≤ c) (hs : ∀ i, i < n → (f i).size ≤ 20)
    (NW : ∀ w0, Below w.heap.size w w0 → Calls Tryd.prog 51 #[.pointer (some ⟨k, 0, none⟩)] w0 fun e w' => e = .returned (.agg #[.int .i64 0, .int .i64 x, .int .i64 l]) ∧ Below w0.heap.size w0 w') (hl : l ≤ (txB f 0 4).size) :
    Calls Tryd.prog 28 #[.pointer (some ⟨k, 0, none⟩)] w fun e w' => e = .returned (.agg #[.int .i64 0, .int .i64 x, .int .i64 l, .string ((txB f 0 4).extract 0 l)]) ∧ Below w.heap.size w w' := by
  have MY := hide (fun w => i_mustY w)
  have MR := Mut.new w #[.int .i64 0, .int .i64 0, .int .i64 0, .string ⟨#[]⟩] 52
  have d0 : Below w.heap.size w (w.alloc (.cells #[.int .i64 0, .int .i64 0, .int .i64 0, .string ⟨#[]⟩] 52)) := below_box (Below.refl _ _)
  have hkw := World.block_lt_of_cell? w _ cw
  have hf : Hid (∀ j, j < 4 → b < w.heap.size ∧ w.cell? ⟨b, off + j, none⟩ = some (.string (f j)) ∧ (f j).size ≤ 20) := fun j hj => by
    obtain ⟨ba, o, e1, e2, e3⟩ := hR j (by omega)
    skip
    simp only [Option.some.injEq, Addr.mk.injEq, and_true] at e1
    obtain ⟨rfl, rfl⟩ := e1
    exact ⟨e2, e3, hs _ (by omega)⟩
  have hn2 : (10 : Int) ≤ (n : Int) := by omega
  have hc2 : (n : Int) ≤ (c : Int) := by omega
  have hc3 : (10 : Int) ≤ (c : Int) := by omega
  have hc4 : (6 : Int) ≤ (c : Int) - 4 := by omega
  replace NW := hide NW
  clear hR hs
  go_enter Tryd.func28, Tryd.ntmps28
  go_wp2_with fail
  generalize w.alloc (.cells #[.int .i64 0, .int .i64 0, .int .i64 0, .string ⟨#[]⟩] 52) = w0 at *
  refine (NW.out w0 d0).mono ?_
  rintro e w1 ⟨rfl, u1⟩
  replace MR := MR.below u1
  have d1 := below_step d0 u1
  have hw1 := MR.1
  have N := Mut.new w1 #[.int .i64 0, .int .i64 x, .int .i64 l] 50
  have u2 : Below w1.heap.size w1 (w1.alloc (.cells #[.int .i64 0, .int .i64 x, .int .i64 l] 50)) := below_box (Below.refl _ _)
  replace MR := MR.below u2
  have d2 := below_step d1 u2
  have n0 := N.2.1 0 _ rfl
  have n1 := N.2.1 1 _ rfl
  have n2 := N.2.1 2 _ rfl
  have cw2 := (d2.cell (p := ⟨k, 0, none⟩) hkw).trans cw
  have hNs := N.1
  clear u1 d0 NW d1 u2 cw
  go_wp2_with fail
  generalize w1.alloc (.cells #[.int .i64 0, .int .i64 x, .int .i64 l] 50) = w2 at *
  generalize w1.heap.size = k1 at *
  go_region
  all_goals
    have M3 := MR.below (Below.refl w2.heap.size w2).drew
    have N3 := N.below (Below.refl w2.heap.size w2).drew
    have d3 := below_step d2 (Below.refl w2.heap.size w2).drew
    have hks : w.heap.size ≠ k1 := by omega
    clear MR N d2 n0 n1 n2 cw2 hNs
    generalize w2.drew = w3 at *
    have n0 := N3.2.1 0 _ rfl
    have n1 := N3.2.1 1 _ rfl
    have n2 := N3.2.1 2 _ rfl
    go_wp2_with fail
    go_loop [4, 6, 19] (fun s _ y => ∃ j : Nat, y = .int .i64 j ∧ j ≤ 4 ∧ s = .string (txB f 0 j)) (fun _ _ y => 4 - (intOf y).toNat)
    case atStart => exact ⟨0, rfl, Nat.zero_le _, rfl⟩
    case round =>
      obtain ⟨j, rfl, hj, rfl⟩ := hrel
      by_cases hlt : j < 4
      · obtain ⟨hbw, cj, hs20⟩ := hf.out j hlt
        have cj2 := (d3.cell (p := ⟨b, off + j, none⟩) hbw).trans cj
        have hlt' : (j : Int) < 4 := by omega
        have hT := txB_size f 0 j
        have hT2 : (txB f 0 j).size ≤ 72 := by omega
        have hT1 := hide (show txB f 0 (j + 1) = txB f 0 j ++ piB (f (0 + j)) from rfl)
        rw [Nat.zero_add] at hT1
        clear hf hT hl cj
        generalize f j = s at *
        generalize txB f 0 j = T at *
        by_cases h18 : s.size ≤ 18
        · have h18' : (s.size : Int) ≤ 18 := by omega
          have hmin : min (s.size : Int) 18 = (s.size : Int) := by omega
          have hp : piB s = s.extract 0 s.size := by rw [ByteArray.extract_zero_size]; exact if_pos h18
          have hsz2 : (s.extract 0 s.size).size ≤ 18 := by rw [ByteArray.extract_zero_size]; exact h18
          rw [hp] at hT1
          go_wp2_with fail
          exact ⟨⟨j + 1, by go_num, by omega, by simp [hT1.out]⟩, by simp [intOf]; omega⟩
        · have h18' : ¬ ((s.size : Int) ≤ 18) := by omega
          have hmin : min (s.size : Int) 18 = 18 := by omega
          have hp : piB s = s.extract 0 18 := if_neg h18
          have hsz2 : (s.extract 0 18).size ≤ 18 := by rw [ByteArray.size_extract]; omega
          rw [hp] at hT1
          go_wp2_with fail
          exact ⟨⟨j + 1, by go_num, by omega, by simp [hT1.out]⟩, by simp [intOf]; omega⟩
      · obtain rfl : j = 4 := by omega
        clear hf
        have hl2 : decide (l ≤ (txB f 0 4).size) = true := decide_eq_true (by omega)
        go_wp2_with fail
        refine (MY.out _).mono ?_
        rintro e w3 ⟨rfl, rfl⟩
        go_upto_region 9 with fail
        have hS : ∀ w' : World, OnlyP (fun y => y = w.heap.size) w3 w' → w'.cell? ⟨k1, 0, none⟩ = some (.int .i64 0) ∧ w'.cell? ⟨k1, 1, none⟩ = some (.int .i64 x) ∧ w'.cell? ⟨k1, 2, none⟩ = some (.int .i64 l) := fun w' o => ⟨(N3.onlyP o (by omega)).2.1 0 _ rfl, (N3.onlyP o (by omega)).2.1 1 _ rfl, (N3.onlyP o (by omega)).2.1 2 _ rfl⟩
        refine wp_region_held_drew (S := fun w' => w'.cell? ⟨k1, 0, none⟩ = some (.int .i64 0) ∧ w'.cell? ⟨k1, 1, none⟩ = some (.int .i64 x) ∧ w'.cell? ⟨k1, 2, none⟩ = some (.int .i64 l)) (by kernel_rfl) (hS _ (OnlyP.of_below (Below.refl w3.heap.size w3).drew)) (fun hHeld => ?_)
        refine wpAnyH_take (i := 0) (v := .agg #[.int .i64 0, .int .i64 x, .int .i64 l]) rfl (by kernel_rfl) (by kernel_rfl) (by kernel_rfl) (fun _ _ _ h => h) (Or.inl ⟨by rfl, fun w' hSw => by go_simp⟩) hHeld ?_
        simp only [List.getElem_toArray, List.getElem_cons_zero, Act.put, List.setIfInBounds_toArray, List.set_cons_zero, List.set_cons_succ]
        refine wpAnyH_take (i := 1) (v := .string (txB f 0 4)) rfl (by kernel_rfl) (by kernel_rfl) (by kernel_rfl) (fun _ _ _ h => h) (Or.inl ⟨by rfl, fun w' hSw => by go_simp⟩) hHeld ?_
        simp only [List.getElem_toArray, List.getElem_cons_succ, List.getElem_cons_zero, Act.put, List.setIfInBounds_toArray, List.set_cons_zero, List.set_cons_succ]
        refine wpAnyH_take (i := 2) (v := .pointer (some ⟨k1, 2, none⟩)) rfl (by kernel_rfl) (by kernel_rfl) (by kernel_rfl) (fun _ _ _ h => h) (Or.inl ⟨by rfl, fun w' hSw => by go_simp⟩) hHeld ?_
        simp only [List.getElem_toArray, List.getElem_cons_succ, List.getElem_cons_zero, Act.put, List.setIfInBounds_toArray, List.set_cons_zero, List.set_cons_succ]
        refine wpAnyH_take (i := 3) (v := .int .i64 l) rfl (by kernel_rfl) (by kernel_rfl) (by kernel_rfl) (fun _ _ _ h => h) (Or.inl ⟨by rfl, fun w' hSw => by go_simp⟩) hHeld ?_
        simp only [List.getElem_toArray, List.getElem_cons_succ, List.getElem_cons_zero, Act.put, List.setIfInBounds_toArray, List.set_cons_zero, List.set_cons_succ]
        refine wpAnyH_take (i := 4) (v := .string ((txB f 0 4).extract 0 l)) rfl (by kernel_rfl) (by kernel_rfl) (by kernel_rfl) (fun _ _ _ h => h) (Or.inl ⟨by rfl, fun w' hSw => by go_simp⟩) hHeld ?_
        simp only [List.getElem_toArray, List.getElem_cons_succ, List.getElem_cons_zero, Act.put, List.setIfInBounds_toArray, List.set_cons_zero, List.set_cons_succ]
        refine wpAnyH_take (i := 5) (v := .agg #[.int .i64 0, .int .i64 x, .int .i64 l, .string ((txB f 0 4).extract 0 l)]) rfl (by kernel_rfl) (by kernel_rfl) (by kernel_rfl) (fun _ _ _ h => h) (Or.inl ⟨by rfl, fun w' hSw => by go_simp⟩) hHeld ?_
        simp only [List.getElem_toArray, List.getElem_cons_succ, List.getElem_cons_zero, Act.put, List.setIfInBounds_toArray, List.set_cons_zero, List.set_cons_succ]
        refine wpAnyH_ready (rs := [6]) (by kernel_rfl) (by simp) (AllReadyH.cons rfl (fun K hK => ?_) AllReadyH.nil)
        have M4 := M3.below (Below.refl w3.heap.size w3).drew
        have f4 := below_step d3 (Below.refl w3.heap.size w3).drew
        have o4 := OnlyP.of_below (P := fun y => y = w.heap.size) (Below.refl w3.heap.size w3).drew
        rw [if_pos (by rfl)]
        refine wp_storeM (us := [.int .i64 0, .int .i64 x, .int .i64 l, .string ((txB f 0 4).extract 0 l)]) rfl rfl rfl (M4) rfl (by intro v hv; simp only [List.mem_cons, List.not_mem_nil, or_false] at hv; rcases hv with rfl | rfl | rfl | rfl <;> rfl) sizeLoaded17 ?_
        intro z1 MB oX
        have on := OnlyP.of_only (P := fun y => y = w.heap.size) oX rfl
        have d6 := f4.trans (on.below (base := w.heap.size) (fun y _ hy => by have h : y = w.heap.size := hy; omega) f4.size)
        refine hK.out _ _ (hS _ (o4.trans on)) (fun hHeld => ?_)
        clear hK K
        refine wpAnyH_done (by kernel_rfl) ?_ _
        clear hHeld
        have r0 := MB.2.1 0 _ rfl
        have r1 := MB.2.1 1 _ rfl
        have r2 := MB.2.1 2 _ rfl
        have r3 := MB.2.1 3 _ rfl
        go_wp2_with fail
        exact bodyPost_ret (v := .agg #[.int .i64 0, .int .i64 x, .int .i64 l, .string ((txB f 0 4).extract 0 l)]) (by simp [results, Tryd.results28, go_sem, r0, r1, r2, r3]) rfl ⟨rfl, d6⟩
set_option maxRecDepth 100000 in
set_option maxHeartbeats 1600000 in
theorem i_load0N (gp : Addr) (k : Nat) (x : Int) (l : Nat) (b off n c : Nat) (f : Nat → ByteArray) (w : World) (cw : w.cell? ⟨k, 0, none⟩ = some (.slice (some ⟨b, off, none⟩) n c)) (hR : RowStr (some ⟨b, off, none⟩) n f w) (h10 : n = 10) (hc : n ≤ c) (hs : ∀ i, i < n → (f i).size ≤ 20) (hG : GU gp w)
    (NW : ∀ w0, Below w.heap.size w w0 → Calls Tryd.prog 51 #[.pointer (some ⟨k, 0, none⟩)] w0 fun e w' => e = .returned (.agg #[.int .i64 0, .int .i64 x, .int .i64 l]) ∧ Below w0.heap.size w0 w') (hl : (txB f 0 4).size < l) :
    Calls Tryd.prog 28 #[.pointer (some ⟨k, 0, none⟩)] w fun e w' => e = gaveUp gp ∧ Below w.heap.size w w' := by
  have MN := hide (fun w (h : GU gp w) => i_mustN gp w h)
  have MR := Mut.new w #[.int .i64 0, .int .i64 0, .int .i64 0, .string ⟨#[]⟩] 52
  have d0 : Below w.heap.size w (w.alloc (.cells #[.int .i64 0, .int .i64 0, .int .i64 0, .string ⟨#[]⟩] 52)) := below_box (Below.refl _ _)
  have hkw := World.block_lt_of_cell? w _ cw
  have hf : Hid (∀ j, j < 4 → b < w.heap.size ∧ w.cell? ⟨b, off + j, none⟩ = some (.string (f j)) ∧ (f j).size ≤ 20) := fun j hj => by
    obtain ⟨ba, o, e1, e2, e3⟩ := hR j (by omega)
    skip
    simp only [Option.some.injEq, Addr.mk.injEq, and_true] at e1
    obtain ⟨rfl, rfl⟩ := e1
    exact ⟨e2, e3, hs _ (by omega)⟩
  have hn2 : (10 : Int) ≤ (n : Int) := by omega
  have hc2 : (n : Int) ≤ (c : Int) := by omega
  have hc3 : (10 : Int) ≤ (c : Int) := by omega
  have hc4 : (6 : Int) ≤ (c : Int) - 4 := by omega
  replace NW := hide NW
  clear hR hs
  go_enter Tryd.func28, Tryd.ntmps28
  go_wp2_with fail
  generalize w.alloc (.cells #[.int .i64 0, .int .i64 0, .int .i64 0, .string ⟨#[]⟩] 52) = w0 at *
  refine (NW.out w0 d0).mono ?_
  rintro e w1 ⟨rfl, u1⟩
  replace MR := MR.below u1
  have d1 := below_step d0 u1
  have hw1 := MR.1
  have N := Mut.new w1 #[.int .i64 0, .int .i64 x, .int .i64 l] 50
  have u2 : Below w1.heap.size w1 (w1.alloc (.cells #[.int .i64 0, .int .i64 x, .int .i64 l] 50)) := below_box (Below.refl _ _)
  replace MR := MR.below u2
  have d2 := below_step d1 u2
  have n0 := N.2.1 0 _ rfl
  have n1 := N.2.1 1 _ rfl
  have n2 := N.2.1 2 _ rfl
  have cw2 := (d2.cell (p := ⟨k, 0, none⟩) hkw).trans cw
  have hNs := N.1
  clear u1 d0 NW d1 u2 cw
  go_wp2_with fail
  generalize w1.alloc (.cells #[.int .i64 0, .int .i64 x, .int .i64 l] 50) = w2 at *
  generalize w1.heap.size = k1 at *
  go_region
  all_goals
    have M3 := MR.below (Below.refl w2.heap.size w2).drew
    have N3 := N.below (Below.refl w2.heap.size w2).drew
    have d3 := below_step d2 (Below.refl w2.heap.size w2).drew
    have hks : w.heap.size ≠ k1 := by omega
    clear MR N d2 n0 n1 n2 cw2 hNs
    generalize w2.drew = w3 at *
    have n0 := N3.2.1 0 _ rfl
    have n1 := N3.2.1 1 _ rfl
    have n2 := N3.2.1 2 _ rfl
    go_wp2_with fail
    go_loop [4, 6, 19] (fun s _ y => ∃ j : Nat, y = .int .i64 j ∧ j ≤ 4 ∧ s = .string (txB f 0 j)) (fun _ _ y => 4 - (intOf y).toNat)
    case atStart => exact ⟨0, rfl, Nat.zero_le _, rfl⟩
    case round =>
      obtain ⟨j, rfl, hj, rfl⟩ := hrel
      by_cases hlt : j < 4
      · obtain ⟨hbw, cj, hs20⟩ := hf.out j hlt
        have cj2 := (d3.cell (p := ⟨b, off + j, none⟩) hbw).trans cj
        have hlt' : (j : Int) < 4 := by omega
        have hT := txB_size f 0 j
        have hT2 : (txB f 0 j).size ≤ 72 := by omega
        have hT1 := hide (show txB f 0 (j + 1) = txB f 0 j ++ piB (f (0 + j)) from rfl)
        rw [Nat.zero_add] at hT1
        clear hf hT hl cj
        generalize f j = s at *
        generalize txB f 0 j = T at *
        by_cases h18 : s.size ≤ 18
        · have h18' : (s.size : Int) ≤ 18 := by omega
          have hmin : min (s.size : Int) 18 = (s.size : Int) := by omega
          have hp : piB s = s.extract 0 s.size := by rw [ByteArray.extract_zero_size]; exact if_pos h18
          have hsz2 : (s.extract 0 s.size).size ≤ 18 := by rw [ByteArray.extract_zero_size]; exact h18
          rw [hp] at hT1
          go_wp2_with fail
          exact ⟨⟨j + 1, by go_num, by omega, by simp [hT1.out]⟩, by simp [intOf]; omega⟩
        · have h18' : ¬ ((s.size : Int) ≤ 18) := by omega
          have hmin : min (s.size : Int) 18 = 18 := by omega
          have hp : piB s = s.extract 0 18 := if_neg h18
          have hsz2 : (s.extract 0 18).size ≤ 18 := by rw [ByteArray.size_extract]; omega
          rw [hp] at hT1
          go_wp2_with fail
          exact ⟨⟨j + 1, by go_num, by omega, by simp [hT1.out]⟩, by simp [intOf]; omega⟩
      · obtain rfl : j = 4 := by omega
        clear hf
        have hl2 : decide (l ≤ (txB f 0 4).size) = false := decide_eq_false (by omega)
        go_wp2_with fail
        refine (MN.out _ (hG.below d3)).mono ?_
        rintro e w5 ⟨rfl, rfl⟩
        exact ⟨rfl, rfl, d3⟩
set_option maxRecDepth 100000 in
set_option maxHeartbeats 1600000 in
theorem i_load1Y (k : Nat) (x : Int) (l : Nat) (b off n c : Nat) (f : Nat → ByteArray) (w : World) (cw : w.cell? ⟨k, 0, none⟩ = some (.slice (some ⟨b, off, none⟩) n c)) (hR : RowStr (some ⟨b, off, none⟩) n f w) (h10 : n = 10) (hc : n ≤ c) (hs : ∀ i, i < n → (f i).size ≤ 20)
    (NW : ∀ w0, Below w.heap.size w w0 → Calls Tryd.prog 51 #[.pointer (some ⟨k, 0, none⟩)] w0 fun e w' => e = .returned (.agg #[.int .i64 1, .int .i64 x, .int .i64 l]) ∧ Below w0.heap.size w0 w') (hl : l ≤ (txB f 4 4).size) :
    Calls Tryd.prog 28 #[.pointer (some ⟨k, 0, none⟩)] w fun e w' => e = .returned (.agg #[.int .i64 1, .int .i64 x, .int .i64 l, .string ((txB f 4 4).extract 0 l)]) ∧ Below w.heap.size w w' := by
  have MY := hide (fun w => i_mustY w)
  have MR := Mut.new w #[.int .i64 0, .int .i64 0, .int .i64 0, .string ⟨#[]⟩] 52
  have d0 : Below w.heap.size w (w.alloc (.cells #[.int .i64 0, .int .i64 0, .int .i64 0, .string ⟨#[]⟩] 52)) := below_box (Below.refl _ _)
  have hkw := World.block_lt_of_cell? w _ cw
  have hf : Hid (∀ j, j < 4 → b < w.heap.size ∧ w.cell? ⟨b, off + 4 + j, none⟩ = some (.string (f (4 + j))) ∧ (f (4 + j)).size ≤ 20) := fun j hj => by
    obtain ⟨ba, o, e1, e2, e3⟩ := hR (4 + j) (by omega)
    rw [← Nat.add_assoc] at e3
    simp only [Option.some.injEq, Addr.mk.injEq, and_true] at e1
    obtain ⟨rfl, rfl⟩ := e1
    exact ⟨e2, e3, hs _ (by omega)⟩
  have hn2 : (10 : Int) ≤ (n : Int) := by omega
  have hc2 : (n : Int) ≤ (c : Int) := by omega
  have hc3 : (10 : Int) ≤ (c : Int) := by omega
  have hc4 : (6 : Int) ≤ (c : Int) - 4 := by omega
  replace NW := hide NW
  clear hR hs
  go_enter Tryd.func28, Tryd.ntmps28
  go_wp2_with fail
  generalize w.alloc (.cells #[.int .i64 0, .int .i64 0, .int .i64 0, .string ⟨#[]⟩] 52) = w0 at *
  refine (NW.out w0 d0).mono ?_
  rintro e w1 ⟨rfl, u1⟩
  replace MR := MR.below u1
  have d1 := below_step d0 u1
  have hw1 := MR.1
  have N := Mut.new w1 #[.int .i64 1, .int .i64 x, .int .i64 l] 50
  have u2 : Below w1.heap.size w1 (w1.alloc (.cells #[.int .i64 1, .int .i64 x, .int .i64 l] 50)) := below_box (Below.refl _ _)
  replace MR := MR.below u2
  have d2 := below_step d1 u2
  have n0 := N.2.1 0 _ rfl
  have n1 := N.2.1 1 _ rfl
  have n2 := N.2.1 2 _ rfl
  have cw2 := (d2.cell (p := ⟨k, 0, none⟩) hkw).trans cw
  have hNs := N.1
  clear u1 d0 NW d1 u2 cw
  go_wp2_with fail
  generalize w1.alloc (.cells #[.int .i64 1, .int .i64 x, .int .i64 l] 50) = w2 at *
  generalize w1.heap.size = k1 at *
  go_region
  all_goals
    have M3 := MR.below (Below.refl w2.heap.size w2).drew
    have N3 := N.below (Below.refl w2.heap.size w2).drew
    have d3 := below_step d2 (Below.refl w2.heap.size w2).drew
    have hks : w.heap.size ≠ k1 := by omega
    clear MR N d2 n0 n1 n2 cw2 hNs
    generalize w2.drew = w3 at *
    have n0 := N3.2.1 0 _ rfl
    have n1 := N3.2.1 1 _ rfl
    have n2 := N3.2.1 2 _ rfl
    go_wp2_with fail
    go_loop [4, 6, 19] (fun s _ y => ∃ j : Nat, y = .int .i64 j ∧ j ≤ 4 ∧ s = .string (txB f 4 j)) (fun _ _ y => 4 - (intOf y).toNat)
    case atStart => exact ⟨0, rfl, Nat.zero_le _, rfl⟩
    case round =>
      obtain ⟨j, rfl, hj, rfl⟩ := hrel
      by_cases hlt : j < 4
      · obtain ⟨hbw, cj, hs20⟩ := hf.out j hlt
        have cj2 := (d3.cell (p := ⟨b, off + 4 + j, none⟩) hbw).trans cj
        have hlt' : (j : Int) < 4 := by omega
        have hT := txB_size f 4 j
        have hT2 : (txB f 4 j).size ≤ 72 := by omega
        have hT1 := hide (show txB f 4 (j + 1) = txB f 4 j ++ piB (f (4 + j)) from rfl)
        
        clear hf hT hl cj
        generalize f (4 + j) = s at *
        generalize txB f 4 j = T at *
        by_cases h18 : s.size ≤ 18
        · have h18' : (s.size : Int) ≤ 18 := by omega
          have hmin : min (s.size : Int) 18 = (s.size : Int) := by omega
          have hp : piB s = s.extract 0 s.size := by rw [ByteArray.extract_zero_size]; exact if_pos h18
          have hsz2 : (s.extract 0 s.size).size ≤ 18 := by rw [ByteArray.extract_zero_size]; exact h18
          rw [hp] at hT1
          go_wp2_with fail
          exact ⟨⟨j + 1, by go_num, by omega, by simp [hT1.out]⟩, by simp [intOf]; omega⟩
        · have h18' : ¬ ((s.size : Int) ≤ 18) := by omega
          have hmin : min (s.size : Int) 18 = 18 := by omega
          have hp : piB s = s.extract 0 18 := if_neg h18
          have hsz2 : (s.extract 0 18).size ≤ 18 := by rw [ByteArray.size_extract]; omega
          rw [hp] at hT1
          go_wp2_with fail
          exact ⟨⟨j + 1, by go_num, by omega, by simp [hT1.out]⟩, by simp [intOf]; omega⟩
      · obtain rfl : j = 4 := by omega
        clear hf
        have hl2 : decide (l ≤ (txB f 4 4).size) = true := decide_eq_true (by omega)
        go_wp2_with fail
        refine (MY.out _).mono ?_
        rintro e w3 ⟨rfl, rfl⟩
        go_upto_region 9 with fail
        have hS : ∀ w' : World, OnlyP (fun y => y = w.heap.size) w3 w' → w'.cell? ⟨k1, 0, none⟩ = some (.int .i64 1) ∧ w'.cell? ⟨k1, 1, none⟩ = some (.int .i64 x) ∧ w'.cell? ⟨k1, 2, none⟩ = some (.int .i64 l) := fun w' o => ⟨(N3.onlyP o (by omega)).2.1 0 _ rfl, (N3.onlyP o (by omega)).2.1 1 _ rfl, (N3.onlyP o (by omega)).2.1 2 _ rfl⟩
        refine wp_region_held_drew (S := fun w' => w'.cell? ⟨k1, 0, none⟩ = some (.int .i64 1) ∧ w'.cell? ⟨k1, 1, none⟩ = some (.int .i64 x) ∧ w'.cell? ⟨k1, 2, none⟩ = some (.int .i64 l)) (by kernel_rfl) (hS _ (OnlyP.of_below (Below.refl w3.heap.size w3).drew)) (fun hHeld => ?_)
        refine wpAnyH_take (i := 0) (v := .agg #[.int .i64 1, .int .i64 x, .int .i64 l]) rfl (by kernel_rfl) (by kernel_rfl) (by kernel_rfl) (fun _ _ _ h => h) (Or.inl ⟨by rfl, fun w' hSw => by go_simp⟩) hHeld ?_
        simp only [List.getElem_toArray, List.getElem_cons_zero, Act.put, List.setIfInBounds_toArray, List.set_cons_zero, List.set_cons_succ]
        refine wpAnyH_take (i := 1) (v := .string (txB f 4 4)) rfl (by kernel_rfl) (by kernel_rfl) (by kernel_rfl) (fun _ _ _ h => h) (Or.inl ⟨by rfl, fun w' hSw => by go_simp⟩) hHeld ?_
        simp only [List.getElem_toArray, List.getElem_cons_succ, List.getElem_cons_zero, Act.put, List.setIfInBounds_toArray, List.set_cons_zero, List.set_cons_succ]
        refine wpAnyH_take (i := 2) (v := .pointer (some ⟨k1, 2, none⟩)) rfl (by kernel_rfl) (by kernel_rfl) (by kernel_rfl) (fun _ _ _ h => h) (Or.inl ⟨by rfl, fun w' hSw => by go_simp⟩) hHeld ?_
        simp only [List.getElem_toArray, List.getElem_cons_succ, List.getElem_cons_zero, Act.put, List.setIfInBounds_toArray, List.set_cons_zero, List.set_cons_succ]
        refine wpAnyH_take (i := 3) (v := .int .i64 l) rfl (by kernel_rfl) (by kernel_rfl) (by kernel_rfl) (fun _ _ _ h => h) (Or.inl ⟨by rfl, fun w' hSw => by go_simp⟩) hHeld ?_
        simp only [List.getElem_toArray, List.getElem_cons_succ, List.getElem_cons_zero, Act.put, List.setIfInBounds_toArray, List.set_cons_zero, List.set_cons_succ]
        refine wpAnyH_take (i := 4) (v := .string ((txB f 4 4).extract 0 l)) rfl (by kernel_rfl) (by kernel_rfl) (by kernel_rfl) (fun _ _ _ h => h) (Or.inl ⟨by rfl, fun w' hSw => by go_simp⟩) hHeld ?_
        simp only [List.getElem_toArray, List.getElem_cons_succ, List.getElem_cons_zero, Act.put, List.setIfInBounds_toArray, List.set_cons_zero, List.set_cons_succ]
        refine wpAnyH_take (i := 5) (v := .agg #[.int .i64 1, .int .i64 x, .int .i64 l, .string ((txB f 4 4).extract 0 l)]) rfl (by kernel_rfl) (by kernel_rfl) (by kernel_rfl) (fun _ _ _ h => h) (Or.inl ⟨by rfl, fun w' hSw => by go_simp⟩) hHeld ?_
        simp only [List.getElem_toArray, List.getElem_cons_succ, List.getElem_cons_zero, Act.put, List.setIfInBounds_toArray, List.set_cons_zero, List.set_cons_succ]
        refine wpAnyH_ready (rs := [6]) (by kernel_rfl) (by simp) (AllReadyH.cons rfl (fun K hK => ?_) AllReadyH.nil)
        have M4 := M3.below (Below.refl w3.heap.size w3).drew
        have f4 := below_step d3 (Below.refl w3.heap.size w3).drew
        have o4 := OnlyP.of_below (P := fun y => y = w.heap.size) (Below.refl w3.heap.size w3).drew
        rw [if_pos (by rfl)]
        refine wp_storeM (us := [.int .i64 1, .int .i64 x, .int .i64 l, .string ((txB f 4 4).extract 0 l)]) rfl rfl rfl (M4) rfl (by intro v hv; simp only [List.mem_cons, List.not_mem_nil, or_false] at hv; rcases hv with rfl | rfl | rfl | rfl <;> rfl) sizeLoaded17 ?_
        intro z1 MB oX
        have on := OnlyP.of_only (P := fun y => y = w.heap.size) oX rfl
        have d6 := f4.trans (on.below (base := w.heap.size) (fun y _ hy => by have h : y = w.heap.size := hy; omega) f4.size)
        refine hK.out _ _ (hS _ (o4.trans on)) (fun hHeld => ?_)
        clear hK K
        refine wpAnyH_done (by kernel_rfl) ?_ _
        clear hHeld
        have r0 := MB.2.1 0 _ rfl
        have r1 := MB.2.1 1 _ rfl
        have r2 := MB.2.1 2 _ rfl
        have r3 := MB.2.1 3 _ rfl
        go_wp2_with fail
        exact bodyPost_ret (v := .agg #[.int .i64 1, .int .i64 x, .int .i64 l, .string ((txB f 4 4).extract 0 l)]) (by simp [results, Tryd.results28, go_sem, r0, r1, r2, r3]) rfl ⟨rfl, d6⟩
set_option maxRecDepth 100000 in
set_option maxHeartbeats 1600000 in
theorem i_load1N (gp : Addr) (k : Nat) (x : Int) (l : Nat) (b off n c : Nat) (f : Nat → ByteArray) (w : World) (cw : w.cell? ⟨k, 0, none⟩ = some (.slice (some ⟨b, off, none⟩) n c)) (hR : RowStr (some ⟨b, off, none⟩) n f w) (h10 : n = 10) (hc : n ≤ c) (hs : ∀ i, i < n → (f i).size ≤ 20) (hG : GU gp w)
    (NW : ∀ w0, Below w.heap.size w w0 → Calls Tryd.prog 51 #[.pointer (some ⟨k, 0, none⟩)] w0 fun e w' => e = .returned (.agg #[.int .i64 1, .int .i64 x, .int .i64 l]) ∧ Below w0.heap.size w0 w') (hl : (txB f 4 4).size < l) :
    Calls Tryd.prog 28 #[.pointer (some ⟨k, 0, none⟩)] w fun e w' => e = gaveUp gp ∧ Below w.heap.size w w' := by
  have MN := hide (fun w (h : GU gp w) => i_mustN gp w h)
  have MR := Mut.new w #[.int .i64 0, .int .i64 0, .int .i64 0, .string ⟨#[]⟩] 52
  have d0 : Below w.heap.size w (w.alloc (.cells #[.int .i64 0, .int .i64 0, .int .i64 0, .string ⟨#[]⟩] 52)) := below_box (Below.refl _ _)
  have hkw := World.block_lt_of_cell? w _ cw
  have hf : Hid (∀ j, j < 4 → b < w.heap.size ∧ w.cell? ⟨b, off + 4 + j, none⟩ = some (.string (f (4 + j))) ∧ (f (4 + j)).size ≤ 20) := fun j hj => by
    obtain ⟨ba, o, e1, e2, e3⟩ := hR (4 + j) (by omega)
    rw [← Nat.add_assoc] at e3
    simp only [Option.some.injEq, Addr.mk.injEq, and_true] at e1
    obtain ⟨rfl, rfl⟩ := e1
    exact ⟨e2, e3, hs _ (by omega)⟩
  have hn2 : (10 : Int) ≤ (n : Int) := by omega
  have hc2 : (n : Int) ≤ (c : Int) := by omega
  have hc3 : (10 : Int) ≤ (c : Int) := by omega
  have hc4 : (6 : Int) ≤ (c : Int) - 4 := by omega
  replace NW := hide NW
  clear hR hs
  go_enter Tryd.func28, Tryd.ntmps28
  go_wp2_with fail
  generalize w.alloc (.cells #[.int .i64 0, .int .i64 0, .int .i64 0, .string ⟨#[]⟩] 52) = w0 at *
  refine (NW.out w0 d0).mono ?_
  rintro e w1 ⟨rfl, u1⟩
  replace MR := MR.below u1
  have d1 := below_step d0 u1
  have hw1 := MR.1
  have N := Mut.new w1 #[.int .i64 1, .int .i64 x, .int .i64 l] 50
  have u2 : Below w1.heap.size w1 (w1.alloc (.cells #[.int .i64 1, .int .i64 x, .int .i64 l] 50)) := below_box (Below.refl _ _)
  replace MR := MR.below u2
  have d2 := below_step d1 u2
  have n0 := N.2.1 0 _ rfl
  have n1 := N.2.1 1 _ rfl
  have n2 := N.2.1 2 _ rfl
  have cw2 := (d2.cell (p := ⟨k, 0, none⟩) hkw).trans cw
  have hNs := N.1
  clear u1 d0 NW d1 u2 cw
  go_wp2_with fail
  generalize w1.alloc (.cells #[.int .i64 1, .int .i64 x, .int .i64 l] 50) = w2 at *
  generalize w1.heap.size = k1 at *
  go_region
  all_goals
    have M3 := MR.below (Below.refl w2.heap.size w2).drew
    have N3 := N.below (Below.refl w2.heap.size w2).drew
    have d3 := below_step d2 (Below.refl w2.heap.size w2).drew
    have hks : w.heap.size ≠ k1 := by omega
    clear MR N d2 n0 n1 n2 cw2 hNs
    generalize w2.drew = w3 at *
    have n0 := N3.2.1 0 _ rfl
    have n1 := N3.2.1 1 _ rfl
    have n2 := N3.2.1 2 _ rfl
    go_wp2_with fail
    go_loop [4, 6, 19] (fun s _ y => ∃ j : Nat, y = .int .i64 j ∧ j ≤ 4 ∧ s = .string (txB f 4 j)) (fun _ _ y => 4 - (intOf y).toNat)
    case atStart => exact ⟨0, rfl, Nat.zero_le _, rfl⟩
    case round =>
      obtain ⟨j, rfl, hj, rfl⟩ := hrel
      by_cases hlt : j < 4
      · obtain ⟨hbw, cj, hs20⟩ := hf.out j hlt
        have cj2 := (d3.cell (p := ⟨b, off + 4 + j, none⟩) hbw).trans cj
        have hlt' : (j : Int) < 4 := by omega
        have hT := txB_size f 4 j
        have hT2 : (txB f 4 j).size ≤ 72 := by omega
        have hT1 := hide (show txB f 4 (j + 1) = txB f 4 j ++ piB (f (4 + j)) from rfl)
        
        clear hf hT hl cj
        generalize f (4 + j) = s at *
        generalize txB f 4 j = T at *
        by_cases h18 : s.size ≤ 18
        · have h18' : (s.size : Int) ≤ 18 := by omega
          have hmin : min (s.size : Int) 18 = (s.size : Int) := by omega
          have hp : piB s = s.extract 0 s.size := by rw [ByteArray.extract_zero_size]; exact if_pos h18
          have hsz2 : (s.extract 0 s.size).size ≤ 18 := by rw [ByteArray.extract_zero_size]; exact h18
          rw [hp] at hT1
          go_wp2_with fail
          exact ⟨⟨j + 1, by go_num, by omega, by simp [hT1.out]⟩, by simp [intOf]; omega⟩
        · have h18' : ¬ ((s.size : Int) ≤ 18) := by omega
          have hmin : min (s.size : Int) 18 = 18 := by omega
          have hp : piB s = s.extract 0 18 := if_neg h18
          have hsz2 : (s.extract 0 18).size ≤ 18 := by rw [ByteArray.size_extract]; omega
          rw [hp] at hT1
          go_wp2_with fail
          exact ⟨⟨j + 1, by go_num, by omega, by simp [hT1.out]⟩, by simp [intOf]; omega⟩
      · obtain rfl : j = 4 := by omega
        clear hf
        have hl2 : decide (l ≤ (txB f 4 4).size) = false := decide_eq_false (by omega)
        go_wp2_with fail
        refine (MN.out _ (hG.below d3)).mono ?_
        rintro e w5 ⟨rfl, rfl⟩
        exact ⟨rfl, rfl, d3⟩
end Go.Proofs.YtnpnhdaehddnmaaDoor
