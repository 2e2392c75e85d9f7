/- Spans of choices and of rows behind rows: orSpans, thenSpans. -/
import Derived.Test.YtocgghhlfmgndaaGreatI6m
namespace Go.Proofs.YtocgghhlfmgndaaGreat
open Go.RowKit

/-- Either of both, up to a cell. -/
def orF (f g : Nat → Nat → Bool) (n : Nat) : Nat → Nat → Bool := fun x y => if x * 11 + y < n then f x y || g x y else f x y
theorem orF_zero (f g : Nat → Nat → Bool) : sp (orF f g 0) = sp f := sp_congr fun i j _ _ => by simp [orF]
theorem orF_all (f g : Nat → Nat → Bool) : sp (orF f g 121) = sp (fun i j => f i j || g i j) := sp_congr fun i j _ _ => by
  unfold orF
  rw [if_pos (by omega)]
theorem orF_step (f g : Nat → Nat → Bool) {i j : Nat} (hj : j < 11) : sp (orF f g (i * 11 + (j + 1))) = (sp (orF f g (i * 11 + j))).set (i * 11 + j) (.bool (f i j || g i j)) := by
  rw [sp_set hj]
  refine sp_congr fun x y hx hy => ?_
  unfold setF orF
  by_cases h : x = i ∧ y = j
  · obtain ⟨rfl, rfl⟩ := h
    rw [if_pos (by omega), if_pos ⟨rfl, rfl⟩]
  · rw [if_neg h]
    by_cases h2 : x * 11 + y < i * 11 + j
    · rw [if_pos (by omega), if_pos h2]
    · rw [if_neg (by omega), if_neg h2]
theorem orF_at (f g : Nat → Nat → Bool) (i j : Nat) : orF f g (i * 11 + j) i j = f i j := by
  unfold orF
  rw [if_neg (by omega)]
set_option maxRecDepth 100000 in
set_option maxHeartbeats 3200000 in
theorem i_orSpans (f g : Nat → Nat → Bool) (w : World) : Calls Tryz.prog 175 #[.agg (sp f).toArray, .agg (sp g).toArray] w fun e w' => e = .returned (.agg (sp (fun i j => f i j || g i j)).toArray) ∧ Below w.heap.size w w' := by
  have hz := zero121
  have hM0 := ((Mut.new w (sp f).toArray 203).alloc (.cells (sp g).toArray 203)).alloc (.cells (sp noF).toArray 203)
  have hM1 := (Mut.new (w.alloc (.cells (sp f).toArray 203)) (sp g).toArray 203).alloc (.cells (sp noF).toArray 203)
  have hM2 := Mut.new ((w.alloc (.cells (sp f).toArray 203)).alloc (.cells (sp g).toArray 203)) (sp noF).toArray 203
  have hd : Below w.heap.size w (((w.alloc (.cells (sp f).toArray 203)).alloc (.cells (sp g).toArray 203)).alloc (.cells (sp noF).toArray 203)) := below_box3 (Below.refl _ _)
  simp only [World.size_alloc] at hM1 hM2
  go_enter Tryz.func175, Tryz.ntmps175
  go_wp2_with fail
  generalize ((w.alloc (.cells (sp f).toArray 203)).alloc (.cells (sp g).toArray 203)).alloc (.cells (sp noF).toArray 203) = w1 at *
  clear hz
  go_loopw [7] (fun y wr => ∃ k : Nat, y = .int .i64 k ∧ k ≤ 11 ∧ Mut wr w.heap.size (sp (orF f g (k * 11))) ∧ Mut wr (w.heap.size + 1) (sp g) ∧ Mut wr (w.heap.size + 1 + 1) (sp noF) ∧ Below w.heap.size w wr) (fun y _ => 11 - (intOf y).toNat)
  case atStart => exact ⟨0, rfl, Nat.zero_le _, by rw [Nat.zero_mul, orF_zero]; exact hM0, hM1, hM2, hd⟩
  case round =>
    clear hM0 hM1 hM2 hd
    obtain ⟨k, rfl, hk, M0, M1, M2, hb⟩ := hrel
    by_cases hlt : k < 11
    · have hlt' : (k : Int) < 11 := by omega
      go_wp2_with fail
      go_loopw [10] (fun y wr => ∃ j : Nat, y = .int .i64 j ∧ j ≤ 11 ∧ Mut wr w.heap.size (sp (orF f g (k * 11 + j))) ∧ Mut wr (w.heap.size + 1) (sp g) ∧ Mut wr (w.heap.size + 1 + 1) (sp noF) ∧ Below w.heap.size w wr) (fun y _ => 11 - (intOf y).toNat)
      case atStart => exact ⟨0, rfl, Nat.zero_le _, M0, M1, M2, hb⟩
      case round =>
        clear M0 M1 M2 hb
        obtain ⟨j, rfl, hj, M0, M1, M2, hb⟩ := hrel
        by_cases hlj : j < 11
        · have hlj' : (j : Int) < 11 := by omega
          have c0 := M0.2.1 (k * 11 + j) _ (sp_get hlt hlj)
          have f0 := M0.2.2 (k * 11 + j) (by rw [sp_len]; omega)
          have c1 := M1.2.1 (k * 11 + j) _ (sp_get hlt hlj)
          rw [orF_at] at c0
          have hst := hide (orF_step f g (i := k) hlj)
          have hM0 := hide M0
          have hM1 := hide M1
          have hM2 := hide M2
          have hbb := hide hb
          clear M0 M1 M2 hb
          cases hf : f k j with
          | true =>
            rw [hf] at c0 hst
            rw [Bool.true_or] at hst
            go_wp2_with fail
            go_region
            go_wp2_with fail
            exact ⟨⟨j + 1, by go_num, by omega, by rw [hst.out]; exact (hM0.out.set _ _).drew, (hM1.out.other (by omega) _ _).drew, (hM2.out.other (by omega) _ _).drew, (hbb.out.setCell (p := ⟨w.heap.size, k * 11 + j, none⟩) (by simp) _).drew⟩, by simp [intOf]; omega⟩
          | false =>
            rw [hf] at c0 hst
            rw [Bool.false_or] at hst
            generalize g k j = x at *
            go_wp2_with fail
            go_region
            go_wp2_with fail
            exact ⟨⟨j + 1, by go_num, by omega, by rw [hst.out]; exact (hM0.out.set _ _).drew, (hM1.out.other (by omega) _ _).drew, (hM2.out.other (by omega) _ _).drew, (hbb.out.setCell (p := ⟨w.heap.size, k * 11 + j, none⟩) (by simp) _).drew⟩, by simp [intOf]; omega⟩
        · have hlj' : ¬ (j : Int) < 11 := by omega
          obtain rfl : j = 11 := by omega
          have hM0 := hide M0
          have hM1 := hide M1
          have hM2 := hide M2
          clear M0 M1 M2
          go_wp2_with fail
          exact ⟨⟨k + 1, by go_num, by omega, by rw [show (k + 1) * 11 = k * 11 + 11 by omega]; exact hM0.out, hM1.out, hM2.out, hb⟩, by simp [intOf]; omega⟩
    · have hlt' : ¬ (k : Int) < 11 := by omega
      obtain rfl : k = 11 := by omega
      have hM0 := hide M0
      have hM2 := hide M2
      clear M0 M1 M2
      go_wp2_with (first | (refine wpList_loadM rfl rfl rfl hM0.out Tryz.underlying203 (size121 _) ?_) | (refine wpList_storeM rfl rfl rfl rfl hM2.out (by rw [sp_len, sp_len]) (sp_one _) (size121 _) ?_; intro w9 hM9 hO9))
      exact bodyPost_ret (results_arr rfl rfl hM9 Tryz.underlying203 (size121 _)) rfl ⟨by rw [orF_all], hb.trans ((hO9.below (by have := hM2.out.1; omega)).mono (by omega))⟩
/-- A row of the one, then one of the other: by a place between that is below m. -/
def thB (f g : Nat → Nat → Bool) (i j m : Nat) : Bool := (List.range m).any fun q => decide (i ≤ q) && (f i q && g q j)
theorem thB_succ (f g : Nat → Nat → Bool) {i j m : Nat} (h : i ≤ m) : thB f g i j (m + 1) = (thB f g i j m || (f i m && g m j)) := by
  unfold thB
  rw [List.range_succ, List.any_append]
  simp [h]
theorem thB_low (f g : Nat → Nat → Bool) {i j m : Nat} (h : m ≤ i) : thB f g i j m = false := by
  unfold thB
  rw [List.any_eq_false]
  intro q hq
  have := List.mem_range.1 hq
  simp
  omega
/-- What is reckoned so far. -/
def stS (f g : Nat → Nat → Bool) (i j m : Nat) : Nat → Nat → Bool := fun x y => if x < i ∨ (x = i ∧ y < j) then thB f g x y (y + 1) else if x = i ∧ y = j then thB f g i j m else false
theorem stS_at (f g : Nat → Nat → Bool) (i j m : Nat) : stS f g i j m i j = thB f g i j m := by
  unfold stS
  rw [if_neg (by omega), if_pos ⟨rfl, rfl⟩]
theorem stS_zero (f g : Nat → Nat → Bool) : sp (stS f g 0 0 0) = sp noF := sp_congr fun x y _ _ => by
  unfold stS noF
  rw [if_neg (by omega)]
  split
  · exact thB_low f g (Nat.le_refl _)
  · rfl
theorem stS_step (f g : Nat → Nat → Bool) {i j m : Nat} (hj : j < 11) : sp (stS f g i j (m + 1)) = (sp (stS f g i j m)).set (i * 11 + j) (.bool (thB f g i j (m + 1))) := by
  rw [sp_set hj]
  refine sp_congr fun x y hx hy => ?_
  unfold setF
  by_cases h : x = i ∧ y = j
  · rw [if_pos h]; obtain ⟨rfl, rfl⟩ := h; exact stS_at f g x y _
  · rw [if_neg h]; unfold stS; rw [if_neg h, if_neg h]
theorem stS_to (f g : Nat → Nat → Bool) {i j : Nat} : sp (stS f g i j (j + 1)) = sp (stS f g i (j + 1) i) := sp_congr fun x y _ _ => by
  unfold stS
  by_cases h : x < i ∨ (x = i ∧ y < j)
  · rw [if_pos h, if_pos (by omega)]
  · rw [if_neg h]
    by_cases h2 : x = i ∧ y = j
    · rw [if_pos h2, if_pos (by omega)]; obtain ⟨rfl, rfl⟩ := h2; rfl
    · rw [if_neg h2, if_neg (by omega)]
      split
      · exact (thB_low f g (Nat.le_refl _)).symm
      · rfl
theorem stS_from (f g : Nat → Nat → Bool) {i : Nat} : sp (stS f g i 11 i) = sp (stS f g (i + 1) (i + 1) (i + 1)) := sp_congr fun x y hx hy => by
  unfold stS
  by_cases h : x < i ∨ (x = i ∧ y < 11)
  · rw [if_pos h, if_pos (by omega)]
  · rw [if_neg h, if_neg (by omega)]
    by_cases h2 : x = i + 1 ∧ y < i + 1
    · rw [if_pos (.inr h2), thB_low f g (by omega)]
    · rw [if_neg (by omega)]
      split
      · exact (thB_low f g (Nat.le_refl _)).symm
      · rfl
theorem stS_all (f g : Nat → Nat → Bool) : sp (stS f g 11 11 11) = sp (fun x y => thB f g x y (y + 1)) := sp_congr fun x y hx hy => by
  unfold stS
  rw [if_pos (by omega)]
set_option maxRecDepth 100000 in
set_option maxHeartbeats 3200000 in
theorem i_thenSpans (f g : Nat → Nat → Bool) (w : World) : Calls Tryz.prog 174 #[.agg (sp f).toArray, .agg (sp g).toArray] w fun e w' => e = .returned (.agg (sp (fun x y => thB f g x y (y + 1))).toArray) ∧ Below w.heap.size w w' := by
  have hz := zero121
  have hM0 := (((Mut.new w (sp f).toArray 203).alloc (.cells (sp g).toArray 203)).alloc (.cells (sp noF).toArray 203)).alloc (.cells (sp noF).toArray 203)
  have hM1 := ((Mut.new (w.alloc (.cells (sp f).toArray 203)) (sp g).toArray 203).alloc (.cells (sp noF).toArray 203)).alloc (.cells (sp noF).toArray 203)
  have hM2 := (Mut.new ((w.alloc (.cells (sp f).toArray 203)).alloc (.cells (sp g).toArray 203)) (sp noF).toArray 203).alloc (.cells (sp noF).toArray 203)
  have hM3 := Mut.new (((w.alloc (.cells (sp f).toArray 203)).alloc (.cells (sp g).toArray 203)).alloc (.cells (sp noF).toArray 203)) (sp noF).toArray 203
  have hd : Below w.heap.size w ((((w.alloc (.cells (sp f).toArray 203)).alloc (.cells (sp g).toArray 203)).alloc (.cells (sp noF).toArray 203)).alloc (.cells (sp noF).toArray 203)) := (below_box3 (Below.refl _ _)).alloc (by simp; omega) _
  simp only [World.size_alloc] at hM1 hM2 hM3
  go_enter Tryz.func174, Tryz.ntmps174
  go_wp2_with fail
  generalize (((w.alloc (.cells (sp f).toArray 203)).alloc (.cells (sp g).toArray 203)).alloc (.cells (sp noF).toArray 203)).alloc (.cells (sp noF).toArray 203) = w1 at *
  clear hz
  go_loopw [9] (fun y wr => ∃ k : Nat, y = .int .i64 k ∧ k ≤ 11 ∧ Mut wr w.heap.size (sp f) ∧ Mut wr (w.heap.size + 1) (sp g) ∧ Mut wr (w.heap.size + 1 + 1) (sp noF) ∧ Mut wr (w.heap.size + 1 + 1 + 1) (sp (stS f g k k k)) ∧ Below w.heap.size w wr) (fun y _ => 11 - (intOf y).toNat)
  case atStart => exact ⟨0, rfl, Nat.zero_le _, hM0, hM1, hM2, by rw [stS_zero]; exact hM3, hd⟩
  case round =>
    clear hM0 hM1 hM2 hM3 hd
    obtain ⟨k, rfl, hk, M0, M1, M2, M3, hb⟩ := hrel
    by_cases hlt : k < 11
    · have hlt' : (k : Int) < 11 := by omega
      go_wp2_with fail
      go_loopw [7] (fun y wr => ∃ j : Nat, y = .int .i64 j ∧ k ≤ j ∧ j ≤ 11 ∧ Mut wr w.heap.size (sp f) ∧ Mut wr (w.heap.size + 1) (sp g) ∧ Mut wr (w.heap.size + 1 + 1) (sp noF) ∧ Mut wr (w.heap.size + 1 + 1 + 1) (sp (stS f g k j k)) ∧ Below w.heap.size w wr) (fun y _ => 11 - (intOf y).toNat)
      case atStart => exact ⟨k, rfl, Nat.le_refl _, hk, M0, M1, M2, M3, hb⟩
      case round =>
        clear M0 M1 M2 M3 hb
        obtain ⟨j, rfl, hkj, hj, M0, M1, M2, M3, hb⟩ := hrel
        by_cases hlj : j < 11
        · have hlj' : (j : Int) < 11 := by omega
          go_wp2_with fail
          go_loopw [8] (fun y wr => ∃ m : Nat, y = .int .i64 m ∧ k ≤ m ∧ m ≤ j + 1 ∧ Mut wr w.heap.size (sp f) ∧ Mut wr (w.heap.size + 1) (sp g) ∧ Mut wr (w.heap.size + 1 + 1) (sp noF) ∧ Mut wr (w.heap.size + 1 + 1 + 1) (sp (stS f g k j m)) ∧ Below w.heap.size w wr) (fun y _ => 12 - (intOf y).toNat)
          case atStart => exact ⟨k, rfl, Nat.le_refl _, by omega, M0, M1, M2, M3, hb⟩
          case round =>
            clear M0 M1 M2 M3 hb
            obtain ⟨m, rfl, hkm, hm, M0, M1, M2, M3, hb⟩ := hrel
            by_cases hlm : m ≤ j
            · have hlm' : (m : Int) ≤ (j : Int) := by omega
              have hm11 : (m : Int) < 11 := by omega
              have c3 := M3.2.1 (k * 11 + j) _ (sp_get hlt hlj)
              have f3 := M3.2.2 (k * 11 + j) (by rw [sp_len]; omega)
              have c0 := M0.2.1 (k * 11 + m) _ (sp_get hlt (by omega))
              have c1 := M1.2.1 (m * 11 + j) _ (sp_get (by omega) hlj)
              rw [stS_at] at c3
              have hst := hide (stS_step f g (i := k) (j := j) (m := m) hlj)
              rw [thB_succ f g hkm] at hst
              have N0 := hide M0
              have N1 := hide M1
              have N2 := hide M2
              have N3 := hide M3
              have hbb := hide hb
              clear M0 M1 M2 M3 hb
              generalize thB f g k j m = x at *
              generalize f k m = y at *
              generalize g m j = z at *
              cases x with
              | true =>
                rw [Bool.true_or] at hst
                go_wp2_with fail
                go_region
                go_wp2_with fail
                exact ⟨⟨m + 1, by go_num, by omega, by omega, (N0.out.other (by omega) _ _).drew, (N1.out.other (by omega) _ _).drew, (N2.out.other (by omega) _ _).drew, by rw [hst.out]; exact (N3.out.set _ _).drew, (hbb.out.setCell (p := ⟨w.heap.size + 1 + 1 + 1, k * 11 + j, none⟩) (by simp; omega) _).drew⟩, by simp [intOf]; omega⟩
              | false =>
                rw [Bool.false_or] at hst
                cases y with
                | false =>
                  rw [Bool.false_and] at hst
                  go_wp2_with fail
                  go_region
                  go_wp2_with fail
                  exact ⟨⟨m + 1, by go_num, by omega, by omega, (N0.out.other (by omega) _ _).drew, (N1.out.other (by omega) _ _).drew, (N2.out.other (by omega) _ _).drew, by rw [hst.out]; exact (N3.out.set _ _).drew, (hbb.out.setCell (p := ⟨w.heap.size + 1 + 1 + 1, k * 11 + j, none⟩) (by simp; omega) _).drew⟩, by simp [intOf]; omega⟩
                | true =>
                  rw [Bool.true_and] at hst
                  go_wp2_with fail
                  go_region
                  go_wp2_with fail
                  exact ⟨⟨m + 1, by go_num, by omega, by omega, (N0.out.other (by omega) _ _).drew, (N1.out.other (by omega) _ _).drew, (N2.out.other (by omega) _ _).drew, by rw [hst.out]; exact (N3.out.set _ _).drew, (hbb.out.setCell (p := ⟨w.heap.size + 1 + 1 + 1, k * 11 + j, none⟩) (by simp; omega) _).drew⟩, by simp [intOf]; omega⟩
            · have hlm' : ¬ (m : Int) ≤ (j : Int) := by omega
              obtain rfl : m = j + 1 := by omega
              rw [stS_to] at M3
              have N0 := hide M0
              have N1 := hide M1
              have N2 := hide M2
              have N3 := hide M3
              clear M0 M1 M2 M3
              go_wp2_with fail
              exact ⟨⟨j + 1, by go_num, by omega, by omega, N0.out, N1.out, N2.out, N3.out, hb⟩, by simp [intOf]; omega⟩
        · have hlj' : ¬ (j : Int) < 11 := by omega
          obtain rfl : j = 11 := by omega
          rw [stS_from] at M3
          have N0 := hide M0
          have N1 := hide M1
          have N2 := hide M2
          have N3 := hide M3
          clear M0 M1 M2 M3
          go_wp2_with fail
          exact ⟨⟨k + 1, by go_num, by omega, N0.out, N1.out, N2.out, N3.out, hb⟩, by simp [intOf]; omega⟩
    · have hlt' : ¬ (k : Int) < 11 := by omega
      obtain rfl : k = 11 := by omega
      have hM2 := hide M2
      have hM3 := hide M3
      clear M0 M1 M2 M3
      go_wp2_with (first | (refine wpList_loadM rfl rfl rfl hM3.out Tryz.underlying203 (size121 _) ?_) | (refine wpList_storeM rfl rfl rfl rfl hM2.out (by rw [sp_len, sp_len]) (sp_one _) (size121 _) ?_; intro w9 hM9 hO9))
      exact bodyPost_ret (results_arr rfl rfl hM9 Tryz.underlying203 (size121 _)) rfl ⟨by rw [stS_all], hb.trans ((hO9.below (by have := hM2.out.1; omega)).mono (by omega))⟩
end Go.Proofs.YtocgghhlfmgndaaGreat
