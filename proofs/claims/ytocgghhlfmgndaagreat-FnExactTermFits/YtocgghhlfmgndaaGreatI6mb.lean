/- Spans of what comes as often as may be: starSpans. -/
import Derived.Test.YtocgghhlfmgndaaGreatI6ma
import Derived.Deep.RegionHeld3
namespace Go.Proofs.YtocgghhlfmgndaaGreat
open Go.RowKit

theorem sp_part (f : Nat → Nat → Bool) {i : Nat} (hi : i < 11) : List.take 11 (List.drop (i * 11) (sp f)) = bits 11 (f i) := by
  apply List.ext_getElem?
  intro j
  by_cases hj : j < 11
  · rw [List.getElem?_take, if_pos hj, List.getElem?_drop, sp_get hi hj, bits_get hj]
  · rw [List.getElem?_take, if_neg hj, List.getElem?_eq_none (by rw [bits_len]; omega)]
theorem mut_range {w : World} {b : Nat} {vs : List Value} (h : Mut w b vs) : w.rangeAt b 0 vs := fun j v hv => by rw [Nat.zero_add]; exact h.2.1 j v hv
theorem mut_there {w : World} {b n : Nat} {vs : List Value} (h : Mut w b vs) (hn : vs.length = n) : w.there b 0 n := fun j hj => by
  rw [Nat.zero_add, h.2.1 j _ (List.getElem?_eq_getElem (by omega))]
  exact ⟨rfl, h.2.2 j (by omega)⟩
theorem szB6 (w : World) : (sizeOf 4).run Tryz.prog w = .ok 1 w := by kernel_rfl
theorem szR6 (w : World) : (sizeOf 201).run Tryz.prog w = .ok 11 w := by kernel_rfl
theorem eq121 (f g : Nat → Nat → Bool) (w : World) : (Op.equalIn 10000 203 (.agg (sp f).toArray) (.agg (sp g).toArray)).run Tryz.prog w = .ok ((List.range 11).all fun i => (List.range 11).all fun j => f i j == g i j) w := by
  refine run_equalIn_arr w 9999 203 201 11 11 Tryz.underlying203 szR6 _ _ (fun i => .agg (bits 11 (f i)).toArray) (fun i => .agg (bits 11 (g i)).toArray) _ (fun i hi => ?_) (fun i hi => ?_) (fun i hi => ?_)
  · simp [part, isAgg, run_underlying Tryz.underlying201, sp_part f hi]
  · simp [part, isAgg, run_underlying Tryz.underlying201, sp_part g hi]
  · exact run_equalIn_bits w 9997 _ 4 11 Tryz.underlying201 Tryz.underlying4 szB6 (f i) (g i)
theorem gd121 : Tryz.prog.eqGuardType Tryz.prog.depth 203 = false := by kernel_rfl
theorem all_sp {f g : Nat → Nat → Bool} : ((List.range 11).all fun i => (List.range 11).all fun j => f i j == g i j) = true ↔ ∀ i j, i < 11 → j < 11 → f i j = g i j := by
  rw [List.all_eq_true]
  constructor
  · intro h i j hi hj
    exact all_bits.1 (h i (List.mem_range.2 hi)) j hj
  · intro h i hi
    exact all_bits.2 fun j hj => h i j (List.mem_range.1 hi) hj
/-- The places that a row of a part goes between. -/
def Ro (f : Nat → Nat → Bool) : Nat → Nat → Prop := fun x y => x ≤ y ∧ y < 11 ∧ f x y = true
def StF (f F : Nat → Nat → Bool) : Prop := ∀ i j, i < 11 → j < 11 → (F i j = true ↔ StarR (Ro f) i j)
def moreF (f F : Nat → Nat → Bool) : Nat → Nat → Bool := fun i j => F i j || thB F f i j (j + 1)
theorem thB_iff {f g : Nat → Nat → Bool} {i j m : Nat} : thB f g i j m = true ↔ ∃ q, q < m ∧ i ≤ q ∧ f i q = true ∧ g q j = true := by
  unfold thB
  rw [List.any_eq_true]
  constructor
  · rintro ⟨q, hq, h⟩
    simp only [Bool.and_eq_true, decide_eq_true_eq] at h
    exact ⟨q, List.mem_range.1 hq, h.1, h.2.1, h.2.2⟩
  · rintro ⟨q, hq, h1, h2, h3⟩
    exact ⟨q, List.mem_range.2 hq, by simp [h1, h2, h3]⟩
theorem ro_le {f : Nat → Nat → Bool} : ∀ i j, Ro f i j → i ≤ j := fun _ _ h => h.1
theorem more_ok {f F : Nat → Nat → Bool} (h : ∀ i j, i < 11 → j < 11 → F i j = true → StarR (Ro f) i j) : ∀ i j, i < 11 → j < 11 → moreF f F i j = true → StarR (Ro f) i j := by
  intro i j hi hj hm
  unfold moreF at hm
  rw [Bool.or_eq_true] at hm
  rcases hm with hm | hm
  · exact h i j hi hj hm
  · obtain ⟨q, hq, hiq, h1, h2⟩ := thB_iff.1 hm
    exact .step (h i q hi (by omega) h1) ⟨by omega, hj, h2⟩
theorem star_done {f F : Nat → Nat → Bool} (h0 : ∀ i, i < 11 → F i i = true) (h : ∀ i j, i < 11 → j < 11 → F i j = true → StarR (Ro f) i j) (he : ∀ i j, i < 11 → j < 11 → moreF f F i j = F i j) : StF f F := by
  intro i j hi hj
  refine ⟨h i j hi hj, fun s => ?_⟩
  have key : j < 11 ∧ F i j = true := by
    refine star_all (S := fun j => j < 11 ∧ F i j = true) ⟨hi, h0 i hi⟩ (fun m j hm hr => ⟨hr.2.1, ?_⟩) s
    rw [← he i j hi hr.2.1]
    unfold moreF
    rw [Bool.or_eq_true]
    exact .inr (thB_iff.2 ⟨m, by have := hr.1; omega, star_le ro_le (h i m hi hm.1 hm.2), hm.2, hr.2.2⟩)
  exact key.2
theorem more_lt {f F : Nat → Nat → Bool} (h : ¬ ∀ i j, i < 11 → j < 11 → moreF f F i j = F i j) : cntF F < cntF (moreF f F) := by
  obtain ⟨i, j, hi, hj, hne⟩ : ∃ i j, i < 11 ∧ j < 11 ∧ ¬ moreF f F i j = F i j := by
    refine Classical.byContradiction fun hn => h fun i j hi hj => Classical.byContradiction fun hne => hn ⟨i, j, hi, hj, hne⟩
  have hF : F i j = false := by
    cases hf : F i j with
    | false => rfl
    | true => exact absurd (by simp [moreF, hf]) hne
  refine cntF_lt (fun x y hxy => by simp [moreF, hxy]) hi hj ?_ hF
  cases hm : moreF f F i j with
  | true => rfl
  | false => exact absurd (hm.trans hF.symm) hne
theorem cntW_sp {w : World} {b : Nat} {F : Nat → Nat → Bool} (h : Mut w b (sp F)) : cntW 121 w b = cntF F := cntW_bits h
set_option maxRecDepth 100000 in
set_option maxHeartbeats 6400000 in
theorem i_starSpans (f : Nat → Nat → Bool) (w : World) : Calls Tryz.prog 176 #[.agg (sp f).toArray] w fun e w' => ∃ F, e = .returned (.agg (sp F).toArray) ∧ StF f F ∧ Below w.heap.size w w' := by
  have ES := hide (fun w => i_emptySpans w)
  have TS := hide (fun F w => i_thenSpans F f w)
  have OS := hide (fun F w => i_orSpans F (fun x y => thB F f x y (y + 1)) w)
  have hz := zero121
  have hMa := (Mut.new w (sp f).toArray 203).alloc (.cells (sp noF).toArray 203)
  have hMr := Mut.new (w.alloc (.cells (sp f).toArray 203)) (sp noF).toArray 203
  have hd : Below w.heap.size w ((w.alloc (.cells (sp f).toArray 203)).alloc (.cells (sp noF).toArray 203)) := below_box2 (Below.refl _ _)
  rw [World.size_alloc] at hMr
  go_enter Tryz.func176, Tryz.ntmps176
  go_wp2_with fail
  generalize (w.alloc (.cells (sp f).toArray 203)).alloc (.cells (sp noF).toArray 203) = w0 at *
  refine (ES.out _).mono ?_
  rintro e w1 ⟨rfl, b1⟩
  have Ma := hide (hMa.below b1)
  have Mr := hide (hMr.below b1)
  have d1 := hd.trans (b1.mono hd.size)
  clear hMa hMr b1 hd
  go_wp2_with (first | (refine wpList_storeM rfl rfl rfl rfl (Mut.new _ _ _) (by exact (sp_len _).trans (sp_len _).symm) (sp_one _) (size121 _) ?_; intro w2 hMs hO2))
  simp only [Act.put]
  have lt0 := Ma.out.1
  have lt1 := Mr.out.1
  have hMa := (Ma.out.alloc _).only hO2 (by omega)
  have hMr := (Mr.out.alloc _).only hO2 (by omega)
  have d2 : Below w.heap.size w w2 := (d1.alloc d1.size _).trans ((hO2.below (by simp)).mono (by omega))
  clear Ma Mr hO2 d1 lt0
  generalize hbs : w1.heap.size = bs at *
  clear hbs
  go_loopw [] (fun wr => ∃ F, Mut wr w.heap.size (sp f) ∧ Mut wr (w.heap.size + 1) (sp noF) ∧ Mut wr bs (sp F) ∧ Hid (∀ i, i < 11 → F i i = true) ∧ Hid (∀ i j, i < 11 → j < 11 → F i j = true → StarR (Ro f) i j) ∧ Below w.heap.size w wr) (fun wr => 121 - cntW 121 wr bs)
  case atStart => exact ⟨diaF 11, hMa, hMr, hMs, fun i hi => by simp [diaF, hi], fun i j _ _ h => by
    have : i = j := by simp [diaF] at h; exact h.1
    subst this; exact .refl, d2⟩
  case round =>
    clear hMa hMr hMs d2
    obtain ⟨F, Ma, Mr, Ms, hdia, hok, dw⟩ := hrel
    have hMe := hide (cntW_sp Ms)
    have hS2 := fun (w' : World) (h : Below wr.heap.size wr w') => And.intro (Ms.below h) (And.intro (Ma.below h) (Mr.below h))
    have hS := fun (w' : World) (h : Below wr.heap.size wr w') => And.intro (mut_range (Ms.below h)) (mut_range (Ma.below h))
    have hu121 := Tryz.underlying203
    have lts := Ms.1
    clear Ma Mr Ms
    go_wp2_with fail
    refine wp_region_held_drew (S := fun w' => w'.rangeAt bs 0 (sp F) ∧ w'.rangeAt w.heap.size 0 (sp f)) (by kernel_rfl) (hS _ (Below.refl _ _).drew) (fun hHeld => ?_)
    refine wpAnyH_take (i := 0) rfl (by kernel_rfl) (by kernel_rfl) (by kernel_rfl) (fun _ _ _ h => h) (yieldsIf_load_mid (by rfl) _ _ rfl _ _ rfl _ _ (fun w' hSw => hSw.1) hu121 rfl (size121 F)) hHeld ?_
    simp only [List.getElem_toArray, List.getElem_cons_zero, Act.put, List.setIfInBounds_toArray, List.set_cons_zero, List.set_cons_succ]
    refine wpAnyH_take (i := 1) rfl (by kernel_rfl) (by kernel_rfl) (by kernel_rfl) (fun _ _ _ h => h) (yieldsIf_load_mid (by rfl) _ _ rfl _ _ rfl _ _ (fun w' hSw => hSw.1) hu121 rfl (size121 F)) hHeld ?_
    simp only [List.getElem_toArray, List.getElem_cons_succ, List.getElem_cons_zero, Act.put, List.setIfInBounds_toArray, List.set_cons_zero, List.set_cons_succ]
    refine wpAnyH_take (i := 2) rfl (by kernel_rfl) (by kernel_rfl) (by kernel_rfl) (fun _ _ _ h => h) (yieldsIf_load_mid (by rfl) _ _ rfl _ _ rfl _ _ (fun w' hSw => hSw.2) hu121 rfl (size121 f)) hHeld ?_
    simp only [List.getElem_toArray, List.getElem_cons_succ, List.getElem_cons_zero, Act.put, List.setIfInBounds_toArray, List.set_cons_zero, List.set_cons_succ]
    refine wpAnyH_ready (rs := [3, 5]) (by kernel_rfl) (by simp) (AllReadyH.cons rfl (fun K hK => ?_) (AllReadyH.cons rfl (fun K hK => ?_) AllReadyH.nil))
    go_simp
    refine (TS.out F _).mono ?_
    rintro e wT ⟨rfl, bT⟩
    have dT : Below wr.heap.size wr wT := (Below.refl wr.heap.size wr).drew.trans (bT.mono (Below.refl wr.heap.size wr).drew.size)
    refine hK.out _ _ (hS _ dT) (fun hHeld => ?_)
    clear hK K
    refine wpAnyH_ready (rs := [4, 5]) (by kernel_rfl) (by simp) (AllReadyH.cons rfl (fun K hK => ?_) (AllReadyH.cons rfl (fun K hK => ?_) AllReadyH.nil))
    go_simp
    refine (OS.out F _).mono ?_
    rintro e wO ⟨rfl, bO⟩
    have dO : Below wr.heap.size wr wO := dT.trans (bO.mono dT.size)
    refine hK.out _ _ (hS _ dO) (fun hHeld => ?_)
    clear hK K
    refine wpAnyH_ready (rs := [5]) (by kernel_rfl) (by simp) (AllReadyH.cons rfl (fun K hK => ?_) AllReadyH.nil)
    go_simp
    have MX : Mut (wO.alloc (.cells (sp noF).toArray 203)) wO.heap.size (sp noF) := Mut.new _ _ _
    have dX : Below wr.heap.size wr (wO.alloc (.cells (sp noF).toArray 203)) := dO.alloc dO.size _
    refine hK.out _ _ (hS _ dX) (fun hHeld => ?_)
    clear hK K
    refine wpAnyH_ready (rs := [6]) (by kernel_rfl) (by simp) (AllReadyH.cons rfl (fun K hK => ?_) AllReadyH.nil)
    rw [if_pos (by rfl)]
    refine wp_store_mid _ _ _ rfl _ _ (sp (moreF f F)).toArray rfl rfl (mut_there MX (sp_len _).symm) (size121 _) (all_oneCell_toArray (sp_one _)) ?_
    have hMm := MX.fill (us := sp (moreF f F)) ((sp_len _).trans (sp_len _).symm)
    have hOm := only_cells wO.heap.size (sp (moreF f F)) 0 (wO.alloc (.cells (sp noF).toArray 203))
    have hlt := MX.1
    have hge : wr.heap.size ≤ wO.heap.size := dO.size
    have hMs := (hS2 _ dX).1.only hOm (by omega)
    have hMa := (hS2 _ dX).2.1.only hOm (by omega)
    have hMr := (hS2 _ dX).2.2.only hOm (by omega)
    have d8 := (dw.trans (dX.mono dw.size)).trans ((hOm.below (by omega)).mono (by omega))
    refine hK.out _ _ ⟨mut_range hMs, mut_range hMa⟩ (fun hHeld => ?_)
    clear hK K
    refine wpAnyH_done (by kernel_rfl) ?_ _
    simp only [List.getElem_toArray, List.getElem_cons_succ, List.getElem_cons_zero, Act.put]
    replace hMm := hide hMm
    replace hMs := hide hMs
    replace hMa := hide hMa
    replace hMr := hide hMr
    replace d8 := hide d8
    replace hge := hide hge
    clear hOm hlt MX hHeld
    generalize (wO.alloc (.cells (sp noF).toArray 203)).setCells wO.heap.size 0 (sp (moreF f F)) = w8 at *
    generalize wO.heap.size = bm at *
    rotate_left
    go_simp
    have MX : Mut (wT.alloc (.cells (sp noF).toArray 203)) wT.heap.size (sp noF) := Mut.new _ _ _
    have dX : Below wr.heap.size wr (wT.alloc (.cells (sp noF).toArray 203)) := dT.alloc dT.size _
    refine hK.out _ _ (hS _ dX) (fun hHeld => ?_)
    clear hK K
    refine wpAnyH_ready (rs := [4]) (by kernel_rfl) (by simp) (AllReadyH.cons rfl (fun K hK => ?_) AllReadyH.nil)
    go_simp
    refine (OS.out F _).mono ?_
    rintro e wO ⟨rfl, bO⟩
    have dO : Below wr.heap.size wr wO := dX.trans (bO.mono dX.size)
    replace MX := MX.below bO
    refine hK.out _ _ (hS _ dO) (fun hHeld => ?_)
    clear hK K
    refine wpAnyH_ready (rs := [6]) (by kernel_rfl) (by simp) (AllReadyH.cons rfl (fun K hK => ?_) AllReadyH.nil)
    rw [if_pos (by rfl)]
    refine wp_store_mid _ _ _ rfl _ _ (sp (moreF f F)).toArray rfl rfl (mut_there MX (sp_len _).symm) (size121 _) (all_oneCell_toArray (sp_one _)) ?_
    have hMm := MX.fill (us := sp (moreF f F)) ((sp_len _).trans (sp_len _).symm)
    have hOm := only_cells wT.heap.size (sp (moreF f F)) 0 wO
    have hlt := MX.1
    have hge : wr.heap.size ≤ wT.heap.size := dT.size
    have hMs := (hS2 _ dO).1.only hOm (by omega)
    have hMa := (hS2 _ dO).2.1.only hOm (by omega)
    have hMr := (hS2 _ dO).2.2.only hOm (by omega)
    have d8 := (dw.trans (dO.mono dw.size)).trans ((hOm.below (by omega)).mono (by omega))
    refine hK.out _ _ ⟨mut_range hMs, mut_range hMa⟩ (fun hHeld => ?_)
    clear hK K
    refine wpAnyH_done (by kernel_rfl) ?_ _
    simp only [List.getElem_toArray, List.getElem_cons_succ, List.getElem_cons_zero, Act.put]
    replace hMm := hide hMm
    replace hMs := hide hMs
    replace hMa := hide hMa
    replace hMr := hide hMr
    replace d8 := hide d8
    replace hge := hide hge
    clear hOm hlt MX hHeld
    generalize wO.setCells wT.heap.size 0 (sp (moreF f F)) = w8 at *
    generalize wT.heap.size = bm at *
    rotate_left
    go_simp
    have MX : Mut (wr.drew.alloc (.cells (sp noF).toArray 203)) wr.heap.size (sp noF) := Mut.new _ _ _
    have dX : Below wr.heap.size wr (wr.drew.alloc (.cells (sp noF).toArray 203)) := (Below.refl wr.heap.size wr).drew.alloc (Below.refl wr.heap.size wr).drew.size _
    refine hK.out _ _ (hS _ dX) (fun hHeld => ?_)
    clear hK K
    refine wpAnyH_ready (rs := [3]) (by kernel_rfl) (by simp) (AllReadyH.cons rfl (fun K hK => ?_) AllReadyH.nil)
    go_simp
    refine (TS.out F _).mono ?_
    rintro e wT ⟨rfl, bT⟩
    have dT : Below wr.heap.size wr wT := dX.trans (bT.mono dX.size)
    replace MX := MX.below bT
    refine hK.out _ _ (hS _ dT) (fun hHeld => ?_)
    clear hK K
    refine wpAnyH_ready (rs := [4]) (by kernel_rfl) (by simp) (AllReadyH.cons rfl (fun K hK => ?_) AllReadyH.nil)
    go_simp
    refine (OS.out F _).mono ?_
    rintro e wO ⟨rfl, bO⟩
    have dO : Below wr.heap.size wr wO := dT.trans (bO.mono dT.size)
    replace MX := MX.below bO
    refine hK.out _ _ (hS _ dO) (fun hHeld => ?_)
    clear hK K
    refine wpAnyH_ready (rs := [6]) (by kernel_rfl) (by simp) (AllReadyH.cons rfl (fun K hK => ?_) AllReadyH.nil)
    rw [if_pos (by rfl)]
    refine wp_store_mid _ _ _ rfl _ _ (sp (moreF f F)).toArray rfl rfl (mut_there MX (sp_len _).symm) (size121 _) (all_oneCell_toArray (sp_one _)) ?_
    have hMm := MX.fill (us := sp (moreF f F)) ((sp_len _).trans (sp_len _).symm)
    have hOm := only_cells wr.heap.size (sp (moreF f F)) 0 wO
    have hlt := MX.1
    have hge : wr.heap.size ≤ wr.heap.size := Nat.le_refl _
    have hMs := (hS2 _ dO).1.only hOm (by omega)
    have hMa := (hS2 _ dO).2.1.only hOm (by omega)
    have hMr := (hS2 _ dO).2.2.only hOm (by omega)
    have d8 := (dw.trans (dO.mono dw.size)).trans ((hOm.below (by omega)).mono (by omega))
    refine hK.out _ _ ⟨mut_range hMs, mut_range hMa⟩ (fun hHeld => ?_)
    clear hK K
    refine wpAnyH_done (by kernel_rfl) ?_ _
    simp only [List.getElem_toArray, List.getElem_cons_succ, List.getElem_cons_zero, Act.put]
    replace hMm := hide hMm
    replace hMs := hide hMs
    replace hMa := hide hMa
    replace hMr := hide hMr
    replace d8 := hide d8
    replace hge := hide hge
    clear hOm hlt MX hHeld
    generalize wO.setCells wr.heap.size 0 (sp (moreF f F)) = w8 at *
    generalize wr.heap.size = bm at *
    all_goals
      have ltm := hMm.out.1
      have ltr := hMr.out.1
      have lts8 := hMs.out.1
      by_cases he : ∀ i j, i < 11 → j < 11 → moreF f F i j = F i j
      · have hE2 := hide (fun w => (eq121 (moreF f F) F w).trans (by rw [all_sp.2 he]))
        have hA : Hid (StF f F) := star_done hdia.out hok.out he
        clear he
        go_wp2_with (first | (refine wpList_loadM rfl rfl rfl hMm.out Tryz.underlying203 (size121 _) ?_) | (refine wpList_loadM rfl rfl rfl hMs.out Tryz.underlying203 (size121 _) ?_) | (refine wpList_eqlM rfl rfl rfl rfl gd121 (hE2.out _) ?_) | (refine wpList_storeM rfl rfl rfl rfl hMr.out (by exact (sp_len _).trans (sp_len _).symm) (sp_one _) (size121 _) ?_; intro w9 hM9 hO9))
        exact bodyPost_ret (results_arr rfl rfl hM9 Tryz.underlying203 (size121 _)) rfl ⟨F, rfl, hA.out, d8.out.trans ((hO9.below (by omega)).mono (by omega))⟩
      · have hne : ((List.range 11).all fun i => (List.range 11).all fun j => moreF f F i j == F i j) = false := by
          rw [Bool.eq_false_iff]
          exact fun h => he (all_sp.1 h)
        have hE2 := hide (fun w => (eq121 (moreF f F) F w).trans (by rw [hne]))
        have hm : Hid (121 - cntF (moreF f F) < 121 - cntF F) := by
          have h1 := more_lt he
          have h2 := cntF_le (moreF f F)
          show _ < _
          omega
        have hok2 := hide (more_ok hok.out)
        have hdia2 : Hid (∀ i, i < 11 → moreF f F i i = true) := fun i hi => by simp [moreF, hdia.out i hi]
        clear he hne
        go_wp2_with (first | (refine wpList_loadM rfl rfl rfl hMm.out Tryz.underlying203 (size121 _) ?_) | (refine wpList_loadM rfl rfl rfl hMs.out Tryz.underlying203 (size121 _) ?_) | (refine wpList_eqlM rfl rfl rfl rfl gd121 (hE2.out _) ?_) | (refine wpList_storeM rfl rfl rfl rfl hMs.out (by exact (sp_len _).trans (sp_len _).symm) (sp_one _) (size121 _) ?_; intro w9 hM9 hO9))
        refine ⟨⟨_, _, _, _, _, _, _, _, _, _, _, ⟨moreF f F, hMa.out.only hO9 (by omega), hMr.out.only hO9 (by omega), hM9, hdia2, hok2, d8.out.trans ((hO9.below (by omega)).mono (by omega))⟩, rfl⟩, ?_⟩
        rw [cntW_sp hM9, hMe.out]
        exact hm.out
end Go.Proofs.YtocgghhlfmgndaaGreat
