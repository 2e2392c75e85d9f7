/- What the program's RunNfa answers. -/
import Derived.Test.YtocgghhlfmgndaaI6r
import Derived.Test.YtocgghhlfmgndaaI6n
import Derived.Test.YtocgghhlfmgndaaI4
import Derived.Deep.RegionHeld3
namespace Go.Proofs.Ytocgghhlfmgndaa
open Go.RowKit

theorem path_gp (P : List Int) : (decide (P.length ≤ 10) && pathB P.length (fun i => P.getD i 0)) = gpB P := by
  rw [gpB, Bool.and_comm]
  congr 1
  rw [Bool.eq_iff_iff, pathB, List.all_eq_true, List.all_eq_true]
  constructor
  · intro h x hx
    obtain ⟨i, hi, e⟩ := List.mem_iff_getElem.1 hx
    have := h i (List.mem_range.2 hi)
    simp only [pathOk, List.getD_eq_getElem?_getD, List.getElem?_eq_getElem hi, Option.getD_some, e] at this
    exact this
  · intro h i hi
    have hi := List.mem_range.1 hi
    simp only [pathOk, List.getD_eq_getElem?_getD, List.getElem?_eq_getElem hi, Option.getD_some]
    exact h _ (List.getElem_mem hi)
theorem gn_froms {s st en : Int} {E : List Ed} (h : gnB s st en E = true) : Froms E := by
  simp only [gnB, ghB, Bool.and_eq_true, decide_eq_true_eq] at h
  obtain ⟨⟨⟨⟨h1, h2⟩, h3⟩, h4⟩, h5⟩ := h
  intro e he
  rw [List.all_eq_true] at h5
  have h6 := h5 e he
  simp only [edB, Bool.and_eq_true] at h6
  have := stB_t h6.1.1
  omega
theorem set_one {st : Nat} : (bits 80 (flN [])).set st (.bool true) = bits 80 (flN [(st : Int)]) := by
  have := set80 (L := []) (y := (st : Int)) (Int.natCast_nonneg st)
  exact this
theorem i_goodPathN (a : Option Addr) (P : List Int) (c : Nat) (w : World) (hl : P.length ≤ 1048576) (R : RowN .i64 a P w) :
    Calls Try.prog 84 #[.slice a P.length c] w fun e w' => e = .returned (.bool (gpB P)) ∧ w' = w := by
  rw [← path_gp]
  exact i_goodPath a P.length c (fun i => P.getD i 0) w hl R
set_option maxRecDepth 100000 in
set_option maxHeartbeats 6400000 in
theorem i_run_yes (s st en : Int) (ae : Option Addr) (ce : Nat) (E : List Ed) (ap : Option Addr) (cp : Nat) (P : List Int) (w : World) (hg : gnB s st en E = true) (hp : gpB P = true) (hl : E.length ≤ 1048576) (hlp : P.length ≤ 1048576) (hR : RowG ae E w) (hP : RowN .i64 ap P w) :
    Calls Try.prog 39 #[.agg #[.int .i64 s, .int .i64 st, .int .i64 en, .slice ae E.length ce], .slice ap P.length cp] w fun e w' => e = .returned (.tuple #[.bool (hasN (runF E st P).1 en), .int .i64 (runF E st P).2, .bool true]) ∧ Below w.heap.size w w' := by
  have GN := hide (fun w R => i_goodNfa s st en ae ce E w (Nat.le_trans hl (by decide)) R)
  have GP := hide (fun w R => i_goodPathN ap P cp w hlp R)
  obtain ⟨hT, hst, hen, _⟩ := gn_tos hg
  have hFr := gn_froms hg
  have WF := hide (fun L w hu hi R => i_withFree L ae ce E w hl hT hFr hu hi R)
  have BN := hide (fun L num w R => i_behind L ae ce E num w hl hT hFr R)
  have CH := hide (fun L w hu hi => i_countHeld L w hu hi)
  rw [hg] at GN
  rw [hp] at GP
  obtain ⟨st, rfl⟩ : ∃ q : Nat, st = (q : Int) := ⟨st.toNat, by omega⟩
  obtain ⟨en, rfl⟩ : ∃ q : Nat, en = (q : Int) := ⟨en.toNat, by omega⟩
  have hst' : st < 80 := by omega
  have hen' : en < 80 := by omega
  have hz := zero80
  have M0 := Mut.new w #[.int .i64 s, .int .i64 st, .int .i64 en, .slice ae E.length ce] 79
  have d0 : Below w.heap.size w (w.alloc (.cells #[.int .i64 s, .int .i64 st, .int .i64 en, .slice ae E.length ce] 79)) := below_box (Below.refl _ _)
  go_enter Try.func39, Try.ntmps39
  go_wp2_with fail
  generalize w.alloc (.cells #[.int .i64 s, .int .i64 st, .int .i64 en, .slice ae E.length ce] 79) = w1 at *
  refine (GN.out _ (hR.below d0)).mono ?_
  rintro e w2 ⟨rfl, b2⟩
  replace M0 := M0.below b2
  have d2 := d0.trans (b2.mono d0.size)
  go_wp2_with fail
  refine (GP.out _ (hP.below d2)).mono ?_
  rintro e w_ ⟨rfl, hw_⟩
  rw [hw_]
  clear hw_ w_
  have n0 := M0.2.1 0 _ rfl
  have n1 := M0.2.1 1 _ rfl
  have n2 := M0.2.1 2 _ rfl
  have n3 := M0.2.1 3 _ rfl
  have lt0 := M0.1
  have so := set_one (st := st)
  have c0 := (Mut.new w2 (bits 80 (flN [])).toArray 153).2.1 st _ (bits_get hst')
  have f0 := (Mut.new w2 (bits 80 (flN [])).toArray 153).2.2 st (by show st < (bits 80 (flN [])).length; rw [bits_len]; exact hst')
  have MH := hide (Mut.new w2 (bits 80 (flN [(st : Int)])).toArray 153)
  have dH : Below w2.heap.size w2 (w2.alloc (.cells (bits 80 (flN [(st : Int)])).toArray 153)) := below_box (Below.refl _ _)
  go_wp2_with (first | (refine wpList_loadM rfl rfl rfl MH.out Try.underlying153 (size80 _) ?_))
  clear so c0 f0 n0 n1 n2 n3 hz
  have d3 := d2.trans (dH.mono d2.size)
  have M0 := M0.below dH
  generalize w2.alloc (.cells (bits 80 (flN [(st : Int)])).toArray 153) = w3 at *
  obtain ⟨hu0, hi0⟩ := up_one hst
  refine (WF.out _ _ hu0 hi0 (hR.below d3)).mono ?_
  rintro e w4 ⟨rfl, b4⟩
  have MH := hide (MH.out.below b4)
  have M0 := M0.below b4
  have d4 := d3.trans (b4.mono d3.size)
  obtain ⟨hu4, hi4⟩ := closF_ok hT hu0 hi0
  have hrun : Hid (runF E st P = walkN E P (closF E [(st : Int)], (closF E [(st : Int)]).length)) := rfl
  generalize closF E [(st : Int)] = N0 at *
  have hN0 := in_len hu4 hi4
  clear b4 d3 hu0 hi0 GN GP d2 dH
  have hlt2 : w.heap.size ≠ w2.heap.size := by omega
  generalize hbh : w2.heap.size = bh at *
  have hbh' : w.heap.size < bh := by omega
  clear hbh
  go_wp2_with (first | (refine wpList_storeM rfl rfl rfl rfl MH.out (by exact (bits_len _ _).trans (bits_len _ _).symm) (bits_one _ _) (size80 _) ?_; intro w5 hM5 hO5) | (refine wpList_loadM rfl rfl rfl hM5 Try.underlying153 (size80 _) ?_))
  have M0 := M0.only hO5 hlt2
  have d5 := d4.trans ((hO5.below (by have := MH.out.1; omega)).mono (by omega))
  clear d4 hO5 MH
  refine (CH.out _ _ hu4 hi4).mono ?_
  rintro e w6 ⟨rfl, b6⟩
  have M0 := M0.below b6
  have hM6 := hM5.below b6
  have d6 := d5.trans (b6.mono d5.size)
  clear b6 hM5 d5
  go_wp2_with fail
  go_loopw [8, 30] (fun m y wr => ∃ (k : Nat) (N : List Int) (mm : Nat), y = .int .i64 k ∧ k ≤ P.length ∧ Mut wr bh (bits 80 (flN N)) ∧ UpN N ∧ InN N ∧ m = .int .i64 mm ∧ Hid (walkN E (P.take k) (N0, N0.length) = (N, mm)) ∧ mm ≤ 80 ∧ Mut wr w.heap.size [.int .i64 s, .int .i64 st, .int .i64 en, .slice ae E.length ce] ∧ Below w.heap.size w wr) (fun _ y _ => P.length - (intOf y).toNat)
  case atStart => exact ⟨0, N0, N0.length, rfl, Nat.zero_le _, hM6, hu4, hi4, rfl, rfl, hN0, M0, d6⟩
  case round =>
    clear hM6 hu4 hi4 M0 d6 hN0
    obtain ⟨k, N, mm, rfl, hk, MN, hun, hin, rfl, hwk, hmm, Mn, hbw⟩ := hrel
    by_cases hlt : k < P.length
    · obtain ⟨b, off, rfl, hbp, e0⟩ := hP k hlt
      replace e0 := (hbw.cell (p := ⟨b, off + k, none⟩) hbp).trans e0
      have hlt' : (k : Int) < (P.length : Int) := by omega
      have hstep : Hid (walkN E (P.take (k + 1)) (N0, N0.length) = (closF E (behN E N (P.getD k 0)), max mm (closF E (behN E N (P.getD k 0))).length)) := by
        show _ = _
        rw [show P.take (k + 1) = P.take k ++ [P.getD k 0] by rw [List.take_add_one, List.getElem?_eq_getElem hlt]; simp [List.getD_eq_getElem?_getD, List.getElem?_eq_getElem hlt], walk_app, hwk.out]
        rfl
      obtain ⟨hub, hib⟩ := behN_ok N (P.getD k 0) hT
      obtain ⟨huc, hic⟩ := closF_ok hT hub hib
      clear hwk
      generalize P.getD k 0 = num at *
      generalize hB : behN E N num = NB at *
      have BN' := hide (BN.out N num)
      rw [hB] at BN'
      clear hB
      have WF' := hide (fun w R => WF.out NB w hub hib R)
      generalize closF E NB = NC at *
      have hlen := in_len huc hic
      have n3 := Mn.2.1 3 _ rfl
      have ltn := Mn.1
      have lth := MN.1
      have hMN := hide MN
      have hMn := hide Mn
      clear MN Mn
      go_wp2_with fail
      clear e0
      have hr0 : wr.drew.rangeAt bh 0 (bits 80 (flN N)) := fun j v hv => by rw [Nat.zero_add]; exact hMN.out.drew.2.1 j v hv
      have hu80 := Try.underlying153
      have hi80 := size80 (flN N)
      have hiC := size80 (flN NC)
      have hoC := bits_one 80 (flN NC)
      refine wp_region_held_drew (S := fun w' => w'.cell? ⟨w.heap.size, 3, none⟩ = some (.slice ae E.length ce)) (by kernel_rfl) (hMn.out.drew.2.1 3 _ rfl) (fun hHeld => ?_)
      refine wpAnyH_take (i := 1) (v := .pointer (some ⟨w.heap.size, 3, none⟩)) rfl (by kernel_rfl) (by kernel_rfl) (by kernel_rfl) (fun _ _ _ h => h) (Or.inl ⟨by rfl, fun w' hSw => by go_simp⟩) hHeld ?_
      simp only [List.getElem_toArray, List.getElem_cons_succ, List.getElem_cons_zero, Act.put, List.setIfInBounds_toArray, List.set_cons_zero, List.set_cons_succ]
      refine wpAnyH_take (i := 2) (v := .slice ae E.length ce) rfl (by kernel_rfl) (by kernel_rfl) (by kernel_rfl) (fun _ _ _ h => h) (Or.inl ⟨by rfl, fun w' hSw => by go_simp⟩) hHeld ?_
      simp only [List.getElem_toArray, List.getElem_cons_succ, List.getElem_cons_zero, Act.put, List.setIfInBounds_toArray, List.set_cons_zero, List.set_cons_succ]
      refine wpAnyH_take (i := 3) (v := .int .i64 num) rfl (by kernel_rfl) (by kernel_rfl) (by kernel_rfl) (fun _ _ _ h => h) (Or.inl ⟨by rfl, fun w' hSw => by go_simp⟩) hHeld ?_
      simp only [List.getElem_toArray, List.getElem_cons_succ, List.getElem_cons_zero, Act.put, List.setIfInBounds_toArray, List.set_cons_zero, List.set_cons_succ]
      refine wpAnyH_take (i := 5) (v := .pointer (some ⟨w.heap.size, 3, none⟩)) rfl (by kernel_rfl) (by kernel_rfl) (by kernel_rfl) (fun _ _ _ h => h) (Or.inl ⟨by rfl, fun w' hSw => by go_simp⟩) hHeld ?_
      simp only [List.getElem_toArray, List.getElem_cons_succ, List.getElem_cons_zero, Act.put, List.setIfInBounds_toArray, List.set_cons_zero, List.set_cons_succ]
      refine wpAnyH_take (i := 6) (v := .slice ae E.length ce) rfl (by kernel_rfl) (by kernel_rfl) (by kernel_rfl) (fun _ _ _ h => h) (Or.inl ⟨by rfl, fun w' hSw => by go_simp⟩) hHeld ?_
      simp only [List.getElem_toArray, List.getElem_cons_succ, List.getElem_cons_zero, Act.put, List.setIfInBounds_toArray, List.set_cons_zero, List.set_cons_succ]
      refine wpAnyH_ready (rs := [0]) (by kernel_rfl) (by simp) (AllReadyH.cons rfl (fun K hK => ?_) AllReadyH.nil)
      rw [if_pos (by rfl)]
      refine wp_load_mid _ _ rfl _ _ rfl _ _ hr0 hu80 rfl hi80 ?_
      refine hK.out _ _ hHeld (fun hHeld => ?_)
      clear hK K
      refine wpAnyH_ready (rs := [4]) (by kernel_rfl) (by simp) (AllReadyH.cons rfl (fun K hK => ?_) AllReadyH.nil)
      go_simp
      refine (BN'.out _ (hR.below hbw.drew)).mono ?_
      rintro e wB ⟨rfl, bB⟩
      have hMnB := hMn.out.drew.below bB
      have hMhB := hMN.out.drew.below bB
      have dB := hbw.drew.trans (bB.mono hbw.drew.size)
      refine hK.out _ _ (hMnB.2.1 3 _ rfl) (fun hHeld => ?_)
      clear hK K
      refine wpAnyH_ready (rs := [7]) (by kernel_rfl) (by simp) (AllReadyH.cons rfl (fun K hK => ?_) AllReadyH.nil)
      go_simp
      refine (WF'.out _ (hR.below dB)).mono ?_
      rintro e wW ⟨rfl, bW⟩
      have hMnW := hMnB.below bW
      have hMhW := hMhB.below bW
      have dW := dB.trans (bW.mono dB.size)
      refine hK.out _ _ (hMnW.2.1 3 _ rfl) (fun hHeld => ?_)
      clear hK K
      refine wpAnyH_ready (rs := [8]) (by kernel_rfl) (by simp) (AllReadyH.cons rfl (fun K hK => ?_) AllReadyH.nil)
      rw [if_pos (by rfl)]
      refine wp_store_mid _ _ _ rfl _ _ (bits 80 (flN NC)).toArray rfl rfl (fun j hj => ?_) hiC (all_oneCell_toArray hoC) ?_
      · have hj : j < 80 := by simpa [bits_len] using hj
        rw [Nat.zero_add, hMhW.2.1 j _ (bits_get hj)]
        exact ⟨rfl, hMhW.2.2 j (by rw [bits_len]; exact hj)⟩
      have hMS := hMhW.fill (us := bits 80 (flN NC)) (by rw [bits_len, bits_len])
      have hO := only_cells bh (bits 80 (flN NC)) 0 wW
      have hMnS := hMnW.only hO (by omega)
      have dS := dW.trans ((hO.below (by have := hMhW.1; omega)).mono (by omega))
      refine hK.out _ _ (hMnS.2.1 3 _ rfl) (fun hHeld => ?_)
      clear hK K
      refine wpAnyH_done (by kernel_rfl) ?_ _
      simp only [List.getElem_toArray, List.getElem_cons_succ, List.getElem_cons_zero, Act.put]
      clear hr0 hu80 hi80 hiC hoC hHeld hMhW hMnW dW hMnB hMhB dB bB bW hMn hMN hbw hO BN' WF'
      generalize wW.setCells bh 0 (bits 80 (flN NC)) = w8 at *
      have hCH := hide (fun w => CH.out NC w huc hic)
      have hA := hide (And.intro hMS (And.intro hMnS dS))
      clear hMS hMnS dS
      by_cases hgt : (NC.length : Int) > (mm : Int)
      · have hs : Hid (walkN E (P.take (k + 1)) (N0, N0.length) = (NC, NC.length)) := hstep.out.trans (by rw [Nat.max_eq_right (by omega)])
        clear hstep
        go_wp2_with (first | (refine wpList_loadM rfl rfl rfl hA.out.1 Try.underlying153 (size80 _) ?_))
        refine (hCH.out _).mono ?_
        rintro e w9 ⟨rfl, b9⟩
        go_wp2_with fail
        exact ⟨⟨k + 1, NC, NC.length, by go_num, by omega, hA.out.1.below b9, huc, hic, rfl, hs, hlen, hA.out.2.1.below b9, hA.out.2.2.trans (b9.mono hA.out.2.2.size)⟩, by simp [intOf]; omega⟩
      · have hs : Hid (walkN E (P.take (k + 1)) (N0, N0.length) = (NC, mm)) := hstep.out.trans (by rw [Nat.max_eq_left (by omega)])
        clear hstep
        go_wp2_with (first | (refine wpList_loadM rfl rfl rfl hA.out.1 Try.underlying153 (size80 _) ?_))
        refine (hCH.out _).mono ?_
        rintro e w9 ⟨rfl, b9⟩
        go_wp2_with fail
        exact ⟨⟨k + 1, NC, mm, by go_num, by omega, hA.out.1.below b9, huc, hic, rfl, hs, hmm, hA.out.2.1.below b9, hA.out.2.2.trans (b9.mono hA.out.2.2.size)⟩, by simp [intOf]; omega⟩
    · have hlt' : ¬ (k : Int) < (P.length : Int) := by omega
      have hRR : Hid (runF E st P = (N, mm)) := by
        have h := hwk.out
        rw [List.take_of_length_le (by omega)] at h
        exact hrun.out.trans h
      have n2 := Mn.2.1 2 _ rfl
      have cE := MN.2.1 en _ (bits_get hen')
      have hF : Hid (flN N en = hasN N (en : Int)) := rfl
      clear hwk hrun
      go_wp2_with fail
      exact bodyPost_ret (v := .tuple #[.bool (flN N en), .int .i64 mm, .bool true]) (by simp [results, Try.results39, go_sem]) rfl ⟨by rw [hRR.out, hF.out], hbw⟩
set_option maxRecDepth 100000 in
set_option maxHeartbeats 6400000 in
theorem i_run_no (s st en : Int) (ae : Option Addr) (ce : Nat) (E : List Ed) (ap : Option Addr) (cp : Nat) (P : List Int) (w : World) (hg : gnB s st en E = true) (hp : gpB P = false) (hl : E.length ≤ 1048576) (hlp : P.length ≤ 1048576) (hR : RowG ae E w) (hP : RowN .i64 ap P w) :
    Calls Try.prog 39 #[.agg #[.int .i64 s, .int .i64 st, .int .i64 en, .slice ae E.length ce], .slice ap P.length cp] w fun e w' => e = .returned (.tuple #[.bool false, .int .i64 0, .bool false]) ∧ Below w.heap.size w w' := by
  have GN := hide (fun w R => i_goodNfa s st en ae ce E w (Nat.le_trans hl (by decide)) R)
  have GP := hide (fun w R => i_goodPathN ap P cp w hlp R)
  rw [hg] at GN
  rw [hp] at GP
  have d0 : Below w.heap.size w (w.alloc (.cells #[.int .i64 s, .int .i64 st, .int .i64 en, .slice ae E.length ce] 79)) := below_box (Below.refl _ _)
  go_enter Try.func39, Try.ntmps39
  go_wp2_with fail
  generalize w.alloc (.cells #[.int .i64 s, .int .i64 st, .int .i64 en, .slice ae E.length ce] 79) = w1 at *
  refine (GN.out _ (hR.below d0)).mono ?_
  rintro e w2 ⟨rfl, b2⟩
  have d2 := d0.trans (b2.mono d0.size)
  go_wp2_with fail
  refine (GP.out _ (hP.below d2)).mono ?_
  rintro e w_ ⟨rfl, hw_⟩
  rw [hw_]
  clear hw_ w_
  go_wp2_with fail
  exact bodyPost_ret (v := .tuple #[.bool false, .int .i64 0, .bool false]) (by simp [results, Try.results39, go_sem]) rfl ⟨rfl, d2⟩
set_option maxRecDepth 100000 in
set_option maxHeartbeats 6400000 in
theorem i_run_bad (s st en : Int) (ae : Option Addr) (ce : Nat) (E : List Ed) (ap : Option Addr) (cp n : Nat) (w : World) (hg : gnB s st en E = false) (hl : E.length ≤ 1048576) (hR : RowG ae E w) :
    Calls Try.prog 39 #[.agg #[.int .i64 s, .int .i64 st, .int .i64 en, .slice ae E.length ce], .slice ap n cp] w fun e w' => e = .returned (.tuple #[.bool false, .int .i64 0, .bool false]) ∧ Below w.heap.size w w' := by
  have GN := hide (fun w R => i_goodNfa s st en ae ce E w (Nat.le_trans hl (by decide)) R)
  rw [hg] at GN
  have d0 : Below w.heap.size w (w.alloc (.cells #[.int .i64 s, .int .i64 st, .int .i64 en, .slice ae E.length ce] 79)) := below_box (Below.refl _ _)
  go_enter Try.func39, Try.ntmps39
  go_wp2_with fail
  generalize w.alloc (.cells #[.int .i64 s, .int .i64 st, .int .i64 en, .slice ae E.length ce] 79) = w1 at *
  refine (GN.out _ (hR.below d0)).mono ?_
  rintro e w2 ⟨rfl, b2⟩
  have d2 := d0.trans (b2.mono d0.size)
  go_wp2_with fail
  exact bodyPost_ret (v := .tuple #[.bool false, .int .i64 0, .bool false]) (by simp [results, Try.results39, go_sem]) rfl ⟨rfl, d2⟩
theorem i_runNfa (s st en : Int) (ae : Option Addr) (ce : Nat) (E : List Ed) (ap : Option Addr) (cp : Nat) (P : List Int) (w : World) (hl : E.length ≤ 1048576) (hlp : P.length ≤ 1048576) (hR : RowG ae E w) (hP : RowN .i64 ap P w) :
    Calls Try.prog 39 #[.agg #[.int .i64 s, .int .i64 st, .int .i64 en, .slice ae E.length ce], .slice ap P.length cp] w fun e w' => e = .returned (.tuple #[.bool (rnB s st en E P), .int .i64 (rnM s st en E P), .bool (rnG s st en E P)]) ∧ Below w.heap.size w w' := by
  cases hg : gnB s st en E with
  | false =>
    rw [rnB, rnM, rnG, hg]
    exact i_run_bad s st en ae ce E ap cp P.length w hg hl hR
  | true =>
    cases hp : gpB P with
    | false =>
      rw [rnB, rnM, rnG, hg, hp]
      exact i_run_no s st en ae ce E ap cp P w hg hp hl hlp hR hP
    | true =>
      rw [rnB, rnM, rnG, hg, hp]
      exact i_run_yes s st en ae ce E ap cp P w hg hp hl hlp hR hP
end Go.Proofs.Ytocgghhlfmgndaa
