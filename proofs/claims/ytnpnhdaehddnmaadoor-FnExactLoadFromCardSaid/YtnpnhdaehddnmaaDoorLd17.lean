/- l17Load, LoadFrom of the specification. -/
import Derived.Test.YtnpnhdaehddnmaaDoorNw17
namespace Go.Proofs.YtnpnhdaehddnmaaDoor
open Go.RowKit

set_option maxRecDepth 100000 in
set_option maxHeartbeats 1600000 in
theorem s_l17Load0 (a b : Option Addr) (c e : Nat) (d : Dk) (w : World) (hg : GD17 d) (hR : RowD a b d w) (hh : nwI d = 0) (hk : RdOk (d.f 8)) :
    Calls Tryd.prog 22 #[.agg #[.slice a d.n c, .slice b d.m e]] w fun e w' => e = .returned (.tuple #[.string (ldH d 0).1, .int .i64 (ldH d 0).2.1, .bool (ldH d 0).2.2]) ∧ Below w.heap.size w w' := by
  have NW := hide (fun w R => s_l17Newest a b c e d w hg R)
  rw [hh] at NW
  obtain ⟨h10, _, hsz, _⟩ := hg
  have LR := hide (fun w => s_l17Read (d.f 8) w (by have := hsz 8 (by omega); omega))
  rw [rdA_ok hk, decide_eq_true hk] at LR
  have hb := rd_bd (d.f 8)
  have hL72 := hk.2.2.2
  obtain ⟨r, hr⟩ : ∃ r, Hid (ldH d 0 = r) := ⟨_, hide rfl⟩
  rw [hr.out]
  obtain ⟨n, hn⟩ : ∃ n : Nat, rdL (d.f 8) = (n : Int) := ⟨(rdL (d.f 8)).toNat, by omega⟩
  have hr2 : Hid ((if ((txB d.f 0 4).size : Int) < (n : Int) then (⟨#[]⟩, 0, false) else ((txB d.f 0 4).extract 0 n, rdN (d.f 8), true)) = r) := by
    show _ = _
    rw [← hr.out]
    unfold ldH
    rw [show (8 + 0 : Nat) = 8 from rfl, show (4 * 0 : Nat) = 0 from rfl, hn]
    rfl
  rw [hn] at LR hL72
  have hn72 : n ≤ 72 := by omega
  clear hr hb hn hk hL72
  generalize rdN (d.f 8) = xn at *
  have hf : Hid (∀ j, j < 4 → ∃ ba off, a = some ⟨ba, off, none⟩ ∧ ba < w.heap.size ∧ w.cell? ⟨ba, off + j, none⟩ = some (.string (d.f j)) ∧ (d.f j).size ≤ 20) := fun j hj => by
    obtain ⟨ba, off, e1, e2, e3⟩ := hR.1 j (by omega)
    exact ⟨ba, off, e1, e2, e3, hsz _ (by omega)⟩
  obtain ⟨ba, off, rfl, hba, c8⟩ := hR.1 8 (by omega)
  have hn8 : (8 : Int) < (d.n : Int) := by omega
  have hm8 : 8 < d.n := by omega
  have hm7 : 0 + 4 ≤ d.n := by omega
  have M := Mut.new w #[.slice (some ⟨ba, off, none⟩) d.n c, .slice b d.m e] 31
  have d0 : Below w.heap.size w (w.alloc (.cells #[.slice (some ⟨ba, off, none⟩) d.n c, .slice b d.m e] 31)) := below_box (Below.refl _ _)
  have m0 := M.2.1 0 _ rfl
  have m1 := M.2.1 1 _ rfl
  clear hsz h10 hh
  go_enter Tryd.func22, Tryd.ntmps22
  go_wp2_with fail
  generalize w.alloc (.cells #[.slice (some ⟨ba, off, none⟩) d.n c, .slice b d.m e] 31) = w0 at *
  refine (NW.out _ (hR.below d0)).mono ?_
  rintro ex w1 ⟨rfl, b1⟩
  have d1 := below_step d0 b1
  replace M := M.below b1
  have c81 := (d1.cell (p := ⟨ba, off + 8, none⟩) hba).trans c8
  have mm := M.2.1 0 _ rfl
  clear c8 m0 m1 d0 b1 NW hR
  go_wp2_with fail
  refine (LR.out _).mono ?_
  rintro ex w2 ⟨rfl, b2⟩
  have d2 := below_step d1 b2
  have mm2 := (M.below b2).2.1 0 _ rfl
  clear mm c81 d1 b2 M LR
  go_wp2_with fail
  go_loop [9, 10, 11] (fun s y _ => ∃ j : Nat, y = .int .i64 j ∧ j ≤ 4 ∧ s = .string (txB d.f 0 j)) (fun _ y _ => 4 - (intOf y).toNat)
  case atStart => exact ⟨0, rfl, Nat.zero_le _, rfl⟩
  case round =>
    obtain ⟨j, rfl, hj, rfl⟩ := hrel
    by_cases hlt : j < 4
    · obtain ⟨ba', off', ea, hbw, cj, hs20⟩ := hf.out j hlt
      simp only [Option.some.injEq, Addr.mk.injEq, and_true] at ea
      obtain ⟨rfl, rfl⟩ := ea
      have cj2 := (d2.cell (p := ⟨ba, off + j, none⟩) hbw).trans cj
      have hlt' : (j : Int) < 4 := by omega
      have hi1 : (j : Int) < (d.n : Int) := by omega
      have hi0 : ¬ ((j : Int) < 0) := by omega
      have hT := txB_size d.f 0 j
      have hT2 : (txB d.f 0 j).size ≤ 72 := by omega
      have hT1 := hide (show txB d.f 0 (j + 1) = txB d.f 0 j ++ piB (d.f j) by show _ ++ piB (d.f (0 + j)) = _; rw [Nat.zero_add])
      clear hf hT hr2 cj
      generalize d.f j = s at *
      generalize txB d.f 0 j = T at *
      by_cases h18 : s.size ≤ 18
      · have h18' : ¬ ((s.size : Int) > 18) := by omega
        have hp : piB s = s := if_pos h18
        rw [hp] at hT1
        go_wp2_with fail
        exact ⟨⟨j + 1, by go_num, by omega, by rw [hT1.out]⟩, by simp [intOf]; omega⟩
      · have h18' : (s.size : Int) > 18 := by omega
        have hp : piB s = s.extract 0 18 := if_neg h18
        have hsz2 : (s.extract 0 18).size ≤ 18 := by rw [ByteArray.size_extract]; omega
        rw [hp] at hT1
        go_wp2_with fail
        exact ⟨⟨j + 1, by go_num, by omega, by rw [hT1.out]⟩, by simp [intOf]; omega⟩
    · obtain rfl : j = 4 := by omega
      clear hf
      generalize txB d.f 0 4 = T at *
      by_cases hlt2 : (T.size : Int) < (n : Int)
      · have e1 := hr2.out
        rw [if_pos hlt2] at e1
        subst e1
        clear hr2
        go_wp2_with fail
        exact bodyPost_ret (v := .tuple #[.string ⟨#[]⟩, .int .i64 0, .bool false]) (by simp [results, Tryd.results22, go_sem]) rfl ⟨rfl, d2⟩
      · have e1 := hr2.out
        rw [if_neg hlt2] at e1
        subst e1
        have hle : n ≤ T.size := by omega
        clear hr2
        go_wp2_with fail
        exact bodyPost_ret (v := .tuple #[.string (T.extract 0 n), .int .i64 xn, .bool true]) (by simp [results, Tryd.results22, go_sem]) rfl ⟨rfl, d2⟩
set_option maxRecDepth 100000 in
set_option maxHeartbeats 1600000 in
theorem s_l17Load1 (a b : Option Addr) (c e : Nat) (d : Dk) (w : World) (hg : GD17 d) (hR : RowD a b d w) (hh : nwI d = 1) (hk : RdOk (d.f 9)) :
    Calls Tryd.prog 22 #[.agg #[.slice a d.n c, .slice b d.m e]] w fun e w' => e = .returned (.tuple #[.string (ldH d 1).1, .int .i64 (ldH d 1).2.1, .bool (ldH d 1).2.2]) ∧ Below w.heap.size w w' := by
  have NW := hide (fun w R => s_l17Newest a b c e d w hg R)
  rw [hh] at NW
  obtain ⟨h10, _, hsz, _⟩ := hg
  have LR := hide (fun w => s_l17Read (d.f 9) w (by have := hsz 9 (by omega); omega))
  rw [rdA_ok hk, decide_eq_true hk] at LR
  have hb := rd_bd (d.f 9)
  have hL72 := hk.2.2.2
  obtain ⟨r, hr⟩ : ∃ r, Hid (ldH d 1 = r) := ⟨_, hide rfl⟩
  rw [hr.out]
  obtain ⟨n, hn⟩ : ∃ n : Nat, rdL (d.f 9) = (n : Int) := ⟨(rdL (d.f 9)).toNat, by omega⟩
  have hr2 : Hid ((if ((txB d.f 4 4).size : Int) < (n : Int) then (⟨#[]⟩, 0, false) else ((txB d.f 4 4).extract 0 n, rdN (d.f 9), true)) = r) := by
    show _ = _
    rw [← hr.out]
    unfold ldH
    rw [show (8 + 1 : Nat) = 9 from rfl, show (4 * 1 : Nat) = 4 from rfl, hn]
    rfl
  rw [hn] at LR hL72
  have hn72 : n ≤ 72 := by omega
  clear hr hb hn hk hL72
  generalize rdN (d.f 9) = xn at *
  have hf : Hid (∀ j, j < 4 → ∃ ba off, a = some ⟨ba, off, none⟩ ∧ ba < w.heap.size ∧ w.cell? ⟨ba, off + (4 + j), none⟩ = some (.string (d.f (4 + j))) ∧ (d.f (4 + j)).size ≤ 20) := fun j hj => by
    obtain ⟨ba, off, e1, e2, e3⟩ := hR.1 (4 + j) (by omega)
    exact ⟨ba, off, e1, e2, e3, hsz _ (by omega)⟩
  obtain ⟨ba, off, rfl, hba, c8⟩ := hR.1 9 (by omega)
  have hn8 : (9 : Int) < (d.n : Int) := by omega
  have hm8 : 9 < d.n := by omega
  have hm7 : 4 + 4 ≤ d.n := by omega
  have M := Mut.new w #[.slice (some ⟨ba, off, none⟩) d.n c, .slice b d.m e] 31
  have d0 : Below w.heap.size w (w.alloc (.cells #[.slice (some ⟨ba, off, none⟩) d.n c, .slice b d.m e] 31)) := below_box (Below.refl _ _)
  have m0 := M.2.1 0 _ rfl
  have m1 := M.2.1 1 _ rfl
  clear hsz h10 hh
  go_enter Tryd.func22, Tryd.ntmps22
  go_wp2_with fail
  generalize w.alloc (.cells #[.slice (some ⟨ba, off, none⟩) d.n c, .slice b d.m e] 31) = w0 at *
  refine (NW.out _ (hR.below d0)).mono ?_
  rintro ex w1 ⟨rfl, b1⟩
  have d1 := below_step d0 b1
  replace M := M.below b1
  have c81 := (d1.cell (p := ⟨ba, off + 9, none⟩) hba).trans c8
  have mm := M.2.1 0 _ rfl
  clear c8 m0 m1 d0 b1 NW hR
  go_wp2_with fail
  refine (LR.out _).mono ?_
  rintro ex w2 ⟨rfl, b2⟩
  have d2 := below_step d1 b2
  have mm2 := (M.below b2).2.1 0 _ rfl
  clear mm c81 d1 b2 M LR
  go_wp2_with fail
  go_loop [9, 10, 11] (fun s y _ => ∃ j : Nat, y = .int .i64 j ∧ j ≤ 4 ∧ s = .string (txB d.f 4 j)) (fun _ y _ => 4 - (intOf y).toNat)
  case atStart => exact ⟨0, rfl, Nat.zero_le _, rfl⟩
  case round =>
    obtain ⟨j, rfl, hj, rfl⟩ := hrel
    by_cases hlt : j < 4
    · obtain ⟨ba', off', ea, hbw, cj, hs20⟩ := hf.out j hlt
      simp only [Option.some.injEq, Addr.mk.injEq, and_true] at ea
      obtain ⟨rfl, rfl⟩ := ea
      have cj2 := (d2.cell (p := ⟨ba, off + (4 + j), none⟩) hbw).trans cj
      have hlt' : (j : Int) < 4 := by omega
      have hi1 : (4 + (j : Int)) < (d.n : Int) := by omega
      have hi0 : ¬ ((4 + (j : Int)) < 0) := by omega
      have hT := txB_size d.f 4 j
      have hT2 : (txB d.f 4 j).size ≤ 72 := by omega
      have hT1 := hide (show txB d.f 4 (j + 1) = txB d.f 4 j ++ piB (d.f (4 + j)) from rfl)
      clear hf hT hr2 cj
      generalize d.f (4 + j) = s at *
      generalize txB d.f 4 j = T at *
      by_cases h18 : s.size ≤ 18
      · have h18' : ¬ ((s.size : Int) > 18) := by omega
        have hp : piB s = s := if_pos h18
        rw [hp] at hT1
        go_wp2_with fail
        exact ⟨⟨j + 1, by go_num, by omega, by rw [hT1.out]⟩, by simp [intOf]; omega⟩
      · have h18' : (s.size : Int) > 18 := by omega
        have hp : piB s = s.extract 0 18 := if_neg h18
        have hsz2 : (s.extract 0 18).size ≤ 18 := by rw [ByteArray.size_extract]; omega
        rw [hp] at hT1
        go_wp2_with fail
        exact ⟨⟨j + 1, by go_num, by omega, by rw [hT1.out]⟩, by simp [intOf]; omega⟩
    · obtain rfl : j = 4 := by omega
      clear hf
      generalize txB d.f 4 4 = T at *
      by_cases hlt2 : (T.size : Int) < (n : Int)
      · have e1 := hr2.out
        rw [if_pos hlt2] at e1
        subst e1
        clear hr2
        go_wp2_with fail
        exact bodyPost_ret (v := .tuple #[.string ⟨#[]⟩, .int .i64 0, .bool false]) (by simp [results, Tryd.results22, go_sem]) rfl ⟨rfl, d2⟩
      · have e1 := hr2.out
        rw [if_neg hlt2] at e1
        subst e1
        have hle : n ≤ T.size := by omega
        clear hr2
        go_wp2_with fail
        exact bodyPost_ret (v := .tuple #[.string (T.extract 0 n), .int .i64 xn, .bool true]) (by simp [results, Tryd.results22, go_sem]) rfl ⟨rfl, d2⟩
set_option maxRecDepth 100000 in
set_option maxHeartbeats 1600000 in
theorem s_l17Load (a b : Option Addr) (c e : Nat) (d : Dk) (w : World) (hg : GD17 d) (hR : RowD a b d w) :
    Calls Tryd.prog 22 #[.agg #[.slice a d.n c, .slice b d.m e]] w fun e w' => e = .returned (.tuple #[.string (ldA d).1, .int .i64 (ldA d).2.1, .bool (ldA d).2.2]) ∧ Below w.heap.size w w' := by
  rcases nwI_bd d with h | h | h
  · have e1 : ldA d = ldH d 0 := by unfold ldA; rw [h]; rfl
    rw [e1]
    exact s_l17Load0 a b c e d w hg hR h (nwI_zero h)
  · have e1 : ldA d = ldH d 1 := by unfold ldA; rw [h]; rfl
    rw [e1]
    exact s_l17Load1 a b c e d w hg hR h (nwI_one h)
  · have e1 : ldA d = (⟨#[]⟩, 0, false) := by unfold ldA; rw [h]; rfl
    rw [e1]
    have NW := hide (fun w R => s_l17Newest a b c e d w hg R)
    rw [h] at NW
    have M := Mut.new w #[.slice a d.n c, .slice b d.m e] 31
    have d0 : Below w.heap.size w (w.alloc (.cells #[.slice a d.n c, .slice b d.m e] 31)) := below_box (Below.refl _ _)
    have m0 := M.2.1 0 _ rfl
    have m1 := M.2.1 1 _ rfl
    go_enter Tryd.func22, Tryd.ntmps22
    go_wp2_with fail
    generalize w.alloc (.cells #[.slice a d.n c, .slice b d.m e] 31) = w0 at *
    refine (NW.out _ (hR.below d0)).mono ?_
    rintro ex w1 ⟨rfl, b1⟩
    have d1 := below_step d0 b1
    clear m0 m1 M d0 b1 NW
    go_wp2_with fail
    exact bodyPost_ret (v := .tuple #[.string ⟨#[]⟩, .int .i64 0, .bool false]) (by simp [results, Tryd.results22, go_sem]) rfl ⟨rfl, d1⟩
/-- What LoadFrom answers. -/
noncomputable def lfA (d : Dk) : ByteArray × Int × Bool := @ite _ (GD17 d) (Classical.propDecidable _) (ldA d) (⟨#[]⟩, 0, false)
theorem lfA_t {d : Dk} (h : GD17 d) : lfA d = ldA d := by unfold lfA; rw [if_pos h]
theorem lfA_f {d : Dk} (h : ¬ GD17 d) : lfA d = (⟨#[]⟩, 0, false) := by unfold lfA; rw [if_neg h]
set_option maxRecDepth 100000 in
set_option maxHeartbeats 1600000 in
theorem s_loadFrom (a b : Option Addr) (c e : Nat) (d : Dk) (w : World) (hl : LowD d) (hR : RowD a b d w) :
    Calls Tryd.prog 7 #[.agg #[.slice a d.n c, .slice b d.m e]] w fun e w' => e = .returned (.tuple #[.string (lfA d).1, .int .i64 (lfA d).2.1, .bool (lfA d).2.2]) ∧ Below w.heap.size w w' := by
  have GO := hide (fun w R => s_goodDisk a b c e d w hl R)
  have M := Mut.new w #[.slice a d.n c, .slice b d.m e] 31
  have d0 : Below w.heap.size w (w.alloc (.cells #[.slice a d.n c, .slice b d.m e] 31)) := below_box (Below.refl _ _)
  have m0 := M.2.1 0 _ rfl
  have m1 := M.2.1 1 _ rfl
  obtain ⟨r, hr⟩ : ∃ r, r = lfA d := ⟨_, rfl⟩
  rw [← hr]
  clear hl
  go_enter Tryd.func7, Tryd.ntmps7
  go_wp2_with fail
  generalize w.alloc (.cells #[.slice a d.n c, .slice b d.m e] 31) = w0 at *
  refine (GO.out _ (hR.below d0)).mono ?_
  rintro ex w1 ⟨rfl, b1⟩
  have d1 := below_step d0 b1
  replace M := M.below b1
  clear m0 m1 d0 b1 GO
  have m0 := M.2.1 0 _ rfl
  have m1 := M.2.1 1 _ rfl
  by_cases hg : GD17 d
  case neg =>
    rw [gD_f hg]
    obtain rfl := hr.trans (lfA_f hg)
    clear hr
    go_wp2_with fail
    exact bodyPost_ret (v := .tuple #[.string ⟨#[]⟩, .int .i64 0, .bool false]) (by simp [results, Tryd.results7, go_sem]) rfl ⟨rfl, d1⟩
  rw [gD_t hg]
  obtain rfl := hr.trans (lfA_t hg)
  clear hr
  have LD := hide (fun w R => s_l17Load a b c e d w hg R)
  obtain ⟨t, x, bo, e0⟩ : ∃ t x bo, Hid (ldA d = (t, x, bo)) := ⟨_, _, _, hide rfl⟩
  rw [e0.out] at LD
  go_wp2_with fail
  refine (LD.out _ (hR.below d1)).mono ?_
  rintro ex w2 ⟨rfl, b2⟩
  have d2 := below_step d1 b2
  go_wp2_with fail
  exact bodyPost_ret (v := .tuple #[.string t, .int .i64 x, .bool bo]) (by simp [results, Tryd.results7, go_sem]) rfl ⟨by rw [e0.out], d2⟩
end Go.Proofs.YtnpnhdaehddnmaaDoor
