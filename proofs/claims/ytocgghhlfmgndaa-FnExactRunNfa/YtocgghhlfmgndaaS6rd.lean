/- What the specification's RunNfa answers. -/
import Derived.Test.YtocgghhlfmgndaaS6rc
import Derived.Test.YtocgghhlfmgndaaS6n
namespace Go.Proofs.Ytocgghhlfmgndaa
open Go.RowKit

theorem gn_tos {s st en : Int} {E : List Ed} (h : gnB s st en E = true) : Tos E ∧ (0 ≤ st ∧ st < 80) ∧ (0 ≤ en ∧ en < 80) ∧ E.length ≤ 200 := by
  simp only [gnB, ghB, Bool.and_eq_true, decide_eq_true_eq] at h
  obtain ⟨⟨⟨⟨h1, h2⟩, h3⟩, h4⟩, h5⟩ := h
  have := stB_t h2
  have := stB_t h3
  refine ⟨fun e he => ?_, by omega, by omega, h4⟩
  rw [List.all_eq_true] at h5
  have h6 := h5 e he
  simp only [edB, Bool.and_eq_true] at h6
  have := stB_t h6.1.2
  omega
def runF (E : List Ed) (st : Int) (P : List Int) : List Int × Nat := walkN E P (closF E [st], (closF E [st]).length)
def rnG (s st en : Int) (E : List Ed) (P : List Int) : Bool := gnB s st en E && gpB P
def rnB (s st en : Int) (E : List Ed) (P : List Int) : Bool := rnG s st en E P && hasN (runF E st P).1 en
def rnM (s st en : Int) (E : List Ed) (P : List Int) : Int := if rnG s st en E P then (runF E st P).2 else 0
theorem walk_app (E : List Ed) (P Q : List Int) (x : List Int × Nat) : walkN E (P ++ Q) x = walkN E Q (walkN E P x) := by
  induction P generalizing x with
  | nil => rfl
  | cons p P ih => exact ih _
theorem up_one {x : Int} (h : 0 ≤ x ∧ x < 80) : UpN [x] ∧ InN [x] := ⟨List.pairwise_singleton _ _, fun y hy => by rw [List.mem_singleton] at hy; subst hy; exact h⟩
theorem fold_take {α : Type} (f : α → Ed → α) (o : α) {E : List Ed} {k : Nat} (hk : k < E.length) : (E.take (k + 1)).foldl f o = f ((E.take k).foldl f o) (gAt E k) := by
  rw [List.take_add_one, List.getElem?_eq_getElem hk]
  simp only [Option.toList_some, List.foldl_append, List.foldl_cons, List.foldl_nil]
  congr 1
  simp [gAt, List.getElem?_eq_getElem hk]
set_option maxRecDepth 100000 in
set_option maxHeartbeats 6400000 in
theorem s_run_yes (s st en : Int) (ae : Option Addr) (ce : Nat) (E : List Ed) (ap : Option Addr) (cp : Nat) (P : List Int) (w : World) (hg : gnB s st en E = true) (hp : gpB P = true) (hl : E.length ≤ 1048576) (hlp : P.length ≤ 1048576) (hR : RowG ae E w) (hP : RowN .i64 ap P w) :
    Calls Try.prog 37 #[.agg #[.int .i64 s, .int .i64 st, .int .i64 en, .slice ae E.length ce], .slice ap P.length cp] w fun e w' => e = .returned (.tuple #[.bool (hasN (runF E st P).1 en), .int .i64 (runF E st P).2, .bool true]) ∧ Below w.heap.size w w' := by
  have GN := hide (fun w R => s_goodNfa s st en ae ce E w (Nat.le_trans hl (by decide)) R)
  have GP := hide (fun w R => s_l6Path ap P cp w hlp R)
  obtain ⟨hT, hst, hen, _⟩ := gn_tos hg
  have CL := hide (fun v L w R H => s_closed s st en ae ce E v L w hl hT R H)
  rw [hg] at GN
  rw [hp] at GP
  have M0 := Mut.new w #[.int .i64 s, .int .i64 st, .int .i64 en, .slice ae E.length ce] 79
  have d0 : Below w.heap.size w (w.alloc (.cells #[.int .i64 s, .int .i64 st, .int .i64 en, .slice ae E.length ce] 79)) := below_box (Below.refl _ _)
  go_enter Try.func37, Try.ntmps37
  go_wp2_with fail
  generalize w.alloc (.cells #[.int .i64 s, .int .i64 st, .int .i64 en, .slice ae E.length ce] 79) = w1 at *
  refine (GN.out _ (hR.below d0)).mono ?_
  rintro e w2 ⟨rfl, b2⟩
  replace M0 := M0.below b2
  have d2 := d0.trans (b2.mono d0.size)
  go_wp2_with fail
  refine (GP.out _ (hP.below d2)).mono ?_
  rintro e w_ ⟨rfl, hw_⟩
  rw [hw_]
  clear hw_ w_
  have n0 := M0.2.1 0 _ rfl
  have n1 := M0.2.1 1 _ rfl
  have n2 := M0.2.1 2 _ rfl
  have n3 := M0.2.1 3 _ rfl
  go_wp2_with fail
  have bx : Below w2.heap.size w2 (w2.alloc (.cells #[.int .i64 st] 3)) := below_box (Below.refl _ _)
  have hsrc := src1r w2 st 3
  have d3 := d2.trans (bx.mono d2.size)
  refine (CL.out _ [st] _ (hR.below d3) ⟨_, _, rfl, Nat.le_refl _, hsrc, (up_one hst).1, (up_one hst).2⟩).mono ?_
  rintro e w4 ⟨v4, rfl, H4, b4⟩
  have M4 := (M0.below bx).below b4
  have d4 := d3.trans (b4.mono d3.size)
  obtain ⟨a4, c4, rfl, hc4, S4, hu4, hi4⟩ := H4
  clear n0 n1 n2 n3 M0 bx hsrc d3 b4 GN GP d0 b2 d2
  have hrun : Hid (runF E st P = walkN E P (closF E [st], (closF E [st]).length)) := rfl
  generalize closF E [st] = N0 at *
  have hN0 := in_len hu4 hi4
  go_wp2_with fail
  go_loopw [7, 8, 31] (fun v m i wr => ∃ (k : Nat) (N : List Int) (mm : Nat), i = .int .i64 k ∧ k ≤ P.length ∧ HeldN v N wr ∧ m = .int .i64 mm ∧ Hid (walkN E (P.take k) (N0, N0.length) = (N, mm)) ∧ mm ≤ 80 ∧ Mut wr w.heap.size [.int .i64 s, .int .i64 st, .int .i64 en, .slice ae E.length ce] ∧ Below w.heap.size w wr) (fun _ _ i _ => P.length - (intOf i).toNat)
  case atStart => exact ⟨0, N0, N0.length, rfl, Nat.zero_le _, ⟨a4, c4, rfl, hc4, S4, hu4, hi4⟩, rfl, rfl, hN0, M4, d4⟩
  case round =>
    clear S4 hu4 hi4 hc4 M4 d4 hN0
    obtain ⟨k, N, mm, rfl, hk, ⟨an, cn, rfl, hcn, Sn, hun, hin⟩, rfl, hwk, hmm, Mn, hbw⟩ := hrel
    by_cases hlt : k < P.length
    · obtain ⟨b, off, rfl, hbp, e0⟩ := hP k hlt
      replace e0 := (hbw.cell (p := ⟨b, off + k, none⟩) hbp).trans e0
      have hlt' : (k : Int) < (P.length : Int) := by omega
      have hstep : Hid (walkN E (P.take (k + 1)) (N0, N0.length) = (closF E (behN E N (P.getD k 0)), max mm (closF E (behN E N (P.getD k 0))).length)) := by
        show _ = _
        rw [show P.take (k + 1) = P.take k ++ [P.getD k 0] by rw [List.take_add_one, List.getElem?_eq_getElem hlt]; simp [List.getD_eq_getElem?_getD, List.getElem?_eq_getElem hlt], walk_app, hwk.out]
        rfl
      have hbo := hide (behN_ok N (P.getD k 0) hT)
      clear hwk
      generalize P.getD k 0 = num at *
      have n3 := Mn.2.1 3 _ rfl
      have hHA := hide (fun x w R => s_l1Has an N cn x w (Nat.le_trans (in_len hun hin) (by decide)) R)
      have hcnh := hide hcn
      clear hun hin hcn
      go_wp2_with fail
      clear n3 e0
      go_loopw [11, 38] (fun v y wr => ∃ k2 : Nat, y = .int .i64 k2 ∧ k2 ≤ E.length ∧ HeldN v ((E.take k2).foldl (stepB N num) []) wr ∧ SrcN .i64 an N cn wr ∧ Mut wr w.heap.size [.int .i64 s, .int .i64 st, .int .i64 en, .slice ae E.length ce] ∧ Below w.heap.size w wr) (fun _ y _ => E.length - (intOf y).toNat)
      case atStart => exact ⟨0, rfl, Nat.zero_le _, ⟨none, 0, rfl, Nat.le_refl _, ⟨RowN.nil _ _ _, .inl ⟨rfl, rfl, rfl⟩⟩, List.Pairwise.nil, fun x hx => absurd hx List.not_mem_nil⟩, Sn, Mn, hbw⟩
      case round =>
        clear Sn Mn hbw
        obtain ⟨k2, rfl, hk2, ⟨a2, c2, rfl, hc2, S2, hu2, hi2⟩, N2, M2, hb2⟩ := hrel
        by_cases hlt2 : k2 < E.length
        · obtain ⟨b5, off5, rfl, hb5, u0, u1, u2, u3, u4⟩ := hR k2 hlt2
          replace u0 := (hb2.cell (p := ⟨b5, off5 + k2 * 5, none⟩) hb5).trans u0
          replace u1 := (hb2.cell (p := ⟨b5, off5 + k2 * 5 + 1, none⟩) hb5).trans u1
          replace u2 := (hb2.cell (p := ⟨b5, off5 + k2 * 5 + 2, none⟩) hb5).trans u2
          replace u3 := (hb2.cell (p := ⟨b5, off5 + k2 * 5 + 3, none⟩) hb5).trans u3
          replace u4 := (hb2.cell (p := ⟨b5, off5 + k2 * 5 + 4, none⟩) hb5).trans u4
          have hlt2' : (k2 : Int) < (E.length : Int) := by omega
          have hst2 := hide (fold_take (stepB N num) [] hlt2)
          have hto := hide (hT _ (gAt_mem hlt2))
          have hln := in_len hu2 hi2
          generalize (E.take k2).foldl (stepB N num) [] = L2 at *
          generalize gAt E k2 = ed at *
          obtain ⟨x, y, f, bb, n⟩ := ed
          simp only at u0 u1 u2 u3 u4
          have HA := hide (hHA.out x)
          have PU := hide (fun w R => s_l1Put a2 L2 c2 y w (by omega) hc2 R)
          have hU := hide (And.intro hu2 hi2)
          have hC := hide hc2
          clear hln hu2 hi2 hc2
          cases f with
          | true =>
            have hs2 : Hid ((E.take (k2 + 1)).foldl (stepB N num) [] = L2) := hst2.out.trans (by simp [stepB])

            have M2' := hide (M2.alloc (.cells #[.int .i64 x, .int .i64 y, .bool true, .bool bb, .int .i64 n] 149))
            have dE := hide (hb2.alloc hb2.size (.cells #[.int .i64 x, .int .i64 y, .bool true, .bool bb, .int .i64 n] 149))
            have S2' := hide (S2.below (below_box (Below.refl _ _) : Below _ _ (World.alloc _ (.cells #[.int .i64 x, .int .i64 y, .bool true, .bool bb, .int .i64 n] 149))))
            have N2' := hide (N2.below (below_box (Below.refl _ _) : Below _ _ (World.alloc _ (.cells #[.int .i64 x, .int .i64 y, .bool true, .bool bb, .int .i64 n] 149))))
            clear M2 S2 hb2 N2
            go_wp2_with fail
            exact ⟨⟨k2 + 1, by go_num, by omega, by rw [hs2.out]; exact ⟨a2, c2, rfl, hC.out, S2'.out, hU.out.1, hU.out.2⟩, N2'.out, M2'.out, dE.out⟩, by simp [intOf]; omega⟩
          | false =>
            cases hh : hasN N x with
            | false =>
              rw [hh] at HA
              have hs2 : Hid ((E.take (k2 + 1)).foldl (stepB N num) [] = L2) := hst2.out.trans (by simp [stepB, hh])
              clear hh
              have M2' := hide (M2.alloc (.cells #[.int .i64 x, .int .i64 y, .bool false, .bool bb, .int .i64 n] 149))
              have dE := hide (hb2.alloc hb2.size (.cells #[.int .i64 x, .int .i64 y, .bool false, .bool bb, .int .i64 n] 149))
              have S2' := hide (S2.below (below_box (Below.refl _ _) : Below _ _ (World.alloc _ (.cells #[.int .i64 x, .int .i64 y, .bool false, .bool bb, .int .i64 n] 149))))
              have N2' := hide (N2.below (below_box (Below.refl _ _) : Below _ _ (World.alloc _ (.cells #[.int .i64 x, .int .i64 y, .bool false, .bool bb, .int .i64 n] 149))))
              clear M2 S2 hb2 N2
              go_wp2_with fail
              refine (HA.out _ N2'.out.1).mono ?_
              rintro e w_ ⟨rfl, hw_⟩
              rw [hw_]
              clear hw_ w_
              go_wp2_with fail
              exact ⟨⟨k2 + 1, by go_num, by omega, by rw [hs2.out]; exact ⟨a2, c2, rfl, hC.out, S2'.out, hU.out.1, hU.out.2⟩, N2'.out, M2'.out, dE.out⟩, by simp [intOf]; omega⟩
            | true =>
              rw [hh] at HA
              cases bb with
              | true =>
                have hs2 : Hid ((E.take (k2 + 1)).foldl (stepB N num) [] = putN L2 y) := hst2.out.trans (by simp [stepB, hh])
                clear hh
                have M2' := hide (M2.alloc (.cells #[.int .i64 x, .int .i64 y, .bool false, .bool true, .int .i64 n] 149))
                have dE := hide (hb2.alloc hb2.size (.cells #[.int .i64 x, .int .i64 y, .bool false, .bool true, .int .i64 n] 149))
                have S2' := hide (S2.below (below_box (Below.refl _ _) : Below _ _ (World.alloc _ (.cells #[.int .i64 x, .int .i64 y, .bool false, .bool true, .int .i64 n] 149))))
                have N2' := hide (N2.below (below_box (Below.refl _ _) : Below _ _ (World.alloc _ (.cells #[.int .i64 x, .int .i64 y, .bool false, .bool true, .int .i64 n] 149))))
                clear M2 S2 hb2 N2
                go_wp2_with fail
                refine (HA.out _ N2'.out.1).mono ?_
                rintro e w_ ⟨rfl, hw_⟩
                rw [hw_]
                clear hw_ w_
                go_wp2_with fail
                refine (PU.out _ S2'.out).mono ?_
                rintro e w3 ⟨a3, c3, rfl, hc3, S3, b3⟩
                go_wp2_with fail
                exact ⟨⟨k2 + 1, by go_num, by omega, by rw [hs2.out]; exact ⟨a3, c3, rfl, hc3, S3, up_put _ hU.out.1, in_put hU.out.2 hto.out⟩, N2'.out.below b3, M2'.out.below b3, dE.out.trans (b3.mono dE.out.size)⟩, by simp [intOf]; omega⟩
              | false =>
                by_cases hq : (n == num) = true
                · have hs2 : Hid ((E.take (k2 + 1)).foldl (stepB N num) [] = putN L2 y) := hst2.out.trans (by simp only [stepB, hh, hq]; rfl)
                  clear hh
                  have M2' := hide (M2.alloc (.cells #[.int .i64 x, .int .i64 y, .bool false, .bool false, .int .i64 n] 149))
                  have dE := hide (hb2.alloc hb2.size (.cells #[.int .i64 x, .int .i64 y, .bool false, .bool false, .int .i64 n] 149))
                  have S2' := hide (S2.below (below_box (Below.refl _ _) : Below _ _ (World.alloc _ (.cells #[.int .i64 x, .int .i64 y, .bool false, .bool false, .int .i64 n] 149))))
                  have N2' := hide (N2.below (below_box (Below.refl _ _) : Below _ _ (World.alloc _ (.cells #[.int .i64 x, .int .i64 y, .bool false, .bool false, .int .i64 n] 149))))
                  clear M2 S2 hb2 N2
                  go_wp2_with fail
                  refine (HA.out _ N2'.out.1).mono ?_
                  rintro e w_ ⟨rfl, hw_⟩
                  rw [hw_]
                  clear hw_ w_
                  go_wp2_with fail
                  refine (PU.out _ S2'.out).mono ?_
                  rintro e w3 ⟨a3, c3, rfl, hc3, S3, b3⟩
                  go_wp2_with fail
                  exact ⟨⟨k2 + 1, by go_num, by omega, by rw [hs2.out]; exact ⟨a3, c3, rfl, hc3, S3, up_put _ hU.out.1, in_put hU.out.2 hto.out⟩, N2'.out.below b3, M2'.out.below b3, dE.out.trans (b3.mono dE.out.size)⟩, by simp [intOf]; omega⟩
                · replace hq : (n == num) = false := by simpa using hq
                  have hs2 : Hid ((E.take (k2 + 1)).foldl (stepB N num) [] = L2) := hst2.out.trans (by simp only [stepB, hh, hq]; rfl)
                  clear hh
                  have M2' := hide (M2.alloc (.cells #[.int .i64 x, .int .i64 y, .bool false, .bool false, .int .i64 n] 149))
                  have dE := hide (hb2.alloc hb2.size (.cells #[.int .i64 x, .int .i64 y, .bool false, .bool false, .int .i64 n] 149))
                  have S2' := hide (S2.below (below_box (Below.refl _ _) : Below _ _ (World.alloc _ (.cells #[.int .i64 x, .int .i64 y, .bool false, .bool false, .int .i64 n] 149))))
                  have N2' := hide (N2.below (below_box (Below.refl _ _) : Below _ _ (World.alloc _ (.cells #[.int .i64 x, .int .i64 y, .bool false, .bool false, .int .i64 n] 149))))
                  clear M2 S2 hb2 N2
                  go_wp2_with fail
                  refine (HA.out _ N2'.out.1).mono ?_
                  rintro e w_ ⟨rfl, hw_⟩
                  rw [hw_]
                  clear hw_ w_
                  go_wp2_with fail
                  exact ⟨⟨k2 + 1, by go_num, by omega, by rw [hs2.out]; exact ⟨a2, c2, rfl, hC.out, S2'.out, hU.out.1, hU.out.2⟩, N2'.out, M2'.out, dE.out⟩, by simp [intOf]; omega⟩
        · have hlt2' : ¬ (k2 : Int) < (E.length : Int) := by omega
          rw [List.take_of_length_le (by omega)] at hc2 S2 hu2 hi2 ⊢
          rw [show E.foldl (stepB N num) [] = behN E N num from rfl] at hc2 S2 hu2 hi2 ⊢
          clear hbo hHA N2
          generalize behN E N num = L3 at *
          have n0 := M2.2.1 0 _ rfl
          have n1 := M2.2.1 1 _ rfl
          have n2 := M2.2.1 2 _ rfl
          have n3 := M2.2.1 3 _ rfl
          go_wp2_with fail
          refine (CL.out _ L3 _ (hR.below hb2) ⟨a2, c2, rfl, hc2, S2, hu2, hi2⟩).mono ?_
          rintro e w5 ⟨v5, rfl, ⟨a5, c5, rfl, hc5, S5, hu5, hi5⟩, b5⟩
          have M5 := M2.below b5
          have d5 := hb2.trans (b5.mono hb2.size)
          have h80 := in_len hu5 hi5
          generalize closF E L3 = L5 at *
          have hA : Hid (HeldN (.slice a5 L5.length c5) L5 w5) := ⟨a5, c5, rfl, hc5, S5, hu5, hi5⟩
          clear n0 n1 n2 n3 M2 hb2 b5 S2 hu2 hi2 hc2 S5 hu5 hi5 hc5 CL
          by_cases hgt : (L5.length : Int) > (mm : Int)
          · have hs : Hid (walkN E (P.take (k + 1)) (N0, N0.length) = (L5, L5.length)) := hstep.out.trans (by rw [Nat.max_eq_right (by omega)])
            clear hstep
            go_wp2_with fail
            exact ⟨⟨k + 1, L5, L5.length, by go_num, by omega, hA.out, rfl, hs, h80, M5, d5⟩, by simp [intOf]; omega⟩
          · have hs : Hid (walkN E (P.take (k + 1)) (N0, N0.length) = (L5, mm)) := hstep.out.trans (by rw [Nat.max_eq_left (by omega)])
            clear hstep
            go_wp2_with fail
            exact ⟨⟨k + 1, L5, mm, by go_num, by omega, hA.out, rfl, hs, hmm, M5, d5⟩, by simp [intOf]; omega⟩
    · have hlt' : ¬ (k : Int) < (P.length : Int) := by omega
      have hRR : Hid (runF E st P = (N, mm)) := by
        have h := hwk.out
        rw [List.take_of_length_le (by omega)] at h
        exact hrun.out.trans h
      have HA := hide (fun w R => s_l1Has an N cn en w (Nat.le_trans (in_len hun hin) (by decide)) R)
      have n2 := Mn.2.1 2 _ rfl
      clear hwk hrun hun hin hcn CL
      go_wp2_with fail
      refine (HA.out _ Sn.1).mono ?_
      rintro e w_ ⟨rfl, hw_⟩
      rw [hw_]
      clear hw_ w_
      go_wp2_with fail
      exact bodyPost_ret (v := .tuple #[.bool (hasN N en), .int .i64 mm, .bool true]) (by simp [results, Try.results37, go_sem]) rfl ⟨by rw [hRR.out], hbw⟩
set_option maxRecDepth 100000 in
set_option maxHeartbeats 6400000 in
theorem s_run_no (s st en : Int) (ae : Option Addr) (ce : Nat) (E : List Ed) (ap : Option Addr) (cp : Nat) (P : List Int) (w : World) (hg : gnB s st en E = true) (hp : gpB P = false) (hl : E.length ≤ 1048576) (hlp : P.length ≤ 1048576) (hR : RowG ae E w) (hP : RowN .i64 ap P w) :
    Calls Try.prog 37 #[.agg #[.int .i64 s, .int .i64 st, .int .i64 en, .slice ae E.length ce], .slice ap P.length cp] w fun e w' => e = .returned (.tuple #[.bool false, .int .i64 0, .bool false]) ∧ Below w.heap.size w w' := by
  have GN := hide (fun w R => s_goodNfa s st en ae ce E w (Nat.le_trans hl (by decide)) R)
  have GP := hide (fun w R => s_l6Path ap P cp w hlp R)
  rw [hg] at GN
  rw [hp] at GP
  have d0 : Below w.heap.size w (w.alloc (.cells #[.int .i64 s, .int .i64 st, .int .i64 en, .slice ae E.length ce] 79)) := below_box (Below.refl _ _)
  go_enter Try.func37, Try.ntmps37
  go_wp2_with fail
  generalize w.alloc (.cells #[.int .i64 s, .int .i64 st, .int .i64 en, .slice ae E.length ce] 79) = w1 at *
  refine (GN.out _ (hR.below d0)).mono ?_
  rintro e w2 ⟨rfl, b2⟩
  have d2 := d0.trans (b2.mono d0.size)
  go_wp2_with fail
  refine (GP.out _ (hP.below d2)).mono ?_
  rintro e w_ ⟨rfl, hw_⟩
  rw [hw_]
  clear hw_ w_
  go_wp2_with fail
  exact bodyPost_ret (v := .tuple #[.bool false, .int .i64 0, .bool false]) (by simp [results, Try.results37, go_sem]) rfl ⟨rfl, d2⟩
set_option maxRecDepth 100000 in
set_option maxHeartbeats 6400000 in
theorem s_run_bad (s st en : Int) (ae : Option Addr) (ce : Nat) (E : List Ed) (ap : Option Addr) (cp n : Nat) (w : World) (hg : gnB s st en E = false) (hl : E.length ≤ 1048576) (hR : RowG ae E w) :
    Calls Try.prog 37 #[.agg #[.int .i64 s, .int .i64 st, .int .i64 en, .slice ae E.length ce], .slice ap n cp] w fun e w' => e = .returned (.tuple #[.bool false, .int .i64 0, .bool false]) ∧ Below w.heap.size w w' := by
  have GN := hide (fun w R => s_goodNfa s st en ae ce E w (Nat.le_trans hl (by decide)) R)
  rw [hg] at GN
  have d0 : Below w.heap.size w (w.alloc (.cells #[.int .i64 s, .int .i64 st, .int .i64 en, .slice ae E.length ce] 79)) := below_box (Below.refl _ _)
  go_enter Try.func37, Try.ntmps37
  go_wp2_with fail
  generalize w.alloc (.cells #[.int .i64 s, .int .i64 st, .int .i64 en, .slice ae E.length ce] 79) = w1 at *
  refine (GN.out _ (hR.below d0)).mono ?_
  rintro e w2 ⟨rfl, b2⟩
  have d2 := d0.trans (b2.mono d0.size)
  go_wp2_with fail
  exact bodyPost_ret (v := .tuple #[.bool false, .int .i64 0, .bool false]) (by simp [results, Try.results37, go_sem]) rfl ⟨rfl, d2⟩
theorem s_runNfa (s st en : Int) (ae : Option Addr) (ce : Nat) (E : List Ed) (ap : Option Addr) (cp : Nat) (P : List Int) (w : World) (hl : E.length ≤ 1048576) (hlp : P.length ≤ 1048576) (hR : RowG ae E w) (hP : RowN .i64 ap P w) :
    Calls Try.prog 37 #[.agg #[.int .i64 s, .int .i64 st, .int .i64 en, .slice ae E.length ce], .slice ap P.length cp] w fun e w' => e = .returned (.tuple #[.bool (rnB s st en E P), .int .i64 (rnM s st en E P), .bool (rnG s st en E P)]) ∧ Below w.heap.size w w' := by
  cases hg : gnB s st en E with
  | false =>
    rw [rnB, rnM, rnG, hg]
    exact s_run_bad s st en ae ce E ap cp P.length w hg hl hR
  | true =>
    cases hp : gpB P with
    | false =>
      rw [rnB, rnM, rnG, hg, hp]
      exact s_run_no s st en ae ce E ap cp P w hg hp hl hlp hR hP
    | true =>
      rw [rnB, rnM, rnG, hg, hp]
      exact s_run_yes s st en ae ce E ap cp P w hg hp hl hlp hR hP
end Go.Proofs.Ytocgghhlfmgndaa
