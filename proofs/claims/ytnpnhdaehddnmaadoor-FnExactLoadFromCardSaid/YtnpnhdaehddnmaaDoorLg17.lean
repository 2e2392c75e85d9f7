/- LoadFrom of the program. -/
import Derived.Test.YtnpnhdaehddnmaaDoorLf17
import Derived.Test.YtnpnhdaehddnmaaDoorLd17
namespace Go.Proofs.YtnpnhdaehddnmaaDoor
open Go.RowKit

set_option maxRecDepth 100000 in
set_option maxHeartbeats 1600000 in
theorem i_loadFrom1Y (gp : Addr) (pb : Nat) (a b : Option Addr) (c e : Nat) (d : Dk) (w : World) (MD : Mut w pb [.slice a d.n c, .slice b d.m e]) (hR : RowD a b d w) (hp : Pl17 b d.m) (hG : GU gp w) (hg : GD17 d) (h : (ldA d).2.2 = true) :
    Calls Tryd.prog 26 #[.pointer (some ⟨pb, 0, none⟩)] w fun e w' => e = .returned (.agg #[.int .i64 (nwI d), .int .i64 (ldA d).2.1, .int .i64 (rdL (d.f (8 + (nwI d).toNat))), .string (ldA d).1]) ∧ Below w.heap.size w w' := by
  have OD := hide (fun w R => i_ownDiskY a b c e d w R hp hg)
  have LO := hide (fun k b off c w cw R hc G => i_loadDY gp k b off c d w cw R hg hc G h)
  have h10 := hide hg.1
  have hn1 : 0 < d.n := by have := hg.1; omega
  have MR := Mut.new w #[.int .i64 0, .int .i64 0, .int .i64 0, .string ⟨#[]⟩] 52
  have d0 : Below w.heap.size w (w.alloc (.cells #[.int .i64 0, .int .i64 0, .int .i64 0, .string ⟨#[]⟩] 52)) := below_box (Below.refl _ _)
  replace MD := MD.below d0
  have m0 := MD.2.1 0 _ rfl
  have m1 := MD.2.1 1 _ rfl
  clear h hg
  go_enter Tryd.func26, Tryd.ntmps26
  go_wp2_with fail
  generalize w.alloc (.cells #[.int .i64 0, .int .i64 0, .int .i64 0, .string ⟨#[]⟩] 52) = w0 at *
  refine (OD.out _ (hR.below d0)).mono ?_
  rintro ex w1 ⟨va, vb, rfl, TT, b1⟩
  obtain ⟨a1, c1, rfl, RA, HD⟩ := ownW_row TT.1
  obtain ⟨b1x, e1, rfl, _, _⟩ := TT.2.1.out
  rcases HD with ⟨_, _, q⟩ | ⟨g, rfl, _, hgl, hnc, _⟩
  · omega
  replace RA := row_of_str RA
  have d1 := below_step d0 b1
  have N := Mut.new w1 #[.slice (some ⟨g, 0, none⟩) d.n c1, .slice b1x d.m e1] 31
  have bB : Below w1.heap.size w1 (w1.alloc (.cells #[.slice (some ⟨g, 0, none⟩) d.n c1, .slice b1x d.m e1] 31)) := below_box (Below.refl _ _)
  have d2 := below_step d1 bB
  have k0 := N.2.1 0 _ rfl
  have RB := RA.below bB
  have hG2 := hG.below d2
  replace MR := (MR.below b1).below bB
  clear TT RA N d1 bB b1 m0 m1 MD
  go_wp2_with fail
  generalize w1.alloc (.cells #[.slice (some ⟨g, 0, none⟩) d.n c1, .slice b1x d.m e1] 31) = w2 at *
  generalize w1.heap.size = k at *
  refine (LO.out _ _ _ _ _ k0 RB hnc hG2).mono ?_
  rintro ex w3 ⟨rfl, b3⟩
  replace MR := MR.below b3
  have d3 := below_step d2 b3
  clear b3 d2 k0 RB LO OD
  go_wp2_with (refine wpList_storeM (us := [.int .i64 (nwI d), .int .i64 (ldA d).2.1, .int .i64 (rdL (d.f (8 + (nwI d).toNat))), .string (ldA d).1]) rfl rfl rfl rfl MR rfl (by intro v hv; simp only [List.mem_cons, List.not_mem_nil, or_false] at hv; rcases hv with rfl | rfl | rfl | rfl <;> rfl) sizeLoaded17 ?_; intro w6 M6 o6)
  have on := OnlyP.of_only (P := fun y => y = w.heap.size) o6 rfl
  have d6 := d3.trans (on.below (base := w.heap.size) (fun y _ hy => by have h : y = w.heap.size := hy; omega) d3.size)
  have r0 := M6.2.1 0 _ rfl
  have r1 := M6.2.1 1 _ rfl
  have r2 := M6.2.1 2 _ rfl
  have r3 := M6.2.1 3 _ rfl
  exact bodyPost_ret (v := .agg #[.int .i64 (nwI d), .int .i64 (ldA d).2.1, .int .i64 (rdL (d.f (8 + (nwI d).toNat))), .string (ldA d).1]) (by simp [results, Tryd.results26, go_sem, r0, r1, r2, r3]) rfl ⟨rfl, d6⟩
set_option maxRecDepth 100000 in
set_option maxHeartbeats 1600000 in
theorem i_loadFrom1N1 (gp : Addr) (pb : Nat) (a b : Option Addr) (c e : Nat) (d : Dk) (w : World) (MD : Mut w pb [.slice a d.n c, .slice b d.m e]) (hR : RowD a b d w) (hp : Pl17 b d.m) (hG : GU gp w) (hg : GD17 d) (h : (ldA d).2.2 = false) :
    Calls Tryd.prog 26 #[.pointer (some ⟨pb, 0, none⟩)] w fun e w' => e = gaveUp gp ∧ Below w.heap.size w w' := by
  have OD := hide (fun w R => i_ownDiskY a b c e d w R hp hg)
  have LO := hide (fun k b off c w cw R hc G => i_loadDN gp k b off c d w cw R hg hc G h)
  have h10 := hide hg.1
  have hn1 : 0 < d.n := by have := hg.1; omega
  have d0 : Below w.heap.size w (w.alloc (.cells #[.int .i64 0, .int .i64 0, .int .i64 0, .string ⟨#[]⟩] 52)) := below_box (Below.refl _ _)
  replace MD := MD.below d0
  have m0 := MD.2.1 0 _ rfl
  have m1 := MD.2.1 1 _ rfl
  clear h hg
  go_enter Tryd.func26, Tryd.ntmps26
  go_wp2_with fail
  generalize w.alloc (.cells #[.int .i64 0, .int .i64 0, .int .i64 0, .string ⟨#[]⟩] 52) = w0 at *
  refine (OD.out _ (hR.below d0)).mono ?_
  rintro ex w1 ⟨va, vb, rfl, TT, b1⟩
  obtain ⟨a1, c1, rfl, RA, HD⟩ := ownW_row TT.1
  obtain ⟨b1x, e1, rfl, _, _⟩ := TT.2.1.out
  rcases HD with ⟨_, _, q⟩ | ⟨g, rfl, _, hgl, hnc, _⟩
  · omega
  replace RA := row_of_str RA
  have d1 := below_step d0 b1
  have N := Mut.new w1 #[.slice (some ⟨g, 0, none⟩) d.n c1, .slice b1x d.m e1] 31
  have bB : Below w1.heap.size w1 (w1.alloc (.cells #[.slice (some ⟨g, 0, none⟩) d.n c1, .slice b1x d.m e1] 31)) := below_box (Below.refl _ _)
  have d2 := below_step d1 bB
  have k0 := N.2.1 0 _ rfl
  have RB := RA.below bB
  have hG2 := hG.below d2
  clear TT RA N d1 bB b1 m0 m1 MD
  go_wp2_with fail
  generalize w1.alloc (.cells #[.slice (some ⟨g, 0, none⟩) d.n c1, .slice b1x d.m e1] 31) = w2 at *
  generalize w1.heap.size = k at *
  refine (LO.out _ _ _ _ _ k0 RB hnc hG2).mono ?_
  rintro ex w3 ⟨rfl, b3⟩
  exact ⟨rfl, rfl, below_step d2 b3⟩
set_option maxRecDepth 100000 in
set_option maxHeartbeats 1600000 in
theorem i_loadFrom1N0 (gp : Addr) (pb : Nat) (a b : Option Addr) (c e : Nat) (d : Dk) (w : World) (MD : Mut w pb [.slice a d.n c, .slice b d.m e]) (hR : RowD a b d w) (hl : d.n ≤ 1048576 ∧ d.m ≤ 1048576) (hG : GU gp w) (hg : ¬ GD17 d) :
    Calls Tryd.prog 26 #[.pointer (some ⟨pb, 0, none⟩)] w fun e w' => e = gaveUp gp ∧ Below w.heap.size w w' := by
  have OD := hide (fun w R G => i_ownDiskN gp a b c e d w hl R G hg)
  have d0 : Below w.heap.size w (w.alloc (.cells #[.int .i64 0, .int .i64 0, .int .i64 0, .string ⟨#[]⟩] 52)) := below_box (Below.refl _ _)
  replace MD := MD.below d0
  have m0 := MD.2.1 0 _ rfl
  have m1 := MD.2.1 1 _ rfl
  clear hg
  go_enter Tryd.func26, Tryd.ntmps26
  go_wp2_with fail
  generalize w.alloc (.cells #[.int .i64 0, .int .i64 0, .int .i64 0, .string ⟨#[]⟩] 52) = w0 at *
  refine (OD.out _ (hR.below d0) (hG.below d0)).mono ?_
  rintro ex w1 ⟨rfl, b1⟩
  exact ⟨rfl, rfl, below_step d0 b1⟩
set_option maxRecDepth 100000 in
set_option maxHeartbeats 1600000 in
theorem i_ansL_yes (p : Addr) (x1 x2 x3 : Int) (x4 : ByteArray) (w : World) (h : ∀ w0, Below w.heap.size w w0 → Calls Tryd.prog 26 #[.pointer (some p)] w0 fun e w' => e = .returned (.agg #[.int .i64 x1, .int .i64 x2, .int .i64 x3, .string x4]) ∧ Below w0.heap.size w0 w') :
    Calls Tryd.prog 25 #[.func (.func 26) #[] #[.pointer (some p)]] w fun e w' => e = .returned (.tuple #[.agg #[.int .i64 x1, .int .i64 x2, .int .i64 x3, .string x4], .bool true]) ∧ Below w.heap.size w w' := by
  have hmf : ∀ (fn : Fn) (first cap : Array Value) (w : World), (Instr.makeFunc fn first cap).run Tryd.prog w = .ok (.func fn first cap) w := fun _ _ _ _ => rfl
  have MR := Mut.new w #[.int .i64 0, .int .i64 0, .int .i64 0, .string ⟨#[]⟩] 52
  have d0 : Below w.heap.size w (w.alloc (.cells #[.int .i64 0, .int .i64 0, .int .i64 0, .string ⟨#[]⟩] 52)) := below_box (Below.refl _ _)
  replace h := hide (h _ d0)
  go_enter_defers Tryd.func25, Tryd.ntmps25
  go_wp2_with fail
  generalize w.alloc (.cells #[.int .i64 0, .int .i64 0, .int .i64 0, .string ⟨#[]⟩] 52) = w0 at *
  refine h.out.mono ?_
  rintro e w1 ⟨rfl, b1⟩
  replace MR := MR.below b1
  go_wp2_with (first | (refine wpList_storeM (us := [.int .i64 x1, .int .i64 x2, .int .i64 x3, .string x4]) rfl rfl rfl rfl MR rfl (by intro v hv; simp only [List.mem_cons, List.not_mem_nil, or_false] at hv; rcases hv with rfl | rfl | rfl | rfl <;> rfl) sizeLoaded17 ?_; intro w4 M4 o4; have r0 := M4.2.1 0 _ rfl; have r1 := M4.2.1 1 _ rfl; have r2 := M4.2.1 2 _ rfl; have r3 := M4.2.1 3 _ rfl) | (refine wpList_storeM (us := [.int .i64 x1, .int .i64 x2, .int .i64 x3, .string x4]) rfl rfl rfl rfl M4 rfl (by intro v hv; simp only [List.mem_cons, List.not_mem_nil, or_false] at hv; rcases hv with rfl | rfl | rfl | rfl <;> rfl) sizeLoaded17 ?_; intro w5 M5 o5; clear r0 r1 r2 r3))
  have on := (OnlyP.of_only (P := fun y => y = w.heap.size) o4 rfl).trans (OnlyP.of_only (P := fun y => y = w.heap.size) o5 rfl)
  have d5 := (below_step d0 b1).trans (on.below (base := w.heap.size) (fun x _ hx => by have h : x = w.heap.size := hx; omega) (below_step d0 b1).size)
  have r0 := M5.2.1 0 _ rfl
  have r1 := M5.2.1 1 _ rfl
  have r2 := M5.2.1 2 _ rfl
  have r3 := M5.2.1 3 _ rfl
  refine leaves_cons (f := 46) (args := #[]) (by simp) (by simp [go_sem]) ?_
  refine (catch_idleL _).mono ?_
  rintro e u' w'' ⟨rfl, rfl, rfl⟩
  simp [Leaves, settle, results, Tryd.results25, go_sem, r0, r1, r2, r3]
  exact d5
set_option maxRecDepth 100000 in
set_option maxHeartbeats 1600000 in
theorem i_ansL_no (p : Addr) (gp : Addr) (w : World) (hG : GU gp w) (h : ∀ w0, Below w.heap.size w w0 → Calls Tryd.prog 26 #[.pointer (some p)] w0 fun e w' => e = gaveUp gp ∧ Below w0.heap.size w0 w') :
    Calls Tryd.prog 25 #[.func (.func 26) #[] #[.pointer (some p)]] w fun e w' => e = .returned (.tuple #[.agg #[.int .i64 0, .int .i64 0, .int .i64 0, .string ⟨#[]⟩], .bool false]) ∧ Below w.heap.size w w' := by
  have hmf : ∀ (fn : Fn) (first cap : Array Value) (w : World), (Instr.makeFunc fn first cap).run Tryd.prog w = .ok (.func fn first cap) w := fun _ _ _ _ => rfl
  have MR := Mut.new w #[.int .i64 0, .int .i64 0, .int .i64 0, .string ⟨#[]⟩] 52
  have d0 : Below w.heap.size w (w.alloc (.cells #[.int .i64 0, .int .i64 0, .int .i64 0, .string ⟨#[]⟩] 52)) := below_box (Below.refl _ _)
  replace h := hide (h _ d0)
  go_enter_defers Tryd.func25, Tryd.ntmps25
  go_wp2_with fail
  generalize w.alloc (.cells #[.int .i64 0, .int .i64 0, .int .i64 0, .string ⟨#[]⟩] 52) = w0 at *
  refine h.out.mono ?_
  rintro e w1 ⟨rfl, b1⟩
  replace MR := MR.below b1
  have d1 := below_step d0 b1
  have r0 := MR.2.1 0 _ rfl
  have r1 := MR.2.1 1 _ rfl
  have r2 := MR.2.1 2 _ rfl
  have r3 := MR.2.1 3 _ rfl
  simp only [gaveUp]
  go_wp2_with fail
  refine leaves_cons (f := 46) (args := #[]) (by simp) (by simp [go_sem]) ?_
  refine (catch_upL gp [] _ (hG.below d1)).mono ?_
  rintro e u' w'' ⟨rfl, rfl, rfl⟩
  simp [Leaves, settle, results, Tryd.results25, go_sem, r0, r1, r2, r3]
  exact d1
set_option maxRecDepth 100000 in
set_option maxHeartbeats 1600000 in
theorem i_loadFrom (gp : Addr) (a b : Option Addr) (c e : Nat) (d : Dk) (w : World) (hl : d.n ≤ 1048576 ∧ d.m ≤ 1048576) (hR : RowD a b d w) (hp : Pl17 b d.m) (hG : GU gp w) :
    Calls Tryd.prog 9 #[.agg #[.slice a d.n c, .slice b d.m e]] w fun e w' => e = .returned (.tuple #[.string (lfA d).1, .int .i64 (lfA d).2.1, .bool (lfA d).2.2]) ∧ Below w.heap.size w w' := by
  have hmf : ∀ (fn : Fn) (first cap : Array Value) (w : World), (Instr.makeFunc fn first cap).run Tryd.prog w = .ok (.func fn first cap) w := fun _ _ _ _ => rfl
  have M := Mut.new w #[.slice a d.n c, .slice b d.m e] 31
  have d0 : Below w.heap.size w (w.alloc (.cells #[.slice a d.n c, .slice b d.m e] 31)) := below_box (Below.refl _ _)
  obtain ⟨t, x, bo, e0⟩ : ∃ t x bo, Hid (lfA d = (t, x, bo)) := ⟨_, _, _, hide rfl⟩
  rw [e0.out]
  by_cases hY : GD17 d ∧ (ldA d).2.2 = true
  · obtain ⟨hg, ho⟩ := hY
    have e1 : ldA d = (t, x, bo) := (lfA_t hg).symm.trans e0.out
    obtain rfl : bo = true := by rw [← ho, e1]
    have Q := hide (fun w0 (h0 : Below w.heap.size w w0) (M : Mut w0 w.heap.size [.slice a d.n c, .slice b d.m e]) => i_ansL_yes ⟨w.heap.size, 0, none⟩ (nwI d) (ldA d).2.1 (rdL (d.f (8 + (nwI d).toNat))) (ldA d).1 w0 (fun w1 h1 => i_loadFrom1Y gp w.heap.size a b c e d w1 (M.below h1) ((hR.below h0).below h1) hp ((hG.below h0).below h1) hg ho))
    rw [e1] at Q
    generalize nwI d = y1 at *
    generalize rdL (d.f (8 + y1.toNat)) = y2 at *
    clear e1 ho hg hR hG hp hl e0
    go_enter Tryd.func9, Tryd.ntmps9
    go_wp2_with fail
    generalize w.alloc (.cells #[.slice a d.n c, .slice b d.m e] 31) = w0 at *
    refine (Q.out w0 d0 M).mono ?_
    rintro ex w1 ⟨rfl, b1⟩
    have d1 := below_step d0 b1
    clear b1 d0 M Q
    have bb : Below w1.heap.size w1 (w1.alloc (.cells #[.int .i64 y1, .int .i64 x, .int .i64 y2, .string t] 52)) := below_box (Below.refl _ _)
    have N := Mut.new w1 #[.int .i64 y1, .int .i64 x, .int .i64 y2, .string t] 52
    have dE := below_step d1 bb
    have n0 := N.2.1 0 _ rfl
    have n1 := N.2.1 1 _ rfl
    have n2 := N.2.1 2 _ rfl
    have n3 := N.2.1 3 _ rfl
    go_wp2_with fail
    go_region
    all_goals
      go_wp2_with fail
      exact bodyPost_ret (v := .tuple #[.string t, .int .i64 x, .bool true]) (by simp [results, Tryd.results9, go_sem]) rfl ⟨rfl, by first | exact dE | exact dE.drew⟩
  · have e1 : (t, x, bo) = (⟨#[]⟩, 0, false) := by
      rw [← e0.out]
      by_cases hg : GD17 d
      · rw [lfA_t hg]
        have hb : (ldA d).2.2 = false := by
          cases hq : (ldA d).2.2 with
          | false => rfl
          | true => exact absurd ⟨hg, hq⟩ hY
        revert hb
        unfold ldA ldH
        split
        · intro _; rfl
        · split
          · intro _; rfl
          · intro h; cases h
      · exact lfA_f hg
    simp only [Prod.mk.injEq] at e1
    obtain ⟨rfl, rfl, rfl⟩ := e1
    have Q := hide (fun w0 (h0 : Below w.heap.size w w0) (M : Mut w0 w.heap.size [.slice a d.n c, .slice b d.m e]) => i_ansL_no ⟨w.heap.size, 0, none⟩ gp w0 (hG.below h0) (fun w1 h1 => by
      by_cases hg : GD17 d
      · refine i_loadFrom1N1 gp w.heap.size a b c e d w1 (M.below h1) ((hR.below h0).below h1) hp ((hG.below h0).below h1) hg ?_
        cases hq : (ldA d).2.2 with
        | false => rfl
        | true => exact absurd ⟨hg, hq⟩ hY
      · exact i_loadFrom1N0 gp w.heap.size a b c e d w1 (M.below h1) ((hR.below h0).below h1) hl ((hG.below h0).below h1) hg))
    clear hY hR hG hp hl e0
    go_enter Tryd.func9, Tryd.ntmps9
    go_wp2_with fail
    generalize w.alloc (.cells #[.slice a d.n c, .slice b d.m e] 31) = w0 at *
    refine (Q.out w0 d0 M).mono ?_
    rintro ex w1 ⟨rfl, b1⟩
    have d1 := below_step d0 b1
    clear b1 d0 M Q
    have bb : Below w1.heap.size w1 (w1.alloc (.cells #[.int .i64 0, .int .i64 0, .int .i64 0, .string ⟨#[]⟩] 52)) := below_box (Below.refl _ _)
    have N := Mut.new w1 #[.int .i64 0, .int .i64 0, .int .i64 0, .string ⟨#[]⟩] 52
    have dE := below_step d1 bb
    have n0 := N.2.1 0 _ rfl
    have n1 := N.2.1 1 _ rfl
    have n2 := N.2.1 2 _ rfl
    have n3 := N.2.1 3 _ rfl
    go_wp2_with fail
    go_region
    all_goals
      go_wp2_with fail
      exact bodyPost_ret (v := .tuple #[.string ⟨#[]⟩, .int .i64 0, .bool false]) (by simp [results, Tryd.results9, go_sem]) rfl ⟨rfl, by first | exact dE | exact dE.drew⟩
end Go.Proofs.YtnpnhdaehddnmaaDoor
