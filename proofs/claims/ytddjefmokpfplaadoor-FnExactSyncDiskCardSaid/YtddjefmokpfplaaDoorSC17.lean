/- l17Crash, CrashDisk of the specification. -/
import Derived.Test.YtddjefmokpfplaaDoorSO17
import Derived.Test.YtddjefmokpfplaaDoorCD17
import Derived.Deep.DeepCutAuto
namespace Go.Proofs.YtddjefmokpfplaaDoor
open Go.RowKit

set_option maxRecDepth 100000 in
set_option maxHeartbeats 3200000 in
theorem s_l17Crash (base : Nat) (va vb : Value) (d : Dk) (ka : Option Addr) (kc : Nat) (K : Nat → Bool) (w : World) (hg : GD17 d) (T : TwoD base va vb d w) (hRK : RowBl ka d.m K w) (hKb : ∀ x off, ka = some ⟨x, off, none⟩ → va.ownBlock ≠ some x) :
    Calls Tryd.prog 38 #[.agg #[va, vb], .slice ka d.m kc] w fun e w' => e = .returned (.agg #[va, .slice none 0 0]) ∧ TwoD base va (.slice none 0 0) (crD d K) w' ∧ Below base w w' ∧ OnlyP (fun z => va.ownBlock = some z) w w' := by
  obtain ⟨hn, hm, _, hgw⟩ := hg
  obtain ⟨a1, c1, rfl, _, hOa⟩ := T.1.out
  obtain ⟨g, rfl, hgb, hgl, _⟩ := hOa (by omega)
  obtain ⟨b1, e1, rfl, hWb, _⟩ := T.2.1.out
  have hbg : ∀ x off, b1 = some ⟨x, off, none⟩ → ¬ x = g := fun x off e h => T.2.2 g rfl (by rw [e, ← h]; rfl)
  have hmm : d.m ≤ 1048576 := by omega
  have M := (Mut.new w #[.slice (some ⟨g, 0, none⟩) d.n c1, .slice b1 d.m e1] 29).alloc (.cells #[.slice none 0 0, .slice none 0 0] 29)
  have R := Mut.new (w.alloc (.cells #[.slice (some ⟨g, 0, none⟩) d.n c1, .slice b1 d.m e1] 29)) #[.slice none 0 0, .slice none 0 0] 29
  have d0 : Below w.heap.size w ((w.alloc (.cells #[.slice (some ⟨g, 0, none⟩) d.n c1, .slice b1 d.m e1] 29)).alloc (.cells #[.slice none 0 0, .slice none 0 0] 29)) := below_box2 (Below.refl _ _)
  have hz0 : ((w.alloc (.cells #[.slice (some ⟨g, 0, none⟩) d.n c1, .slice b1 d.m e1] 29)).alloc (.cells #[.slice none 0 0, .slice none 0 0] 29)).heap.size = w.heap.size + 2 := by simp
  simp only [World.size_alloc] at R
  have O : OwnS base (.slice (some ⟨g, 0, none⟩) d.n c1) d.n d.f ((w.alloc (.cells #[.slice (some ⟨g, 0, none⟩) d.n c1, .slice b1 d.m e1] 29)).alloc (.cells #[.slice none 0 0, .slice none 0 0] 29)) := ownW_below T.1 d0
  replace hWb := hWb.below d0
  replace hRK := hRK.below d0
  have hbw : base ≤ w.heap.size := Nat.le_of_lt (Nat.lt_of_le_of_lt hgb hgl)
  have v1 := M.2.1 1 _ rfl
  have hnh := hide hn
  have hn1 : 0 < d.n := by omega
  clear T hOa hn
  go_enter Tryd.func38, Tryd.ntmps38
  go_wp2_with fail
  generalize ((w.alloc (.cells #[.slice (some ⟨g, 0, none⟩) d.n c1, .slice b1 d.m e1] 29)).alloc (.cells #[.slice none 0 0, .slice none 0 0] 29)) = w1 at *
  clear v1
  go_loopw [10] (fun y wr => ∃ j : Nat, y = .int .i64 j ∧ j ≤ d.m ∧ Mut wr w.heap.size [.slice (some ⟨g, 0, none⟩) d.n c1, .slice b1 d.m e1] ∧ Mut wr (w.heap.size + 1) [.slice none 0 0, .slice none 0 0] ∧ OwnS base (.slice (some ⟨g, 0, none⟩) d.n c1) d.n (crF d.f d.A d.D K j) wr ∧ OnlyP (fun z => z = g) w1 wr) (fun y _ => d.m - (intOf y).toNat)
  case atStart => exact ⟨0, rfl, Nat.zero_le _, M, R, O, OnlyP.refl _ _⟩
  case round =>
    clear M O R
    obtain ⟨j, rfl, hj, M, R, O, on⟩ := hrel
    have RW := hWb.onlyP17 on hbg
    have hos := on.2.2.2.1
    have RK : RowBl ka d.m K wr := fun i hi => by
      obtain ⟨x, off, e, hx, c⟩ := hRK i hi
      exact ⟨x, off, e, by omega, (on.cell hx (fun h => by have h : x = g := h; exact hKb x off e (by rw [h]; rfl))).trans c⟩
    by_cases hlt : j < d.m
    · obtain ⟨xb, off, rfl, hxb, q0, q1⟩ := RW j hlt
      obtain ⟨kb, koff, rfl, hkb, kk⟩ := RK j hlt
      have hlt' : (j : Int) < (d.m : Int) := by omega
      obtain ⟨x0, x1, _⟩ := hgw j hlt
      obtain ⟨q, hq⟩ : ∃ q : Nat, d.A j = (q : Int) := ⟨(d.A j).toNat, by omega⟩
      have hqn : q < d.n := by have := hnh.out; omega
      have hqn' : (q : Int) < (d.n : Int) := by omega
      have hY := hide (fun h : K j = true => crF_yes (f := d.f) (D := d.D) h hq)
      have hN := hide (fun h : K j = false => crF_no (f := d.f) (A := d.A) (D := d.D) h)
      rw [hq] at q0 x0 x1
      clear hgw hWb RW RK hRK hKb hq hnh
      have N := Mut.new wr #[.int .i64 (q : Int), .string (d.D j)] 50
      have bA : Below wr.heap.size wr (wr.alloc (.cells #[.int .i64 (q : Int), .string (d.D j)] 50)) := below_box (Below.refl _ _)
      have hgr : g < wr.heap.size := (ownW_lt O rfl).2
      have hkr := M.1
      have hRl := R.1
      have kk2 := (bA.cell (p := ⟨kb, koff + j, none⟩) hkb).trans kk
      have on2 := on.trans (OnlyP.of_below (P := fun z => z = g) bA)
      replace O := ownW_below O bA
      replace M := M.below bA
      replace R := R.below bA
      generalize crF d.f d.A d.D K j = F at *
      generalize d.D j = sj at *
      generalize K j = bj at *
      cases bj with
      | false =>
        have hN2 := hide (hN.out rfl)
        clear hY hN
        go_wp2_with fail
        exact ⟨⟨j + 1, by go_num, by omega, M, R, by rw [hN2.out]; exact O, on2⟩, by simp [intOf]; omega⟩
      | true =>
        have hY2 := hide (hY.out rfl)
        clear hN hY
        have Od : OwnS base (.slice (some ⟨g, 0, none⟩) d.n c1) d.n F (wr.alloc (.cells #[.int .i64 (q : Int), .string sj] 50)) := O
        obtain ⟨_, _, _, _, hOd⟩ := Od.out
        obtain ⟨g9, eg9, _, _, O9⟩ := hOd (by omega)
        obtain rfl : g = g9 := by simp only [Value.slice.injEq] at *; rename_i hh; simp_all
        obtain ⟨⟨y8, c8, _⟩, z8⟩ := O9.2 q hqn
        have m0 := M.2.1 0 _ rfl
        have n0 := N.2.1 0 _ rfl
        have n1 := N.2.1 1 _ rfl
        have O2 := ownW_set Od q (.string sj)
        rw [← scells_set, ← hY2.out] at O2
        have og := OnlyP.of_only (P := fun z => z = g) ((Only.refl g (wr.alloc (.cells #[.int .i64 (q : Int), .string sj] 50))).setCell q (.string sj)) rfl
        have on3 := on2.trans og
        have M3 := M.onlyP og (by omega)
        have R3 := R.onlyP og (by omega)
        rw [World.setCell_alloc_past _ _ _ _ hgr] at M3 R3 O2 on3
        clear hOd O9 og
        go_wp2_with fail
        exact ⟨⟨j + 1, by go_num, by omega, M3, R3, O2, on3⟩, by simp [intOf]; omega⟩
    · obtain rfl : j = d.m := by omega
      have m0 := M.2.1 0 _ rfl
      have m1 := M.2.1 1 _ rfl
      have z1 := M.2.2 1 (by simp)
      have oz := OnlyP.of_only (P := fun z => z = w.heap.size) ((Only.refl w.heap.size wr).setCell 1 (.slice none 0 0)) rfl
      have R5 := R.onlyP oz (by omega)
      have O5 : OwnS base (.slice (some ⟨g, 0, none⟩) d.n c1) d.n (crD d K).f (wr.setCell ⟨w.heap.size, 1, none⟩ (.slice none 0 0)) := ownW_onlyP O oz (fun z h q => by have h : g = z := Option.some.inj h; have q : z = w.heap.size := q; omega)
      clear hWb RW RK hRK hgw
      go_wp2_with (refine wpList_storeM (us := [.slice (some ⟨g, 0, none⟩) d.n c1, .slice none 0 0]) rfl rfl rfl rfl R5 rfl (by intro v hv; simp only [List.mem_cons, List.not_mem_nil, or_false] at hv; rcases hv with rfl | rfl <;> rfl) sizeDisk17 ?_; intro w8 M8 o8)
      have oy := OnlyP.of_only (P := fun z => z = w.heap.size + 1) o8 rfl
      have O8 := ownW_onlyP O5 oy (fun z h q => by have h : g = z := Option.some.inj h; have q : z = w.heap.size + 1 := q; omega)
      have r0 := M8.2.1 0 _ rfl
      have r1 := M8.2.1 1 _ rfl
      have hd0 := d0.size
      have dF : Below base w w8 := (((Below.trans ⟨d0.os, d0.tape, d0.output, d0.size, fun i hi => d0.block i (by omega)⟩ (on.below (base := base) (fun z _ h => by have h : z = g := h; omega) (by omega)))).trans (oz.below (base := base) (fun z _ h => by have h : z = w.heap.size := h; omega) (by omega))).trans (oy.below (base := base) (fun z _ h => by have h : z = w.heap.size + 1 := h; omega) (by have := oz.2.2.2.1; omega))
      have oF : OnlyP (fun z => (Value.slice (some ⟨g, 0, none⟩) d.n c1).ownBlock = some z) w w8 := ((((OnlyP.of_below (P := fun z => z = g ∨ w.heap.size ≤ z) d0).trans (on.mono (fun z _ h => .inl h))).trans (oz.mono (fun z _ h => .inr (by have h : z = w.heap.size := h; omega)))).trans (oy.mono (fun z _ h => .inr (by have h : z = w.heap.size + 1 := h; omega)))).mono (fun z hz h => h.elim (fun h => by rw [h]; rfl) (fun h => absurd hz (by omega)))
      exact bodyPost_ret (v := .agg #[.slice (some ⟨g, 0, none⟩) d.n c1, .slice none 0 0]) (by simp [results, Tryd.results38, go_sem, r0, r1]) rfl ⟨rfl, ⟨O8, ownW_nil _ _ _ _, fun z _ h => by simp [Value.ownBlock] at h⟩, dF, oF⟩
set_option maxRecDepth 100000 in
set_option maxHeartbeats 3200000 in
theorem s_crashDisk (a b : Option Addr) (c e : Nat) (d : Dk) (ka : Option Addr) (km kc : Nat) (K : Nat → Bool) (w : World) (hl : LowD d) (hkm : km ≤ 1048576) (hR : RowD a b d w) (hp : ∃ bb_ ob, b = some ⟨bb_, ob, none⟩) (hRK : RowBl ka km K w) (hKb : ∀ x off, ka = some ⟨x, off, none⟩ → x < w.heap.size) :
    Calls Tryd.prog 15 #[.agg #[.slice a d.n c, .slice b d.m e], .slice ka km kc] w (AnsDB (cdA d km K) w) := by
  obtain ⟨r, hr⟩ : ∃ r, r = cdA d km K := ⟨_, rfl⟩
  rw [← hr]
  unfold AnsDB
  have GO := hide (fun w R => s_goodDisk a b c e d w hl R)
  have OW := hide (fun (h : 0 < d.n) w R => s_l17Own a b c e d w h ⟨hl.1, hl.2.1⟩ R hp)
  have hl2 := hl.2.1
  have MD := (Mut.new w #[.slice a d.n c, .slice b d.m e] 29).alloc (.cells #[.slice none 0 0, .slice none 0 0] 29)
  have MR := Mut.new (w.alloc (.cells #[.slice a d.n c, .slice b d.m e] 29)) #[.slice none 0 0, .slice none 0 0] 29
  have d0 : Below w.heap.size w ((w.alloc (.cells #[.slice a d.n c, .slice b d.m e] 29)).alloc (.cells #[.slice none 0 0, .slice none 0 0] 29)) := below_box2 (Below.refl _ _)
  simp only [World.size_alloc] at MR
  have m0 := MD.2.1 0 _ rfl
  have m1 := MD.2.1 1 _ rfl
  clear hl hp
  go_enter Tryd.func15, Tryd.ntmps15
  go_wp2_with fail
  generalize (w.alloc (.cells #[.slice a d.n c, .slice b d.m e] 29)).alloc (.cells #[.slice none 0 0, .slice none 0 0] 29) = w0 at *
  refine (GO.out _ (hR.below d0)).mono ?_
  rintro ex w1 ⟨rfl, b1⟩
  replace MD := MD.below b1
  replace MR := MR.below b1
  have d1 := below_step d0 b1
  clear b1 d0 m0 m1 GO
  have m0 := MD.2.1 0 _ rfl
  have m1 := MD.2.1 1 _ rfl
  by_cases hg : GD17 d
  case neg =>
    rw [gD_f hg]
    obtain rfl := hr.trans (cdA_f (fun h => hg h.1))
    clear hr OW
    go_wp2_with (refine wpList_storeM (us := [.slice none 0 0, .slice none 0 0]) rfl rfl rfl rfl MR rfl (by intro v hv; simp only [List.mem_cons, List.not_mem_nil, or_false] at hv; rcases hv with rfl | rfl <;> rfl) sizeDisk17 ?_; intro w6 M6 o6)
    have on := OnlyP.of_only (P := fun y => y = w.heap.size + 1) o6 rfl
    have d6 := d1.trans (on.below (base := w.heap.size) (fun y _ hy => by have h : y = w.heap.size + 1 := hy; omega) d1.size)
    have r0 := M6.2.1 0 _ rfl
    have r1 := M6.2.1 1 _ rfl
    exact bodyPost_ret (v := .tuple #[.agg #[.slice none 0 0, .slice none 0 0], .bool false]) (by simp [results, Tryd.results15, go_sem, r0, r1]) rfl ⟨none, none, ⟨0, 0, rfl⟩, AnsD.zero _ _ _ _ (Nat.le_refl _), d6⟩
  rw [gD_t hg]
  by_cases hm : km = d.m
  case neg =>
    have hm' : ((km : Int) != (d.m : Int)) = true := by simp; omega
    obtain rfl := hr.trans (cdA_f (fun h => hm h.2))
    clear hr OW
    go_wp2_with (refine wpList_storeM (us := [.slice none 0 0, .slice none 0 0]) rfl rfl rfl rfl MR rfl (by intro v hv; simp only [List.mem_cons, List.not_mem_nil, or_false] at hv; rcases hv with rfl | rfl <;> rfl) sizeDisk17 ?_; intro w6 M6 o6)
    have on := OnlyP.of_only (P := fun y => y = w.heap.size + 1) o6 rfl
    have d6 := d1.trans (on.below (base := w.heap.size) (fun y _ hy => by have h : y = w.heap.size + 1 := hy; omega) d1.size)
    have r0 := M6.2.1 0 _ rfl
    have r1 := M6.2.1 1 _ rfl
    exact bodyPost_ret (v := .tuple #[.agg #[.slice none 0 0, .slice none 0 0], .bool false]) (by simp [results, Tryd.results15, go_sem, r0, r1]) rfl ⟨none, none, ⟨0, 0, rfl⟩, AnsD.zero _ _ _ _ (Nat.le_refl _), d6⟩
  subst hm
  obtain rfl := hr.trans (cdA_t ⟨hg, rfl⟩)
  have hm' : ((d.m : Int) != (d.m : Int)) = false := by simp
  have OW := hide (OW.out (by have := hg.1; omega))
  have CR := hide (fun base va vb w T R B => s_l17Crash base va vb d ka kc K w hg T R B)
  clear hr hg
  go_wp2_with fail
  refine (OW.out _ (hR.below d1)).mono ?_
  rintro ex w3 ⟨va, vb, rfl, T, b3⟩
  have hMR2 := MR.1
  replace MR := MR.below b3
  have d3 := below_step d1 b3
  have hKb2 : ∀ x off, ka = some ⟨x, off, none⟩ → x < w1.heap.size := fun x off h => by have := hKb x off h; have := d1.size; omega
  clear b3 m0 m1 MD OW
  go_wp2_with fail
  refine (CR.out _ _ _ _ T (hRK.below d3) (fun x off e q => by have := (ownW_lt T.1 q).1; have := hKb2 x off e; omega)).mono ?_
  rintro ex w4 ⟨rfl, T4, b4, _⟩
  obtain ⟨a1, c1, rfl, _, _⟩ := T4.1.out
  replace MR := MR.base hMR2 b4
  have hd1 := d1.size
  have d4 := d3.trans ⟨b4.os, b4.tape, b4.output, b4.size, fun j hj => b4.block j (by omega)⟩
  go_wp2_with (refine wpList_storeM (us := [.slice a1 (crD d K).n c1, .slice none 0 0]) rfl rfl rfl rfl MR rfl (by intro v hv; simp only [List.mem_cons, List.not_mem_nil, or_false] at hv; rcases hv with rfl | rfl <;> rfl) sizeDisk17 ?_; intro w8 M8 o8)
  have on := OnlyP.of_only (P := fun y => y = w.heap.size + 1) o8 rfl
  have T8 := T4.onlyP on (fun y hy h => by
    have h : y = w.heap.size + 1 := h
    rcases hy with q | q
    · have := (ownW_lt T4.1 q).1; omega
    · simp [Value.ownBlock] at q)
  have d8 := d4.trans (on.below (base := w.heap.size) (fun y _ hy => by have h : y = w.heap.size + 1 := hy; omega) d4.size)
  have r0 := M8.2.1 0 _ rfl
  have r1 := M8.2.1 1 _ rfl
  obtain ⟨_, _, _, _, e5, e6, AN⟩ := T8.ans
  simp only [Value.slice.injEq] at e5 e6
  obtain ⟨rfl, _, rfl⟩ := e5
  obtain ⟨rfl, _, rfl⟩ := e6
  exact bodyPost_ret (v := .tuple #[.agg #[.slice a1 (crD d K).n c1, .slice none 0 0], .bool true]) (by simp [results, Tryd.results15, go_sem, r0, r1]) rfl ⟨a1, none, ⟨c1, 0, rfl⟩, AN.wide (by omega) (Nat.le_refl _) (Nat.le_refl _), d8⟩
end Go.Proofs.YtddjefmokpfplaaDoor
