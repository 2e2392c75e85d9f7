/- l17Sync, SyncDisk of the specification. -/
import Derived.Test.YtddjefmokpfplaaDoorSC17
import Derived.Test.YtddjefmokpfplaaDoorSY17
namespace Go.Proofs.YtddjefmokpfplaaDoor
open Go.RowKit

theorem aggB17 : AggT Tryd.prog 38 4 (.bool false) 1 1 := ⟨Tryd.underlying38, by kernel_rfl, rfl, by decide⟩
set_option maxRecDepth 100000 in
set_option maxHeartbeats 1600000 in
theorem s_l17Sync (base : Nat) (va vb : Value) (d : Dk) (w : World) (hg : GD17 d) (T : TwoD base va vb d w) (hb : base ≤ w.heap.size) :
    Calls Tryd.prog 36 #[.agg #[va, vb]] w fun e w' => e = .returned (.agg #[va, .slice none 0 0]) ∧ TwoD base va (.slice none 0 0) (crD d allT) w' ∧ Below base w w' := by
  obtain ⟨a1, c1, rfl, _, _⟩ := T.1.out
  obtain ⟨b1, e1, rfl, _, _⟩ := T.2.1.out
  have hm := hg.2.1
  have CR := hide (fun ka kc w T R B => s_l17Crash base (.slice a1 d.n c1) (.slice b1 d.m e1) d ka kc allT w hg T R B)
  have M := (Mut.new w #[.slice a1 d.n c1, .slice b1 d.m e1] 29).alloc (.cells #[.slice none 0 0, .slice none 0 0] 29)
  have R := Mut.new (w.alloc (.cells #[.slice a1 d.n c1, .slice b1 d.m e1] 29)) #[.slice none 0 0, .slice none 0 0] 29
  have d0 : Below w.heap.size w ((w.alloc (.cells #[.slice a1 d.n c1, .slice b1 d.m e1] 29)).alloc (.cells #[.slice none 0 0, .slice none 0 0] 29)) := below_box2 (Below.refl _ _)
  have hz0 : ((w.alloc (.cells #[.slice a1 d.n c1, .slice b1 d.m e1] 29)).alloc (.cells #[.slice none 0 0, .slice none 0 0] 29)).heap.size = w.heap.size + 2 := by simp
  simp only [World.size_alloc] at R
  have v0 := M.2.1 0 _ rfl
  have v1 := M.2.1 1 _ rfl
  clear hg
  go_enter Tryd.func36, Tryd.ntmps36
  go_wp2_with fail
  generalize ((w.alloc (.cells #[.slice a1 d.n c1, .slice b1 d.m e1] 29)).alloc (.cells #[.slice none 0 0, .slice none 0 0] 29)) = w1 at *
  clear v0 v1
  have hz9 := hide hz0
  clear hz0
  go_loopw [3, 7] (fun l y wr => ∃ j : Nat, y = .int .i64 j ∧ j ≤ d.m ∧ OwnW 4 1 w1.heap.size l j (List.replicate j (.bool true)) wr ∧ Below w1.heap.size w1 wr) (fun _ y _ => d.m - (intOf y).toNat)
  case atStart => exact ⟨0, rfl, Nat.zero_le _, ownW_nil _ _ _ _, Below.refl _ _⟩
  case round =>
    obtain ⟨j, rfl, hj, O, f⟩ := hrel
    by_cases hlt : j < d.m
    · have hlt' : (j : Int) < (d.m : Int) := by omega
      have hbs := f.size
      have bb : Below wr.heap.size wr (wr.alloc (.cells #[.bool true] 4)) := below_box (Below.refl _ _)
      have hO2 := ownW_below O bb
      have hR1 : RowW (some ⟨wr.heap.size, 0, none⟩) [.bool true] (wr.alloc (.cells #[.bool true] 4)) := RowW.mut (Mut.new wr #[.bool true] 4)
      have f2 := below_step f bb
      have hbs2 : w1.heap.size ≤ (wr.alloc (.cells #[.bool true] 4)).heap.size := f2.size
      clear O f bb hbs
      go_wp2_with (first | (at_builtin; refine wpList_appW aggB17 rfl _ _ rfl w1.heap.size _ j (List.replicate j (.bool true)) rfl hO2 wr.heap.size 0 1 1 [.bool true] rfl rfl hR1 (by intro u hu; rw [List.mem_singleton.1 hu]; rfl) (by omega) (by decide) hbs2 ?_))
      intro v' w5 own' hbe _ _
      rw [← List.replicate_succ'] at own'
      have f5 := f2.trans hbe
      go_wp2_with fail
      exact ⟨⟨j + 1, by go_num, by omega, own', f5⟩, by simp [intOf]; omega⟩
    · obtain rfl : j = d.m := by omega
      obtain ⟨ka, kc, rfl, RW, HD⟩ := ownW_row O
      have RK : RowBl ka d.m allT wr := fun i hi => RW i _ (by rw [List.getElem?_replicate, if_pos hi]; rfl)
      have hKb : ∀ x off, ka = some ⟨x, off, none⟩ → (Value.slice a1 d.n c1).ownBlock ≠ some x := fun x off e q => by
        have h1 := (ownW_lt T.1 q).2
        rcases HD with ⟨z, _⟩ | ⟨g, z, h2, _⟩
        · rw [z] at e; cases e
        · rw [z] at e
          have e := Option.some.inj e
          have e : g = x := congrArg Addr.block e
          have := hz9.out
          omega
      have hTl : ∀ x, (Value.slice a1 d.n c1).ownBlock = some x → x < w.heap.size := fun x q => (ownW_lt T.1 q).2
      have M5 := M.below f
      have R5 := R.below f
      have m0 := M5.2.1 0 _ rfl
      have m1 := M5.2.1 1 _ rfl
      have d1 := below_step d0 f
      have TT := T.below d1
      clear T M R O f RW
      go_wp2_with fail
      refine (CR.out _ _ _ TT RK hKb).mono ?_
      rintro ex w4 ⟨rfl, T4, b4, o4⟩
      have R6 := R5.onlyP o4 (fun h => by have := hTl _ h; omega)
      go_wp2_with (refine wpList_storeM (us := [.slice a1 d.n c1, .slice none 0 0]) rfl rfl rfl rfl R6 rfl (by intro v hv; simp only [List.mem_cons, List.not_mem_nil, or_false] at hv; rcases hv with rfl | rfl <;> rfl) sizeDisk17 ?_; intro w8 M8 o8)
      have oy := OnlyP.of_only (P := fun z => z = w.heap.size + 1) o8 rfl
      have T8 := T4.onlyP oy (fun y hy h => by
        have h : y = w.heap.size + 1 := h
        rcases hy with q | q
        · have := hTl _ q; omega
        · simp [Value.ownBlock] at q)
      have r0 := M8.2.1 0 _ rfl
      have r1 := M8.2.1 1 _ rfl
      have h4s := b4.size
      have h1s := d1.size
      exact bodyPost_ret (v := .agg #[.slice a1 d.n c1, .slice none 0 0]) (by simp [results, Tryd.results36, go_sem, r0, r1]) rfl ⟨rfl, T8, ((d1.mono hb).trans b4).trans (oy.below (base := base) (fun z _ h => by have h : z = w.heap.size + 1 := h; omega) (by omega))⟩
set_option maxRecDepth 100000 in
set_option maxHeartbeats 3200000 in
theorem s_syncDisk (a b : Option Addr) (c e : Nat) (d : Dk) (w : World) (hl : LowD d) (hR : RowD a b d w) (hp : ∃ bb_ ob, b = some ⟨bb_, ob, none⟩) :
    Calls Tryd.prog 13 #[.agg #[.slice a d.n c, .slice b d.m e]] w (AnsDB (syA d) w) := by
  obtain ⟨r, hr⟩ : ∃ r, r = syA d := ⟨_, rfl⟩
  rw [← hr]
  unfold AnsDB
  have GO := hide (fun w R => s_goodDisk a b c e d w hl R)
  have OW := hide (fun (h : 0 < d.n) w R => s_l17Own a b c e d w h ⟨hl.1, hl.2.1⟩ R hp)
  have hl2 := hl.2.1
  have MD := (Mut.new w #[.slice a d.n c, .slice b d.m e] 29).alloc (.cells #[.slice none 0 0, .slice none 0 0] 29)
  have MR := Mut.new (w.alloc (.cells #[.slice a d.n c, .slice b d.m e] 29)) #[.slice none 0 0, .slice none 0 0] 29
  have d0 : Below w.heap.size w ((w.alloc (.cells #[.slice a d.n c, .slice b d.m e] 29)).alloc (.cells #[.slice none 0 0, .slice none 0 0] 29)) := below_box2 (Below.refl _ _)
  simp only [World.size_alloc] at MR
  have m0 := MD.2.1 0 _ rfl
  have m1 := MD.2.1 1 _ rfl
  clear hl hp
  go_enter Tryd.func13, Tryd.ntmps13
  go_wp2_with fail
  generalize (w.alloc (.cells #[.slice a d.n c, .slice b d.m e] 29)).alloc (.cells #[.slice none 0 0, .slice none 0 0] 29) = w0 at *
  refine (GO.out _ (hR.below d0)).mono ?_
  rintro ex w1 ⟨rfl, b1⟩
  replace MD := MD.below b1
  replace MR := MR.below b1
  have d1 := below_step d0 b1
  clear b1 d0 m0 m1 GO
  have m0 := MD.2.1 0 _ rfl
  have m1 := MD.2.1 1 _ rfl
  by_cases hg : GD17 d
  case neg =>
    rw [gD_f hg]
    obtain rfl := hr.trans (syA_f hg)
    clear hr OW
    go_wp2_with (refine wpList_storeM (us := [.slice none 0 0, .slice none 0 0]) rfl rfl rfl rfl MR rfl (by intro v hv; simp only [List.mem_cons, List.not_mem_nil, or_false] at hv; rcases hv with rfl | rfl <;> rfl) sizeDisk17 ?_; intro w6 M6 o6)
    have on := OnlyP.of_only (P := fun y => y = w.heap.size + 1) o6 rfl
    have d6 := d1.trans (on.below (base := w.heap.size) (fun y _ hy => by have h : y = w.heap.size + 1 := hy; omega) d1.size)
    have r0 := M6.2.1 0 _ rfl
    have r1 := M6.2.1 1 _ rfl
    exact bodyPost_ret (v := .tuple #[.agg #[.slice none 0 0, .slice none 0 0], .bool false]) (by simp [results, Tryd.results13, go_sem, r0, r1]) rfl ⟨none, none, ⟨0, 0, rfl⟩, AnsD.zero _ _ _ _ (Nat.le_refl _), d6⟩
  rw [gD_t hg]
  obtain rfl := hr.trans (syA_t hg)
  have OW := hide (OW.out (by have := hg.1; omega))
  have CR := hide (fun base va vb w T B => s_l17Sync base va vb d w hg T B)
  clear hr hg
  go_wp2_with fail
  refine (OW.out _ (hR.below d1)).mono ?_
  rintro ex w3 ⟨va, vb, rfl, T, b3⟩
  have hMR2 := MR.1
  replace MR := MR.below b3
  have d3 := below_step d1 b3
  have hb3 := b3.size
  clear b3 m0 m1 MD OW
  go_wp2_with fail
  refine (CR.out _ _ _ _ T hb3).mono ?_
  rintro ex w4 ⟨rfl, T4, b4⟩
  obtain ⟨a1, c1, rfl, _, _⟩ := T4.1.out
  replace MR := MR.base hMR2 b4
  have hd1 := d1.size
  have d4 := d3.trans ⟨b4.os, b4.tape, b4.output, b4.size, fun j hj => b4.block j (by omega)⟩
  go_wp2_with (refine wpList_storeM (us := [.slice a1 (crD d allT).n c1, .slice none 0 0]) rfl rfl rfl rfl MR rfl (by intro v hv; simp only [List.mem_cons, List.not_mem_nil, or_false] at hv; rcases hv with rfl | rfl <;> rfl) sizeDisk17 ?_; intro w8 M8 o8)
  have on := OnlyP.of_only (P := fun y => y = w.heap.size + 1) o8 rfl
  have T8 := T4.onlyP on (fun y hy h => by
    have h : y = w.heap.size + 1 := h
    rcases hy with q | q
    · have := (ownW_lt T4.1 q).1; omega
    · simp [Value.ownBlock] at q)
  have d8 := d4.trans (on.below (base := w.heap.size) (fun y _ hy => by have h : y = w.heap.size + 1 := hy; omega) d4.size)
  have r0 := M8.2.1 0 _ rfl
  have r1 := M8.2.1 1 _ rfl
  obtain ⟨_, _, _, _, e5, e6, AN⟩ := T8.ans
  simp only [Value.slice.injEq] at e5 e6
  obtain ⟨rfl, _, rfl⟩ := e5
  obtain ⟨rfl, _, rfl⟩ := e6
  exact bodyPost_ret (v := .tuple #[.agg #[.slice a1 (crD d allT).n c1, .slice none 0 0], .bool true]) (by simp [results, Tryd.results13, go_sem, r0, r1]) rfl ⟨a1, none, ⟨c1, 0, rfl⟩, AN.wide (by omega) (Nat.le_refl _) (Nat.le_refl _), d8⟩
end Go.Proofs.YtddjefmokpfplaaDoor
