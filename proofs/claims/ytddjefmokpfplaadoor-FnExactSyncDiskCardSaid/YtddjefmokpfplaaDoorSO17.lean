/- l17Own, WriteTo of the specification. -/
import Derived.Test.YtddjefmokpfplaaDoorWT17
import Derived.Test.YtddjefmokpfplaaDoorS1
namespace Go.Proofs.YtddjefmokpfplaaDoor
open Go.RowKit

set_option maxRecDepth 100000 in
set_option maxHeartbeats 1600000 in
theorem s_l17Own (a b : Option Addr) (c e : Nat) (d : Dk) (w : World) (hn : 0 < d.n) (hl : d.n ≤ 1048576 ∧ d.m ≤ 1048576) (hR : RowD a b d w) (hp : ∃ bb_ ob, b = some ⟨bb_, ob, none⟩) :
    Calls Tryd.prog 24 #[.agg #[.slice a d.n c, .slice b d.m e]] w fun e w' => ∃ va vb, e = .returned (.agg #[va, vb]) ∧ TwoD w.heap.size va vb d w' ∧ Below w.heap.size w w' := by
  obtain ⟨hR1, hR2⟩ := hR
  obtain ⟨ba, oa, rfl, _, _⟩ := hR1 0 hn
  obtain ⟨bb_, ob, rfl⟩ := hp
  have MD := (Mut.new w #[.slice (some ⟨ba, oa, none⟩) d.n c, .slice (some ⟨bb_, ob, none⟩) d.m e] 29).alloc (.cells #[.slice none 0 0, .slice none 0 0] 29)
  have MR := Mut.new (w.alloc (.cells #[.slice (some ⟨ba, oa, none⟩) d.n c, .slice (some ⟨bb_, ob, none⟩) d.m e] 29)) #[.slice none 0 0, .slice none 0 0] 29
  have d1 : Below w.heap.size w ((w.alloc (.cells #[.slice (some ⟨ba, oa, none⟩) d.n c, .slice (some ⟨bb_, ob, none⟩) d.m e] 29)).alloc (.cells #[.slice none 0 0, .slice none 0 0] 29)) := below_box2 (Below.refl _ _)
  have hz1 : ((w.alloc (.cells #[.slice (some ⟨ba, oa, none⟩) d.n c, .slice (some ⟨bb_, ob, none⟩) d.m e] 29)).alloc (.cells #[.slice none 0 0, .slice none 0 0] 29)).heap.size = w.heap.size + 2 := by simp
  simp only [World.size_alloc] at MR
  go_enter Tryd.func24, Tryd.ntmps24
  go_wp2_with fail
  generalize (w.alloc (.cells #[.slice (some ⟨ba, oa, none⟩) d.n c, .slice (some ⟨bb_, ob, none⟩) d.m e] 29)).alloc (.cells #[.slice none 0 0, .slice none 0 0] 29) = w1 at *
  have hS : ∀ w' : World, Below w1.heap.size w1 w' → w'.cell? ⟨w.heap.size, 0, none⟩ = some (.slice (some ⟨ba, oa, none⟩) d.n c) ∧ w'.cell? ⟨w.heap.size, 1, none⟩ = some (.slice (some ⟨bb_, ob, none⟩) d.m e) := fun w' b => ⟨(MD.below b).2.1 0 _ rfl, (MD.below b).2.1 1 _ rfl⟩
  refine wp_region_held_drew (S := fun w' => w'.cell? ⟨w.heap.size, 0, none⟩ = some (.slice (some ⟨ba, oa, none⟩) d.n c) ∧ w'.cell? ⟨w.heap.size, 1, none⟩ = some (.slice (some ⟨bb_, ob, none⟩) d.m e)) (by kernel_rfl) (hS _ (Below.refl _ _).drew) (fun hHeld => ?_)
  have f : Below w1.heap.size w1 w1.drew := (Below.refl _ _).drew
  generalize w1.drew = y0 at *
  refine wpAnyH_take (i := 1) (v := .pointer (some ⟨w.heap.size, 0, none⟩)) rfl (by kernel_rfl) (by kernel_rfl) (by kernel_rfl) (fun _ _ _ h => h) (Or.inl ⟨by rfl, fun w' hSw => by go_simp⟩) hHeld ?_
  simp only [List.getElem_toArray, List.getElem_cons_succ, List.getElem_cons_zero, Act.put, List.setIfInBounds_toArray, List.set_cons_zero, List.set_cons_succ]
  refine wpAnyH_take (i := 2) (v := .slice (some ⟨ba, oa, none⟩) d.n c) rfl (by kernel_rfl) (by kernel_rfl) (by kernel_rfl) (fun _ _ _ h => h) (Or.inl ⟨by rfl, fun w' hSw => by go_simp⟩) hHeld ?_
  simp only [List.getElem_toArray, List.getElem_cons_succ, List.getElem_cons_zero, Act.put, List.setIfInBounds_toArray, List.set_cons_zero, List.set_cons_succ]
  refine wpAnyH_take (i := 5) (v := .pointer (some ⟨w.heap.size, 1, none⟩)) rfl (by kernel_rfl) (by kernel_rfl) (by kernel_rfl) (fun _ _ _ h => h) (Or.inl ⟨by rfl, fun w' hSw => by go_simp⟩) hHeld ?_
  simp only [List.getElem_toArray, List.getElem_cons_succ, List.getElem_cons_zero, Act.put, List.setIfInBounds_toArray, List.set_cons_zero, List.set_cons_succ]
  refine wpAnyH_take (i := 6) (v := .slice (some ⟨bb_, ob, none⟩) d.m e) rfl (by kernel_rfl) (by kernel_rfl) (by kernel_rfl) (fun _ _ _ h => h) (Or.inl ⟨by rfl, fun w' hSw => by go_simp⟩) hHeld ?_
  simp only [List.getElem_toArray, List.getElem_cons_succ, List.getElem_cons_zero, Act.put, List.setIfInBounds_toArray, List.set_cons_zero, List.set_cons_succ]
  refine wpAnyH_ready (rs := [0, 4]) (by kernel_rfl) (by simp) (AllReadyH.cons rfl (fun K hK => ?_) (AllReadyH.cons rfl (fun K hK => ?_) AllReadyH.nil))
  · go_simp
    have bb : Below y0.heap.size y0 (y0.alloc (.cells #[] 9)) := below_box (Below.refl _ _)
    have hs1 := f.size
    have OA : OwnW 9 1 w1.heap.size (.slice (some ⟨y0.heap.size, 0, none⟩) 0 0) 0 [] (y0.alloc (.cells #[] 9)) := ownW_base (World.ownsRow_made y0 #[] 0 (Nat.le_refl _) (by decide) rfl) hs1
    replace f := below_step f bb
    clear bb
    refine hK.out _ _ (hS _ f) (fun hHeld => ?_)
    clear hK K
    have hlt1 : y0.heap.size < (y0.alloc (.cells #[] 9)).heap.size := by simp
    generalize y0.alloc (.cells #[] 9) = y1 at *
    generalize y0.heap.size = gA at *
    refine wpAnyH_ready (rs := [3, 4]) (by kernel_rfl) (by simp) (AllReadyH.cons rfl (fun K hK => ?_) (AllReadyH.cons rfl (fun K hK => ?_) AllReadyH.nil))
    · rw [if_pos (by rfl)]
      refine wp_appW aggS17 _ _ rfl w1.heap.size _ 0 [] rfl OA ba oa d.n c (scells d.n d.f) rfl (scells_len d.n d.f) (rowW_str (hR1.below (d1.trans (f.mono d1.size)))) (scells_one d.n d.f) (by omega) (by decide) f.size ?_
      intro vA y2 FA bb gg hh
      replace FA : OwnS w1.heap.size vA d.n d.f y2 := by simpa [OwnS] using FA
      have FA0 := FA
      replace gg : y1.grownBy y2 (some gA) := gg
      replace hh : vA.ownBlock = some gA ∨ vA.ownBlock = some y1.heap.size := hh
      replace f := f.trans bb
      clear bb gg hh OA
      refine hK.out _ _ (hS _ f) (fun hHeld => ?_)
      clear hK K
      refine wpAnyH_ready (rs := [4]) (by kernel_rfl) (by simp) (AllReadyH.cons rfl (fun K hK => ?_) AllReadyH.nil)
      go_simp
      have bb : Below y2.heap.size y2 (y2.alloc (.cells #[] 50)) := below_box (Below.refl _ _)
      have hs3 := f.size
      have OB : OwnW 50 2 w1.heap.size (.slice (some ⟨y2.heap.size, 0, none⟩) 0 0) 0 [] (y2.alloc (.cells #[] 50)) := ownW_base (World.ownsRow_made y2 #[] 0 (Nat.le_refl _) (by decide) rfl) hs3
      replace FA := ownW_below FA bb
      have hlA : ∀ g, vA.ownBlock = some g → g < y2.heap.size := fun g h => by have := (ownW_lt FA0 h).2; omega
      replace f := below_step f bb
      clear bb
      refine hK.out _ _ (hS _ f) (fun hHeld => ?_)
      clear hK K
      have hlt3 : y2.heap.size < (y2.alloc (.cells #[] 50)).heap.size := by simp
      generalize y2.alloc (.cells #[] 50) = y3 at *
      generalize y2.heap.size = gB at *
      refine wpAnyH_ready (rs := [7]) (by kernel_rfl) (by simp) (AllReadyH.cons rfl (fun K hK => ?_) AllReadyH.nil)
      rw [if_pos (by rfl)]
      refine wp_appW aggW17 _ _ rfl w1.heap.size _ 0 [] rfl OB bb_ ob d.m e (wcells d.m d.A d.D) rfl (wcells_len d.m d.A d.D) (rowW_wr (hR2.below (d1.trans (f.mono d1.size)))) (wcells_one d.m d.A d.D) (by omega) (by decide) f.size ?_
      intro vB y4 FB bb gg hh
      replace FB : OwnWr w1.heap.size vB d.m d.A d.D y4 := by simpa [OwnWr] using FB
      replace gg : y3.grownBy y4 (some gB) := gg
      replace hh : vB.ownBlock = some gB ∨ vB.ownBlock = some y3.heap.size := hh
      have hAB2 : ∀ g, vA.ownBlock = some g → g ≠ gB := fun g h => by have := hlA g h; omega
      have hlA2 : ∀ g, vA.ownBlock = some g → g < y3.heap.size := fun g h => (ownW_lt FA h).2
      replace FA := ownW_onlyP FA (OnlyP.of_grown (P := fun x => x = gB) gg (fun x hx => (Option.some.inj hx).symm)) (fun x hx h => hAB2 x hx h)
      have hfin : ∀ g, vA.ownBlock = some g → vB.ownBlock ≠ some g := fun g h q => by
        rcases hh with z | z
        · rw [z] at q; exact hAB2 g h (Option.some.inj q).symm
        · rw [z] at q; have := hlA2 g h; have := Option.some.inj q; omega
      replace f := f.trans bb
      clear bb gg hh OB
      refine hK.out _ _ (hS _ f) (fun hHeld => ?_)
      clear hK K
      have TD : TwoD w1.heap.size vA vB d y4 := ⟨FA, FB, hfin⟩
      obtain ⟨a9, c9, rfl, _, _⟩ := OwnS.out FA
      obtain ⟨b9, e9, rfl, _, _⟩ := OwnWr.out FB
      have MR9 := MR.below f
      have hTl : ∀ x, (Value.slice a9 d.n c9).ownBlock = some x ∨ (Value.slice b9 d.m e9).ownBlock = some x → w1.heap.size ≤ x := fun x hx => hx.elim (fun h => (ownW_lt TD.1 h).1) (fun h => (ownW_lt TD.2.1 h).1)
      refine wpAnyH_take (i := 8) (v := .agg #[.slice a9 d.n c9, .slice b9 d.m e9]) rfl (by kernel_rfl) (by kernel_rfl) (by kernel_rfl) (fun _ _ _ h => h) (Or.inl ⟨by rfl, fun w' hSw => by go_simp⟩) hHeld ?_
      simp only [List.getElem_toArray, List.getElem_cons_succ, List.getElem_cons_zero, Act.put, List.setIfInBounds_toArray, List.set_cons_zero, List.set_cons_succ]
      refine wpAnyH_ready (rs := [9]) (by kernel_rfl) (by simp) (AllReadyH.cons rfl (fun K hK => ?_) AllReadyH.nil)
      rw [if_pos (by rfl)]
      refine wp_storeM (us := [.slice a9 d.n c9, .slice b9 d.m e9]) rfl rfl rfl (MR9) rfl (by intro v hv; simp only [List.mem_cons, List.not_mem_nil, or_false] at hv; rcases hv with rfl | rfl <;> rfl) sizeDisk17 ?_
      intro z1 MB oX
      have on := OnlyP.of_only (P := fun x => x = w.heap.size + 1) oX rfl
      have M9 := (MD.below f).onlyP on (by omega)
      have TD5 := TD.onlyP on (fun x hx h => by have h : x = w.heap.size + 1 := h; have := hTl x hx; omega)
      have dd := d1.trans (f.mono d1.size)
      have f5 := dd.trans (on.below (base := w.heap.size) (fun x _ hx => by have h : x = w.heap.size + 1 := hx; omega) dd.size)
      refine hK.out _ _ ⟨M9.2.1 0 _ rfl, M9.2.1 1 _ rfl⟩ (fun hHeld => ?_)
      clear hK K
      refine wpAnyH_done (by kernel_rfl) ?_ _
      clear hHeld
      have r0 := MB.2.1 0 _ rfl
      have r1 := MB.2.1 1 _ rfl
      go_wp2_with fail
      exact bodyPost_ret (v := .agg #[.slice a9 d.n c9, .slice b9 d.m e9]) (by simp [results, Tryd.results24, go_sem, r0, r1]) rfl ⟨_, _, rfl, TD5.base (by omega), f5⟩
    · go_simp
      have bb : Below y1.heap.size y1 (y1.alloc (.cells #[] 50)) := below_box (Below.refl _ _)
      have hs2 := f.size
      have OB : OwnW 50 2 w1.heap.size (.slice (some ⟨y1.heap.size, 0, none⟩) 0 0) 0 [] (y1.alloc (.cells #[] 50)) := ownW_base (World.ownsRow_made y1 #[] 0 (Nat.le_refl _) (by decide) rfl) hs2
      replace OA := ownW_below OA bb
      have hne : gA ≠ y1.heap.size := by omega
      replace f := below_step f bb
      clear bb
      refine hK.out _ _ (hS _ f) (fun hHeld => ?_)
      clear hK K
      have hlt2 : y1.heap.size < (y1.alloc (.cells #[] 50)).heap.size := by simp
      generalize y1.alloc (.cells #[] 50) = y2 at *
      generalize y1.heap.size = gB at *
      refine wpAnyH_ready (rs := [3]) (by kernel_rfl) (by simp) (AllReadyH.cons rfl (fun K hK => ?_) AllReadyH.nil)
      rw [if_pos (by rfl)]
      refine wp_appW aggS17 _ _ rfl w1.heap.size _ 0 [] rfl OA ba oa d.n c (scells d.n d.f) rfl (scells_len d.n d.f) (rowW_str (hR1.below (d1.trans (f.mono d1.size)))) (scells_one d.n d.f) (by omega) (by decide) f.size ?_
      intro vA y3 FA bb gg hh
      replace FA : OwnS w1.heap.size vA d.n d.f y3 := by simpa [OwnS] using FA
      have FA0 := FA
      replace gg : y2.grownBy y3 (some gA) := gg
      replace hh : vA.ownBlock = some gA ∨ vA.ownBlock = some y2.heap.size := hh
      have hlB : gB < y2.heap.size := (ownW_lt OB rfl).2
      replace OB := ownW_onlyP OB (OnlyP.of_grown (P := fun x => x = gA) gg (fun x hx => (Option.some.inj hx).symm)) (fun x hx h => hne (by have := Option.some.inj hx; simp at this; omega))
      have hAB : ∀ g, vA.ownBlock = some g → g ≠ gB := fun g h => by rcases hh with q | q <;> (rw [q] at h; have := Option.some.inj h; omega)
      replace f := f.trans bb
      clear bb gg hh OA
      refine hK.out _ _ (hS _ f) (fun hHeld => ?_)
      clear hK K
      refine wpAnyH_ready (rs := [7]) (by kernel_rfl) (by simp) (AllReadyH.cons rfl (fun K hK => ?_) AllReadyH.nil)
      rw [if_pos (by rfl)]
      refine wp_appW aggW17 _ _ rfl w1.heap.size _ 0 [] rfl OB bb_ ob d.m e (wcells d.m d.A d.D) rfl (wcells_len d.m d.A d.D) (rowW_wr (hR2.below (d1.trans (f.mono d1.size)))) (wcells_one d.m d.A d.D) (by omega) (by decide) f.size ?_
      intro vB y4 FB bb gg hh
      replace FB : OwnWr w1.heap.size vB d.m d.A d.D y4 := by simpa [OwnWr] using FB
      replace gg : y3.grownBy y4 (some gB) := gg
      replace hh : vB.ownBlock = some gB ∨ vB.ownBlock = some y3.heap.size := hh
      have hAB2 : ∀ g, vA.ownBlock = some g → g ≠ gB := hAB
      have hlA2 : ∀ g, vA.ownBlock = some g → g < y3.heap.size := fun g h => (ownW_lt FA h).2
      replace FA := ownW_onlyP FA (OnlyP.of_grown (P := fun x => x = gB) gg (fun x hx => (Option.some.inj hx).symm)) (fun x hx h => hAB2 x hx h)
      have hfin : ∀ g, vA.ownBlock = some g → vB.ownBlock ≠ some g := fun g h q => by
        rcases hh with z | z
        · rw [z] at q; exact hAB2 g h (Option.some.inj q).symm
        · rw [z] at q; have := hlA2 g h; have := Option.some.inj q; omega
      replace f := f.trans bb
      clear bb gg hh OB
      refine hK.out _ _ (hS _ f) (fun hHeld => ?_)
      clear hK K
      have TD : TwoD w1.heap.size vA vB d y4 := ⟨FA, FB, hfin⟩
      obtain ⟨a9, c9, rfl, _, _⟩ := OwnS.out FA
      obtain ⟨b9, e9, rfl, _, _⟩ := OwnWr.out FB
      have MR9 := MR.below f
      have hTl : ∀ x, (Value.slice a9 d.n c9).ownBlock = some x ∨ (Value.slice b9 d.m e9).ownBlock = some x → w1.heap.size ≤ x := fun x hx => hx.elim (fun h => (ownW_lt TD.1 h).1) (fun h => (ownW_lt TD.2.1 h).1)
      refine wpAnyH_take (i := 8) (v := .agg #[.slice a9 d.n c9, .slice b9 d.m e9]) rfl (by kernel_rfl) (by kernel_rfl) (by kernel_rfl) (fun _ _ _ h => h) (Or.inl ⟨by rfl, fun w' hSw => by go_simp⟩) hHeld ?_
      simp only [List.getElem_toArray, List.getElem_cons_succ, List.getElem_cons_zero, Act.put, List.setIfInBounds_toArray, List.set_cons_zero, List.set_cons_succ]
      refine wpAnyH_ready (rs := [9]) (by kernel_rfl) (by simp) (AllReadyH.cons rfl (fun K hK => ?_) AllReadyH.nil)
      rw [if_pos (by rfl)]
      refine wp_storeM (us := [.slice a9 d.n c9, .slice b9 d.m e9]) rfl rfl rfl (MR9) rfl (by intro v hv; simp only [List.mem_cons, List.not_mem_nil, or_false] at hv; rcases hv with rfl | rfl <;> rfl) sizeDisk17 ?_
      intro z1 MB oX
      have on := OnlyP.of_only (P := fun x => x = w.heap.size + 1) oX rfl
      have M9 := (MD.below f).onlyP on (by omega)
      have TD5 := TD.onlyP on (fun x hx h => by have h : x = w.heap.size + 1 := h; have := hTl x hx; omega)
      have dd := d1.trans (f.mono d1.size)
      have f5 := dd.trans (on.below (base := w.heap.size) (fun x _ hx => by have h : x = w.heap.size + 1 := hx; omega) dd.size)
      refine hK.out _ _ ⟨M9.2.1 0 _ rfl, M9.2.1 1 _ rfl⟩ (fun hHeld => ?_)
      clear hK K
      refine wpAnyH_done (by kernel_rfl) ?_ _
      clear hHeld
      have r0 := MB.2.1 0 _ rfl
      have r1 := MB.2.1 1 _ rfl
      go_wp2_with fail
      exact bodyPost_ret (v := .agg #[.slice a9 d.n c9, .slice b9 d.m e9]) (by simp [results, Tryd.results24, go_sem, r0, r1]) rfl ⟨_, _, rfl, TD5.base (by omega), f5⟩
  · go_simp
    have bb : Below y0.heap.size y0 (y0.alloc (.cells #[] 50)) := below_box (Below.refl _ _)
    have hs1 := f.size
    have OB : OwnW 50 2 w1.heap.size (.slice (some ⟨y0.heap.size, 0, none⟩) 0 0) 0 [] (y0.alloc (.cells #[] 50)) := ownW_base (World.ownsRow_made y0 #[] 0 (Nat.le_refl _) (by decide) rfl) hs1
    replace f := below_step f bb
    clear bb
    refine hK.out _ _ (hS _ f) (fun hHeld => ?_)
    clear hK K
    have hlt1 : y0.heap.size < (y0.alloc (.cells #[] 50)).heap.size := by simp
    generalize y0.alloc (.cells #[] 50) = y1 at *
    generalize y0.heap.size = gB at *
    refine wpAnyH_ready (rs := [0]) (by kernel_rfl) (by simp) (AllReadyH.cons rfl (fun K hK => ?_) AllReadyH.nil)
    go_simp
    have bb : Below y1.heap.size y1 (y1.alloc (.cells #[] 9)) := below_box (Below.refl _ _)
    have hs2 := f.size
    have OA : OwnW 9 1 w1.heap.size (.slice (some ⟨y1.heap.size, 0, none⟩) 0 0) 0 [] (y1.alloc (.cells #[] 9)) := ownW_base (World.ownsRow_made y1 #[] 0 (Nat.le_refl _) (by decide) rfl) hs2
    replace OB := ownW_below OB bb
    have hne : y1.heap.size ≠ gB := by omega
    replace f := below_step f bb
    clear bb
    refine hK.out _ _ (hS _ f) (fun hHeld => ?_)
    clear hK K
    have hlt2 : y1.heap.size < (y1.alloc (.cells #[] 9)).heap.size := by simp
    generalize y1.alloc (.cells #[] 9) = y2 at *
    generalize y1.heap.size = gA at *
    refine wpAnyH_ready (rs := [3]) (by kernel_rfl) (by simp) (AllReadyH.cons rfl (fun K hK => ?_) AllReadyH.nil)
    rw [if_pos (by rfl)]
    refine wp_appW aggS17 _ _ rfl w1.heap.size _ 0 [] rfl OA ba oa d.n c (scells d.n d.f) rfl (scells_len d.n d.f) (rowW_str (hR1.below (d1.trans (f.mono d1.size)))) (scells_one d.n d.f) (by omega) (by decide) f.size ?_
    intro vA y3 FA bb gg hh
    replace FA : OwnS w1.heap.size vA d.n d.f y3 := by simpa [OwnS] using FA
    have FA0 := FA
    replace gg : y2.grownBy y3 (some gA) := gg
    replace hh : vA.ownBlock = some gA ∨ vA.ownBlock = some y2.heap.size := hh
    have hlB : gB < y2.heap.size := (ownW_lt OB rfl).2
    replace OB := ownW_onlyP OB (OnlyP.of_grown (P := fun x => x = gA) gg (fun x hx => (Option.some.inj hx).symm)) (fun x hx h => hne (by have := Option.some.inj hx; simp at this; omega))
    have hAB : ∀ g, vA.ownBlock = some g → g ≠ gB := fun g h => by rcases hh with q | q <;> (rw [q] at h; have := Option.some.inj h; omega)
    replace f := f.trans bb
    clear bb gg hh OA
    refine hK.out _ _ (hS _ f) (fun hHeld => ?_)
    clear hK K
    refine wpAnyH_ready (rs := [7]) (by kernel_rfl) (by simp) (AllReadyH.cons rfl (fun K hK => ?_) AllReadyH.nil)
    rw [if_pos (by rfl)]
    refine wp_appW aggW17 _ _ rfl w1.heap.size _ 0 [] rfl OB bb_ ob d.m e (wcells d.m d.A d.D) rfl (wcells_len d.m d.A d.D) (rowW_wr (hR2.below (d1.trans (f.mono d1.size)))) (wcells_one d.m d.A d.D) (by omega) (by decide) f.size ?_
    intro vB y4 FB bb gg hh
    replace FB : OwnWr w1.heap.size vB d.m d.A d.D y4 := by simpa [OwnWr] using FB
    replace gg : y3.grownBy y4 (some gB) := gg
    replace hh : vB.ownBlock = some gB ∨ vB.ownBlock = some y3.heap.size := hh
    have hAB2 : ∀ g, vA.ownBlock = some g → g ≠ gB := hAB
    have hlA2 : ∀ g, vA.ownBlock = some g → g < y3.heap.size := fun g h => (ownW_lt FA h).2
    replace FA := ownW_onlyP FA (OnlyP.of_grown (P := fun x => x = gB) gg (fun x hx => (Option.some.inj hx).symm)) (fun x hx h => hAB2 x hx h)
    have hfin : ∀ g, vA.ownBlock = some g → vB.ownBlock ≠ some g := fun g h q => by
      rcases hh with z | z
      · rw [z] at q; exact hAB2 g h (Option.some.inj q).symm
      · rw [z] at q; have := hlA2 g h; have := Option.some.inj q; omega
    replace f := f.trans bb
    clear bb gg hh OB
    refine hK.out _ _ (hS _ f) (fun hHeld => ?_)
    clear hK K
    have TD : TwoD w1.heap.size vA vB d y4 := ⟨FA, FB, hfin⟩
    obtain ⟨a9, c9, rfl, _, _⟩ := OwnS.out FA
    obtain ⟨b9, e9, rfl, _, _⟩ := OwnWr.out FB
    have MR9 := MR.below f
    have hTl : ∀ x, (Value.slice a9 d.n c9).ownBlock = some x ∨ (Value.slice b9 d.m e9).ownBlock = some x → w1.heap.size ≤ x := fun x hx => hx.elim (fun h => (ownW_lt TD.1 h).1) (fun h => (ownW_lt TD.2.1 h).1)
    refine wpAnyH_take (i := 8) (v := .agg #[.slice a9 d.n c9, .slice b9 d.m e9]) rfl (by kernel_rfl) (by kernel_rfl) (by kernel_rfl) (fun _ _ _ h => h) (Or.inl ⟨by rfl, fun w' hSw => by go_simp⟩) hHeld ?_
    simp only [List.getElem_toArray, List.getElem_cons_succ, List.getElem_cons_zero, Act.put, List.setIfInBounds_toArray, List.set_cons_zero, List.set_cons_succ]
    refine wpAnyH_ready (rs := [9]) (by kernel_rfl) (by simp) (AllReadyH.cons rfl (fun K hK => ?_) AllReadyH.nil)
    rw [if_pos (by rfl)]
    refine wp_storeM (us := [.slice a9 d.n c9, .slice b9 d.m e9]) rfl rfl rfl (MR9) rfl (by intro v hv; simp only [List.mem_cons, List.not_mem_nil, or_false] at hv; rcases hv with rfl | rfl <;> rfl) sizeDisk17 ?_
    intro z1 MB oX
    have on := OnlyP.of_only (P := fun x => x = w.heap.size + 1) oX rfl
    have M9 := (MD.below f).onlyP on (by omega)
    have TD5 := TD.onlyP on (fun x hx h => by have h : x = w.heap.size + 1 := h; have := hTl x hx; omega)
    have dd := d1.trans (f.mono d1.size)
    have f5 := dd.trans (on.below (base := w.heap.size) (fun x _ hx => by have h : x = w.heap.size + 1 := hx; omega) dd.size)
    refine hK.out _ _ ⟨M9.2.1 0 _ rfl, M9.2.1 1 _ rfl⟩ (fun hHeld => ?_)
    clear hK K
    refine wpAnyH_done (by kernel_rfl) ?_ _
    clear hHeld
    have r0 := MB.2.1 0 _ rfl
    have r1 := MB.2.1 1 _ rfl
    go_wp2_with fail
    exact bodyPost_ret (v := .agg #[.slice a9 d.n c9, .slice b9 d.m e9]) (by simp [results, Tryd.results24, go_sem, r0, r1]) rfl ⟨_, _, rfl, TD5.base (by omega), f5⟩
end Go.Proofs.YtddjefmokpfplaaDoor
