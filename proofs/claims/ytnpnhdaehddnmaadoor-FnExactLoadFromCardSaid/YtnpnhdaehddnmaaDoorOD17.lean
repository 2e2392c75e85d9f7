/- ownDisk of the program. -/
import Derived.Test.YtnpnhdaehddnmaaDoorMemD17
import Derived.Test.YtnpnhdaehddnmaaDoorGD17
import Derived.Test.YtnpnhdaehddnmaaDoorUp17
import Derived.Test.YtnpnhdaehddnmaaDoorStoreM
import Derived.Deep.RegionHeld3
namespace Go.Proofs.YtnpnhdaehddnmaaDoor
open Go.RowKit

/-- A list's address is plain. -/
def Pl17 (a : Option Addr) (m : Nat) : Prop := (a = none ∧ m = 0) ∨ ∃ b off, a = some ⟨b, off, none⟩
/-- Both lists of a disk are one's own, apart. -/
def TwoD (base : Nat) (va vb : Value) (d : Dk) (w : World) : Prop := OwnS base va d.n d.f w ∧ OwnWr base vb d.m d.A d.D w ∧ ∀ g, va.ownBlock = some g → vb.ownBlock ≠ some g
theorem TwoD.below {base : Nat} {va vb : Value} {d : Dk} {w w' : World} (h : TwoD base va vb d w) (k : Below w.heap.size w w') : TwoD base va vb d w' := ⟨ownW_below h.1 k, ownW_below h.2.1 k, h.2.2⟩
theorem TwoD.base {base base' : Nat} {va vb : Value} {d : Dk} {w : World} (h : TwoD base va vb d w) (k : base' ≤ base) : TwoD base' va vb d w := ⟨ownW_base h.1 k, ownW_base h.2.1 k, h.2.2⟩
theorem TwoD.onlyP {P : Nat → Prop} {base : Nat} {va vb : Value} {d : Dk} {w w' : World} (h : TwoD base va vb d w) (k : OnlyP P w w') (hP : ∀ x, va.ownBlock = some x ∨ vb.ownBlock = some x → ¬ P x) : TwoD base va vb d w' :=
  ⟨ownW_onlyP h.1 k (fun x hx => hP x (.inl hx)), ownW_onlyP h.2.1 k (fun x hx => hP x (.inr hx)), h.2.2⟩
theorem TwoD.ans {base : Nat} {va vb : Value} {d : Dk} {w : World} (h : TwoD base va vb d w) : ∃ a c b e, va = .slice a d.n c ∧ vb = .slice b d.m e ∧ AnsD base w.heap.size a b d w := by
  obtain ⟨a, c, rfl, _, h1⟩ := h.1.out
  obtain ⟨b, e, rfl, _, h2⟩ := h.2.1.out
  refine ⟨a, c, b, e, rfl, rfl, Nat.le_refl _, fun z => ?_, fun z => ?_, fun z z' => ?_⟩
  · obtain ⟨g, hg, k1, k2, o⟩ := h1 z
    exact ⟨g, hg, ⟨k1, k2⟩, o⟩
  · obtain ⟨g, hg, k1, k2, o⟩ := h2 z
    exact ⟨g, hg, ⟨k1, k2⟩, o⟩
  · obtain ⟨g, rfl, _⟩ := h1 z
    intro e2
    exact h.2.2 g rfl (by rw [← e2]; rfl)
theorem sizeDisk17 : (Tryd.prog.info? 31).map (·.size) = some 2 := by kernel_rfl
set_option maxRecDepth 100000 in
set_option maxHeartbeats 1600000 in
theorem i_ownDiskN (gp : Addr) (a b : Option Addr) (c e : Nat) (d : Dk) (w : World) (hl : d.n ≤ 1048576 ∧ d.m ≤ 1048576) (hR : RowD a b d w) (hG : GU gp w) (hg : ¬ GD17 d) :
    Calls Tryd.prog 27 #[.agg #[.slice a d.n c, .slice b d.m e]] w fun e w' => e = gaveUp gp ∧ Below w.heap.size w w' := by
  have GO := hide (fun w R => i_goodDisk a b c e d w hl R)
  rw [gD_f hg] at GO
  have MN := hide (fun w (h : GU gp w) => i_mustN gp w h)
  have M := (Mut.new w #[.slice a d.n c, .slice b d.m e] 31).alloc (.cells #[.slice none 0 0, .slice none 0 0] 31)
  have d0 : Below w.heap.size w ((w.alloc (.cells #[.slice a d.n c, .slice b d.m e] 31)).alloc (.cells #[.slice none 0 0, .slice none 0 0] 31)) := below_box2 (Below.refl _ _)
  have u0 := M.2.1 0 _ rfl
  have u1 := M.2.1 1 _ rfl
  clear hl hg
  go_enter Tryd.func27, Tryd.ntmps27
  go_wp2_with fail
  refine (GO.out _ (hR.below d0)).mono ?_
  rintro e w1 ⟨rfl, b1⟩
  have d1 := below_step d0 b1
  go_wp2_with fail
  refine (MN.out _ (hG.below d1)).mono ?_
  rintro e w2 ⟨rfl, rfl⟩
  exact ⟨rfl, rfl, d1⟩
set_option maxRecDepth 100000 in
set_option maxHeartbeats 1600000 in
theorem i_ownDiskY (a b : Option Addr) (c e : Nat) (d : Dk) (w : World) (hR : RowD a b d w) (hp : Pl17 b d.m) (hg : GD17 d) :
    Calls Tryd.prog 27 #[.agg #[.slice a d.n c, .slice b d.m e]] w fun e w' => ∃ va vb, e = .returned (.agg #[va, vb]) ∧ TwoD w.heap.size va vb d w' ∧ Below w.heap.size w w' := by
  have hn : d.n = 10 := hg.1
  have hm : d.m ≤ 40 := hg.2.1
  have GO := hide (fun w R => i_goodDisk a b c e d w ⟨by omega, by omega⟩ R)
  rw [gD_t hg] at GO
  have MY := hide (fun w => i_mustY w)
  have CS := hide (fun w R => i_cloneS17 a c d.n d.f w (by omega) (by omega) R)
  have CW := hide (fun w R => i_cloneW17 b e d.m d.A d.D w (by omega) R hp)
  have M := (Mut.new w #[.slice a d.n c, .slice b d.m e] 31).alloc (.cells #[.slice none 0 0, .slice none 0 0] 31)
  have MR := Mut.new (w.alloc (.cells #[.slice a d.n c, .slice b d.m e] 31)) #[.slice none 0 0, .slice none 0 0] 31
  simp only [World.size_alloc] at MR
  have d0 : Below w.heap.size w ((w.alloc (.cells #[.slice a d.n c, .slice b d.m e] 31)).alloc (.cells #[.slice none 0 0, .slice none 0 0] 31)) := below_box2 (Below.refl _ _)
  have u0 := M.2.1 0 _ rfl
  have u1 := M.2.1 1 _ rfl
  clear hg hn hm hp
  go_enter Tryd.func27, Tryd.ntmps27
  go_wp2_with fail
  refine (GO.out _ (hR.below d0)).mono ?_
  rintro e w1 ⟨rfl, b1⟩
  have d1 := below_step d0 b1
  replace M := M.below b1
  replace MR := MR.below b1
  clear b1 d0 u0 u1 GO
  go_wp2_with fail
  refine (MY.out _).mono ?_
  rintro e w2 ⟨rfl, rfl⟩
  have u0 := M.2.1 0 _ rfl
  have u1 := M.2.1 1 _ rfl
  go_wp2_with fail
  have hS : ∀ w' : World, Below w2.heap.size w2 w' → w'.cell? ⟨w.heap.size, 0, none⟩ = some (.slice a d.n c) ∧ w'.cell? ⟨w.heap.size, 1, none⟩ = some (.slice b d.m e) := fun w' b => ⟨(M.below b).2.1 0 _ rfl, (M.below b).2.1 1 _ rfl⟩
  refine wp_region_held_drew (S := fun w' => w'.cell? ⟨w.heap.size, 0, none⟩ = some (.slice a d.n c) ∧ w'.cell? ⟨w.heap.size, 1, none⟩ = some (.slice b d.m e)) (by kernel_rfl) (hS _ (Below.refl _ _).drew) (fun hHeld => ?_)
  refine wpAnyH_take (i := 0) (v := .pointer (some ⟨w.heap.size, 0, none⟩)) rfl (by kernel_rfl) (by kernel_rfl) (by kernel_rfl) (fun _ _ _ h => h) (Or.inl ⟨by rfl, fun w' hSw => by go_simp⟩) hHeld ?_
  simp only [List.getElem_toArray, List.getElem_cons_zero, Act.put, List.setIfInBounds_toArray, List.set_cons_zero, List.set_cons_succ]
  refine wpAnyH_take (i := 1) (v := .slice a d.n c) rfl (by kernel_rfl) (by kernel_rfl) (by kernel_rfl) (fun _ _ _ h => h) (Or.inl ⟨by rfl, fun w' hSw => by go_simp⟩) hHeld ?_
  simp only [List.getElem_toArray, List.getElem_cons_succ, List.getElem_cons_zero, Act.put, List.setIfInBounds_toArray, List.set_cons_zero, List.set_cons_succ]
  refine wpAnyH_take (i := 3) (v := .pointer (some ⟨w.heap.size, 1, none⟩)) rfl (by kernel_rfl) (by kernel_rfl) (by kernel_rfl) (fun _ _ _ h => h) (Or.inl ⟨by rfl, fun w' hSw => by go_simp⟩) hHeld ?_
  simp only [List.getElem_toArray, List.getElem_cons_succ, List.getElem_cons_zero, Act.put, List.setIfInBounds_toArray, List.set_cons_zero, List.set_cons_succ]
  refine wpAnyH_take (i := 4) (v := .slice b d.m e) rfl (by kernel_rfl) (by kernel_rfl) (by kernel_rfl) (fun _ _ _ h => h) (Or.inl ⟨by rfl, fun w' hSw => by go_simp⟩) hHeld ?_
  simp only [List.getElem_toArray, List.getElem_cons_succ, List.getElem_cons_zero, Act.put, List.setIfInBounds_toArray, List.set_cons_zero, List.set_cons_succ]
  refine wpAnyH_ready (rs := [2]) (by kernel_rfl) (by simp) (AllReadyH.cons rfl (fun K hK => ?_) AllReadyH.nil)
  go_simp
  refine (CS.out _ (hR.1.below (d1.trans ((Below.refl _ _).drew.mono d1.size)))).mono ?_
  rintro e w3 ⟨va, rfl, oA, b3⟩
  have f3 := (Below.refl w2.heap.size w2).drew.trans b3
  obtain ⟨a1, c1, rfl, _, _⟩ := oA.out
  refine hK.out _ _ (hS _ f3) (fun hHeld => ?_)
  clear hK K
  refine wpAnyH_ready (rs := [5]) (by kernel_rfl) (by simp) (AllReadyH.cons rfl (fun K hK => ?_) AllReadyH.nil)
  go_simp
  refine (CW.out _ (hR.2.below (d1.trans (f3.mono d1.size)))).mono ?_
  rintro e w4 ⟨vb, rfl, oB, b4⟩
  have f4 := f3.trans (b4.mono f3.size)
  obtain ⟨b1, e1, rfl, _, _⟩ := oB.out
  have hAB : ∀ g, (Value.slice a1 d.n c1).ownBlock = some g → (Value.slice b1 d.m e1).ownBlock ≠ some g := fun g h1 h2 => by
    have k1 := (ownW_lt oA h1).2
    have k2 := (ownW_lt oB h2).1
    omega
  have oA4 := ownW_below oA b4
  have h3s := f3.size
  have hlA := fun g (h : (Value.slice a1 d.n c1).ownBlock = some g) => (ownW_lt oA h).1
  have hlB := fun g (h : (Value.slice b1 d.m e1).ownBlock = some g) => (ownW_lt oB h).1
  refine hK.out _ _ (hS _ f4) (fun hHeld => ?_)
  clear hK K
  refine wpAnyH_take (i := 6) (v := .agg #[.slice a1 d.n c1, .slice b1 d.m e1]) rfl (by kernel_rfl) (by kernel_rfl) (by kernel_rfl) (fun _ _ _ h => h) (Or.inl ⟨by rfl, fun w' hSw => by go_simp⟩) hHeld ?_
  simp only [List.getElem_toArray, List.getElem_cons_succ, List.getElem_cons_zero, Act.put, List.setIfInBounds_toArray, List.set_cons_zero, List.set_cons_succ]
  refine wpAnyH_ready (rs := [7]) (by kernel_rfl) (by simp) (AllReadyH.cons rfl (fun K hK => ?_) AllReadyH.nil)
  have hd1 := d1.size
  have hz2 : w.heap.size + 1 < w2.heap.size := MR.1
  have TD : TwoD w2.heap.size (.slice a1 d.n c1) (.slice b1 d.m e1) d w4 := ⟨ownW_base oA4 (by simp), ownW_base oB h3s, hAB⟩
  have MR4 := MR.below f4
  rw [if_pos (by rfl)]
  refine wp_storeM (us := [.slice a1 d.n c1, .slice b1 d.m e1]) rfl rfl rfl (MR4) rfl (by intro v hv; simp only [List.mem_cons, List.not_mem_nil, or_false] at hv; rcases hv with rfl | rfl <;> rfl) sizeDisk17 ?_
  intro w5 MB oX
  have on := OnlyP.of_only (P := fun x => x = w.heap.size + 1) oX rfl
  have M5 := M.below f4 |>.onlyP on (by omega)
  have TD5 := TD.onlyP on (fun x hx e => by
    have e : x = w.heap.size + 1 := e
    rcases hx with h | h
    · have := hlA x h; simp at this; omega
    · have := hlB x h; omega)
  have f5 := (d1.trans (f4.mono d1.size)).trans (on.below (base := w.heap.size) (fun x _ hx => by have h : x = w.heap.size + 1 := hx; omega) (d1.trans (f4.mono d1.size)).size)
  refine hK.out _ _ ⟨M5.2.1 0 _ rfl, M5.2.1 1 _ rfl⟩ (fun hHeld => ?_)
  clear hK K
  refine wpAnyH_done (by kernel_rfl) ?_ _
  clear hHeld
  have r0 := MB.2.1 0 _ rfl
  have r1 := MB.2.1 1 _ rfl
  go_wp2_with fail
  exact bodyPost_ret (v := .agg #[.slice a1 d.n c1, .slice b1 d.m e1]) (by simp [results, Tryd.results27, go_sem, r0, r1]) rfl ⟨_, _, rfl, TD5.base (by omega), f5⟩
end Go.Proofs.YtnpnhdaehddnmaaDoor
