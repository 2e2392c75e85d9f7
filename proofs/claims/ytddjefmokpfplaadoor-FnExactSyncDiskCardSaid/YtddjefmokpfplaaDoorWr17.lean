/- A write waits: of the program. -/
import Derived.Test.YtddjefmokpfplaaDoorOD17
import Derived.Deep.DeepCutAuto
import Derived.Deep.RegionHeld3
import Derived.Deep.RegionHeld3
import Derived.Deep.RegionHeld3
import Derived.Deep.RegionHeld3
namespace Go.Proofs.YtddjefmokpfplaaDoor
open Go.RowKit

/-- The disk d lies in box k, all of it in blocks of S. -/
def HasD (S : Nat → Prop) (k : Nat) (d : Dk) (w : World) : Prop := S k ∧ ∃ va vb, Mut w k [va, vb] ∧ TwoD 0 va vb d w ∧ (∀ g, va.ownBlock = some g → S g ∧ g ≠ k) ∧ ∀ g, vb.ownBlock = some g → S g ∧ g ≠ k
theorem HasD.mono {S T : Nat → Prop} {k : Nat} {d : Dk} {w : World} (h : HasD S k d w) (hs : ∀ x, S x → T x) : HasD T k d w := by
  obtain ⟨h1, va, vb, h2, h3, h4, h5⟩ := h
  exact ⟨hs _ h1, va, vb, h2, h3, fun g hg => ⟨hs _ (h4 g hg).1, (h4 g hg).2⟩, fun g hg => ⟨hs _ (h5 g hg).1, (h5 g hg).2⟩⟩
theorem HasD.below {S : Nat → Prop} {k : Nat} {d : Dk} {w w' : World} (h : HasD S k d w) (b : Below w.heap.size w w') : HasD S k d w' := by
  obtain ⟨h1, va, vb, h2, h3, h4, h5⟩ := h
  exact ⟨h1, va, vb, h2.below b, h3.below b, h4, h5⟩
theorem HasD.onlyP {S T : Nat → Prop} {k : Nat} {d : Dk} {w w' : World} (h : HasD S k d w) (b : OnlyP T w w') (hn : ∀ x, S x → ¬ T x) : HasD S k d w' := by
  obtain ⟨h1, va, vb, h2, h3, h4, h5⟩ := h
  exact ⟨h1, va, vb, h2.onlyP b (hn _ h1), h3.onlyP b (fun x hx => hx.elim (fun q => hn _ (h4 x q).1) (fun q => hn _ (h5 x q).1)), h4, h5⟩
/-- One write more. -/
def addD (d : Dk) (x : Int) (s : ByteArray) : Dk := ⟨d.n, d.f, d.m + 1, fun i => if i = d.m then x else d.A i, fun i => if i = d.m then s else d.D i⟩
theorem wcells_add (d : Dk) (x : Int) (s : ByteArray) : wcells (addD d x s).m (addD d x s).A (addD d x s).D = wcells d.m d.A d.D ++ [.int .i64 x, .string s] := by
  unfold addD
  dsimp only
  rw [wcells_succ]
  simp only [if_true]
  congr 1
  apply wcells_congr
  intro i hi
  rw [if_neg (by omega), if_neg (by omega)]
  exact ⟨rfl, rfl⟩
set_option maxRecDepth 100000 in
set_option maxHeartbeats 1600000 in
theorem i_writeY (S : Nat → Prop) (k : Nat) (d : Dk) (x : Int) (s : ByteArray) (w : World) (hg : GW17 x s) (hm : d.m < 40) (hD : HasD S k d w) :
    Calls Tryd.prog 29 #[.pointer (some ⟨k, 0, none⟩), .agg #[.int .i64 x, .string s]] w fun e w' => e = .returned (.tuple #[]) ∧ HasD (fun y => S y ∨ w.heap.size ≤ y) k (addD d x s) w' ∧ OnlyP S w w' := by
  obtain ⟨hk, va, vb, M, T, hA, hB⟩ := hD
  have GWr := hide (fun w => i_goodWrite x s w)
  rw [decide_eq_true hg] at GWr
  have MY := hide (fun w => i_mustY w)
  obtain ⟨a1, c1, rfl, _, _⟩ := T.1.out
  obtain ⟨b1, e1, rfl, _, _⟩ := T.2.1.out
  have MW := Mut.new w #[.int .i64 x, .string s] 50
  have d0 : Below w.heap.size w (w.alloc (.cells #[.int .i64 x, .string s] 50)) := below_box (Below.refl _ _)
  have M1 := M.below d0
  have u0 := MW.2.1 0 _ rfl
  have u1 := MW.2.1 1 _ rfl
  have v1 := M1.2.1 1 _ rfl
  go_enter Tryd.func29, Tryd.ntmps29
  go_wp2_with fail
  refine (GWr.out _).mono ?_
  rintro e w1 ⟨rfl, b1x⟩
  have d1 := below_step d0 b1x
  replace M1 := M1.below b1x
  replace MW := MW.below b1x
  clear b1x u0 u1 v1 GWr
  have u0 := MW.2.1 0 _ rfl
  have u1 := MW.2.1 1 _ rfl
  have v1 := M1.2.1 1 _ rfl
  have hm' : (d.m : Int) < 40 := by omega
  go_wp2_with fail
  refine (MY.out _).mono ?_
  rintro e w2 ⟨rfl, rfl⟩
  go_upto_region 2 with fail
  have T2 := T.below d1
  have hkl := M.1
  have hbl : ∀ g, (Value.slice b1 d.m e1).ownBlock = some g → g < w.heap.size := fun g h => (ownW_lt T.2.1 h).2
  have hal : ∀ g, (Value.slice a1 d.n c1).ownBlock = some g → g < w.heap.size := fun g h => (ownW_lt T.1 h).2
  obtain ⟨P, hP⟩ : ∃ P : Nat → Prop, P = fun y => y = k ∨ (Value.slice b1 d.m e1).ownBlock = some y := ⟨_, rfl⟩
  have hPw : ¬ P w.heap.size := by
    rw [hP]
    rintro (h | h)
    · omega
    · have := hbl _ h; omega
  have hPk : P k := by rw [hP]; exact .inl rfl
  have hPb : ∀ g, (Value.slice b1 d.m e1).ownBlock = some g → P g := fun g h => by rw [hP]; exact .inr h
  have hPa : ∀ g, (Value.slice a1 d.n c1).ownBlock = some g → ¬ P g := fun g h => by
    rw [hP]
    rintro (q | q)
    · exact (hA g h).2 q
    · exact T.2.2 g h q
  have hPS : ∀ g, P g → S g := fun g h => by
    rw [hP] at h
    rcases h with rfl | h
    · exact hk
    · exact (hB g h).1
  clear hP
  have hS : ∀ w' : World, OnlyP P w2 w' → w'.cell? ⟨w.heap.size, 0, none⟩ = some (.int .i64 x) ∧ w'.cell? ⟨w.heap.size, 1, none⟩ = some (.string s) := fun w' b => ⟨(MW.onlyP b hPw).2.1 0 _ rfl, (MW.onlyP b hPw).2.1 1 _ rfl⟩
  have f0 : OnlyP P w2 w2.drew := OnlyP.of_below (Below.refl _ _).drew
  have f0b : Below w2.heap.size w2 w2.drew := (Below.refl _ _).drew
  refine wp_region_held_drew (S := fun w' => w'.cell? ⟨w.heap.size, 0, none⟩ = some (.int .i64 x) ∧ w'.cell? ⟨w.heap.size, 1, none⟩ = some (.string s)) (by kernel_rfl) (hS _ f0) (fun hHeld => ?_)
  refine wpAnyH_take (i := 0) (v := .pointer (some ⟨k, 0, none⟩)) rfl (by kernel_rfl) (by kernel_rfl) (by kernel_rfl) (fun _ _ _ h => h) (Or.inl ⟨by rfl, fun w' hSw => by go_simp⟩) hHeld ?_
  simp only [List.getElem_toArray, List.getElem_cons_zero, Act.put, List.setIfInBounds_toArray, List.set_cons_zero, List.set_cons_succ]
  refine wpAnyH_take (i := 1) (v := .pointer (some ⟨k, 0, none⟩)) rfl (by kernel_rfl) (by kernel_rfl) (by kernel_rfl) (fun _ _ _ h => h) (Or.inl ⟨by rfl, fun w' hSw => by go_simp⟩) hHeld ?_
  simp only [List.getElem_toArray, List.getElem_cons_succ, List.getElem_cons_zero, Act.put, List.setIfInBounds_toArray, List.set_cons_zero, List.set_cons_succ]
  refine wpAnyH_take (i := 2) (v := .pointer (some ⟨k, 0, none⟩)) rfl (by kernel_rfl) (by kernel_rfl) (by kernel_rfl) (fun _ _ _ h => h) (Or.inl ⟨by rfl, fun w' hSw => by go_simp⟩) hHeld ?_
  simp only [List.getElem_toArray, List.getElem_cons_succ, List.getElem_cons_zero, Act.put, List.setIfInBounds_toArray, List.set_cons_zero, List.set_cons_succ]
  refine wpAnyH_take (i := 3) (v := .pointer (some ⟨k, 1, none⟩)) rfl (by kernel_rfl) (by kernel_rfl) (by kernel_rfl) (fun _ _ _ h => h) (Or.inl ⟨by rfl, fun w' hSw => by go_simp⟩) hHeld ?_
  simp only [List.getElem_toArray, List.getElem_cons_succ, List.getElem_cons_zero, Act.put, List.setIfInBounds_toArray, List.set_cons_zero, List.set_cons_succ]
  refine wpAnyH_take (i := 5) (v := .agg #[.int .i64 x, .string s]) rfl (by kernel_rfl) (by kernel_rfl) (by kernel_rfl) (fun _ _ _ h => h) (Or.inl ⟨by rfl, fun w' hSw => by go_simp⟩) hHeld ?_
  simp only [List.getElem_toArray, List.getElem_cons_succ, List.getElem_cons_zero, Act.put, List.setIfInBounds_toArray, List.set_cons_zero, List.set_cons_succ]
  have v1d := (M1.below f0b).2.1 1 _ rfl
  have hz2 : w2.drew.heap.size = w2.heap.size := rfl
  have bA : Below w2.drew.heap.size w2.drew (w2.drew.alloc (.cells #[.int .i64 x, .string s] 50)) := below_box (Below.refl _ _)
  have f1b := f0b.trans bA
  have f1 : OnlyP P w2 (w2.drew.alloc (.cells #[.int .i64 x, .string s] 50)) := OnlyP.of_below f1b
  have hz3 : (w2.drew.alloc (.cells #[.int .i64 x, .string s] 50)).heap.size = w2.heap.size + 1 := by simp
  have N := Mut.new w2.drew #[.int .i64 x, .string s] 50
  have v1e : (w2.alloc (.cells #[.int .i64 x, .string s] 50)).cell? ⟨k, 1, none⟩ = some (.slice b1 d.m e1) := (M1.below f1b).2.1 1 _ rfl
  refine wpAnyH_ready (rs := [4, 6]) (by kernel_rfl) (by simp) (AllReadyH.cons rfl (fun K hK => ?_) (AllReadyH.cons rfl (fun K hK => ?_) AllReadyH.nil))
  · go_simp
    refine hK.out _ _ (hS _ f0) (fun hHeld => ?_)
    clear hK K
    refine wpAnyH_ready (rs := [6]) (by kernel_rfl) (by simp) (AllReadyH.cons rfl (fun K hK => ?_) AllReadyH.nil)
    go_simp
    refine hK.out _ _ (hS _ f1) (fun hHeld => ?_)
    clear hK K
    refine wpAnyH_ready (rs := [7]) (by kernel_rfl) (by simp) (AllReadyH.cons rfl (fun K hK => ?_) AllReadyH.nil)
    rw [if_pos (by rfl)]
    refine wp_appW aggW17 _ _ rfl 0 _ d.m (wcells d.m d.A d.D) rfl (ownW_below T2.2.1 f1b) w2.drew.heap.size 0 1 1 [.int .i64 x, .string s] rfl rfl (RowW.mut N) (by intro v hv; simp only [List.mem_cons, List.not_mem_nil, or_false] at hv; rcases hv with rfl | rfl <;> rfl) (by omega) (by decide) (Nat.zero_le _) ?_
    intro v' w3 own3 _ g3 h3
    replace g3 : (w2.drew.alloc (.cells #[.int .i64 x, .string s] 50)).grownBy w3 (Value.slice b1 d.m e1).ownBlock := g3
    replace h3 : v'.ownBlock = (Value.slice b1 d.m e1).ownBlock ∨ v'.ownBlock = some (w2.heap.size + 1) := by rw [← hz3]; exact h3
    have f3 : OnlyP P w2 w3 := f1.trans (OnlyP.of_grown g3 hPb)
    rw [← wcells_add] at own3
    obtain ⟨ax, cx, rfl, _, _⟩ := OwnWr.out (m := (addD d x s).m) own3
    have M3 : Mut w3 k [.slice a1 d.n c1, .slice b1 d.m e1] := by
      have q := (M1.below f1b)
      exact ⟨Nat.lt_of_lt_of_le q.1 g3.size, fun i v hv => (World.cell?_of_block (w := _) (g3.block k q.1 (fun e => (hB k e.symm).2 rfl))).trans (q.2.1 i v hv), fun i hi => (World.frozen?_of_block (w := _) (g3.block k q.1 (fun e => (hB k e.symm).2 rfl))).trans (q.2.2 i hi)⟩
    have A3 : OwnS 0 (.slice a1 d.n c1) d.n d.f w3 := ownW_onlyP (ownW_below T2.1 f1b) (OnlyP.of_grown (P := P) g3 hPb) (fun g h => hPa g h)
    refine hK.out _ _ (hS _ f3) (fun hHeld => ?_)
    clear hK K
    refine wpAnyH_take (i := 8) (v := .pointer (some ⟨k, 0, none⟩)) rfl (by kernel_rfl) (by kernel_rfl) (by kernel_rfl) (fun _ _ _ h => h) (Or.inl ⟨by rfl, fun w' hSw => by go_simp⟩) hHeld ?_
    simp only [List.getElem_toArray, List.getElem_cons_succ, List.getElem_cons_zero, Act.put, List.setIfInBounds_toArray, List.set_cons_zero, List.set_cons_succ]
    refine wpAnyH_take (i := 9) (v := .pointer (some ⟨k, 1, none⟩)) rfl (by kernel_rfl) (by kernel_rfl) (by kernel_rfl) (fun _ _ _ h => h) (Or.inl ⟨by rfl, fun w' hSw => by go_simp⟩) hHeld ?_
    simp only [List.getElem_toArray, List.getElem_cons_succ, List.getElem_cons_zero, Act.put, List.setIfInBounds_toArray, List.set_cons_zero, List.set_cons_succ]
    refine wpAnyH_ready (rs := [10]) (by kernel_rfl) (by simp) (AllReadyH.cons rfl (fun K hK => ?_) AllReadyH.nil)
    have cv := M3.2.1 1 _ rfl
    have cz := M3.2.2 1 (by simp)
    go_simp
    have on := OnlyP.of_only (P := P) ((Only.refl k w3).setCell 1 (.slice ax (addD d x s).m cx)) hPk
    have f4 := f3.trans on
    have M4 := M3.set 1 (.slice ax (addD d x s).m cx)
    have hkx : (Value.slice ax (addD d x s).m cx).ownBlock ≠ some k := by
      rcases h3 with h | h
      · rw [h]; exact fun q => (hB k q).2 rfl
      · rw [h]; intro q; have := Option.some.inj q; have := d1.size; omega
    have A4 : OwnS 0 (.slice a1 d.n c1) d.n d.f (w3.setCell ⟨k, 1, none⟩ (.slice ax (addD d x s).m cx)) := ownW_onlyP A3 on (fun g h => hPa g h)
    have B4 : OwnWr 0 (.slice ax (addD d x s).m cx) (addD d x s).m (addD d x s).A (addD d x s).D (w3.setCell ⟨k, 1, none⟩ (.slice ax (addD d x s).m cx)) := ownW_onlyP own3 (OnlyP.of_only (P := fun y => y = k) ((Only.refl k w3).setCell 1 (.slice ax (addD d x s).m cx)) rfl) (fun g h q => hkx (by rw [h, q]))
    refine hK.out _ _ (hS _ f4) (fun hHeld => ?_)
    clear hK K
    refine wpAnyH_done (by kernel_rfl) ?_ _
    refine ⟨rfl, .tuple #[], by simp [results, Tryd.results29, go_sem], rfl, ?_, ?_⟩
    · refine ⟨.inl hk, _, _, M4, ⟨A4, B4, fun g h => ?_⟩, fun g h => ⟨.inl (hA g h).1, (hA g h).2⟩, fun g h => ?_⟩
      · rcases h3 with q | q
        · rw [q]; exact T.2.2 g h
        · rw [q]; intro z; have := Option.some.inj z; have := hal g h; have := d1.size; omega
      · refine ⟨?_, fun q => hkx (by rw [h, q])⟩
        rcases h3 with q | q
        · rw [q] at h; exact .inl (hB g h).1
        · rw [q] at h; have := Option.some.inj h; have := d1.size; right; show w.heap.size ≤ g; omega
    · exact (OnlyP.of_below d1).trans (f4.mono (fun y _ h => hPS y h))
  · go_simp
    refine hK.out _ _ (hS _ f1) (fun hHeld => ?_)
    clear hK K
    refine wpAnyH_ready (rs := [4]) (by kernel_rfl) (by simp) (AllReadyH.cons rfl (fun K hK => ?_) AllReadyH.nil)
    go_simp
    refine hK.out _ _ (hS _ f1) (fun hHeld => ?_)
    clear hK K
    refine wpAnyH_ready (rs := [7]) (by kernel_rfl) (by simp) (AllReadyH.cons rfl (fun K hK => ?_) AllReadyH.nil)
    rw [if_pos (by rfl)]
    refine wp_appW aggW17 _ _ rfl 0 _ d.m (wcells d.m d.A d.D) rfl (ownW_below T2.2.1 f1b) w2.drew.heap.size 0 1 1 [.int .i64 x, .string s] rfl rfl (RowW.mut N) (by intro v hv; simp only [List.mem_cons, List.not_mem_nil, or_false] at hv; rcases hv with rfl | rfl <;> rfl) (by omega) (by decide) (Nat.zero_le _) ?_
    intro v' w3 own3 _ g3 h3
    replace g3 : (w2.drew.alloc (.cells #[.int .i64 x, .string s] 50)).grownBy w3 (Value.slice b1 d.m e1).ownBlock := g3
    replace h3 : v'.ownBlock = (Value.slice b1 d.m e1).ownBlock ∨ v'.ownBlock = some (w2.heap.size + 1) := by rw [← hz3]; exact h3
    have f3 : OnlyP P w2 w3 := f1.trans (OnlyP.of_grown g3 hPb)
    rw [← wcells_add] at own3
    obtain ⟨ax, cx, rfl, _, _⟩ := OwnWr.out (m := (addD d x s).m) own3
    have M3 : Mut w3 k [.slice a1 d.n c1, .slice b1 d.m e1] := by
      have q := (M1.below f1b)
      exact ⟨Nat.lt_of_lt_of_le q.1 g3.size, fun i v hv => (World.cell?_of_block (w := _) (g3.block k q.1 (fun e => (hB k e.symm).2 rfl))).trans (q.2.1 i v hv), fun i hi => (World.frozen?_of_block (w := _) (g3.block k q.1 (fun e => (hB k e.symm).2 rfl))).trans (q.2.2 i hi)⟩
    have A3 : OwnS 0 (.slice a1 d.n c1) d.n d.f w3 := ownW_onlyP (ownW_below T2.1 f1b) (OnlyP.of_grown (P := P) g3 hPb) (fun g h => hPa g h)
    refine hK.out _ _ (hS _ f3) (fun hHeld => ?_)
    clear hK K
    refine wpAnyH_take (i := 8) (v := .pointer (some ⟨k, 0, none⟩)) rfl (by kernel_rfl) (by kernel_rfl) (by kernel_rfl) (fun _ _ _ h => h) (Or.inl ⟨by rfl, fun w' hSw => by go_simp⟩) hHeld ?_
    simp only [List.getElem_toArray, List.getElem_cons_succ, List.getElem_cons_zero, Act.put, List.setIfInBounds_toArray, List.set_cons_zero, List.set_cons_succ]
    refine wpAnyH_take (i := 9) (v := .pointer (some ⟨k, 1, none⟩)) rfl (by kernel_rfl) (by kernel_rfl) (by kernel_rfl) (fun _ _ _ h => h) (Or.inl ⟨by rfl, fun w' hSw => by go_simp⟩) hHeld ?_
    simp only [List.getElem_toArray, List.getElem_cons_succ, List.getElem_cons_zero, Act.put, List.setIfInBounds_toArray, List.set_cons_zero, List.set_cons_succ]
    refine wpAnyH_ready (rs := [10]) (by kernel_rfl) (by simp) (AllReadyH.cons rfl (fun K hK => ?_) AllReadyH.nil)
    have cv := M3.2.1 1 _ rfl
    have cz := M3.2.2 1 (by simp)
    go_simp
    have on := OnlyP.of_only (P := P) ((Only.refl k w3).setCell 1 (.slice ax (addD d x s).m cx)) hPk
    have f4 := f3.trans on
    have M4 := M3.set 1 (.slice ax (addD d x s).m cx)
    have hkx : (Value.slice ax (addD d x s).m cx).ownBlock ≠ some k := by
      rcases h3 with h | h
      · rw [h]; exact fun q => (hB k q).2 rfl
      · rw [h]; intro q; have := Option.some.inj q; have := d1.size; omega
    have A4 : OwnS 0 (.slice a1 d.n c1) d.n d.f (w3.setCell ⟨k, 1, none⟩ (.slice ax (addD d x s).m cx)) := ownW_onlyP A3 on (fun g h => hPa g h)
    have B4 : OwnWr 0 (.slice ax (addD d x s).m cx) (addD d x s).m (addD d x s).A (addD d x s).D (w3.setCell ⟨k, 1, none⟩ (.slice ax (addD d x s).m cx)) := ownW_onlyP own3 (OnlyP.of_only (P := fun y => y = k) ((Only.refl k w3).setCell 1 (.slice ax (addD d x s).m cx)) rfl) (fun g h q => hkx (by rw [h, q]))
    refine hK.out _ _ (hS _ f4) (fun hHeld => ?_)
    clear hK K
    refine wpAnyH_done (by kernel_rfl) ?_ _
    refine ⟨rfl, .tuple #[], by simp [results, Tryd.results29, go_sem], rfl, ?_, ?_⟩
    · refine ⟨.inl hk, _, _, M4, ⟨A4, B4, fun g h => ?_⟩, fun g h => ⟨.inl (hA g h).1, (hA g h).2⟩, fun g h => ?_⟩
      · rcases h3 with q | q
        · rw [q]; exact T.2.2 g h
        · rw [q]; intro z; have := Option.some.inj z; have := hal g h; have := d1.size; omega
      · refine ⟨?_, fun q => hkx (by rw [h, q])⟩
        rcases h3 with q | q
        · rw [q] at h; exact .inl (hB g h).1
        · rw [q] at h; have := Option.some.inj h; have := d1.size; right; show w.heap.size ≤ g; omega
    · exact (OnlyP.of_below d1).trans (f4.mono (fun y _ h => hPS y h))
set_option maxRecDepth 100000 in
set_option maxHeartbeats 1600000 in
theorem i_writeN (gp : Addr) (S : Nat → Prop) (k : Nat) (d : Dk) (x : Int) (s : ByteArray) (w : World) (hG : GU gp w) (hg : ¬ (GW17 x s ∧ d.m < 40)) (hD : HasD S k d w) :
    Calls Tryd.prog 29 #[.pointer (some ⟨k, 0, none⟩), .agg #[.int .i64 x, .string s]] w fun e w' => e = gaveUp gp ∧ Below w.heap.size w w' := by
  obtain ⟨_, va, vb, M, T, _, _⟩ := hD
  have GWr := hide (fun w => i_goodWrite x s w)
  have MN := hide (fun w (h : GU gp w) => i_mustN gp w h)
  by_cases hgw : GW17 x s
  case neg =>
    rw [decide_eq_false hgw] at GWr
    obtain ⟨a1, c1, rfl, _, _⟩ := T.1.out
    obtain ⟨b1, e1, rfl, _, _⟩ := T.2.1.out
    have MW := Mut.new w #[.int .i64 x, .string s] 50
    have d0 : Below w.heap.size w (w.alloc (.cells #[.int .i64 x, .string s] 50)) := below_box (Below.refl _ _)
    have M1 := M.below d0
    have u0 := MW.2.1 0 _ rfl
    have u1 := MW.2.1 1 _ rfl
    have v1 := M1.2.1 1 _ rfl
    go_enter Tryd.func29, Tryd.ntmps29
    go_wp2_with fail
    refine (GWr.out _).mono ?_
    rintro e w1 ⟨rfl, b1x⟩
    have d1 := below_step d0 b1x
    replace M1 := M1.below b1x
    clear b1x u0 u1 v1 GWr
    go_wp2_with fail
    refine (MN.out _ (hG.below d1)).mono ?_
    rintro e w2 ⟨rfl, rfl⟩
    exact ⟨rfl, rfl, d1⟩
  rw [decide_eq_true hgw] at GWr
  have hm := hide (show ¬ ((d.m : Int) < 40) from fun h => hg ⟨hgw, by omega⟩)
  obtain ⟨a1, c1, rfl, _, _⟩ := T.1.out
  obtain ⟨b1, e1, rfl, _, _⟩ := T.2.1.out
  have MW := Mut.new w #[.int .i64 x, .string s] 50
  have d0 : Below w.heap.size w (w.alloc (.cells #[.int .i64 x, .string s] 50)) := below_box (Below.refl _ _)
  have M1 := M.below d0
  have u0 := MW.2.1 0 _ rfl
  have u1 := MW.2.1 1 _ rfl
  have v1 := M1.2.1 1 _ rfl
  go_enter Tryd.func29, Tryd.ntmps29
  go_wp2_with fail
  refine (GWr.out _).mono ?_
  rintro e w1 ⟨rfl, b1x⟩
  have d1 := below_step d0 b1x
  replace M1 := M1.below b1x
  clear b1x u0 u1 v1 GWr
  have v1 := M1.2.1 1 _ rfl
  go_wp2_with fail
  rw [show decide ((d.m : Int) < 40) = false from decide_eq_false (by have := hm.out; omega)]
  refine (MN.out _ (hG.below d1)).mono ?_
  rintro e w2 ⟨rfl, rfl⟩
  exact ⟨rfl, rfl, d1⟩
end Go.Proofs.YtddjefmokpfplaaDoor
