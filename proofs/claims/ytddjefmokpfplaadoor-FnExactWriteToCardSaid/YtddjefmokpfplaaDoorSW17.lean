/- WriteTo of the specification. -/
import Derived.Test.YtddjefmokpfplaaDoorSO17
import Derived.Test.YtddjefmokpfplaaDoorGD17
import Derived.Deep.DeepCutAuto
namespace Go.Proofs.YtddjefmokpfplaaDoor
open Go.RowKit

set_option maxRecDepth 100000 in
set_option maxHeartbeats 1600000 in
theorem s_writeTo (a b : Option Addr) (c e : Nat) (d : Dk) (x : Int) (s : ByteArray) (w : World) (hl : LowD d) (hsz : s.size ≤ 1048576) (hR : RowD a b d w) (hp : ∃ bb_ ob, b = some ⟨bb_, ob, none⟩) :
    Calls Tryd.prog 7 #[.agg #[.slice a d.n c, .slice b d.m e], .int .i64 x, .string s] w (AnsDB (wtA d x s) w) := by
  obtain ⟨r, hr⟩ : ∃ r, r = wtA d x s := ⟨_, rfl⟩
  rw [← hr]
  unfold AnsDB
  have GO := hide (fun w R => s_goodDisk a b c e d w hl R)
  have SI := hide (fun w => s_in x 0 9 w)
  have OW := hide (fun (h : 0 < d.n) w R => s_l17Own a b c e d w h ⟨hl.1, hl.2.1⟩ R hp)
  have hl2 := hl.2.1
  have MD := (Mut.new w #[.slice a d.n c, .slice b d.m e] 29).alloc (.cells #[.slice none 0 0, .slice none 0 0] 29)
  have MR := Mut.new (w.alloc (.cells #[.slice a d.n c, .slice b d.m e] 29)) #[.slice none 0 0, .slice none 0 0] 29
  have d0 : Below w.heap.size w ((w.alloc (.cells #[.slice a d.n c, .slice b d.m e] 29)).alloc (.cells #[.slice none 0 0, .slice none 0 0] 29)) := below_box2 (Below.refl _ _)
  simp only [World.size_alloc] at MR
  have m0 := MD.2.1 0 _ rfl
  have m1 := MD.2.1 1 _ rfl
  clear hl hp
  go_enter Tryd.func7, Tryd.ntmps7
  go_wp2_with fail
  generalize (w.alloc (.cells #[.slice a d.n c, .slice b d.m e] 29)).alloc (.cells #[.slice none 0 0, .slice none 0 0] 29) = w0 at *
  refine (GO.out _ (hR.below d0)).mono ?_
  rintro ex w1 ⟨rfl, b1⟩
  replace MD := MD.below b1
  replace MR := MR.below b1
  have d1 := below_step d0 b1
  clear b1 d0 m0 m1 GO
  have m0 := MD.2.1 0 _ rfl
  have m1 := MD.2.1 1 _ rfl
  by_cases hg : GD17 d
  case neg =>
    rw [gD_f hg]
    obtain rfl := hr.trans (wtA_f (fun h => hg h.1))
    clear hr OW
    go_wp2_with (refine wpList_storeM (us := [.slice none 0 0, .slice none 0 0]) rfl rfl rfl rfl MR rfl (by intro v hv; simp only [List.mem_cons, List.not_mem_nil, or_false] at hv; rcases hv with rfl | rfl <;> rfl) sizeDisk17 ?_; intro w6 M6 o6)
    have on := OnlyP.of_only (P := fun y => y = w.heap.size + 1) o6 rfl
    have d6 := d1.trans (on.below (base := w.heap.size) (fun y _ hy => by have h : y = w.heap.size + 1 := hy; omega) d1.size)
    have r0 := M6.2.1 0 _ rfl
    have r1 := M6.2.1 1 _ rfl
    exact bodyPost_ret (v := .tuple #[.agg #[.slice none 0 0, .slice none 0 0], .bool false]) (by simp [results, Tryd.results7, go_sem, r0, r1]) rfl ⟨none, none, ⟨0, 0, rfl⟩, AnsD.zero _ _ _ _ (Nat.le_refl _), d6⟩
  rw [gD_t hg]
  go_wp2_with fail
  refine (SI.out _).mono ?_
  rintro ex w2 ⟨rfl, rfl⟩
  by_cases hx : 0 ≤ x ∧ x ≤ 9
  case neg =>
    rw [inB_n hx]
    obtain rfl := hr.trans (wtA_f (fun h => hx ⟨h.2.1.1, by have := h.2.1.2.1; omega⟩))
    clear hr OW
    go_wp2_with (refine wpList_storeM (us := [.slice none 0 0, .slice none 0 0]) rfl rfl rfl rfl MR rfl (by intro v hv; simp only [List.mem_cons, List.not_mem_nil, or_false] at hv; rcases hv with rfl | rfl <;> rfl) sizeDisk17 ?_; intro w6 M6 o6)
    have on := OnlyP.of_only (P := fun y => y = w.heap.size + 1) o6 rfl
    have d6 := d1.trans (on.below (base := w.heap.size) (fun y _ hy => by have h : y = w.heap.size + 1 := hy; omega) d1.size)
    have r0 := M6.2.1 0 _ rfl
    have r1 := M6.2.1 1 _ rfl
    exact bodyPost_ret (v := .tuple #[.agg #[.slice none 0 0, .slice none 0 0], .bool false]) (by simp [results, Tryd.results7, go_sem, r0, r1]) rfl ⟨none, none, ⟨0, 0, rfl⟩, AnsD.zero _ _ _ _ (Nat.le_refl _), d6⟩
  rw [inB_t hx.1 hx.2]
  by_cases hs : s.size ≤ 20
  case neg =>
    have hs' : (s.size : Int) > 20 := by omega
    obtain rfl := hr.trans (wtA_f (fun h => hs h.2.1.2.2))
    clear hr OW
    go_wp2_with (refine wpList_storeM (us := [.slice none 0 0, .slice none 0 0]) rfl rfl rfl rfl MR rfl (by intro v hv; simp only [List.mem_cons, List.not_mem_nil, or_false] at hv; rcases hv with rfl | rfl <;> rfl) sizeDisk17 ?_; intro w6 M6 o6)
    have on := OnlyP.of_only (P := fun y => y = w.heap.size + 1) o6 rfl
    have d6 := d1.trans (on.below (base := w.heap.size) (fun y _ hy => by have h : y = w.heap.size + 1 := hy; omega) d1.size)
    have r0 := M6.2.1 0 _ rfl
    have r1 := M6.2.1 1 _ rfl
    exact bodyPost_ret (v := .tuple #[.agg #[.slice none 0 0, .slice none 0 0], .bool false]) (by simp [results, Tryd.results7, go_sem, r0, r1]) rfl ⟨none, none, ⟨0, 0, rfl⟩, AnsD.zero _ _ _ _ (Nat.le_refl _), d6⟩
  have hs' : ¬ ((s.size : Int) > 20) := by omega
  by_cases hm : d.m < 40
  case neg =>
    have hm' : ((d.m : Int) == 40) = true := by have := hg.2.1; simp; omega
    obtain rfl := hr.trans (wtA_f (fun h => hm h.2.2))
    clear hr OW
    go_wp2_with (refine wpList_storeM (us := [.slice none 0 0, .slice none 0 0]) rfl rfl rfl rfl MR rfl (by intro v hv; simp only [List.mem_cons, List.not_mem_nil, or_false] at hv; rcases hv with rfl | rfl <;> rfl) sizeDisk17 ?_; intro w6 M6 o6)
    have on := OnlyP.of_only (P := fun y => y = w.heap.size + 1) o6 rfl
    have d6 := d1.trans (on.below (base := w.heap.size) (fun y _ hy => by have h : y = w.heap.size + 1 := hy; omega) d1.size)
    have r0 := M6.2.1 0 _ rfl
    have r1 := M6.2.1 1 _ rfl
    exact bodyPost_ret (v := .tuple #[.agg #[.slice none 0 0, .slice none 0 0], .bool false]) (by simp [results, Tryd.results7, go_sem, r0, r1]) rfl ⟨none, none, ⟨0, 0, rfl⟩, AnsD.zero _ _ _ _ (Nat.le_refl _), d6⟩
  have hm' : ((d.m : Int) == 40) = false := by simp; omega
  obtain rfl := hr.trans (wtA_t ⟨hg, ⟨hx.1, by omega, hs⟩, hm⟩)
  have OW := hide (OW.out (by have := hg.1; omega))
  clear hr hg
  go_wp2_with fail
  refine (OW.out _ (hR.below d1)).mono ?_
  rintro ex w3 ⟨va, vb, rfl, T, b3⟩
  obtain ⟨a1, c1, rfl, _, _⟩ := T.1.out
  obtain ⟨b1, e1, rfl, _, _⟩ := T.2.1.out
  have hMRx := MR.1
  replace MR := MR.below b3
  have d3 := below_step d1 b3
  have h13 := b3.size
  have hMR2 : w.heap.size + 1 < w2.heap.size := hMRx
  clear b3 m0 m1 MD OW
  have N := Mut.new w3 #[.slice a1 d.n c1, .slice b1 d.m e1] 29
  have bB : Below w3.heap.size w3 (w3.alloc (.cells #[.slice a1 d.n c1, .slice b1 d.m e1] 29)) := below_box (Below.refl _ _)
  have hTl : ∀ y, (Value.slice a1 d.n c1).ownBlock = some y ∨ (Value.slice b1 d.m e1).ownBlock = some y → w2.heap.size ≤ y ∧ y < w3.heap.size := fun y hy => hy.elim (fun h => ownW_lt T.1 h) (fun h => ownW_lt T.2.1 h)
  replace T := T.below bB
  replace MR := MR.below bB
  replace d3 := below_step d3 bB
  have hMR := MR.1
  have hz4 : (w3.alloc (.cells #[.slice a1 d.n c1, .slice b1 d.m e1] 29)).heap.size = w3.heap.size + 1 := by simp
  have n1 := N.2.1 1 _ rfl
  clear bB
  have bC : Below (w3.alloc (.cells #[.slice a1 d.n c1, .slice b1 d.m e1] 29)).heap.size (w3.alloc (.cells #[.slice a1 d.n c1, .slice b1 d.m e1] 29)) ((w3.alloc (.cells #[.slice a1 d.n c1, .slice b1 d.m e1] 29)).alloc (.cells #[.int .i64 x, .string s] 50)) := below_box (Below.refl _ _)
  have K := Mut.new (w3.alloc (.cells #[.slice a1 d.n c1, .slice b1 d.m e1] 29)) #[.int .i64 x, .string s] 50
  replace T := T.below bC
  replace MR := MR.below bC
  replace N := N.below bC
  replace d3 := below_step d3 bC
  have hz5 : ((w3.alloc (.cells #[.slice a1 d.n c1, .slice b1 d.m e1] 29)).alloc (.cells #[.int .i64 x, .string s] 50)).heap.size = w3.heap.size + 2 := by simp
  simp only [World.size_alloc] at K
  have hRW := RowW.mut K
  clear bC
  go_wp2_with (first | (at_builtin; refine wpList_appW aggW17 rfl _ _ rfl w2.heap.size _ d.m (wcells d.m d.A d.D) rfl T.2.1 (w3.heap.size + 1) 0 1 1 [.int .i64 x, .string s] rfl rfl hRW (by intro v hv; simp only [List.mem_cons, List.not_mem_nil, or_false] at hv; rcases hv with rfl | rfl <;> rfl) (by omega) (by decide) (by omega) ?_))
  intro v' w6 own6 b6 g6 h6
  replace g6 : ((w3.alloc (.cells #[.slice a1 d.n c1, .slice b1 d.m e1] 29)).alloc (.cells #[.int .i64 x, .string s] 50)).grownBy w6 (Value.slice b1 d.m e1).ownBlock := g6
  replace h6 : v'.ownBlock = (Value.slice b1 d.m e1).ownBlock ∨ v'.ownBlock = some (w3.heap.size + 2) := h6
  rw [← wcells_add] at own6
  obtain ⟨ax, cx, rfl, _, _⟩ := OwnWr.out (m := (addD d x s).m) own6
  have hPn : ∀ y, (Value.slice b1 d.m e1).ownBlock = some y → w2.heap.size ≤ y ∧ y < w3.heap.size := fun y h => hTl y (.inr h)
  have og := OnlyP.of_grown (P := fun y => (Value.slice b1 d.m e1).ownBlock = some y) g6 (fun y h => h)
  have hM2 : w.heap.size + 1 < w2.heap.size := hMR2
  have MR6 := MR.onlyP og (fun h => by have := hPn _ h; omega)
  have N6 := N.onlyP og (fun h => by have := hPn _ h; omega)
  have A6 := ownW_onlyP T.1 og (fun y h q => T.2.2 y h q)
  have hs6 := b6.size
  have d6 := d3.trans (og.below (base := w.heap.size) (fun y _ h => by have := hPn y h; omega) d3.size)
  have n0 := N6.2.1 0 _ rfl
  have n1 := N6.2.1 1 _ rfl
  have z1 := N6.2.2 1 (by simp)
  have T6 : TwoD w2.heap.size (.slice a1 d.n c1) (.slice ax (addD d x s).m cx) (addD d x s) w6 := ⟨A6, own6, fun y h q => by
    rcases h6 with z | z
    · rw [z] at q; exact T.2.2 y h q
    · rw [z] at q; have := Option.some.inj q; have := (hTl y (.inl h)).2; omega⟩
  have hT6 : ∀ y, (Value.slice a1 d.n c1).ownBlock = some y ∨ (Value.slice ax (addD d x s).m cx).ownBlock = some y → w2.heap.size ≤ y ∧ y ≠ w3.heap.size := fun y hy => by
    rcases hy with h | h
    · have := hTl y (.inl h); omega
    · have h9 := (ownW_lt own6 h).1
      rcases h6 with z | z
      · rw [z] at h; have := hTl y (.inr h); omega
      · rw [z] at h; have := Option.some.inj h; omega
  clear T K hRW og own6 A6 g6 h6 b6
  have MR7 := MR6.other (c := w3.heap.size) (by omega) 1 (.slice ax (addD d x s).m cx)
  have o7 := OnlyP.of_only (P := fun y => y = w3.heap.size) ((Only.refl w3.heap.size w6).setCell 1 (.slice ax (addD d x s).m cx)) rfl
  have T7 := T6.onlyP o7 (fun y hy h => (hT6 y hy).2 h)
  have d7 := d6.trans (o7.below (base := w.heap.size) (fun y _ hy => by have h : y = w3.heap.size := hy; have := d1.size; omega) d6.size)
  go_wp2_with (refine wpList_storeM (us := [.slice a1 d.n c1, .slice ax (addD d x s).m cx]) rfl rfl rfl rfl MR7 rfl (by intro v hv; simp only [List.mem_cons, List.not_mem_nil, or_false] at hv; rcases hv with rfl | rfl <;> rfl) sizeDisk17 ?_; intro w8 M8 o8)
  have on := OnlyP.of_only (P := fun y => y = w.heap.size + 1) o8 rfl
  have T8 := T7.onlyP on (fun y hy h => by have := (hT6 y hy).1; have h : y = w.heap.size + 1 := h; omega)
  have d8 := d7.trans (on.below (base := w.heap.size) (fun y _ hy => by have h : y = w.heap.size + 1 := hy; omega) d7.size)
  have r0 := M8.2.1 0 _ rfl
  have r1 := M8.2.1 1 _ rfl
  obtain ⟨_, _, _, _, e5, e6, AN⟩ := T8.ans
  simp only [Value.slice.injEq] at e5 e6
  obtain ⟨rfl, _, rfl⟩ := e5
  obtain ⟨rfl, _, rfl⟩ := e6
  exact bodyPost_ret (v := .tuple #[.agg #[.slice a1 d.n c1, .slice ax (addD d x s).m cx], .bool true]) (by simp [results, Tryd.results7, go_sem, r0, r1]) rfl ⟨a1, ax, ⟨c1, cx, rfl⟩, AN.wide (by omega) (Nat.le_refl _) (Nat.le_refl _), d8⟩
end Go.Proofs.YtddjefmokpfplaaDoor
