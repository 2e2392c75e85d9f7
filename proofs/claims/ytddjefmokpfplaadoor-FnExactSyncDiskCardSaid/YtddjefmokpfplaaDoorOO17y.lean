/- onOwnDisk of the program at SyncDisk. -/
import Derived.Test.YtddjefmokpfplaaDoorOO17
namespace Go.Proofs.YtddjefmokpfplaaDoor
open Go.RowKit

set_option maxRecDepth 100000 in
set_option maxHeartbeats 1600000 in
theorem i_oo1Sy_no0 (gp : Addr) (a b : Option Addr) (c e : Nat) (d : Dk) (xd xw : Nat) (w : World) (MD : Mut w xd [.slice a d.n c, .slice b d.m e]) (hR : RowD a b d w) (hl : d.n ≤ 1048576 ∧ d.m ≤ 1048576) (hG : GU gp w) (hg : ¬ GD17 d) :
    Calls Tryd.prog 44 #[.pointer (some ⟨xd, 0, none⟩), .pointer (some ⟨xw, 0, none⟩)] w fun e w' => e = gaveUp gp ∧ Below w.heap.size w w' := by
  have OD := hide (fun w R G => i_ownDiskN gp a b c e d w hl R G hg)
  have d0 : Below w.heap.size w (w.alloc (.cells #[.slice none 0 0, .slice none 0 0] 29)) := below_box (Below.refl _ _)
  replace MD := MD.below d0
  have m0 := MD.2.1 0 _ rfl
  have m1 := MD.2.1 1 _ rfl
  clear hl hg
  go_enter Tryd.func44, Tryd.ntmps44
  go_wp2_with fail
  have hw0s : (w.alloc (.cells #[.slice none 0 0, .slice none 0 0] 29)).heap.size = w.heap.size + 1 := by simp
  generalize w.alloc (.cells #[.slice none 0 0, .slice none 0 0] 29) = w0 at *
  refine (OD.out _ (hR.below d0) (hG.below d0)).mono ?_
  rintro e w1 ⟨rfl, b1⟩
  exact ⟨rfl, rfl, below_step d0 b1⟩
set_option maxRecDepth 100000 in
set_option maxHeartbeats 1600000 in
theorem i_oo1Sy_yes (a b : Option Addr) (c e : Nat) (d : Dk) (xd xw : Nat) (w : World) (MD : Mut w xd [.slice a d.n c, .slice b d.m e]) (cw : w.cell? ⟨xw, 0, none⟩ = some (.func (.func 37) #[] #[])) (hR : RowD a b d w) (hp : Pl17 b d.m) (hg : GD17 d) (d' : Dk)
    (hK : ∀ k w1, Below w.heap.size w w1 → HasD (fun y => w.heap.size + 1 ≤ y) k d w1 → Calls Tryd.prog 37 #[.pointer (some ⟨k, 0, none⟩)] w1 fun e w2 => e = .returned (.tuple #[]) ∧ HasD (fun y => w.heap.size + 1 ≤ y) k d' w2 ∧ Below (w.heap.size + 1) w1 w2) :
    Calls Tryd.prog 44 #[.pointer (some ⟨xd, 0, none⟩), .pointer (some ⟨xw, 0, none⟩)] w fun e w' => ∃ v, e = .returned v ∧ ((∃ a c b e', v = .agg #[.slice a d'.n c, .slice b d'.m e'] ∧ AnsD w.heap.size w'.heap.size a b d' w') ∧ Below w.heap.size w w') := by
  have OD := hide (fun w R => i_ownDiskY a b c e d w R hp hg)
  have MR := Mut.new w #[.slice none 0 0, .slice none 0 0] 29
  have d0 : Below w.heap.size w (w.alloc (.cells #[.slice none 0 0, .slice none 0 0] 29)) := below_box (Below.refl _ _)
  have hxw := World.block_lt_of_cell? w _ cw
  replace cw := (d0.cell (p := ⟨xw, 0, none⟩) hxw).trans cw
  replace MD := MD.below d0
  have m0 := MD.2.1 0 _ rfl
  have m1 := MD.2.1 1 _ rfl
  have hK := hide hK
  clear hp hg
  go_enter Tryd.func44, Tryd.ntmps44
  go_wp2_with fail
  have hw0s : (w.alloc (.cells #[.slice none 0 0, .slice none 0 0] 29)).heap.size = w.heap.size + 1 := by simp
  generalize w.alloc (.cells #[.slice none 0 0, .slice none 0 0] 29) = w0 at *
  refine (OD.out _ (hR.below d0)).mono ?_
  rintro e w1 ⟨va, vb, rfl, TT, b1⟩
  obtain ⟨a1, c1, rfl, _, _⟩ := TT.1.out
  obtain ⟨b1x, e1, rfl, _, _⟩ := TT.2.1.out
  have d1 := below_step d0 b1
  have cw1 := (b1.cell (p := ⟨xw, 0, none⟩) (World.block_lt_of_cell? w0 _ cw)).trans cw
  have N := Mut.new w1 #[.slice a1 d.n c1, .slice b1x d.m e1] 29
  have bB : Below w1.heap.size w1 (w1.alloc (.cells #[.slice a1 d.n c1, .slice b1x d.m e1] 29)) := below_box (Below.refl _ _)
  have d2 := below_step d1 bB
  have cw2 := (bB.cell (p := ⟨xw, 0, none⟩) (World.block_lt_of_cell? w1 _ cw1)).trans cw1
  have hz0 : w0.heap.size = w.heap.size + 1 := hw0s
  have hz1 := b1.size
  have HD : HasD (fun y => w.heap.size + 1 ≤ y) w1.heap.size d (w1.alloc (.cells #[.slice a1 d.n c1, .slice b1x d.m e1] 29)) := by
    refine ⟨by show w.heap.size + 1 ≤ w1.heap.size; omega, _, _, N, (TT.base (Nat.zero_le _)).below bB, fun g h => ?_, fun g h => ?_⟩
    · have := ownW_lt TT.1 h; exact ⟨by show w.heap.size + 1 ≤ g; omega, by omega⟩
    · have := ownW_lt TT.2.1 h; exact ⟨by show w.heap.size + 1 ≤ g; omega, by omega⟩
  replace MR := (MR.below b1).below bB
  clear N TT cw1 bB
  go_wp2_with fail
  generalize w1.alloc (.cells #[.slice a1 d.n c1, .slice b1x d.m e1] 29) = w2 at *
  refine (hK.out _ _ d2 HD).mono ?_
  rintro e w3 ⟨rfl, HE, b3⟩
  obtain ⟨_, vx, vy, ME, TE, hA, hB⟩ := HE
  obtain ⟨ax, cx, rfl, _, _⟩ := TE.1.out
  obtain ⟨bx, ex, rfl, _, _⟩ := TE.2.1.out
  have d3 := d2.trans ⟨b3.os, b3.tape, b3.output, b3.size, fun j hj => b3.block j (by omega)⟩
  replace MR := MR.base (by omega) b3
  have q0 := ME.2.1 0 _ rfl
  have q1 := ME.2.1 1 _ rfl
  go_wp2_with (refine wpList_storeM (us := [.slice ax d'.n cx, .slice bx d'.m ex]) rfl rfl rfl rfl MR rfl (by intro v hv; simp only [List.mem_cons, List.not_mem_nil, or_false] at hv; rcases hv with rfl | rfl <;> rfl) sizeDisk17 ?_; intro w4 M4 o4)
  have on4 := OnlyP.of_only (P := fun y => y = w.heap.size) o4 rfl
  have d4 := d3.trans (on4.below (base := w.heap.size) (fun y _ hy => by have h : y = w.heap.size := hy; omega) d3.size)
  have TF := TE.onlyP on4 (fun y hy h => by
    have h : y = w.heap.size := h
    rcases hy with q | q
    · have := (hA y q).1; omega
    · have := (hB y q).1; omega)
  have TG : TwoD w.heap.size (.slice ax d'.n cx) (.slice bx d'.m ex) d' w4 := ⟨ownW_rebase TF.1 (fun g h => by have := (hA g h).1; omega), ownW_rebase TF.2.1 (fun g h => by have := (hB g h).1; omega), TF.2.2⟩
  obtain ⟨_, _, _, _, e5, e6, AN⟩ := TG.ans
  simp only [Value.slice.injEq] at e5 e6
  obtain ⟨rfl, _, rfl⟩ := e5
  obtain ⟨rfl, _, rfl⟩ := e6
  have r0 := M4.2.1 0 _ rfl
  have r1 := M4.2.1 1 _ rfl
  exact bodyPost_ret (v := .agg #[.slice ax d'.n cx, .slice bx d'.m ex]) (by simp [results, Tryd.results44, go_sem, r0, r1]) rfl ⟨_, rfl, ⟨_, _, _, _, rfl, AN⟩, d4⟩
set_option maxRecDepth 100000 in
set_option maxHeartbeats 1600000 in
theorem i_oo1Sy_no1 (gp : Addr) (a b : Option Addr) (c e : Nat) (d : Dk) (xd xw : Nat) (w : World) (MD : Mut w xd [.slice a d.n c, .slice b d.m e]) (cw : w.cell? ⟨xw, 0, none⟩ = some (.func (.func 37) #[] #[])) (hR : RowD a b d w) (hp : Pl17 b d.m) (hg : GD17 d)
    (hK : ∀ k w1, Below w.heap.size w w1 → HasD (fun y => w.heap.size + 1 ≤ y) k d w1 → Calls Tryd.prog 37 #[.pointer (some ⟨k, 0, none⟩)] w1 fun e w2 => e = gaveUp gp ∧ Below (w.heap.size + 1) w1 w2) :
    Calls Tryd.prog 44 #[.pointer (some ⟨xd, 0, none⟩), .pointer (some ⟨xw, 0, none⟩)] w fun e w' => e = gaveUp gp ∧ Below w.heap.size w w' := by
  have OD := hide (fun w R => i_ownDiskY a b c e d w R hp hg)
  have d0 : Below w.heap.size w (w.alloc (.cells #[.slice none 0 0, .slice none 0 0] 29)) := below_box (Below.refl _ _)
  have hxw := World.block_lt_of_cell? w _ cw
  replace cw := (d0.cell (p := ⟨xw, 0, none⟩) hxw).trans cw
  replace MD := MD.below d0
  have m0 := MD.2.1 0 _ rfl
  have m1 := MD.2.1 1 _ rfl
  have hK := hide hK
  clear hp hg
  go_enter Tryd.func44, Tryd.ntmps44
  go_wp2_with fail
  have hw0s : (w.alloc (.cells #[.slice none 0 0, .slice none 0 0] 29)).heap.size = w.heap.size + 1 := by simp
  generalize w.alloc (.cells #[.slice none 0 0, .slice none 0 0] 29) = w0 at *
  refine (OD.out _ (hR.below d0)).mono ?_
  rintro e w1 ⟨va, vb, rfl, TT, b1⟩
  obtain ⟨a1, c1, rfl, _, _⟩ := TT.1.out
  obtain ⟨b1x, e1, rfl, _, _⟩ := TT.2.1.out
  have d1 := below_step d0 b1
  have cw1 := (b1.cell (p := ⟨xw, 0, none⟩) (World.block_lt_of_cell? w0 _ cw)).trans cw
  have N := Mut.new w1 #[.slice a1 d.n c1, .slice b1x d.m e1] 29
  have bB : Below w1.heap.size w1 (w1.alloc (.cells #[.slice a1 d.n c1, .slice b1x d.m e1] 29)) := below_box (Below.refl _ _)
  have d2 := below_step d1 bB
  have cw2 := (bB.cell (p := ⟨xw, 0, none⟩) (World.block_lt_of_cell? w1 _ cw1)).trans cw1
  have hz0 : w0.heap.size = w.heap.size + 1 := hw0s
  have hz1 := b1.size
  have HD : HasD (fun y => w.heap.size + 1 ≤ y) w1.heap.size d (w1.alloc (.cells #[.slice a1 d.n c1, .slice b1x d.m e1] 29)) := by
    refine ⟨by show w.heap.size + 1 ≤ w1.heap.size; omega, _, _, N, (TT.base (Nat.zero_le _)).below bB, fun g h => ?_, fun g h => ?_⟩
    · have := ownW_lt TT.1 h; exact ⟨by show w.heap.size + 1 ≤ g; omega, by omega⟩
    · have := ownW_lt TT.2.1 h; exact ⟨by show w.heap.size + 1 ≤ g; omega, by omega⟩
  clear N TT cw1 bB
  go_wp2_with fail
  generalize w1.alloc (.cells #[.slice a1 d.n c1, .slice b1x d.m e1] 29) = w2 at *
  refine (hK.out _ _ d2 HD).mono ?_
  rintro e w3 ⟨rfl, b3⟩
  exact ⟨rfl, rfl, d2.trans ⟨b3.os, b3.tape, b3.output, b3.size, fun j hj => b3.block j (by omega)⟩⟩
set_option maxRecDepth 100000 in
set_option maxHeartbeats 1600000 in
theorem i_ownSy_yes (a b : Option Addr) (c e : Nat) (d : Dk) (w : World) (hR : RowD a b d w) (hp : Pl17 b d.m) (hg : GD17 d) (d' : Dk)
    (hK : ∀ w0, Below w.heap.size w w0 → ∀ k w1, Below w0.heap.size w0 w1 → HasD (fun y => w0.heap.size + 1 ≤ y) k d w1 → Calls Tryd.prog 37 #[.pointer (some ⟨k, 0, none⟩)] w1 fun e w2 => e = .returned (.tuple #[]) ∧ HasD (fun y => w0.heap.size + 1 ≤ y) k d' w2 ∧ Below (w0.heap.size + 1) w1 w2) :
    Calls Tryd.prog 27 #[.agg #[.slice a d.n c, .slice b d.m e], .func (.func 37) #[] #[]] w fun e w' => ∃ v, e = .returned (.tuple #[v, .bool true]) ∧ ((∃ a c b e', v = .agg #[.slice a d'.n c, .slice b d'.m e'] ∧ AnsD w.heap.size w'.heap.size a b d' w') ∧ Below w.heap.size w w') := by
  have hmf : ∀ (fn : Fn) (first cap : Array Value) (w : World), (Instr.makeFunc fn first cap).run Tryd.prog w = .ok (.func fn first cap) w := fun _ _ _ _ => rfl
  have MD := ((Mut.new w #[.slice a d.n c, .slice b d.m e] 29).alloc (.cells #[.func (.func 37) #[] #[]] 56)).alloc (.cells #[.slice none 0 0, .slice none 0 0] 29)
  have MF := (Mut.new (w.alloc (.cells #[.slice a d.n c, .slice b d.m e] 29)) #[.func (.func 37) #[] #[]] 56).alloc (.cells #[.slice none 0 0, .slice none 0 0] 29)
  have MR := Mut.new ((w.alloc (.cells #[.slice a d.n c, .slice b d.m e] 29)).alloc (.cells #[.func (.func 37) #[] #[]] 56)) #[.slice none 0 0, .slice none 0 0] 29
  have d0 : Below w.heap.size w (((w.alloc (.cells #[.slice a d.n c, .slice b d.m e] 29)).alloc (.cells #[.func (.func 37) #[] #[]] 56)).alloc (.cells #[.slice none 0 0, .slice none 0 0] 29)) := below_box3 (Below.refl _ _)
  have hzW : (((w.alloc (.cells #[.slice a d.n c, .slice b d.m e] 29)).alloc (.cells #[.func (.func 37) #[] #[]] 56)).alloc (.cells #[.slice none 0 0, .slice none 0 0] 29)).heap.size = w.heap.size + 3 := by simp
  simp only [World.size_alloc] at MF MR
  go_enter Tryd.func27, Tryd.ntmps27
  go_wp2_with fail
  generalize ((w.alloc (.cells #[.slice a d.n c, .slice b d.m e] 29)).alloc (.cells #[.func (.func 37) #[] #[]] 56)).alloc (.cells #[.slice none 0 0, .slice none 0 0] 29) = w3 at *
  have cw := MF.2.1 0 _ rfl
  have Q := i_ansD_yes ⟨w.heap.size, 0, none⟩ ⟨w.heap.size + 1, 0, none⟩ d' w3 (fun w0 hb hz => i_oo1Sy_yes a b c e d w.heap.size (w.heap.size + 1) w0 (MD.below hb) ((hb.cell (p := ⟨w.heap.size + 1, 0, none⟩) (by show w.heap.size + 1 < _; omega)).trans cw) (hR.below (d0.trans (hb.mono d0.size))) hp hg d' (fun k w1 h1 h2 => hK w0 (d0.trans (hb.mono d0.size)) k w1 h1 h2))
  refine Q.mono ?_
  rintro ex w4 ⟨v, rfl, ⟨a1, c1, b1, e1, rfl, AN⟩, b4⟩
  replace MR := MR.below b4
  have b4s := b4.size
  go_wp2_with (refine wpList_storeM (us := [.slice a1 d'.n c1, .slice b1 d'.m e1]) rfl rfl rfl rfl MR rfl (by intro v hv; simp only [List.mem_cons, List.not_mem_nil, or_false] at hv; rcases hv with rfl | rfl <;> rfl) sizeDisk17 ?_; intro w5 M5 o5)
  have on := OnlyP.of_only (P := fun y => y = w.heap.size + 1 + 1) o5 rfl
  have AN5 := AN.onlyP on (fun x h1 _ h => by have h : x = w.heap.size + 1 + 1 := h; omega)
  have hs5 := on.2.2.2.1
  have d5 := (below_step d0 b4).trans (on.below (base := w.heap.size) (fun x _ hx => by have h : x = w.heap.size + 1 + 1 := hx; omega) (below_step d0 b4).size)
  have r0 := M5.2.1 0 _ rfl
  have r1 := M5.2.1 1 _ rfl
  exact bodyPost_ret (v := .tuple #[.agg #[.slice a1 d'.n c1, .slice b1 d'.m e1], .bool true]) (by simp [results, Tryd.results27, go_sem, r0, r1]) rfl ⟨_, rfl, ⟨a1, c1, b1, e1, rfl, AN5.wide (by omega) (by omega) (Nat.le_refl _)⟩, d5⟩
set_option maxRecDepth 100000 in
set_option maxHeartbeats 1600000 in
theorem i_ownSy_no (gp : Addr) (a b : Option Addr) (c e : Nat) (d : Dk) (w : World) (hR : RowD a b d w) (hl : d.n ≤ 1048576 ∧ d.m ≤ 1048576) (hp : Pl17 b d.m) (hG : GU gp w)
    (hK : GD17 d → ∀ w0, Below w.heap.size w w0 → ∀ k w1, Below w0.heap.size w0 w1 → HasD (fun y => w0.heap.size + 1 ≤ y) k d w1 → Calls Tryd.prog 37 #[.pointer (some ⟨k, 0, none⟩)] w1 fun e w2 => e = gaveUp gp ∧ Below (w0.heap.size + 1) w1 w2) :
    Calls Tryd.prog 27 #[.agg #[.slice a d.n c, .slice b d.m e], .func (.func 37) #[] #[]] w fun e w' => e = .returned (.tuple #[.agg #[.slice none 0 0, .slice none 0 0], .bool false]) ∧ Below w.heap.size w w' := by
  have hmf : ∀ (fn : Fn) (first cap : Array Value) (w : World), (Instr.makeFunc fn first cap).run Tryd.prog w = .ok (.func fn first cap) w := fun _ _ _ _ => rfl
  have MD := ((Mut.new w #[.slice a d.n c, .slice b d.m e] 29).alloc (.cells #[.func (.func 37) #[] #[]] 56)).alloc (.cells #[.slice none 0 0, .slice none 0 0] 29)
  have MF := (Mut.new (w.alloc (.cells #[.slice a d.n c, .slice b d.m e] 29)) #[.func (.func 37) #[] #[]] 56).alloc (.cells #[.slice none 0 0, .slice none 0 0] 29)
  have MR := Mut.new ((w.alloc (.cells #[.slice a d.n c, .slice b d.m e] 29)).alloc (.cells #[.func (.func 37) #[] #[]] 56)) #[.slice none 0 0, .slice none 0 0] 29
  have d0 : Below w.heap.size w (((w.alloc (.cells #[.slice a d.n c, .slice b d.m e] 29)).alloc (.cells #[.func (.func 37) #[] #[]] 56)).alloc (.cells #[.slice none 0 0, .slice none 0 0] 29)) := below_box3 (Below.refl _ _)
  have hzW : (((w.alloc (.cells #[.slice a d.n c, .slice b d.m e] 29)).alloc (.cells #[.func (.func 37) #[] #[]] 56)).alloc (.cells #[.slice none 0 0, .slice none 0 0] 29)).heap.size = w.heap.size + 3 := by simp
  simp only [World.size_alloc] at MF MR
  go_enter Tryd.func27, Tryd.ntmps27
  go_wp2_with fail
  generalize ((w.alloc (.cells #[.slice a d.n c, .slice b d.m e] 29)).alloc (.cells #[.func (.func 37) #[] #[]] 56)).alloc (.cells #[.slice none 0 0, .slice none 0 0] 29) = w3 at *
  have cw := MF.2.1 0 _ rfl
  have Q := i_ansD_no ⟨w.heap.size, 0, none⟩ ⟨w.heap.size + 1, 0, none⟩ gp w3 (hG.below d0) (fun w0 hb hz => by
    by_cases hg : GD17 d
    · exact i_oo1Sy_no1 gp a b c e d w.heap.size (w.heap.size + 1) w0 (MD.below hb) ((hb.cell (p := ⟨w.heap.size + 1, 0, none⟩) (by show w.heap.size + 1 < _; omega)).trans cw) (hR.below (d0.trans (hb.mono d0.size))) hp hg (fun k w1 h1 h2 => hK hg w0 (d0.trans (hb.mono d0.size)) k w1 h1 h2)
    · exact i_oo1Sy_no0 gp a b c e d w.heap.size (w.heap.size + 1) w0 (MD.below hb) (hR.below (d0.trans (hb.mono d0.size))) hl (hG.below (d0.trans (hb.mono d0.size))) hg)
  refine Q.mono ?_
  rintro ex w4 ⟨rfl, b4⟩
  replace MR := MR.below b4
  go_wp2_with (refine wpList_storeM (us := [.slice none 0 0, .slice none 0 0]) rfl rfl rfl rfl MR rfl (by intro v hv; simp only [List.mem_cons, List.not_mem_nil, or_false] at hv; rcases hv with rfl | rfl <;> rfl) sizeDisk17 ?_; intro w5 M5 o5)
  have on := OnlyP.of_only (P := fun y => y = w.heap.size + 1 + 1) o5 rfl
  have d5 := (below_step d0 b4).trans (on.below (base := w.heap.size) (fun x _ hx => by have h : x = w.heap.size + 1 + 1 := hx; omega) (below_step d0 b4).size)
  have r0 := M5.2.1 0 _ rfl
  have r1 := M5.2.1 1 _ rfl
  exact bodyPost_ret (v := .tuple #[.agg #[.slice none 0 0, .slice none 0 0], .bool false]) (by simp [results, Tryd.results27, go_sem, r0, r1]) rfl ⟨rfl, d5⟩
end Go.Proofs.YtddjefmokpfplaaDoor
