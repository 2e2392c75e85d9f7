/- The first of a reader's messages: what the program's TakeMsg answers. -/
import Derived.Test.YtoeephmdklmpfaaI5g
import Derived.Test.YtoeephmdklmpfaaI5h
import Derived.Test.YtoeephmdklmpfaaRdr5
import Derived.Test.YtoeephmdklmpfaaArg5
namespace Go.Proofs.Ytoeephmdklmpfaa
open Go.RowKit

/-- The rest of a list, where it lies. -/
theorem RowM.tail {c cap : Nat} {L : List Ms} {w : World} (h : RowM (some ⟨c, 0, none⟩) L w) (hl : L.length ≤ cap) : RowM (some ⟨c, if cap = 1 then 0 else 2, none⟩) (L.drop 1) w := by
  by_cases e : cap = 1
  · have : L.drop 1 = [] := List.drop_eq_nil_of_le (by omega)
    rw [this]
    exact RowM.nil _ _
  · rw [if_neg e]
    have := h.drop 1
    simpa using this
theorem WrM.only {a : Option Addr} {c d : Nat} {L : List Ms} {w w' : World} (h : WrM a c L w) (k : Only d w w') (hn : L ≠ [] → c ≠ d) : WrM a c L w' := by
  by_cases hL : L = []
  · subst hL; exact WrM.nil _ _ _
  · have hl := (h.1 hL).2
    refine ⟨fun _ => ⟨(h.1 hL).1, Nat.lt_of_lt_of_le hl k.2.2.2.1⟩, fun i hi => ?_⟩
    obtain ⟨⟨h0, h1⟩, f0, f1⟩ := h.2 i hi
    exact ⟨⟨(k.cell hl (hn hL)).trans h0, (k.cell hl (hn hL)).trans h1⟩, (k.frozen hl (hn hL)).trans f0, (k.frozen hl (hn hL)).trans f1⟩
set_option maxRecDepth 100000 in
set_option maxHeartbeats 6400000 in
theorem i_take_one (X : ByteArray) (c : Nat) (m : Ms) (B : Int) (w : World) (hX : X.size ≤ 2097152) (hg : grB X [m] B = true) (hR : RowM (some ⟨c, 0, none⟩) [m] w) :
    Calls Try.prog 49 #[.agg #[.string X, .slice (some ⟨c, 0, none⟩) 1 1, .int .i64 B]] w fun e w' => ∃ v, e = .returned (.tuple #[v, .agg #[.int .i64 m.1, .string m.2], .bool true]) ∧ AnsR X [] B w v w' := by
  have G := hide (show ∀ w, RowM (some ⟨c, 0, none⟩) [m] w → Calls Try.prog 39 #[.agg #[.string X, .slice (some ⟨c, 0, none⟩) 1 1, .int .i64 B]] w fun e w' => e = .returned (.bool (grB X [m] B)) ∧ Below w.heap.size w w' from fun w hR => i_goodReader X (some ⟨c, 0, none⟩) 1 [m] B w hX (by simp) hR)
  rw [hg] at G
  have hT : RowM (some ⟨c, 0, none⟩) [] w := RowM.nil _ _
  have C := hide (show ∀ w, RowM (some ⟨c, 0, none⟩) [] w → Calls Try.prog 84 #[.slice (some ⟨c, 0, none⟩) 0 0] w fun e w' => ∃ v, e = .returned v ∧ OwnM w.heap.size v [] w' ∧ Below w.heap.size w w' from fun w hR => i_cloneM (some ⟨c, 0, none⟩) 0 [] w (by decide) ⟨hR, .inr ⟨_, _, rfl⟩⟩)
  obtain ⟨_, _, e0, hcw, x0, x1⟩ := hR 0 (by simp)
  simp only [Option.some.injEq, Addr.mk.injEq, and_true] at e0
  obtain ⟨rfl, rfl⟩ := e0
  simp only [Nat.zero_add, Nat.zero_mul] at x0 x1
  simp only [mAt, List.getD_cons_zero] at x0 x1
  clear hX hg
  go_enter Try.func49, Try.ntmps49
  go_wp2_with fail
  refine (G.out _ (hR.below (below_box3 (Below.refl _ _)))).mono ?_
  rintro e w1 ⟨rfl, b1⟩
  have M1 := (((Mut.new w #[.string X, .slice (some ⟨c, 0, none⟩) 1 1, .int .i64 B] 48).alloc (.cells #[.string ⟨#[]⟩, .slice none 0 0, .int .i64 0] 48)).alloc (.cells #[.int .i64 0, .string ⟨#[]⟩] 37)).below b1
  have M2 := ((Mut.new (w.alloc (.cells #[.string X, .slice (some ⟨c, 0, none⟩) 1 1, .int .i64 B] 48)) #[.string ⟨#[]⟩, .slice none 0 0, .int .i64 0] 48).alloc (.cells #[.int .i64 0, .string ⟨#[]⟩] 37)).below b1
  have M3 := (Mut.new ((w.alloc (.cells #[.string X, .slice (some ⟨c, 0, none⟩) 1 1, .int .i64 B] 48)).alloc (.cells #[.string ⟨#[]⟩, .slice none 0 0, .int .i64 0] 48)) #[.int .i64 0, .string ⟨#[]⟩] 37).below b1
  simp only [World.size_alloc] at M2 M3
  have d1 := below_box3 b1
  clear b1 hR
  have u1 := M1.2.1 1 _ rfl
  have x0 := (d1.cell (p := ⟨c, 0, none⟩) hcw).trans x0
  have x1 := (d1.cell (p := ⟨c, 1, none⟩) hcw).trans x1
  have N1 := M1.alloc (.cells #[.int .i64 m.1, .string m.2] 37)
  have N2 := M2.alloc (.cells #[.int .i64 m.1, .string m.2] 37)
  have N3 := M3.alloc (.cells #[.int .i64 m.1, .string m.2] 37)
  have N4 := Mut.new w1 #[.int .i64 m.1, .string m.2] 37
  have d2 : Below w.heap.size w (w1.alloc (.cells #[.int .i64 m.1, .string m.2] 37)) := d1.trans ((below_box (Below.refl _ _)).mono d1.size)
  have v1 := N1.2.1 1 _ rfl
  have z1 : w.heap.size + 1 + 1 < w1.heap.size := M3.1
  go_wp2_with fail
  clear u1 v1 x0 x1 M1 M2 M3 d1
  generalize w1.alloc (.cells #[.int .i64 m.1, .string m.2] 37) = w2 at *
  generalize hb5 : w1.heap.size = b5 at *
  clear hb5
  refine (C.out _ (hT.below d2)).mono ?_
  rintro e w3 ⟨v, rfl, ho, b3⟩
  have N1 := N1.below b3
  have N2 := N2.below b3
  have N3 := N3.below b3
  have z4 := N4.1
  have N4 := N4.below b3
  have d3 := d2.trans (b3.mono d2.size)
  obtain ⟨a', c', g', rfl, hg', O'⟩ := WrM.own ho
  clear b3 ho hT d2 C G
  simp only [List.length_nil] at *
  have f1 := N1.2.2 1 (by simp)
  have t1 := N1.2.1 1 _ rfl
  go_wp2_with fail
  clear f1 t1
  have N1 := N1.set 1 (.slice a' 0 c')
  have N2 := N2.other (c := w.heap.size) (by omega) 1 (.slice a' 0 c')
  have N3 := N3.other (c := w.heap.size) (by omega) 1 (.slice a' 0 c')
  have N4 := N4.other (c := w.heap.size) (by omega) 1 (.slice a' 0 c')
  have O2 := O'.only ((Only.refl w.heap.size w3).setCell 1 (.slice a' 0 c')) (fun h => by have := hg' h; omega)
  have d4 := d3.setCell (p := ⟨w.heap.size, 1, none⟩) (Nat.le_refl _) (.slice a' 0 c')
  simp only [List.set_cons_succ, List.set_cons_zero] at N1
  clear O' d3
  generalize hW : w3.setCell ⟨w.heap.size, 1, none⟩ (.slice a' 0 c') = w4 at *
  clear hW
  have r0 := N1.2.1 0 _ rfl
  have r1 := N1.2.1 1 _ rfl
  have r2 := N1.2.1 2 _ rfl
  have s0 := N4.2.1 0 _ rfl
  have s1 := N4.2.1 1 _ rfl
  have p0 := N2.2.1 0 _ rfl
  have p1 := N2.2.1 1 _ rfl
  have p2 := N2.2.1 2 _ rfl
  have q0 := N3.2.1 0 _ rfl
  have q1 := N3.2.1 1 _ rfl
  have a0 := N2.2.2 0 (by simp)
  have a1 := N2.2.2 1 (by simp)
  have a2 := N2.2.2 2 (by simp)
  have b0 := N3.2.2 0 (by simp)
  have b1 := N3.2.2 1 (by simp)
  have y4 := N3.1
  have ne1 : ¬ (b5 = w.heap.size + 1) := by omega
  have ne2 : ¬ (w.heap.size + 1 = b5) := by omega
  clear N1 N2 N3 N4
  go_region
  clear r0 r1 r2 s0 s1
  go_wp2_with fail
  have o1 : Only (w.heap.size + 1) w4 (((w4.setCell ⟨w.heap.size + 1, 0, none⟩ (.string X)).setCell ⟨w.heap.size + 1, 1, none⟩ (.slice a' 0 c')).setCell ⟨w.heap.size + 1, 2, none⟩ (.int .i64 B)) := (((Only.refl _ _).setCell _ _).setCell _ _).setCell _ _
  have o2 : Only (w.heap.size + 1 + 1) (((w4.setCell ⟨w.heap.size + 1, 0, none⟩ (.string X)).setCell ⟨w.heap.size + 1, 1, none⟩ (.slice a' 0 c')).setCell ⟨w.heap.size + 1, 2, none⟩ (.int .i64 B)) (((((w4.setCell ⟨w.heap.size + 1, 0, none⟩ (.string X)).setCell ⟨w.heap.size + 1, 1, none⟩ (.slice a' 0 c')).setCell ⟨w.heap.size + 1, 2, none⟩ (.int .i64 B)).setCell ⟨w.heap.size + 1 + 1, 0, none⟩ (.int .i64 m.1)).setCell ⟨w.heap.size + 1 + 1, 1, none⟩ (.string m.2)) := ((Only.refl _ _).setCell _ _).setCell _ _
  have O4 := ((O2.only o1 (fun h => by have := hg' h; omega)).only o2 (fun h => by have := hg' h; omega)).below (Below.refl _ _).drew
  have d5 := ((d4.trans ((o1.below (by omega)).mono (by omega))).trans ((o2.below (by have := o1.2.2.2.1; omega)).mono (by omega))).drew
  have hF : [] ≠ [] → w.heap.size ≤ g' := fun h => by have := hg' h; omega
  clear o1 o2 O2 d4
  exact bodyPost_ret (v := .tuple #[.agg #[.string X, (.slice a' 0 c'), .int .i64 B], .agg #[.int .i64 m.1, .string m.2], .bool true]) (by simp [results, Try.results49, go_sem, *]) rfl ⟨_, rfl, a', c', g', rfl, by exact hF, by exact O4, d5⟩
set_option maxRecDepth 100000 in
set_option maxHeartbeats 6400000 in
theorem i_take_more (X : ByteArray) (c cap : Nat) (L : List Ms) (B : Int) (w : World) (hX : X.size ≤ 2097152) (hl : L.length ≤ 1048576) (hne : L ≠ []) (hcap : L.length ≤ cap) (hc1 : cap ≠ 1) (hg : grB X L B = true) (hR : RowM (some ⟨c, 0, none⟩) L w) :
    Calls Try.prog 49 #[.agg #[.string X, .slice (some ⟨c, 0, none⟩) L.length cap, .int .i64 B]] w fun e w' => ∃ v, e = .returned (.tuple #[v, .agg #[.int .i64 (mAt L 0).1, .string (mAt L 0).2], .bool true]) ∧ AnsR X (L.drop 1) B w v w' := by
  have hpos : 0 < L.length := List.length_pos_iff.2 hne
  have hp0 : ((L.length : Int) == 0) = false := by simp; exact hne
  have hp1 : (1 : Int) ≤ (L.length : Int) := by omega
  have hp2 : (0 : Int) < (L.length : Int) := by omega
  have hc2 : (cap == 1) = false := by simpa using hc1
  have G := hide (fun w hR => i_goodReader X (some ⟨c, 0, none⟩) cap L B w hX hl hR)
  rw [hg] at G
  have hT := hR.tail hcap
  rw [if_neg hc1] at hT
  have C := hide (fun w hR => i_cloneM (some ⟨c, 2, none⟩) (cap - 1) (L.drop 1) w (by rw [List.length_drop]; omega) ⟨hR, .inr ⟨_, _, rfl⟩⟩)
  rw [List.length_drop] at C
  obtain ⟨_, _, e0, hcw, x0, x1⟩ := hR 0 hpos
  simp only [Option.some.injEq, Addr.mk.injEq, and_true] at e0
  obtain ⟨rfl, rfl⟩ := e0
  simp only [Nat.zero_add, Nat.zero_mul] at x0 x1
  clear hX hl hg hne
  go_enter Try.func49, Try.ntmps49
  go_wp2_with fail
  refine (G.out _ (hR.below (below_box3 (Below.refl _ _)))).mono ?_
  rintro e w1 ⟨rfl, b1⟩
  have M1 := (((Mut.new w #[.string X, .slice (some ⟨c, 0, none⟩) L.length cap, .int .i64 B] 48).alloc (.cells #[.string ⟨#[]⟩, .slice none 0 0, .int .i64 0] 48)).alloc (.cells #[.int .i64 0, .string ⟨#[]⟩] 37)).below b1
  have M2 := ((Mut.new (w.alloc (.cells #[.string X, .slice (some ⟨c, 0, none⟩) L.length cap, .int .i64 B] 48)) #[.string ⟨#[]⟩, .slice none 0 0, .int .i64 0] 48).alloc (.cells #[.int .i64 0, .string ⟨#[]⟩] 37)).below b1
  have M3 := (Mut.new ((w.alloc (.cells #[.string X, .slice (some ⟨c, 0, none⟩) L.length cap, .int .i64 B] 48)).alloc (.cells #[.string ⟨#[]⟩, .slice none 0 0, .int .i64 0] 48)) #[.int .i64 0, .string ⟨#[]⟩] 37).below b1
  simp only [World.size_alloc] at M2 M3
  have d1 := below_box3 b1
  clear b1 hR
  have u1 := M1.2.1 1 _ rfl
  have x0 := (d1.cell (p := ⟨c, 0, none⟩) hcw).trans x0
  have x1 := (d1.cell (p := ⟨c, 1, none⟩) hcw).trans x1
  have N1 := M1.alloc (.cells #[.int .i64 (mAt L 0).1, .string (mAt L 0).2] 37)
  have N2 := M2.alloc (.cells #[.int .i64 (mAt L 0).1, .string (mAt L 0).2] 37)
  have N3 := M3.alloc (.cells #[.int .i64 (mAt L 0).1, .string (mAt L 0).2] 37)
  have N4 := Mut.new w1 #[.int .i64 (mAt L 0).1, .string (mAt L 0).2] 37
  have d2 : Below w.heap.size w (w1.alloc (.cells #[.int .i64 (mAt L 0).1, .string (mAt L 0).2] 37)) := d1.trans ((below_box (Below.refl _ _)).mono d1.size)
  have v1 := N1.2.1 1 _ rfl
  have z1 : w.heap.size + 1 + 1 < w1.heap.size := M3.1
  go_wp2_with fail
  clear u1 v1 x0 x1 M1 M2 M3 d1
  generalize w1.alloc (.cells #[.int .i64 (mAt L 0).1, .string (mAt L 0).2] 37) = w2 at *
  generalize hb5 : w1.heap.size = b5 at *
  clear hb5
  refine (C.out _ (hT.below d2)).mono ?_
  rintro e w3 ⟨v, rfl, ho, b3⟩
  have N1 := N1.below b3
  have N2 := N2.below b3
  have N3 := N3.below b3
  have z4 := N4.1
  have N4 := N4.below b3
  have d3 := d2.trans (b3.mono d2.size)
  obtain ⟨a', c', g', rfl, hg', O'⟩ := WrM.own ho
  clear b3 ho hT d2 C G
  generalize hTT : L.drop 1 = TT at *
  have hTh := hide hTT
  clear hTT
  have f1 := N1.2.2 1 (by simp)
  have t1 := N1.2.1 1 _ rfl
  go_wp2_with fail
  clear f1 t1
  have N1 := N1.set 1 (.slice a' TT.length c')
  have N2 := N2.other (c := w.heap.size) (by omega) 1 (.slice a' TT.length c')
  have N3 := N3.other (c := w.heap.size) (by omega) 1 (.slice a' TT.length c')
  have N4 := N4.other (c := w.heap.size) (by omega) 1 (.slice a' TT.length c')
  have O2 := O'.only ((Only.refl w.heap.size w3).setCell 1 (.slice a' TT.length c')) (fun h => by have := hg' h; omega)
  have d4 := d3.setCell (p := ⟨w.heap.size, 1, none⟩) (Nat.le_refl _) (.slice a' TT.length c')
  simp only [List.set_cons_succ, List.set_cons_zero] at N1
  clear O' d3
  generalize hW : w3.setCell ⟨w.heap.size, 1, none⟩ (.slice a' TT.length c') = w4 at *
  clear hW
  have r0 := N1.2.1 0 _ rfl
  have r1 := N1.2.1 1 _ rfl
  have r2 := N1.2.1 2 _ rfl
  have s0 := N4.2.1 0 _ rfl
  have s1 := N4.2.1 1 _ rfl
  have p0 := N2.2.1 0 _ rfl
  have p1 := N2.2.1 1 _ rfl
  have p2 := N2.2.1 2 _ rfl
  have q0 := N3.2.1 0 _ rfl
  have q1 := N3.2.1 1 _ rfl
  have a0 := N2.2.2 0 (by simp)
  have a1 := N2.2.2 1 (by simp)
  have a2 := N2.2.2 2 (by simp)
  have b0 := N3.2.2 0 (by simp)
  have b1 := N3.2.2 1 (by simp)
  have y4 := N3.1
  have ne1 : ¬ (b5 = w.heap.size + 1) := by omega
  have ne2 : ¬ (w.heap.size + 1 = b5) := by omega
  clear N1 N2 N3 N4
  go_region
  clear r0 r1 r2 s0 s1
  go_wp2_with fail
  have o1 : Only (w.heap.size + 1) w4 (((w4.setCell ⟨w.heap.size + 1, 0, none⟩ (.string X)).setCell ⟨w.heap.size + 1, 1, none⟩ (.slice a' TT.length c')).setCell ⟨w.heap.size + 1, 2, none⟩ (.int .i64 B)) := (((Only.refl _ _).setCell _ _).setCell _ _).setCell _ _
  have o2 : Only (w.heap.size + 1 + 1) (((w4.setCell ⟨w.heap.size + 1, 0, none⟩ (.string X)).setCell ⟨w.heap.size + 1, 1, none⟩ (.slice a' TT.length c')).setCell ⟨w.heap.size + 1, 2, none⟩ (.int .i64 B)) (((((w4.setCell ⟨w.heap.size + 1, 0, none⟩ (.string X)).setCell ⟨w.heap.size + 1, 1, none⟩ (.slice a' TT.length c')).setCell ⟨w.heap.size + 1, 2, none⟩ (.int .i64 B)).setCell ⟨w.heap.size + 1 + 1, 0, none⟩ (.int .i64 (mAt L 0).1)).setCell ⟨w.heap.size + 1 + 1, 1, none⟩ (.string (mAt L 0).2)) := ((Only.refl _ _).setCell _ _).setCell _ _
  have O4 := ((O2.only o1 (fun h => by have := hg' h; omega)).only o2 (fun h => by have := hg' h; omega)).below (Below.refl _ _).drew
  have d5 := ((d4.trans ((o1.below (by omega)).mono (by omega))).trans ((o2.below (by have := o1.2.2.2.1; omega)).mono (by omega))).drew
  have hF : TT ≠ [] → w.heap.size ≤ g' := fun h => by have := hg' h; omega
  clear o1 o2 O2 d4
  exact bodyPost_ret (v := .tuple #[.agg #[.string X, (.slice a' TT.length c'), .int .i64 B], .agg #[.int .i64 (mAt L 0).1, .string (mAt L 0).2], .bool true]) (by simp [results, Try.results49, go_sem, *]) rfl ⟨_, rfl, a', c', g', by rw [hTh.out], by rw [hTh.out]; exact hF, by rw [hTh.out]; exact O4, d5⟩
theorem i_take_yes (X : ByteArray) (c cap : Nat) (L : List Ms) (B : Int) (w : World) (hX : X.size ≤ 2097152) (hl : L.length ≤ 1048576) (hne : L ≠ []) (hcap : L.length ≤ cap) (hg : grB X L B = true) (hR : RowM (some ⟨c, 0, none⟩) L w) :
    Calls Try.prog 49 #[.agg #[.string X, .slice (some ⟨c, 0, none⟩) L.length cap, .int .i64 B]] w fun e w' => ∃ v, e = .returned (.tuple #[v, .agg #[.int .i64 (mAt L 0).1, .string (mAt L 0).2], .bool true]) ∧ AnsR X (L.drop 1) B w v w' := by
  by_cases h : cap = 1
  · subst h
    have hpos : 0 < L.length := List.length_pos_iff.2 hne
    obtain ⟨m, rfl⟩ := List.length_eq_one_iff.1 (show L.length = 1 by omega)
    exact i_take_one X c m B w hX hg hR
  · exact i_take_more X c cap L B w hX hl hne hcap h hg hR
set_option maxRecDepth 100000 in
set_option maxHeartbeats 1600000 in
theorem i_take_no (X : ByteArray) (a : Option Addr) (cap : Nat) (L : List Ms) (B : Int) (w : World) (hX : X.size ≤ 2097152) (hl : L.length ≤ 1048576) (hg : grB X L B = false ∨ L = []) (hR : RowM a L w) :
    Calls Try.prog 49 #[.agg #[.string X, .slice a L.length cap, .int .i64 B]] w fun e w' => ∃ v, e = .returned (.tuple #[v, .agg #[.int .i64 0, .string ByteArray.empty], .bool false]) ∧ AnsR ByteArray.empty [] 0 w v w' := by
  have G := hide (fun w hR => i_goodReader X a cap L B w hX hl hR)
  have M0 := ((Mut.new w #[.string X, .slice a L.length cap, .int .i64 B] 48).alloc (.cells #[.string ⟨#[]⟩, .slice none 0 0, .int .i64 0] 48)).alloc (.cells #[.int .i64 0, .string ⟨#[]⟩] 37)
  have M1 := (Mut.new (w.alloc (.cells #[.string X, .slice a L.length cap, .int .i64 B] 48)) #[.string ⟨#[]⟩, .slice none 0 0, .int .i64 0] 48).alloc (.cells #[.int .i64 0, .string ⟨#[]⟩] 37)
  have M2 := Mut.new ((w.alloc (.cells #[.string X, .slice a L.length cap, .int .i64 B] 48)).alloc (.cells #[.string ⟨#[]⟩, .slice none 0 0, .int .i64 0] 48)) #[.int .i64 0, .string ⟨#[]⟩] 37
  have hcase : Hid (grB X L B = false ∨ (grB X L B = true ∧ L = [])) := by
    show _ ∨ _
    cases h : grB X L B with
    | false => exact .inl rfl
    | true => exact .inr ⟨rfl, by rcases hg with h2 | h2; · rw [h] at h2; cases h2
                                  · exact h2⟩
  clear hg hl hX
  go_enter Try.func49, Try.ntmps49
  go_wp2_with fail
  refine (G.out _ (hR.below (below_box3 (Below.refl _ _)))).mono ?_
  rintro e w1 ⟨rfl, b1⟩
  have M0 := M0.below b1
  have M1 := M1.below b1
  have M2 := M2.below b1
  simp only [World.size_alloc] at M1 M2
  have d1 := below_box3 b1
  have p0 := M1.2.1 0 _ rfl
  have p1 := M1.2.1 1 _ rfl
  have p2 := M1.2.1 2 _ rfl
  have q0 := M2.2.1 0 _ rfl
  have q1 := M2.2.1 1 _ rfl
  have a0 := M1.2.2 0 (by simp)
  have a1 := M1.2.2 1 (by simp)
  have a2 := M1.2.2 2 (by simp)
  have b0 := M2.2.2 0 (by simp)
  have b1' := M2.2.2 1 (by simp)
  have u1 := M0.2.1 1 _ rfl
  have y1 := M2.1
  have o1 : Only (w.heap.size + 1) w1 (((w1.setCell ⟨w.heap.size + 1, 0, none⟩ (.string ⟨#[]⟩)).setCell ⟨w.heap.size + 1, 1, none⟩ (.slice none 0 0)).setCell ⟨w.heap.size + 1, 2, none⟩ (.int .i64 0)) := (((Only.refl _ _).setCell _ _).setCell _ _).setCell _ _
  have o2 : Only (w.heap.size + 1 + 1) (((w1.setCell ⟨w.heap.size + 1, 0, none⟩ (.string ⟨#[]⟩)).setCell ⟨w.heap.size + 1, 1, none⟩ (.slice none 0 0)).setCell ⟨w.heap.size + 1, 2, none⟩ (.int .i64 0)) (((((w1.setCell ⟨w.heap.size + 1, 0, none⟩ (.string ⟨#[]⟩)).setCell ⟨w.heap.size + 1, 1, none⟩ (.slice none 0 0)).setCell ⟨w.heap.size + 1, 2, none⟩ (.int .i64 0)).setCell ⟨w.heap.size + 1 + 1, 0, none⟩ (.int .i64 0)).setCell ⟨w.heap.size + 1 + 1, 1, none⟩ (.string ⟨#[]⟩)) := ((Only.refl _ _).setCell _ _).setCell _ _
  have d5 := hide ((d1.trans ((o1.below (by omega)).mono (by omega))).trans ((o2.below (by have := o1.2.2.2.1; omega)).mono (by omega)))
  clear o1 o2 M0 M1 M2 b1 d1 hR G
  rcases hcase.out with h | ⟨h, hL⟩
  · rw [h]
    clear h hcase
    go_wp2_with fail
    exact bodyPost_ret (v := .tuple #[.agg #[.string ByteArray.empty, .slice none 0 0, .int .i64 0], .agg #[.int .i64 0, .string ByteArray.empty], .bool false]) (by simp [results, Try.results49, go_sem, *] <;> rfl) rfl ⟨_, rfl, none, 0, 0, rfl, fun h => absurd rfl h, WrM.nil _ _ _, d5.out⟩
  · rw [h]
    clear h hcase
    subst hL
    go_wp2_with fail
    exact bodyPost_ret (v := .tuple #[.agg #[.string ByteArray.empty, .slice none 0 0, .int .i64 0], .agg #[.int .i64 0, .string ByteArray.empty], .bool false]) (by simp [results, Try.results49, go_sem, *] <;> rfl) rfl ⟨_, rfl, none, 0, 0, rfl, fun h => absurd rfl h, WrM.nil _ _ _, d5.out⟩
end Go.Proofs.Ytoeephmdklmpfaa
