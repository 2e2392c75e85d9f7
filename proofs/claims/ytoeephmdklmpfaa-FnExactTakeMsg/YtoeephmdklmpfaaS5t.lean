/- The first of a reader's messages: what the specification's TakeMsg answers. -/
import Derived.Test.YtoeephmdklmpfaaS5g
import Derived.Test.YtoeephmdklmpfaaI5t
namespace Go.Proofs.Ytoeephmdklmpfaa
open Go.RowKit

set_option maxRecDepth 100000 in
set_option maxHeartbeats 1600000 in
theorem s_take_no (X : ByteArray) (a : Option Addr) (cap : Nat) (L : List Ms) (B : Int) (w : World) (hX : X.size ≤ 2097152) (hl : L.length ≤ 1048576) (hg : grB X L B = false ∨ L = []) (hR : RowM a L w) :
    Calls Try.prog 48 #[.agg #[.string X, .slice a L.length cap, .int .i64 B]] w fun e w' => ∃ v, e = .returned (.tuple #[v, .agg #[.int .i64 0, .string ByteArray.empty], .bool false]) ∧ AnsR ByteArray.empty [] 0 w v w' := by
  have G := hide (fun w hR => s_goodReader X a cap L B w hX hl hR)
  have M0 := ((Mut.new w #[.string X, .slice a L.length cap, .int .i64 B] 48).alloc (.cells #[.string ⟨#[]⟩, .slice none 0 0, .int .i64 0] 48)).alloc (.cells #[.int .i64 0, .string ⟨#[]⟩] 37)
  have M1 := (Mut.new (w.alloc (.cells #[.string X, .slice a L.length cap, .int .i64 B] 48)) #[.string ⟨#[]⟩, .slice none 0 0, .int .i64 0] 48).alloc (.cells #[.int .i64 0, .string ⟨#[]⟩] 37)
  have M2 := Mut.new ((w.alloc (.cells #[.string X, .slice a L.length cap, .int .i64 B] 48)).alloc (.cells #[.string ⟨#[]⟩, .slice none 0 0, .int .i64 0] 48)) #[.int .i64 0, .string ⟨#[]⟩] 37
  have hcase : Hid (grB X L B = false ∨ (grB X L B = true ∧ L = [])) := by
    show _ ∨ _
    cases h : grB X L B with
    | false => exact .inl rfl
    | true => exact .inr ⟨rfl, by rcases hg with h2 | h2; · rw [h] at h2; cases h2
                                  · exact h2⟩
  clear hg hl hX
  go_enter Try.func48, Try.ntmps48
  go_wp2_with fail
  refine (G.out _ (hR.below (below_box3 (Below.refl _ _)))).mono ?_
  rintro e w1 ⟨rfl, b1⟩
  have M0 := M0.below b1
  have M1 := M1.below b1
  have M2 := M2.below b1
  simp only [World.size_alloc] at M1 M2
  have d1 := below_box3 b1
  have p0 := M1.2.1 0 _ rfl
  have p1 := M1.2.1 1 _ rfl
  have p2 := M1.2.1 2 _ rfl
  have q0 := M2.2.1 0 _ rfl
  have q1 := M2.2.1 1 _ rfl
  have a0 := M1.2.2 0 (by simp)
  have a1 := M1.2.2 1 (by simp)
  have a2 := M1.2.2 2 (by simp)
  have b0 := M2.2.2 0 (by simp)
  have b1' := M2.2.2 1 (by simp)
  have u1 := M0.2.1 1 _ rfl
  have y1 := M2.1
  have o1 : Only (w.heap.size + 1) w1 (((w1.setCell ⟨w.heap.size + 1, 0, none⟩ (.string ⟨#[]⟩)).setCell ⟨w.heap.size + 1, 1, none⟩ (.slice none 0 0)).setCell ⟨w.heap.size + 1, 2, none⟩ (.int .i64 0)) := (((Only.refl _ _).setCell _ _).setCell _ _).setCell _ _
  have o2 : Only (w.heap.size + 1 + 1) (((w1.setCell ⟨w.heap.size + 1, 0, none⟩ (.string ⟨#[]⟩)).setCell ⟨w.heap.size + 1, 1, none⟩ (.slice none 0 0)).setCell ⟨w.heap.size + 1, 2, none⟩ (.int .i64 0)) (((((w1.setCell ⟨w.heap.size + 1, 0, none⟩ (.string ⟨#[]⟩)).setCell ⟨w.heap.size + 1, 1, none⟩ (.slice none 0 0)).setCell ⟨w.heap.size + 1, 2, none⟩ (.int .i64 0)).setCell ⟨w.heap.size + 1 + 1, 0, none⟩ (.int .i64 0)).setCell ⟨w.heap.size + 1 + 1, 1, none⟩ (.string ⟨#[]⟩)) := ((Only.refl _ _).setCell _ _).setCell _ _
  have d5 := hide ((d1.trans ((o1.below (by omega)).mono (by omega))).trans ((o2.below (by have := o1.2.2.2.1; omega)).mono (by omega)))
  clear o1 o2 M0 M1 M2 b1 d1 hR G
  rcases hcase.out with h | ⟨h, hL⟩
  · rw [h]
    clear h hcase
    go_wp2_with fail
    exact bodyPost_ret (v := .tuple #[.agg #[.string ByteArray.empty, .slice none 0 0, .int .i64 0], .agg #[.int .i64 0, .string ByteArray.empty], .bool false]) (by simp [results, Try.results48, go_sem, *] <;> rfl) rfl ⟨_, rfl, none, 0, 0, rfl, fun h => absurd rfl h, WrM.nil _ _ _, d5.out⟩
  · rw [h]
    clear h hcase
    subst hL
    go_wp2_with fail
    exact bodyPost_ret (v := .tuple #[.agg #[.string ByteArray.empty, .slice none 0 0, .int .i64 0], .agg #[.int .i64 0, .string ByteArray.empty], .bool false]) (by simp [results, Try.results48, go_sem, *] <;> rfl) rfl ⟨_, rfl, none, 0, 0, rfl, fun h => absurd rfl h, WrM.nil _ _ _, d5.out⟩
set_option maxRecDepth 100000 in
set_option maxHeartbeats 6400000 in
theorem s_take_one (X : ByteArray) (c : Nat) (m : Ms) (B : Int) (w : World) (hX : X.size ≤ 2097152) (hg : grB X [m] B = true) (hR : RowM (some ⟨c, 0, none⟩) [m] w) :
    Calls Try.prog 48 #[.agg #[.string X, .slice (some ⟨c, 0, none⟩) 1 1, .int .i64 B]] w fun e w' => ∃ v, e = .returned (.tuple #[v, .agg #[.int .i64 m.1, .string m.2], .bool true]) ∧ AnsR X [] B w v w' := by
  have G := hide (show ∀ w, RowM (some ⟨c, 0, none⟩) [m] w → Calls Try.prog 37 #[.agg #[.string X, .slice (some ⟨c, 0, none⟩) 1 1, .int .i64 B]] w fun e w' => e = .returned (.bool (grB X [m] B)) ∧ Below w.heap.size w w' from fun w hR => s_goodReader X (some ⟨c, 0, none⟩) 1 [m] B w hX (by simp) hR)
  rw [hg] at G
  have hT : RowM (some ⟨c, 0, none⟩) [] w := RowM.nil _ _
  obtain ⟨_, _, e0, hcw, x0, x1⟩ := hR 0 (by simp)
  simp only [Option.some.injEq, Addr.mk.injEq, and_true] at e0
  obtain ⟨rfl, rfl⟩ := e0
  simp only [Nat.zero_add, Nat.zero_mul] at x0 x1
  simp only [mAt, List.getD_cons_zero] at x0 x1
  clear hX hg
  go_enter Try.func48, Try.ntmps48
  go_wp2_with fail
  refine (G.out _ (hR.below (below_box3 (Below.refl _ _)))).mono ?_
  rintro e w1 ⟨rfl, b1⟩
  have M1 := (((Mut.new w #[.string X, .slice (some ⟨c, 0, none⟩) 1 1, .int .i64 B] 48).alloc (.cells #[.string ⟨#[]⟩, .slice none 0 0, .int .i64 0] 48)).alloc (.cells #[.int .i64 0, .string ⟨#[]⟩] 37)).below b1
  have M2 := ((Mut.new (w.alloc (.cells #[.string X, .slice (some ⟨c, 0, none⟩) 1 1, .int .i64 B] 48)) #[.string ⟨#[]⟩, .slice none 0 0, .int .i64 0] 48).alloc (.cells #[.int .i64 0, .string ⟨#[]⟩] 37)).below b1
  have M3 := (Mut.new ((w.alloc (.cells #[.string X, .slice (some ⟨c, 0, none⟩) 1 1, .int .i64 B] 48)).alloc (.cells #[.string ⟨#[]⟩, .slice none 0 0, .int .i64 0] 48)) #[.int .i64 0, .string ⟨#[]⟩] 37).below b1
  simp only [World.size_alloc] at M2 M3
  have d1 := below_box3 b1
  clear b1 hR
  have x0 := (d1.cell (p := ⟨c, 0, none⟩) hcw).trans x0
  have x1 := (d1.cell (p := ⟨c, 1, none⟩) hcw).trans x1
  have nc1 : ¬ (c = w.heap.size + 1) := by omega
  have nw1 : ¬ (w.heap.size + 1 + 1 = w.heap.size) := by omega
  have nw2 : ¬ (w.heap.size = w.heap.size + 1 + 1) := by omega
  have nc3 : ¬ (w.heap.size + 1 = c) := by omega
  have nc4 : ¬ (w.heap.size + 1 + 1 = c) := by omega
  have nc2 : ¬ (c = w.heap.size + 1 + 1) := by omega
  have hcw1 : c < w1.heap.size := Nat.lt_of_lt_of_le hcw d1.size
  have hT1 := hT.below d1
  have z1 : w.heap.size + 1 + 1 < w1.heap.size := M3.1
  have hW0 : w.heap.size < w1.heap.size := by omega
  have hW1 : w.heap.size + 1 < w1.heap.size := by omega
  have u0 := M1.2.1 0 _ rfl
  have u1 := M1.2.1 1 _ rfl
  have u2 := M1.2.1 2 _ rfl
  have p0 := M2.2.1 0 _ rfl
  have p1 := M2.2.1 1 _ rfl
  have p2 := M2.2.1 2 _ rfl
  have q0 := M3.2.1 0 _ rfl
  have q1 := M3.2.1 1 _ rfl
  have a0 := M2.2.2 0 (by simp)
  have a1 := M2.2.2 1 (by simp)
  have a2 := M2.2.2 2 (by simp)
  have b0 := M3.2.2 0 (by simp)
  have b1 := M3.2.2 1 (by simp)
  clear M1 M2 M3 G hT

  go_wp2_with fail
  have dZ : Below w1.heap.size w1 w1 := Below.refl _ _
  have hmade : OwnM w1.heap.size (.slice (some ⟨w1.heap.size, 0, none⟩) 0 0) [] (w1.alloc (.cells #[] 37)) := World.ownsRow_made w1 #[] 0 (Nat.le_refl _) (by decide) rfl
  go_region_held3 (fun w' => w'.cell? ⟨w.heap.size, 0, none⟩ = some (.string X) ∧ w'.cell? ⟨w.heap.size, 1, none⟩ = some (.slice (some ⟨c, 0, none⟩) 1 1) ∧ w'.cell? ⟨w.heap.size, 2, none⟩ = some (.int .i64 B) ∧ w'.cell? ⟨c, 0, none⟩ = some (.int .i64 m.1) ∧ w'.cell? ⟨c, 1, none⟩ = some (.string m.2)) (first | go_keep | exact ⟨(dB.cell (p := ⟨w.heap.size, 0, none⟩) hW0).trans u0, (dB.cell (p := ⟨w.heap.size, 1, none⟩) hW0).trans u1, (dB.cell (p := ⟨w.heap.size, 2, none⟩) hW0).trans u2, (dB.cell (p := ⟨c, 0, none⟩) hcw1).trans x0, (dB.cell (p := ⟨c, 1, none⟩) hcw1).trans x1⟩ | exact ⟨(dB.drew.cell (p := ⟨w.heap.size, 0, none⟩) hW0).trans u0, (dB.drew.cell (p := ⟨w.heap.size, 1, none⟩) hW0).trans u1, (dB.drew.cell (p := ⟨w.heap.size, 2, none⟩) hW0).trans u2, (dB.drew.cell (p := ⟨c, 0, none⟩) hcw1).trans x0, (dB.drew.cell (p := ⟨c, 1, none⟩) hcw1).trans x1⟩ | exact ⟨(dZ.cell (p := ⟨w.heap.size, 0, none⟩) hW0).trans u0, (dZ.cell (p := ⟨w.heap.size, 1, none⟩) hW0).trans u1, (dZ.cell (p := ⟨w.heap.size, 2, none⟩) hW0).trans u2, (dZ.cell (p := ⟨c, 0, none⟩) hcw1).trans x0, (dZ.cell (p := ⟨c, 1, none⟩) hcw1).trans x1⟩ | exact ⟨(dZ.drew.cell (p := ⟨w.heap.size, 0, none⟩) hW0).trans u0, (dZ.drew.cell (p := ⟨w.heap.size, 1, none⟩) hW0).trans u1, (dZ.drew.cell (p := ⟨w.heap.size, 2, none⟩) hW0).trans u2, (dZ.drew.cell (p := ⟨c, 0, none⟩) hcw1).trans x0, (dZ.drew.cell (p := ⟨c, 1, none⟩) hcw1).trans x1⟩ | exact ⟨((below_box (Below.refl _ _) : Below w1.heap.size w1 (w1.alloc (.cells #[] 37))).cell (p := ⟨w.heap.size, 0, none⟩) hW0).trans u0, ((below_box (Below.refl _ _) : Below w1.heap.size w1 (w1.alloc (.cells #[] 37))).cell (p := ⟨w.heap.size, 1, none⟩) hW0).trans u1, ((below_box (Below.refl _ _) : Below w1.heap.size w1 (w1.alloc (.cells #[] 37))).cell (p := ⟨w.heap.size, 2, none⟩) hW0).trans u2, ((below_box (Below.refl _ _) : Below w1.heap.size w1 (w1.alloc (.cells #[] 37))).cell (p := ⟨c, 0, none⟩) hcw1).trans x0, ((below_box (Below.refl _ _) : Below w1.heap.size w1 (w1.alloc (.cells #[] 37))).cell (p := ⟨c, 1, none⟩) hcw1).trans x1⟩ | exact ⟨((below_box (Below.refl _ _) : Below w1.heap.size w1 (w1.alloc (.cells #[] 37))).drew.cell (p := ⟨w.heap.size, 0, none⟩) hW0).trans u0, ((below_box (Below.refl _ _) : Below w1.heap.size w1 (w1.alloc (.cells #[] 37))).drew.cell (p := ⟨w.heap.size, 1, none⟩) hW0).trans u1, ((below_box (Below.refl _ _) : Below w1.heap.size w1 (w1.alloc (.cells #[] 37))).drew.cell (p := ⟨w.heap.size, 2, none⟩) hW0).trans u2, ((below_box (Below.refl _ _) : Below w1.heap.size w1 (w1.alloc (.cells #[] 37))).drew.cell (p := ⟨c, 0, none⟩) hcw1).trans x0, ((below_box (Below.refl _ _) : Below w1.heap.size w1 (w1.alloc (.cells #[] 37))).drew.cell (p := ⟨c, 1, none⟩) hcw1).trans x1⟩ | (refine ⟨?_, ?_, ?_, ?_, ?_⟩ <;> simp [go_sem, *]) | (show _ ∧ _; trace_state; refine ⟨?_, ?_, ?_, ?_, ?_⟩ <;> simp [go_sem, *])) (first | (refine step_appM (by rfl) _ _ (by rfl) w1.heap.size (.slice (some ⟨w1.heap.size, 0, none⟩) 0 0) [] (by rfl) (by first | exact hmade | exact ownM_below hmade (Below.refl _ _).drew) (some ⟨c, 0, none⟩) [] _ _ (by rfl) rfl ⟨by first | exact hT1.below (below_box (Below.refl _ _)) | exact hT1.below (below_box (Below.refl _ _)).drew, .inr ⟨_, _, rfl⟩⟩ (by simp) (by simp) ?_; intro v' wB hown bB hgr; have dB : Below w1.heap.size w1 wB := (by first | exact (below_box (Below.refl _ _)).trans bB | exact (below_box (Below.refl _ _)).drew.trans bB); have hown : OwnM w1.heap.size v' [] wB := hown; obtain ⟨a', c', g', rfl, hg', O'⟩ := WrM.own hown; have u0B := (dB.cell (p := ⟨w.heap.size, 0, none⟩) hW0).trans u0; have u1B := (dB.cell (p := ⟨w.heap.size, 1, none⟩) hW0).trans u1; have u2B := (dB.cell (p := ⟨w.heap.size, 2, none⟩) hW0).trans u2; have x0B := (dB.cell (p := ⟨c, 0, none⟩) hcw1).trans x0; have x1B := (dB.cell (p := ⟨c, 1, none⟩) hcw1).trans x1; have p0 := (dB.cell (p := ⟨w.heap.size + 1, 0, none⟩) hW1).trans p0; have p1 := (dB.cell (p := ⟨w.heap.size + 1, 1, none⟩) hW1).trans p1; have p2 := (dB.cell (p := ⟨w.heap.size + 1, 2, none⟩) hW1).trans p2; have q0 := (dB.cell (p := ⟨w.heap.size + 1 + 1, 0, none⟩) z1).trans q0; have q1 := (dB.cell (p := ⟨w.heap.size + 1 + 1, 1, none⟩) z1).trans q1; have a0 := (dB.frozen (p := ⟨w.heap.size + 1, 0, none⟩) hW1).trans a0; have a1 := (dB.frozen (p := ⟨w.heap.size + 1, 1, none⟩) hW1).trans a1; have a2 := (dB.frozen (p := ⟨w.heap.size + 1, 2, none⟩) hW1).trans a2; have b0 := (dB.frozen (p := ⟨w.heap.size + 1 + 1, 0, none⟩) z1).trans b0; have b1 := (dB.frozen (p := ⟨w.heap.size + 1 + 1, 1, none⟩) z1).trans b1))
  clear u0 u1 u2 x0 x1 u0B u1B u2B x0B x1B
  have d3 := d1.trans (dB.mono d1.size)
  have y4 := dB.size
  go_wp2_with fail
  have o1 : Only (w.heap.size + 1) wB (((wB.setCell ⟨w.heap.size + 1, 0, none⟩ (.string X)).setCell ⟨w.heap.size + 1, 1, none⟩ (.slice a' 0 c')).setCell ⟨w.heap.size + 1, 2, none⟩ (.int .i64 B)) := (((Only.refl _ _).setCell _ _).setCell _ _).setCell _ _
  have o2 : Only (w.heap.size + 1 + 1) (((wB.setCell ⟨w.heap.size + 1, 0, none⟩ (.string X)).setCell ⟨w.heap.size + 1, 1, none⟩ (.slice a' 0 c')).setCell ⟨w.heap.size + 1, 2, none⟩ (.int .i64 B)) (((((wB.setCell ⟨w.heap.size + 1, 0, none⟩ (.string X)).setCell ⟨w.heap.size + 1, 1, none⟩ (.slice a' 0 c')).setCell ⟨w.heap.size + 1, 2, none⟩ (.int .i64 B)).setCell ⟨w.heap.size + 1 + 1, 0, none⟩ (.int .i64 m.1)).setCell ⟨w.heap.size + 1 + 1, 1, none⟩ (.string m.2)) := ((Only.refl _ _).setCell _ _).setCell _ _
  have O4 := (O'.only o1 (fun h => by have := hg' h; omega)).only o2 (fun h => by have := hg' h; omega)
  have d5 := (d3.trans ((o1.below (by omega)).mono (by omega))).trans ((o2.below (by have := o1.2.2.2.1; omega)).mono (by omega))
  have hF : [] ≠ [] → w.heap.size ≤ g' := fun h => by have := hg' h; omega
  clear o1 o2 O' d3
  exact bodyPost_ret (v := .tuple #[.agg #[.string X, (.slice a' 0 c'), .int .i64 B], .agg #[.int .i64 m.1, .string m.2], .bool true]) (by simp [results, Try.results48, go_sem, *]) rfl ⟨_, rfl, a', c', g', rfl, by exact hF, by exact O4, d5⟩
set_option maxRecDepth 100000 in
set_option maxHeartbeats 6400000 in
theorem s_take_more (X : ByteArray) (c cap : Nat) (L : List Ms) (B : Int) (w : World) (hX : X.size ≤ 2097152) (hl : L.length ≤ 1048576) (hne : L ≠ []) (hcap : L.length ≤ cap) (hc1 : cap ≠ 1) (hg : grB X L B = true) (hR : RowM (some ⟨c, 0, none⟩) L w) :
    Calls Try.prog 48 #[.agg #[.string X, .slice (some ⟨c, 0, none⟩) L.length cap, .int .i64 B]] w fun e w' => ∃ v, e = .returned (.tuple #[v, .agg #[.int .i64 (mAt L 0).1, .string (mAt L 0).2], .bool true]) ∧ AnsR X (L.drop 1) B w v w' := by
  have hpos : 0 < L.length := List.length_pos_iff.2 hne
  have hp0 : ((L.length : Int) == 0) = false := by simp; exact hne
  have hp1 : (1 : Int) ≤ (L.length : Int) := by omega
  have hp2 : (0 : Int) < (L.length : Int) := by omega
  have hc2 : (cap == 1) = false := by simpa using hc1
  have G := hide (fun w hR => s_goodReader X (some ⟨c, 0, none⟩) cap L B w hX hl hR)
  rw [hg] at G
  have hT := hR.tail hcap
  rw [if_neg hc1] at hT
  have hTl := hide (show L.length - 1 = (L.drop 1).length by rw [List.length_drop])
  have hTb := hide (show (L.drop 1).length ≤ 1048576 by rw [List.length_drop]; omega)
  obtain ⟨_, _, e0, hcw, x0, x1⟩ := hR 0 hpos
  simp only [Option.some.injEq, Addr.mk.injEq, and_true] at e0
  obtain ⟨rfl, rfl⟩ := e0
  simp only [Nat.zero_add, Nat.zero_mul] at x0 x1
  clear hX hl hg hne
  go_enter Try.func48, Try.ntmps48
  go_wp2_with fail
  refine (G.out _ (hR.below (below_box3 (Below.refl _ _)))).mono ?_
  rintro e w1 ⟨rfl, b1⟩
  have M1 := (((Mut.new w #[.string X, .slice (some ⟨c, 0, none⟩) L.length cap, .int .i64 B] 48).alloc (.cells #[.string ⟨#[]⟩, .slice none 0 0, .int .i64 0] 48)).alloc (.cells #[.int .i64 0, .string ⟨#[]⟩] 37)).below b1
  have M2 := ((Mut.new (w.alloc (.cells #[.string X, .slice (some ⟨c, 0, none⟩) L.length cap, .int .i64 B] 48)) #[.string ⟨#[]⟩, .slice none 0 0, .int .i64 0] 48).alloc (.cells #[.int .i64 0, .string ⟨#[]⟩] 37)).below b1
  have M3 := (Mut.new ((w.alloc (.cells #[.string X, .slice (some ⟨c, 0, none⟩) L.length cap, .int .i64 B] 48)).alloc (.cells #[.string ⟨#[]⟩, .slice none 0 0, .int .i64 0] 48)) #[.int .i64 0, .string ⟨#[]⟩] 37).below b1
  simp only [World.size_alloc] at M2 M3
  have d1 := below_box3 b1
  clear b1 hR
  have x0 := (d1.cell (p := ⟨c, 0, none⟩) hcw).trans x0
  have x1 := (d1.cell (p := ⟨c, 1, none⟩) hcw).trans x1
  have nc1 : ¬ (c = w.heap.size + 1) := by omega
  have nw1 : ¬ (w.heap.size + 1 + 1 = w.heap.size) := by omega
  have nw2 : ¬ (w.heap.size = w.heap.size + 1 + 1) := by omega
  have nc3 : ¬ (w.heap.size + 1 = c) := by omega
  have nc4 : ¬ (w.heap.size + 1 + 1 = c) := by omega
  have nc2 : ¬ (c = w.heap.size + 1 + 1) := by omega
  have hcw1 : c < w1.heap.size := Nat.lt_of_lt_of_le hcw d1.size
  have hT1 := hT.below d1
  have z1 : w.heap.size + 1 + 1 < w1.heap.size := M3.1
  have hW0 : w.heap.size < w1.heap.size := by omega
  have hW1 : w.heap.size + 1 < w1.heap.size := by omega
  have u0 := M1.2.1 0 _ rfl
  have u1 := M1.2.1 1 _ rfl
  have u2 := M1.2.1 2 _ rfl
  have p0 := M2.2.1 0 _ rfl
  have p1 := M2.2.1 1 _ rfl
  have p2 := M2.2.1 2 _ rfl
  have q0 := M3.2.1 0 _ rfl
  have q1 := M3.2.1 1 _ rfl
  have a0 := M2.2.2 0 (by simp)
  have a1 := M2.2.2 1 (by simp)
  have a2 := M2.2.2 2 (by simp)
  have b0 := M3.2.2 0 (by simp)
  have b1 := M3.2.2 1 (by simp)
  clear M1 M2 M3 G hT
  generalize hTT : L.drop 1 = TT at *
  have hTh := hide hTT
  clear hTT
  go_wp2_with fail
  have dZ : Below w1.heap.size w1 w1 := Below.refl _ _
  have hmade : OwnM w1.heap.size (.slice (some ⟨w1.heap.size, 0, none⟩) 0 0) [] (w1.alloc (.cells #[] 37)) := World.ownsRow_made w1 #[] 0 (Nat.le_refl _) (by decide) rfl
  go_region_held3 (fun w' => w'.cell? ⟨w.heap.size, 0, none⟩ = some (.string X) ∧ w'.cell? ⟨w.heap.size, 1, none⟩ = some (.slice (some ⟨c, 0, none⟩) L.length cap) ∧ w'.cell? ⟨w.heap.size, 2, none⟩ = some (.int .i64 B) ∧ w'.cell? ⟨c, 0, none⟩ = some (.int .i64 (mAt L 0).1) ∧ w'.cell? ⟨c, 1, none⟩ = some (.string (mAt L 0).2)) (first | go_keep | exact ⟨(dB.cell (p := ⟨w.heap.size, 0, none⟩) hW0).trans u0, (dB.cell (p := ⟨w.heap.size, 1, none⟩) hW0).trans u1, (dB.cell (p := ⟨w.heap.size, 2, none⟩) hW0).trans u2, (dB.cell (p := ⟨c, 0, none⟩) hcw1).trans x0, (dB.cell (p := ⟨c, 1, none⟩) hcw1).trans x1⟩ | exact ⟨(dB.drew.cell (p := ⟨w.heap.size, 0, none⟩) hW0).trans u0, (dB.drew.cell (p := ⟨w.heap.size, 1, none⟩) hW0).trans u1, (dB.drew.cell (p := ⟨w.heap.size, 2, none⟩) hW0).trans u2, (dB.drew.cell (p := ⟨c, 0, none⟩) hcw1).trans x0, (dB.drew.cell (p := ⟨c, 1, none⟩) hcw1).trans x1⟩ | exact ⟨(dZ.cell (p := ⟨w.heap.size, 0, none⟩) hW0).trans u0, (dZ.cell (p := ⟨w.heap.size, 1, none⟩) hW0).trans u1, (dZ.cell (p := ⟨w.heap.size, 2, none⟩) hW0).trans u2, (dZ.cell (p := ⟨c, 0, none⟩) hcw1).trans x0, (dZ.cell (p := ⟨c, 1, none⟩) hcw1).trans x1⟩ | exact ⟨(dZ.drew.cell (p := ⟨w.heap.size, 0, none⟩) hW0).trans u0, (dZ.drew.cell (p := ⟨w.heap.size, 1, none⟩) hW0).trans u1, (dZ.drew.cell (p := ⟨w.heap.size, 2, none⟩) hW0).trans u2, (dZ.drew.cell (p := ⟨c, 0, none⟩) hcw1).trans x0, (dZ.drew.cell (p := ⟨c, 1, none⟩) hcw1).trans x1⟩ | exact ⟨((below_box (Below.refl _ _) : Below w1.heap.size w1 (w1.alloc (.cells #[] 37))).cell (p := ⟨w.heap.size, 0, none⟩) hW0).trans u0, ((below_box (Below.refl _ _) : Below w1.heap.size w1 (w1.alloc (.cells #[] 37))).cell (p := ⟨w.heap.size, 1, none⟩) hW0).trans u1, ((below_box (Below.refl _ _) : Below w1.heap.size w1 (w1.alloc (.cells #[] 37))).cell (p := ⟨w.heap.size, 2, none⟩) hW0).trans u2, ((below_box (Below.refl _ _) : Below w1.heap.size w1 (w1.alloc (.cells #[] 37))).cell (p := ⟨c, 0, none⟩) hcw1).trans x0, ((below_box (Below.refl _ _) : Below w1.heap.size w1 (w1.alloc (.cells #[] 37))).cell (p := ⟨c, 1, none⟩) hcw1).trans x1⟩ | exact ⟨((below_box (Below.refl _ _) : Below w1.heap.size w1 (w1.alloc (.cells #[] 37))).drew.cell (p := ⟨w.heap.size, 0, none⟩) hW0).trans u0, ((below_box (Below.refl _ _) : Below w1.heap.size w1 (w1.alloc (.cells #[] 37))).drew.cell (p := ⟨w.heap.size, 1, none⟩) hW0).trans u1, ((below_box (Below.refl _ _) : Below w1.heap.size w1 (w1.alloc (.cells #[] 37))).drew.cell (p := ⟨w.heap.size, 2, none⟩) hW0).trans u2, ((below_box (Below.refl _ _) : Below w1.heap.size w1 (w1.alloc (.cells #[] 37))).drew.cell (p := ⟨c, 0, none⟩) hcw1).trans x0, ((below_box (Below.refl _ _) : Below w1.heap.size w1 (w1.alloc (.cells #[] 37))).drew.cell (p := ⟨c, 1, none⟩) hcw1).trans x1⟩ | (refine ⟨?_, ?_, ?_, ?_, ?_⟩ <;> simp [go_sem, *]) | (show _ ∧ _; trace_state; refine ⟨?_, ?_, ?_, ?_, ?_⟩ <;> simp [go_sem, *])) (first | (refine step_appM (by rfl) _ _ (by rfl) w1.heap.size (.slice (some ⟨w1.heap.size, 0, none⟩) 0 0) [] (by rfl) (by first | exact hmade | exact ownM_below hmade (Below.refl _ _).drew) (some ⟨c, 2, none⟩) TT _ _ (by rfl) hTl.out ⟨by first | exact hT1.below (below_box (Below.refl _ _)) | exact hT1.below (below_box (Below.refl _ _)).drew, .inr ⟨_, _, rfl⟩⟩ (by have := hTb.out; simp; omega) (by simp) ?_; intro v' wB hown bB hgr; have dB : Below w1.heap.size w1 wB := (by first | exact (below_box (Below.refl _ _)).trans bB | exact (below_box (Below.refl _ _)).drew.trans bB); have hown : OwnM w1.heap.size v' TT wB := hown; obtain ⟨a', c', g', rfl, hg', O'⟩ := WrM.own hown; have u0B := (dB.cell (p := ⟨w.heap.size, 0, none⟩) hW0).trans u0; have u1B := (dB.cell (p := ⟨w.heap.size, 1, none⟩) hW0).trans u1; have u2B := (dB.cell (p := ⟨w.heap.size, 2, none⟩) hW0).trans u2; have x0B := (dB.cell (p := ⟨c, 0, none⟩) hcw1).trans x0; have x1B := (dB.cell (p := ⟨c, 1, none⟩) hcw1).trans x1; have p0 := (dB.cell (p := ⟨w.heap.size + 1, 0, none⟩) hW1).trans p0; have p1 := (dB.cell (p := ⟨w.heap.size + 1, 1, none⟩) hW1).trans p1; have p2 := (dB.cell (p := ⟨w.heap.size + 1, 2, none⟩) hW1).trans p2; have q0 := (dB.cell (p := ⟨w.heap.size + 1 + 1, 0, none⟩) z1).trans q0; have q1 := (dB.cell (p := ⟨w.heap.size + 1 + 1, 1, none⟩) z1).trans q1; have a0 := (dB.frozen (p := ⟨w.heap.size + 1, 0, none⟩) hW1).trans a0; have a1 := (dB.frozen (p := ⟨w.heap.size + 1, 1, none⟩) hW1).trans a1; have a2 := (dB.frozen (p := ⟨w.heap.size + 1, 2, none⟩) hW1).trans a2; have b0 := (dB.frozen (p := ⟨w.heap.size + 1 + 1, 0, none⟩) z1).trans b0; have b1 := (dB.frozen (p := ⟨w.heap.size + 1 + 1, 1, none⟩) z1).trans b1))
  clear u0 u1 u2 x0 x1 u0B u1B u2B x0B x1B
  have d3 := d1.trans (dB.mono d1.size)
  have y4 := dB.size
  go_wp2_with fail
  have o1 : Only (w.heap.size + 1) wB (((wB.setCell ⟨w.heap.size + 1, 0, none⟩ (.string X)).setCell ⟨w.heap.size + 1, 1, none⟩ (.slice a' TT.length c')).setCell ⟨w.heap.size + 1, 2, none⟩ (.int .i64 B)) := (((Only.refl _ _).setCell _ _).setCell _ _).setCell _ _
  have o2 : Only (w.heap.size + 1 + 1) (((wB.setCell ⟨w.heap.size + 1, 0, none⟩ (.string X)).setCell ⟨w.heap.size + 1, 1, none⟩ (.slice a' TT.length c')).setCell ⟨w.heap.size + 1, 2, none⟩ (.int .i64 B)) (((((wB.setCell ⟨w.heap.size + 1, 0, none⟩ (.string X)).setCell ⟨w.heap.size + 1, 1, none⟩ (.slice a' TT.length c')).setCell ⟨w.heap.size + 1, 2, none⟩ (.int .i64 B)).setCell ⟨w.heap.size + 1 + 1, 0, none⟩ (.int .i64 (mAt L 0).1)).setCell ⟨w.heap.size + 1 + 1, 1, none⟩ (.string (mAt L 0).2)) := ((Only.refl _ _).setCell _ _).setCell _ _
  have O4 := (O'.only o1 (fun h => by have := hg' h; omega)).only o2 (fun h => by have := hg' h; omega)
  have d5 := (d3.trans ((o1.below (by omega)).mono (by omega))).trans ((o2.below (by have := o1.2.2.2.1; omega)).mono (by omega))
  have hF : TT ≠ [] → w.heap.size ≤ g' := fun h => by have := hg' h; omega
  clear o1 o2 O' d3
  exact bodyPost_ret (v := .tuple #[.agg #[.string X, (.slice a' TT.length c'), .int .i64 B], .agg #[.int .i64 (mAt L 0).1, .string (mAt L 0).2], .bool true]) (by simp [results, Try.results48, go_sem, *]) rfl ⟨_, rfl, a', c', g', by rw [hTh.out], by rw [hTh.out]; exact hF, by rw [hTh.out]; exact O4, d5⟩
theorem s_take_yes (X : ByteArray) (c cap : Nat) (L : List Ms) (B : Int) (w : World) (hX : X.size ≤ 2097152) (hl : L.length ≤ 1048576) (hne : L ≠ []) (hcap : L.length ≤ cap) (hg : grB X L B = true) (hR : RowM (some ⟨c, 0, none⟩) L w) :
    Calls Try.prog 48 #[.agg #[.string X, .slice (some ⟨c, 0, none⟩) L.length cap, .int .i64 B]] w fun e w' => ∃ v, e = .returned (.tuple #[v, .agg #[.int .i64 (mAt L 0).1, .string (mAt L 0).2], .bool true]) ∧ AnsR X (L.drop 1) B w v w' := by
  by_cases h : cap = 1
  · subst h
    have hpos : 0 < L.length := List.length_pos_iff.2 hne
    obtain ⟨m, rfl⟩ := List.length_eq_one_iff.1 (show L.length = 1 by omega)
    exact s_take_one X c m B w hX hg hR
  · exact s_take_more X c cap L B w hX hl hne hcap h hg hR
end Go.Proofs.Ytoeephmdklmpfaa
