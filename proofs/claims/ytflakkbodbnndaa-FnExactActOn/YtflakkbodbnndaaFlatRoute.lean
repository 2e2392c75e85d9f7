/- Routes in memory, and what the laws do with them: handed over, compared. -/
import Derived.Test.YtflakkbodbnndaaFlatAttrs
import Derived.Test.YtflakkbodbnndaaAll1
namespace Go.Proofs.Ytflakkbodbnndaa
open Go.RowKit

set_option maxRecDepth 100000 in
set_option maxHeartbeats 800000 in
theorem w_szRoute (pa pl o nx md pf : Int) (a0 : Option Addr) (n0 c0 : Nat) (a1 : Option Addr) (n1 c1 : Nat) (m : Int) (w : World) (h0 : n0 ≤ maxLen) (h1 : n1 ≤ maxLen) (hm : m ≤ 1048576) (hm0 : 0 ≤ m) :
    Calls Try.prog 5 #[.agg #[.int .i64 pa, .int .i64 pl, .int .i64 o, .slice a0 n0 c0, .int .i64 nx, .int .i64 md, .int .i64 pf, .slice a1 n1 c1], .int .i64 m] w fun e w' => e = .returned (.int .i64 (if (n0 : Int) + n1 ≤ m then m - (n0 : Int) - n1 else -1)) ∧ Below w.heap.size w w' := by
  have s0 := hide (fun w => w_szAttrs o nx md pf a0 n0 c0 a1 n1 c1 m w h0 h1 hm hm0)
  by_cases e0 : (n0 : Int) + n1 ≤ m
  · rw [if_pos e0] at s0 ⊢
    have q0 : ¬ (m - (n0 : Int) - n1 < 0) := by omega
    clear e0 h0 h1 hm hm0
    go_enter Try.func5, Try.ntmps5
    go_wp2_with fail
    refine (s0.out _).mono ?_
    rintro e w1 ⟨rfl, b1⟩
    go_wp2_with fail
    go_ret
    exact ⟨rfl, below_box b1⟩
  · rw [if_neg e0] at s0 ⊢
    clear e0 h0 h1 hm hm0
    go_enter Try.func5, Try.ntmps5
    go_wp2_with fail
    refine (s0.out _).mono ?_
    rintro e w1 ⟨rfl, b1⟩
    go_wp2_with fail
    go_ret
    exact ⟨rfl, below_box b1⟩
set_option maxRecDepth 100000 in
set_option maxHeartbeats 1600000 in
theorem w_eqRoute (pa pl o nx md pf : Int) (a0 b0 : Option Addr) (n0 c0 e0 : Nat) (f : Nat → Int) (a1 b1 : Option Addr) (n1 c1 e1 : Nat) (g : Nat → Int) (w : World) (h0 : n0 ≤ 4294967296) (h1 : n1 ≤ 4294967296) (R0 : RowInt a0 n0 f w) (R1 : RowInt a1 n1 g w) (Q0 : RowInt b0 n0 f w) (Q1 : RowInt b1 n1 g w) :
    Calls Try.prog 10 #[.agg #[.int .i64 pa, .int .i64 pl, .int .i64 o, .slice a0 n0 c0, .int .i64 nx, .int .i64 md, .int .i64 pf, .slice a1 n1 c1], .agg #[.int .i64 pa, .int .i64 pl, .int .i64 o, .slice b0 n0 e0, .int .i64 nx, .int .i64 md, .int .i64 pf, .slice b1 n1 e1]] w fun e w' => e = .returned (.bool true) ∧ Below w.heap.size w w' := by
  have s0 := hide (fun w => w_eqPrefix pa pl w)
  have s1 := hide (fun w R0 R1 Q0 Q1 => w_eqAttrs o nx md pf a0 b0 n0 c0 e0 f a1 b1 n1 c1 e1 g w h0 h1 R0 R1 Q0 Q1)
  clear h0 h1
  have M0 := (Mut.new w #[.int .i64 pa, .int .i64 pl, .int .i64 o, .slice a0 n0 c0, .int .i64 nx, .int .i64 md, .int .i64 pf, .slice a1 n1 c1] 35).alloc (.cells #[.int .i64 pa, .int .i64 pl, .int .i64 o, .slice b0 n0 e0, .int .i64 nx, .int .i64 md, .int .i64 pf, .slice b1 n1 e1] 35)
  have M1 := Mut.new (w.alloc (.cells #[.int .i64 pa, .int .i64 pl, .int .i64 o, .slice a0 n0 c0, .int .i64 nx, .int .i64 md, .int .i64 pf, .slice a1 n1 c1] 35)) #[.int .i64 pa, .int .i64 pl, .int .i64 o, .slice b0 n0 e0, .int .i64 nx, .int .i64 md, .int .i64 pf, .slice b1 n1 e1] 35
  have d0 : Below w.heap.size w ((w.alloc (.cells #[.int .i64 pa, .int .i64 pl, .int .i64 o, .slice a0 n0 c0, .int .i64 nx, .int .i64 md, .int .i64 pf, .slice a1 n1 c1] 35)).alloc (.cells #[.int .i64 pa, .int .i64 pl, .int .i64 o, .slice b0 n0 e0, .int .i64 nx, .int .i64 md, .int .i64 pf, .slice b1 n1 e1] 35)) := below_box2 (Below.refl _ _)
  simp only [World.size_alloc] at M1
  go_enter Try.func10, Try.ntmps10
  go_wp2_with fail
  generalize (w.alloc (.cells #[.int .i64 pa, .int .i64 pl, .int .i64 o, .slice a0 n0 c0, .int .i64 nx, .int .i64 md, .int .i64 pf, .slice a1 n1 c1] 35)).alloc (.cells #[.int .i64 pa, .int .i64 pl, .int .i64 o, .slice b0 n0 e0, .int .i64 nx, .int .i64 md, .int .i64 pf, .slice b1 n1 e1] 35) = w1 at *
  refine (s0.out _).mono ?_
  rintro e w2 ⟨rfl, hb2⟩
  have M0 := M0.below hb2
  have M1 := M1.below hb2
  have d2 := d0.trans (hb2.mono d0.size)
  clear hb2 d0
  have u2 := M0.2.1 2 _ rfl
  have v2 := M1.2.1 2 _ rfl
  have u3 := M0.2.1 3 _ rfl
  have v3 := M1.2.1 3 _ rfl
  have u4 := M0.2.1 4 _ rfl
  have v4 := M1.2.1 4 _ rfl
  have u5 := M0.2.1 5 _ rfl
  have v5 := M1.2.1 5 _ rfl
  have u6 := M0.2.1 6 _ rfl
  have v6 := M1.2.1 6 _ rfl
  have u7 := M0.2.1 7 _ rfl
  have v7 := M1.2.1 7 _ rfl
  clear M0 M1
  go_wp2_with fail
  refine (s1.out _ (R0.below d2) (R1.below d2) (Q0.below d2) (Q1.below d2)).mono ?_
  rintro e w3 ⟨rfl, hb3⟩
  have d3 := d2.trans (hb3.mono d2.size)
  go_wp2_with fail
  go_ret
  exact ⟨rfl, d3⟩
set_option maxRecDepth 100000 in
set_option maxHeartbeats 1600000 in
theorem w_toRoute (pa pl o nx md pf : Int) (a0 : Option Addr) (n0 c0 : Nat) (f : Nat → Int) (a1 : Option Addr) (n1 c1 : Nat) (g : Nat → Int) (w : World) (h0 : n0 ≤ 1048576) (h1 : n1 ≤ 1048576) (R0 : RowInt a0 n0 f w) (R1 : RowInt a1 n1 g w) :
    Calls Try.prog 8 #[.agg #[.int .i64 pa, .int .i64 pl, .int .i64 o, .slice a0 n0 c0, .int .i64 nx, .int .i64 md, .int .i64 pf, .slice a1 n1 c1]] w fun e w' => ∃ c d, e = .returned (.agg #[.int .i64 pa, .int .i64 pl, .int .i64 o, .slice (some ⟨c, 0, none⟩) n0 n0, .int .i64 nx, .int .i64 md, .int .i64 pf, .slice (some ⟨d, 0, none⟩) n1 n1]) ∧
      w.heap.size ≤ c ∧ c < d ∧ OutInt c n0 n0 f w' ∧ OutInt d n1 n1 g w' ∧ Below w.heap.size w w' := by
  have s0 := hide (fun w => w_toPrefix pa pl w)
  have s1 := hide (fun w R0 R1 => w_toAttrs o nx md pf a0 n0 c0 f a1 n1 c1 g w h0 h1 R0 R1)
  clear h0 h1
  have M0 := ((Mut.new w #[.int .i64 pa, .int .i64 pl, .int .i64 o, .slice a0 n0 c0, .int .i64 nx, .int .i64 md, .int .i64 pf, .slice a1 n1 c1] 30).alloc (.cells #[.int .i64 0, .int .i64 0, .int .i64 0, .slice none 0 0, .int .i64 0, .int .i64 0, .int .i64 0, .slice none 0 0] 35)).alloc (.cells #[.int .i64 0, .int .i64 0, .int .i64 0, .slice none 0 0, .int .i64 0, .int .i64 0, .int .i64 0, .slice none 0 0] 35)
  have M1 := (Mut.new (w.alloc (.cells #[.int .i64 pa, .int .i64 pl, .int .i64 o, .slice a0 n0 c0, .int .i64 nx, .int .i64 md, .int .i64 pf, .slice a1 n1 c1] 30)) #[.int .i64 0, .int .i64 0, .int .i64 0, .slice none 0 0, .int .i64 0, .int .i64 0, .int .i64 0, .slice none 0 0] 35).alloc (.cells #[.int .i64 0, .int .i64 0, .int .i64 0, .slice none 0 0, .int .i64 0, .int .i64 0, .int .i64 0, .slice none 0 0] 35)
  have M2 := Mut.new ((w.alloc (.cells #[.int .i64 pa, .int .i64 pl, .int .i64 o, .slice a0 n0 c0, .int .i64 nx, .int .i64 md, .int .i64 pf, .slice a1 n1 c1] 30)).alloc (.cells #[.int .i64 0, .int .i64 0, .int .i64 0, .slice none 0 0, .int .i64 0, .int .i64 0, .int .i64 0, .slice none 0 0] 35)) #[.int .i64 0, .int .i64 0, .int .i64 0, .slice none 0 0, .int .i64 0, .int .i64 0, .int .i64 0, .slice none 0 0] 35
  have d0 : Below w.heap.size w (((w.alloc (.cells #[.int .i64 pa, .int .i64 pl, .int .i64 o, .slice a0 n0 c0, .int .i64 nx, .int .i64 md, .int .i64 pf, .slice a1 n1 c1] 30)).alloc (.cells #[.int .i64 0, .int .i64 0, .int .i64 0, .slice none 0 0, .int .i64 0, .int .i64 0, .int .i64 0, .slice none 0 0] 35)).alloc (.cells #[.int .i64 0, .int .i64 0, .int .i64 0, .slice none 0 0, .int .i64 0, .int .i64 0, .int .i64 0, .slice none 0 0] 35)) := below_box3 (Below.refl _ _)
  simp only [World.size_alloc] at M1 M2
  go_enter Try.func8, Try.ntmps8
  go_wp2_with fail
  generalize ((w.alloc (.cells #[.int .i64 pa, .int .i64 pl, .int .i64 o, .slice a0 n0 c0, .int .i64 nx, .int .i64 md, .int .i64 pf, .slice a1 n1 c1] 30)).alloc (.cells #[.int .i64 0, .int .i64 0, .int .i64 0, .slice none 0 0, .int .i64 0, .int .i64 0, .int .i64 0, .slice none 0 0] 35)).alloc (.cells #[.int .i64 0, .int .i64 0, .int .i64 0, .slice none 0 0, .int .i64 0, .int .i64 0, .int .i64 0, .slice none 0 0] 35) = w1 at *
  refine (s0.out _).mono ?_
  rintro e w2 ⟨rfl, hb2⟩
  have M0 := M0.below hb2
  have M1 := M1.below hb2
  have M2 := M2.below hb2
  have d2 := d0.trans (hb2.mono d0.size)
  clear hb2 d0
  have u2 := M0.2.1 2 _ rfl
  have u3 := M0.2.1 3 _ rfl
  have u4 := M0.2.1 4 _ rfl
  have u5 := M0.2.1 5 _ rfl
  have u6 := M0.2.1 6 _ rfl
  have u7 := M0.2.1 7 _ rfl
  have v0 := M2.2.1 0 _ rfl
  have v1 := M2.2.1 1 _ rfl
  have v2 := M2.2.1 2 _ rfl
  have v3 := M2.2.1 3 _ rfl
  have v4 := M2.2.1 4 _ rfl
  have v5 := M2.2.1 5 _ rfl
  have v6 := M2.2.1 6 _ rfl
  have v7 := M2.2.1 7 _ rfl
  have x0 := M2.2.2 0 (by simp)
  have x1 := M2.2.2 1 (by simp)
  have x2 := M2.2.2 2 (by simp)
  have x3 := M2.2.2 3 (by simp)
  have x4 := M2.2.2 4 (by simp)
  have x5 := M2.2.2 5 (by simp)
  have x6 := M2.2.2 6 (by simp)
  have x7 := M2.2.2 7 (by simp)
  go_wp2_with fail
  have M2 := (M2.set 0 (.int .i64 pa)).set 1 (.int .i64 pl)
  have M1 := (M1.other (c := w.heap.size + 1 + 1) (by omega) 0 (.int .i64 pa)).other (c := w.heap.size + 1 + 1) (by omega) 1 (.int .i64 pl)
  have d2 := (d2.setCell (p := ⟨w.heap.size + 1 + 1, 0, none⟩) (by simp; omega) (.int .i64 pa)).setCell (p := ⟨w.heap.size + 1 + 1, 1, none⟩) (by simp; omega) (.int .i64 pl)
  clear M0 u2 u3 u4 u5 u6 u7 v0 x0 v1 x1 v2 x2 v3 x3 v4 x4 v5 x5 v6 x6 v7 x7
  generalize (w2.setCell ⟨w.heap.size + 1 + 1, 0, none⟩ (.int .i64 pa)).setCell ⟨w.heap.size + 1 + 1, 1, none⟩ (.int .i64 pl) = w3 at *
  refine (s1.out _ (R0.below d2) (R1.below d2)).mono ?_
  rintro e w4 ⟨c, d, rfl, hc, hd, o1, o3, hb4⟩
  have hlt := M2.1
  have M1 := M1.below hb4
  have M2 := M2.below hb4
  have d3 := d2.trans (hb4.mono d2.size)
  clear hb4 d2
  have v0 := M2.2.1 0 _ rfl
  have x0 := M2.2.2 0 (by simp)
  have y0 := M1.2.1 0 _ rfl
  have f0 := M1.2.2 0 (by simp)
  have v1 := M2.2.1 1 _ rfl
  have x1 := M2.2.2 1 (by simp)
  have y1 := M1.2.1 1 _ rfl
  have f1 := M1.2.2 1 (by simp)
  have v2 := M2.2.1 2 _ rfl
  have x2 := M2.2.2 2 (by simp)
  have y2 := M1.2.1 2 _ rfl
  have f2 := M1.2.2 2 (by simp)
  have v3 := M2.2.1 3 _ rfl
  have x3 := M2.2.2 3 (by simp)
  have y3 := M1.2.1 3 _ rfl
  have f3 := M1.2.2 3 (by simp)
  have v4 := M2.2.1 4 _ rfl
  have x4 := M2.2.2 4 (by simp)
  have y4 := M1.2.1 4 _ rfl
  have f4 := M1.2.2 4 (by simp)
  have v5 := M2.2.1 5 _ rfl
  have x5 := M2.2.2 5 (by simp)
  have y5 := M1.2.1 5 _ rfl
  have f5 := M1.2.2 5 (by simp)
  have v6 := M2.2.1 6 _ rfl
  have x6 := M2.2.2 6 (by simp)
  have y6 := M1.2.1 6 _ rfl
  have f6 := M1.2.2 6 (by simp)
  have v7 := M2.2.1 7 _ rfl
  have x7 := M2.2.2 7 (by simp)
  have y7 := M1.2.1 7 _ rfl
  have f7 := M1.2.2 7 (by simp)
  clear M1 M2
  go_wp2_with fail
  exact bodyPost_ret (v := .agg #[.int .i64 pa, .int .i64 pl, .int .i64 o, .slice (some ⟨c, 0, none⟩) n0 n0, .int .i64 nx, .int .i64 md, .int .i64 pf, .slice (some ⟨d, 0, none⟩) n1 n1]) (by simp [results, Try.results8, go_sem, *]) rfl ⟨_, _, rfl, by omega, hd, by
    refine OutInt.other (OutInt.other (OutInt.other (OutInt.other (OutInt.other (OutInt.other (OutInt.other (OutInt.other (OutInt.other (OutInt.other (OutInt.other (OutInt.other (OutInt.other (OutInt.other (o1) ?_ _ _) ?_ _ _) ?_ _ _) ?_ _ _) ?_ _ _) ?_ _ _) ?_ _ _) ?_ _ _) ?_ _ _) ?_ _ _) ?_ _ _) ?_ _ _) ?_ _ _) ?_ _ _ <;> omega, by
    refine OutInt.other (OutInt.other (OutInt.other (OutInt.other (OutInt.other (OutInt.other (OutInt.other (OutInt.other (OutInt.other (OutInt.other (OutInt.other (OutInt.other (OutInt.other (OutInt.other (o3) ?_ _ _) ?_ _ _) ?_ _ _) ?_ _ _) ?_ _ _) ?_ _ _) ?_ _ _) ?_ _ _) ?_ _ _) ?_ _ _) ?_ _ _) ?_ _ _) ?_ _ _) ?_ _ _ <;> omega, by
    refine Below.setCell (Below.setCell (Below.setCell (Below.setCell (Below.setCell (Below.setCell (Below.setCell (Below.setCell (Below.setCell (Below.setCell (Below.setCell (Below.setCell (Below.setCell (Below.setCell (d3) ?_ _) ?_ _) ?_ _) ?_ _) ?_ _) ?_ _) ?_ _) ?_ _) ?_ _) ?_ _) ?_ _) ?_ _) ?_ _) ?_ _ <;> (simp; try omega)⟩
end Go.Proofs.Ytflakkbodbnndaa
