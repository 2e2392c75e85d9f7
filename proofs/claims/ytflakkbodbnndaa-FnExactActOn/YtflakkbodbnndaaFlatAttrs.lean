/- Attrs in memory, and what the laws do with them: handed over, compared, marked. -/
import Derived.Test.YtflakkbodbnndaaAll2
namespace Go.Proofs.Ytflakkbodbnndaa
open Go.RowKit

theorem OutInt.other {c n k : Nat} {f : Nat → Int} {w : World} (h : OutInt c n k f w) {d : Nat} (hn : c ≠ d) (o : Nat) (v : Value) : OutInt c n k f (w.setCell ⟨d, o, none⟩ v) :=
  h.only ((Only.refl d w).setCell o v) hn

set_option maxRecDepth 100000 in
set_option maxHeartbeats 800000 in
theorem w_szAttrs (o nx md pf : Int) (a0 : Option Addr) (n0 c0 : Nat) (a1 : Option Addr) (n1 c1 : Nat) (m : Int) (w : World) (h0 : n0 ≤ maxLen) (h1 : n1 ≤ maxLen) (hm : m ≤ 1048576) (hm0 : 0 ≤ m) :
    Calls Try.prog 20 #[.agg #[.int .i64 o, .slice a0 n0 c0, .int .i64 nx, .int .i64 md, .int .i64 pf, .slice a1 n1 c1], .int .i64 m] w fun e w' => e = .returned (.int .i64 (if (n0 : Int) + n1 ≤ m then m - (n0 : Int) - n1 else -1)) ∧ Below w.heap.size w w' := by
  have s0 := hide (fun w => w_szIntS a0 n0 c0 m w h0 hm hm0)
  by_cases e0 : (n0 : Int) ≤ m
  · rw [if_pos e0] at s0
    have s1 := hide (fun w => w_szIntS a1 n1 c1 (m - (n0 : Int)) w h1 (by omega) (by omega))
    have q0 : ¬ (m - (n0 : Int) < 0) := by omega
    by_cases e1 : (n1 : Int) ≤ m - (n0 : Int)
    · rw [if_pos e1] at s1
      rw [if_pos (by omega)]
      have q1 : ¬ (m - (n0 : Int) - (n1 : Int) < 0) := by omega
      clear e0 e1 h0 h1 hm hm0
      go_enter Try.func20, Try.ntmps20
      go_wp2_with fail
      refine (s0.out _).mono ?_
      rintro e w1 ⟨rfl, rfl⟩
      go_wp2_with fail
      refine (s1.out _).mono ?_
      rintro e w1 ⟨rfl, rfl⟩
      go_wp2_with fail
      go_ret
      exact ⟨rfl, below_box (Below.refl _ _)⟩
    · rw [if_neg e1] at s1
      rw [if_neg (by omega)]
      clear e0 e1 h0 h1 hm hm0
      go_enter Try.func20, Try.ntmps20
      go_wp2_with fail
      refine (s0.out _).mono ?_
      rintro e w1 ⟨rfl, rfl⟩
      go_wp2_with fail
      refine (s1.out _).mono ?_
      rintro e w1 ⟨rfl, rfl⟩
      go_wp2_with fail
      go_ret
      exact ⟨rfl, below_box (Below.refl _ _)⟩
  · rw [if_neg e0] at s0
    rw [if_neg (by omega)]
    clear e0 h0 h1 hm hm0
    go_enter Try.func20, Try.ntmps20
    go_wp2_with fail
    refine (s0.out _).mono ?_
    rintro e w1 ⟨rfl, rfl⟩
    go_wp2_with fail
    go_ret
    exact ⟨rfl, below_box (Below.refl _ _)⟩

set_option maxRecDepth 100000 in
set_option maxHeartbeats 1600000 in
theorem w_toAttrs (o nx md pf : Int) (a0 : Option Addr) (n0 c0 : Nat) (f : Nat → Int) (a1 : Option Addr) (n1 c1 : Nat) (g : Nat → Int) (w : World) (h0 : n0 ≤ 1048576) (h1 : n1 ≤ 1048576) (R0 : RowInt a0 n0 f w) (R1 : RowInt a1 n1 g w) :
    Calls Try.prog 25 #[.agg #[.int .i64 o, .slice a0 n0 c0, .int .i64 nx, .int .i64 md, .int .i64 pf, .slice a1 n1 c1]] w fun e w' => ∃ c d, e = .returned (.agg #[.int .i64 o, .slice (some ⟨c, 0, none⟩) n0 n0, .int .i64 nx, .int .i64 md, .int .i64 pf, .slice (some ⟨d, 0, none⟩) n1 n1]) ∧
      w.heap.size ≤ c ∧ c < d ∧ OutInt c n0 n0 f w' ∧ OutInt d n1 n1 g w' ∧ Below w.heap.size w w' := by
  have s0 := hide (fun w R => w_toIntS a0 n0 c0 f w h0 R)
  have s1 := hide (fun w R => w_toIntS a1 n1 c1 g w h1 R)
  clear h0 h1
  go_enter Try.func25, Try.ntmps25
  go_wp2_with fail
  have M2 := (Mut.new ((w.alloc (.cells #[.int .i64 o, .slice a0 n0 c0, .int .i64 nx, .int .i64 md, .int .i64 pf, .slice a1 n1 c1] 28)).alloc (.cells #[.int .i64 0, .slice none 0 0, .int .i64 0, .int .i64 0, .int .i64 0, .slice none 0 0] 33)) #[.int .i64 o, .slice none 0 0, .int .i64 0, .int .i64 0, .int .i64 0, .slice none 0 0] 33)
  have M1 := (Mut.new (w.alloc (.cells #[.int .i64 o, .slice a0 n0 c0, .int .i64 nx, .int .i64 md, .int .i64 pf, .slice a1 n1 c1] 28)) #[.int .i64 0, .slice none 0 0, .int .i64 0, .int .i64 0, .int .i64 0, .slice none 0 0] 33).alloc (.cells #[.int .i64 o, .slice none 0 0, .int .i64 0, .int .i64 0, .int .i64 0, .slice none 0 0] 33)
  have M0 := ((Mut.new w #[.int .i64 o, .slice a0 n0 c0, .int .i64 nx, .int .i64 md, .int .i64 pf, .slice a1 n1 c1] 28).alloc (.cells #[.int .i64 0, .slice none 0 0, .int .i64 0, .int .i64 0, .int .i64 0, .slice none 0 0] 33)).alloc (.cells #[.int .i64 o, .slice none 0 0, .int .i64 0, .int .i64 0, .int .i64 0, .slice none 0 0] 33)
  refine (s0.out _ (R0.below (below_box3 (Below.refl _ _)))).mono ?_
  rintro e w1 ⟨rfl, hb1, o1⟩
  have M0 := M0.below hb1
  have M1 := M1.below hb1
  have M2 := M2.below hb1
  have d1 := below_box3 hb1
  clear hb1
  simp only [World.size_alloc] at o1 M1 M2 ⊢
  have u2 := M0.2.1 2 _ rfl
  have u3 := M0.2.1 3 _ rfl
  have u4 := M0.2.1 4 _ rfl
  have u5 := M0.2.1 5 _ rfl
  have v1 := M2.2.1 1 _ rfl
  have v2 := M2.2.1 2 _ rfl
  have v3 := M2.2.1 3 _ rfl
  have v4 := M2.2.1 4 _ rfl
  have x1 := M2.2.2 1 (by simp)
  have x2 := M2.2.2 2 (by simp)
  have x3 := M2.2.2 3 (by simp)
  have x4 := M2.2.2 4 (by simp)
  go_wp2_with fail
  have M2 := (((M2.set 1 (.slice (some ⟨w.heap.size + 1 + 1 + 1, 0, none⟩) n0 n0)).set 2 (.int .i64 nx)).set 3 (.int .i64 md)).set 4 (.int .i64 pf)
  have M1 := (((M1.other (c := w.heap.size + 1 + 1) (by omega) 1 (.slice (some ⟨w.heap.size + 1 + 1 + 1, 0, none⟩) n0 n0)).other (c := w.heap.size + 1 + 1) (by omega) 2 (.int .i64 nx)).other (c := w.heap.size + 1 + 1) (by omega) 3 (.int .i64 md)).other (c := w.heap.size + 1 + 1) (by omega) 4 (.int .i64 pf)
  have o1 := (((o1.other (d := w.heap.size + 1 + 1) (by omega) 1 (.slice (some ⟨w.heap.size + 1 + 1 + 1, 0, none⟩) n0 n0)).other (d := w.heap.size + 1 + 1) (by omega) 2 (.int .i64 nx)).other (d := w.heap.size + 1 + 1) (by omega) 3 (.int .i64 md)).other (d := w.heap.size + 1 + 1) (by omega) 4 (.int .i64 pf)
  have d1 := (((d1.setCell (p := ⟨w.heap.size + 1 + 1, 1, none⟩) (by simp; omega) (.slice (some ⟨w.heap.size + 1 + 1 + 1, 0, none⟩) n0 n0)).setCell (p := ⟨w.heap.size + 1 + 1, 2, none⟩) (by simp; omega) (.int .i64 nx)).setCell (p := ⟨w.heap.size + 1 + 1, 3, none⟩) (by simp; omega) (.int .i64 md)).setCell (p := ⟨w.heap.size + 1 + 1, 4, none⟩) (by simp; omega) (.int .i64 pf)
  clear u2 u3 u4 u5 v1 v2 v3 v4 x1 x2 x3 x4 M0
  generalize (((w1.setCell ⟨w.heap.size + 1 + 1, 1, none⟩ (.slice (some ⟨w.heap.size + 1 + 1 + 1, 0, none⟩) n0 n0)).setCell ⟨w.heap.size + 1 + 1, 2, none⟩ (.int .i64 nx)).setCell ⟨w.heap.size + 1 + 1, 3, none⟩ (.int .i64 md)).setCell ⟨w.heap.size + 1 + 1, 4, none⟩ (.int .i64 pf) = w2 at *
  refine (s1.out _ (R1.below d1)).mono ?_
  rintro e w3 ⟨rfl, hb3, o3⟩
  have M1 := M1.below hb3
  have M2 := M2.below hb3
  have z2 := o1.1
  have o1 := o1.below hb3
  have d3 := d1.trans (hb3.mono d1.size)
  clear hb3 d1
  have v0 := M2.2.1 0 _ rfl
  have v1 := M2.2.1 1 _ rfl
  have v2 := M2.2.1 2 _ rfl
  have v3 := M2.2.1 3 _ rfl
  have v4 := M2.2.1 4 _ rfl
  have v5 := M2.2.1 5 _ rfl
  have x5 := M2.2.2 5 (by simp)
  have y0 := M1.2.1 0 _ rfl
  have y1 := M1.2.1 1 _ rfl
  have y2 := M1.2.1 2 _ rfl
  have y3 := M1.2.1 3 _ rfl
  have y4 := M1.2.1 4 _ rfl
  have y5 := M1.2.1 5 _ rfl
  have f0 := M1.2.2 0 (by simp)
  have f1 := M1.2.2 1 (by simp)
  have f2 := M1.2.2 2 (by simp)
  have f3 := M1.2.2 3 (by simp)
  have f4 := M1.2.2 4 (by simp)
  have f5 := M1.2.2 5 (by simp)
  clear M1 M2
  go_wp2_with fail
  generalize w2.heap.size = d at *
  exact bodyPost_ret (v := .agg #[.int .i64 o, .slice (some ⟨w.heap.size + 1 + 1 + 1, 0, none⟩) n0 n0, .int .i64 nx, .int .i64 md, .int .i64 pf, .slice (some ⟨d, 0, none⟩) n1 n1]) (by simp [results, Try.results25, go_sem, *]) rfl ⟨_, _, rfl, by omega, z2, by
    refine OutInt.other (OutInt.other (OutInt.other (OutInt.other (OutInt.other (OutInt.other (OutInt.other o1 ?_ _ _) ?_ _ _) ?_ _ _) ?_ _ _) ?_ _ _) ?_ _ _) ?_ _ _ <;> omega, by
    refine OutInt.other (OutInt.other (OutInt.other (OutInt.other (OutInt.other (OutInt.other (OutInt.other o3 ?_ _ _) ?_ _ _) ?_ _ _) ?_ _ _) ?_ _ _) ?_ _ _) ?_ _ _ <;> omega, by
    refine Below.setCell (Below.setCell (Below.setCell (Below.setCell (Below.setCell (Below.setCell (Below.setCell d3 ?_ _) ?_ _) ?_ _) ?_ _) ?_ _) ?_ _) ?_ _ <;> (simp; try omega)⟩

set_option maxRecDepth 100000 in
set_option maxHeartbeats 1600000 in
theorem w_eqAttrs (o nx md pf : Int) (a0 b0 : Option Addr) (n0 c0 e0 : Nat) (f : Nat → Int) (a1 b1 : Option Addr) (n1 c1 e1 : Nat) (g : Nat → Int) (w : World) (h0 : n0 ≤ 4294967296) (h1 : n1 ≤ 4294967296) (R0 : RowInt a0 n0 f w) (R1 : RowInt a1 n1 g w) (Q0 : RowInt b0 n0 f w) (Q1 : RowInt b1 n1 g w) :
    Calls Try.prog 30 #[.agg #[.int .i64 o, .slice a0 n0 c0, .int .i64 nx, .int .i64 md, .int .i64 pf, .slice a1 n1 c1], .agg #[.int .i64 o, .slice b0 n0 e0, .int .i64 nx, .int .i64 md, .int .i64 pf, .slice b1 n1 e1]] w fun e w' => e = .returned (.bool true) ∧ Below w.heap.size w w' := by
  have s0 := hide (fun w R Q => w_eqIntS a0 b0 n0 c0 e0 f w h0 R Q)
  have s1 := hide (fun w R Q => w_eqIntS a1 b1 n1 c1 e1 g w h1 R Q)
  have k0 : (o != o) = false := by simp
  have k2 : (nx != nx) = false := by simp
  have k3 : (md != md) = false := by simp
  have k4 : (pf != pf) = false := by simp
  clear h0 h1
  have M0 := (Mut.new w #[.int .i64 o, .slice a0 n0 c0, .int .i64 nx, .int .i64 md, .int .i64 pf, .slice a1 n1 c1] 33).alloc (.cells #[.int .i64 o, .slice b0 n0 e0, .int .i64 nx, .int .i64 md, .int .i64 pf, .slice b1 n1 e1] 33)
  have M1 := Mut.new (w.alloc (.cells #[.int .i64 o, .slice a0 n0 c0, .int .i64 nx, .int .i64 md, .int .i64 pf, .slice a1 n1 c1] 33)) #[.int .i64 o, .slice b0 n0 e0, .int .i64 nx, .int .i64 md, .int .i64 pf, .slice b1 n1 e1] 33
  have d0 : Below w.heap.size w ((w.alloc (.cells #[.int .i64 o, .slice a0 n0 c0, .int .i64 nx, .int .i64 md, .int .i64 pf, .slice a1 n1 c1] 33)).alloc (.cells #[.int .i64 o, .slice b0 n0 e0, .int .i64 nx, .int .i64 md, .int .i64 pf, .slice b1 n1 e1] 33)) := below_box2 (Below.refl _ _)
  simp only [World.size_alloc] at M1
  go_enter Try.func30, Try.ntmps30
  go_wp2_with fail
  generalize (w.alloc (.cells #[.int .i64 o, .slice a0 n0 c0, .int .i64 nx, .int .i64 md, .int .i64 pf, .slice a1 n1 c1] 33)).alloc (.cells #[.int .i64 o, .slice b0 n0 e0, .int .i64 nx, .int .i64 md, .int .i64 pf, .slice b1 n1 e1] 33) = w1 at *
  refine (s0.out _ (R0.below d0) (Q0.below d0)).mono ?_
  rintro e w2 ⟨rfl, hb2⟩
  have M0 := M0.below hb2
  have M1 := M1.below hb2
  have d2 := d0.trans (hb2.mono d0.size)
  clear hb2 d0
  have u2 := M0.2.1 2 _ rfl
  have u3 := M0.2.1 3 _ rfl
  have u4 := M0.2.1 4 _ rfl
  have u5 := M0.2.1 5 _ rfl
  have v2 := M1.2.1 2 _ rfl
  have v3 := M1.2.1 3 _ rfl
  have v4 := M1.2.1 4 _ rfl
  have v5 := M1.2.1 5 _ rfl
  clear M0 M1
  go_wp2_with fail
  refine (s1.out _ (R1.below d2) (Q1.below d2)).mono ?_
  rintro e w3 ⟨rfl, hb3⟩
  have d3 := d2.trans (hb3.mono d2.size)
  go_wp2_with fail
  go_ret
  exact ⟨rfl, d3⟩

end Go.Proofs.Ytflakkbodbnndaa
