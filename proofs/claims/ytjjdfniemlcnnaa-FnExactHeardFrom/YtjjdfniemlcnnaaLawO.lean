/- Offers as the laws hand them over: their size, a copy, a comparison. -/
import Derived.Test.YtjjdfniemlcnnaaOff8
namespace Go.Proofs.Ytjjdfniemlcnnaa
open Go.RowKit

set_option maxRecDepth 100000 in
set_option maxHeartbeats 800000 in
theorem w_szOffer (a0 : Option Addr) (c0 : Nat) (a1 : Option Addr) (c1 : Nat) (t : Oc) (m : Int) (w : World) (h0 : t.n0 ≤ maxLen) (h1 : t.n1 ≤ maxLen) (hm : m ≤ 1048576) (hm0 : 0 ≤ m) :
    Calls Try.prog 86 #[.agg #[.int .i64 t.pe, .int .i64 t.o, .slice a0 t.n0 c0, .int .i64 t.nx, .int .i64 t.md, .int .i64 t.pf, .slice a1 t.n1 c1], .int .i64 m] w fun e w' => e = .returned (.int .i64 (if (t.tot : Int) ≤ m then m - (t.tot : Int) else -1)) ∧ Below w.heap.size w w' := by
  have s0 := hide (fun w => w_szAttrs t.o t.nx t.md t.pf a0 t.n0 c0 a1 t.n1 c1 m w h0 h1 hm hm0)
  have ht : t.tot = t.n0 + t.n1 := rfl
  by_cases e0 : (t.n0 : Int) + t.n1 ≤ m
  · rw [if_pos e0] at s0
    rw [if_pos (by omega), show m - (t.tot : Int) = m - (t.n0 : Int) - t.n1 by omega]
    have q0 : ¬ (m - (t.n0 : Int) - t.n1 < 0) := by omega
    clear e0 h0 h1 hm hm0 ht
    go_enter Try.func86, Try.ntmps86
    go_wp2_with fail
    refine (s0.out _).mono ?_
    rintro e w1 ⟨rfl, b1⟩
    go_wp2_with fail
    go_ret
    exact ⟨rfl, below_box b1⟩
  · rw [if_neg e0] at s0
    rw [if_neg (by omega)]
    clear e0 h0 h1 hm hm0 ht
    go_enter Try.func86, Try.ntmps86
    go_wp2_with fail
    refine (s0.out _).mono ?_
    rintro e w1 ⟨rfl, b1⟩
    go_wp2_with fail
    go_ret
    exact ⟨rfl, below_box b1⟩
set_option maxRecDepth 100000 in
set_option maxHeartbeats 1600000 in
theorem w_eqOffer (a0 b0 : Option Addr) (c0 e0 : Nat) (a1 b1 : Option Addr) (c1 e1 : Nat) (t : Oc) (w : World) (h0 : t.n0 ≤ 4294967296) (h1 : t.n1 ≤ 4294967296) (R : OfIn a0 a1 t w) (Q : OfIn b0 b1 t w) :
    Calls Try.prog 24 #[.agg #[.int .i64 t.pe, .int .i64 t.o, .slice a0 t.n0 c0, .int .i64 t.nx, .int .i64 t.md, .int .i64 t.pf, .slice a1 t.n1 c1], .agg #[.int .i64 t.pe, .int .i64 t.o, .slice b0 t.n0 e0, .int .i64 t.nx, .int .i64 t.md, .int .i64 t.pf, .slice b1 t.n1 e1]] w fun e w' => e = .returned (.bool true) ∧ Below w.heap.size w w' := by
  have s1 := hide (fun w R0 R1 Q0 Q1 => w_eqAttrs t.o t.nx t.md t.pf a0 b0 t.n0 c0 e0 t.f a1 b1 t.n1 c1 e1 t.g w h0 h1 R0 R1 Q0 Q1)
  have k0 : (t.pe != t.pe) = false := by simp
  obtain ⟨R0, R1⟩ := R
  obtain ⟨Q0, Q1⟩ := Q
  clear h0 h1
  have d0 : Below w.heap.size w ((w.alloc (.cells #[.int .i64 t.pe, .int .i64 t.o, .slice a0 t.n0 c0, .int .i64 t.nx, .int .i64 t.md, .int .i64 t.pf, .slice a1 t.n1 c1] 49)).alloc (.cells #[.int .i64 t.pe, .int .i64 t.o, .slice b0 t.n0 e0, .int .i64 t.nx, .int .i64 t.md, .int .i64 t.pf, .slice b1 t.n1 e1] 49)) := below_box2 (Below.refl _ _)
  go_enter Try.func24, Try.ntmps24
  go_wp2_with fail
  refine (s1.out _ (R0.below d0) (R1.below d0) (Q0.below d0) (Q1.below d0)).mono ?_
  rintro e w3 ⟨rfl, hb3⟩
  have d3 := d0.trans (hb3.mono d0.size)
  go_wp2_with fail
  go_ret
  exact ⟨rfl, d3⟩
set_option maxRecDepth 100000 in
set_option maxHeartbeats 1600000 in
theorem w_toOffer (a0 : Option Addr) (c0 : Nat) (a1 : Option Addr) (c1 : Nat) (t : Oc) (w : World) (h0 : t.n0 ≤ 1048576) (h1 : t.n1 ≤ 1048576) (R : OfIn a0 a1 t w) :
    Calls Try.prog 87 #[.agg #[.int .i64 t.pe, .int .i64 t.o, .slice a0 t.n0 c0, .int .i64 t.nx, .int .i64 t.md, .int .i64 t.pf, .slice a1 t.n1 c1]] w fun e w' => ∃ c d, e = .returned (.agg #[.int .i64 t.pe, .int .i64 t.o, .slice (some ⟨c, 0, none⟩) t.n0 t.n0, .int .i64 t.nx, .int .i64 t.md, .int .i64 t.pf, .slice (some ⟨d, 0, none⟩) t.n1 t.n1]) ∧
      w.heap.size ≤ c ∧ c < d ∧ OutInt c t.n0 t.n0 t.f w' ∧ OutInt d t.n1 t.n1 t.g w' ∧ Below w.heap.size w w' := by
  have s1 := hide (fun w R0 R1 => w_toAttrs t.o t.nx t.md t.pf a0 t.n0 c0 t.f a1 t.n1 c1 t.g w h0 h1 R0 R1)
  obtain ⟨R0, R1⟩ := R
  clear h0 h1
  go_enter Try.func87, Try.ntmps87
  go_wp2_with fail
  have M0 := ((Mut.new w #[.int .i64 t.pe, .int .i64 t.o, .slice a0 t.n0 c0, .int .i64 t.nx, .int .i64 t.md, .int .i64 t.pf, .slice a1 t.n1 c1] 115).alloc (.cells #[.int .i64 0, .int .i64 0, .slice none 0 0, .int .i64 0, .int .i64 0, .int .i64 0, .slice none 0 0] 49)).alloc (.cells #[.int .i64 t.pe, .int .i64 0, .slice none 0 0, .int .i64 0, .int .i64 0, .int .i64 0, .slice none 0 0] 49)
  have M1 := (Mut.new (w.alloc (.cells #[.int .i64 t.pe, .int .i64 t.o, .slice a0 t.n0 c0, .int .i64 t.nx, .int .i64 t.md, .int .i64 t.pf, .slice a1 t.n1 c1] 115)) #[.int .i64 0, .int .i64 0, .slice none 0 0, .int .i64 0, .int .i64 0, .int .i64 0, .slice none 0 0] 49).alloc (.cells #[.int .i64 t.pe, .int .i64 0, .slice none 0 0, .int .i64 0, .int .i64 0, .int .i64 0, .slice none 0 0] 49)
  have M2 := Mut.new ((w.alloc (.cells #[.int .i64 t.pe, .int .i64 t.o, .slice a0 t.n0 c0, .int .i64 t.nx, .int .i64 t.md, .int .i64 t.pf, .slice a1 t.n1 c1] 115)).alloc (.cells #[.int .i64 0, .int .i64 0, .slice none 0 0, .int .i64 0, .int .i64 0, .int .i64 0, .slice none 0 0] 49)) #[.int .i64 t.pe, .int .i64 0, .slice none 0 0, .int .i64 0, .int .i64 0, .int .i64 0, .slice none 0 0] 49
  have d2 : Below w.heap.size w (((w.alloc (.cells #[.int .i64 t.pe, .int .i64 t.o, .slice a0 t.n0 c0, .int .i64 t.nx, .int .i64 t.md, .int .i64 t.pf, .slice a1 t.n1 c1] 115)).alloc (.cells #[.int .i64 0, .int .i64 0, .slice none 0 0, .int .i64 0, .int .i64 0, .int .i64 0, .slice none 0 0] 49)).alloc (.cells #[.int .i64 t.pe, .int .i64 0, .slice none 0 0, .int .i64 0, .int .i64 0, .int .i64 0, .slice none 0 0] 49)) := below_box3 (Below.refl _ _)
  simp only [World.size_alloc] at M1 M2
  generalize ((w.alloc (.cells #[.int .i64 t.pe, .int .i64 t.o, .slice a0 t.n0 c0, .int .i64 t.nx, .int .i64 t.md, .int .i64 t.pf, .slice a1 t.n1 c1] 115)).alloc (.cells #[.int .i64 0, .int .i64 0, .slice none 0 0, .int .i64 0, .int .i64 0, .int .i64 0, .slice none 0 0] 49)).alloc (.cells #[.int .i64 t.pe, .int .i64 0, .slice none 0 0, .int .i64 0, .int .i64 0, .int .i64 0, .slice none 0 0] 49) = w3 at *
  refine (s1.out _ (R0.below d2) (R1.below d2)).mono ?_
  rintro e w4 ⟨c, d, rfl, hc, hd, o1, o3, hb4⟩
  have hlt := M2.1
  have M1 := M1.below hb4
  have M2 := M2.below hb4
  have d3 := d2.trans (hb4.mono d2.size)
  clear hb4 d2 M0
  have v0 := M2.2.1 0 _ rfl
  have x0 := M2.2.2 0 (by simp)
  have y0 := M1.2.1 0 _ rfl
  have f0 := M1.2.2 0 (by simp)
  have v1 := M2.2.1 1 _ rfl
  have x1 := M2.2.2 1 (by simp)
  have y1 := M1.2.1 1 _ rfl
  have f1 := M1.2.2 1 (by simp)
  have v2 := M2.2.1 2 _ rfl
  have x2 := M2.2.2 2 (by simp)
  have y2 := M1.2.1 2 _ rfl
  have f2 := M1.2.2 2 (by simp)
  have v3 := M2.2.1 3 _ rfl
  have x3 := M2.2.2 3 (by simp)
  have y3 := M1.2.1 3 _ rfl
  have f3 := M1.2.2 3 (by simp)
  have v4 := M2.2.1 4 _ rfl
  have x4 := M2.2.2 4 (by simp)
  have y4 := M1.2.1 4 _ rfl
  have f4 := M1.2.2 4 (by simp)
  have v5 := M2.2.1 5 _ rfl
  have x5 := M2.2.2 5 (by simp)
  have y5 := M1.2.1 5 _ rfl
  have f5 := M1.2.2 5 (by simp)
  have v6 := M2.2.1 6 _ rfl
  have x6 := M2.2.2 6 (by simp)
  have y6 := M1.2.1 6 _ rfl
  have f6 := M1.2.2 6 (by simp)
  clear M1 M2
  go_wp2_with fail
  exact bodyPost_ret (v := .agg #[.int .i64 t.pe, .int .i64 t.o, .slice (some ⟨c, 0, none⟩) t.n0 t.n0, .int .i64 t.nx, .int .i64 t.md, .int .i64 t.pf, .slice (some ⟨d, 0, none⟩) t.n1 t.n1]) (by simp [results, Try.results87, go_sem, *]) rfl ⟨_, _, rfl, by omega, hd, by
    refine OutInt.other (OutInt.other (OutInt.other (OutInt.other (OutInt.other (OutInt.other (OutInt.other (OutInt.other (OutInt.other (OutInt.other (OutInt.other (OutInt.other (OutInt.other (o1) ?_ _ _) ?_ _ _) ?_ _ _) ?_ _ _) ?_ _ _) ?_ _ _) ?_ _ _) ?_ _ _) ?_ _ _) ?_ _ _) ?_ _ _) ?_ _ _) ?_ _ _ <;> omega, by
    refine OutInt.other (OutInt.other (OutInt.other (OutInt.other (OutInt.other (OutInt.other (OutInt.other (OutInt.other (OutInt.other (OutInt.other (OutInt.other (OutInt.other (OutInt.other (o3) ?_ _ _) ?_ _ _) ?_ _ _) ?_ _ _) ?_ _ _) ?_ _ _) ?_ _ _) ?_ _ _) ?_ _ _) ?_ _ _) ?_ _ _) ?_ _ _) ?_ _ _ <;> omega, by
    refine Below.setCell (Below.setCell (Below.setCell (Below.setCell (Below.setCell (Below.setCell (Below.setCell (Below.setCell (Below.setCell (Below.setCell (Below.setCell (Below.setCell (Below.setCell (d3) ?_ _) ?_ _) ?_ _) ?_ _) ?_ _) ?_ _) ?_ _) ?_ _) ?_ _) ?_ _) ?_ _) ?_ _) ?_ _ <;> (simp; try omega)⟩
end Go.Proofs.Ytjjdfniemlcnnaa
