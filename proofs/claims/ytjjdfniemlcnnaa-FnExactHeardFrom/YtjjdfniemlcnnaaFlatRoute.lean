/- Routes in memory, and what the laws do with them: handed over, compared. -/
import Derived.Test.YtjjdfniemlcnnaaFlatAttrs
import Derived.Test.YtjjdfniemlcnnaaAll1
namespace Go.Proofs.Ytjjdfniemlcnnaa
open Go.RowKit

set_option maxRecDepth 100000 in
set_option maxHeartbeats 1600000 in
theorem w_eqRoute (pa pl o nx md pf : Int) (a0 b0 : Option Addr) (n0 c0 e0 : Nat) (f : Nat → Int) (a1 b1 : Option Addr) (n1 c1 e1 : Nat) (g : Nat → Int) (w : World) (h0 : n0 ≤ 4294967296) (h1 : n1 ≤ 4294967296) (R0 : RowInt a0 n0 f w) (R1 : RowInt a1 n1 g w) (Q0 : RowInt b0 n0 f w) (Q1 : RowInt b1 n1 g w) :
    Calls Try.prog 46 #[.agg #[.int .i64 pa, .int .i64 pl, .int .i64 o, .slice a0 n0 c0, .int .i64 nx, .int .i64 md, .int .i64 pf, .slice a1 n1 c1], .agg #[.int .i64 pa, .int .i64 pl, .int .i64 o, .slice b0 n0 e0, .int .i64 nx, .int .i64 md, .int .i64 pf, .slice b1 n1 e1]] w fun e w' => e = .returned (.bool true) ∧ Below w.heap.size w w' := by
  have s0 := hide (fun w => w_eqPrefix pa pl w)
  have s1 := hide (fun w R0 R1 Q0 Q1 => w_eqAttrs o nx md pf a0 b0 n0 c0 e0 f a1 b1 n1 c1 e1 g w h0 h1 R0 R1 Q0 Q1)
  clear h0 h1
  have M0 := (Mut.new w #[.int .i64 pa, .int .i64 pl, .int .i64 o, .slice a0 n0 c0, .int .i64 nx, .int .i64 md, .int .i64 pf, .slice a1 n1 c1] 75).alloc (.cells #[.int .i64 pa, .int .i64 pl, .int .i64 o, .slice b0 n0 e0, .int .i64 nx, .int .i64 md, .int .i64 pf, .slice b1 n1 e1] 75)
  have M1 := Mut.new (w.alloc (.cells #[.int .i64 pa, .int .i64 pl, .int .i64 o, .slice a0 n0 c0, .int .i64 nx, .int .i64 md, .int .i64 pf, .slice a1 n1 c1] 75)) #[.int .i64 pa, .int .i64 pl, .int .i64 o, .slice b0 n0 e0, .int .i64 nx, .int .i64 md, .int .i64 pf, .slice b1 n1 e1] 75
  have d0 : Below w.heap.size w ((w.alloc (.cells #[.int .i64 pa, .int .i64 pl, .int .i64 o, .slice a0 n0 c0, .int .i64 nx, .int .i64 md, .int .i64 pf, .slice a1 n1 c1] 75)).alloc (.cells #[.int .i64 pa, .int .i64 pl, .int .i64 o, .slice b0 n0 e0, .int .i64 nx, .int .i64 md, .int .i64 pf, .slice b1 n1 e1] 75)) := below_box2 (Below.refl _ _)
  simp only [World.size_alloc] at M1
  go_enter Try.func46, Try.ntmps46
  go_wp2_with fail
  generalize (w.alloc (.cells #[.int .i64 pa, .int .i64 pl, .int .i64 o, .slice a0 n0 c0, .int .i64 nx, .int .i64 md, .int .i64 pf, .slice a1 n1 c1] 75)).alloc (.cells #[.int .i64 pa, .int .i64 pl, .int .i64 o, .slice b0 n0 e0, .int .i64 nx, .int .i64 md, .int .i64 pf, .slice b1 n1 e1] 75) = w1 at *
  refine (s0.out _).mono ?_
  rintro e w2 ⟨rfl, hb2⟩
  have M0 := M0.below hb2
  have M1 := M1.below hb2
  have d2 := d0.trans (hb2.mono d0.size)
  clear hb2 d0
  have u2 := M0.2.1 2 _ rfl
  have v2 := M1.2.1 2 _ rfl
  have u3 := M0.2.1 3 _ rfl
  have v3 := M1.2.1 3 _ rfl
  have u4 := M0.2.1 4 _ rfl
  have v4 := M1.2.1 4 _ rfl
  have u5 := M0.2.1 5 _ rfl
  have v5 := M1.2.1 5 _ rfl
  have u6 := M0.2.1 6 _ rfl
  have v6 := M1.2.1 6 _ rfl
  have u7 := M0.2.1 7 _ rfl
  have v7 := M1.2.1 7 _ rfl
  clear M0 M1
  go_wp2_with fail
  refine (s1.out _ (R0.below d2) (R1.below d2) (Q0.below d2) (Q1.below d2)).mono ?_
  rintro e w3 ⟨rfl, hb3⟩
  have d3 := d2.trans (hb3.mono d2.size)
  go_wp2_with fail
  go_ret
  exact ⟨rfl, d3⟩
end Go.Proofs.Ytjjdfniemlcnnaa
