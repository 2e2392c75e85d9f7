/- Attrs in memory, and what the laws do with them: handed over, compared, marked. -/
import Derived.Test.YtoeephmdklmpfaaFlatInt
import Derived.Test.YtoeephmdklmpfaaMut4
namespace Go.Proofs.Ytoeephmdklmpfaa
open Go.RowKit

theorem OutInt.other {c n k : Nat} {f : Nat → Int} {w : World} (h : OutInt c n k f w) {d : Nat} (hn : c ≠ d) (o : Nat) (v : Value) : OutInt c n k f (w.setCell ⟨d, o, none⟩ v) :=
  h.only ((Only.refl d w).setCell o v) hn

set_option maxRecDepth 100000 in
set_option maxHeartbeats 1600000 in
theorem w_eqAttrs (o nx md pf : Int) (a0 b0 : Option Addr) (n0 c0 e0 : Nat) (f : Nat → Int) (a1 b1 : Option Addr) (n1 c1 e1 : Nat) (g : Nat → Int) (w : World) (h0 : n0 ≤ 4294967296) (h1 : n1 ≤ 4294967296) (R0 : RowInt a0 n0 f w) (R1 : RowInt a1 n1 g w) (Q0 : RowInt b0 n0 f w) (Q1 : RowInt b1 n1 g w) :
    Calls Try.prog 69 #[.agg #[.int .i64 o, .slice a0 n0 c0, .int .i64 nx, .int .i64 md, .int .i64 pf, .slice a1 n1 c1], .agg #[.int .i64 o, .slice b0 n0 e0, .int .i64 nx, .int .i64 md, .int .i64 pf, .slice b1 n1 e1]] w fun e w' => e = .returned (.bool true) ∧ Below w.heap.size w w' := by
  have s0 := hide (fun w R Q => w_eqIntS a0 b0 n0 c0 e0 f w h0 R Q)
  have s1 := hide (fun w R Q => w_eqIntS a1 b1 n1 c1 e1 g w h1 R Q)
  have k0 : (o != o) = false := by simp
  have k2 : (nx != nx) = false := by simp
  have k3 : (md != md) = false := by simp
  have k4 : (pf != pf) = false := by simp
  clear h0 h1
  have M0 := (Mut.new w #[.int .i64 o, .slice a0 n0 c0, .int .i64 nx, .int .i64 md, .int .i64 pf, .slice a1 n1 c1] 25).alloc (.cells #[.int .i64 o, .slice b0 n0 e0, .int .i64 nx, .int .i64 md, .int .i64 pf, .slice b1 n1 e1] 25)
  have M1 := Mut.new (w.alloc (.cells #[.int .i64 o, .slice a0 n0 c0, .int .i64 nx, .int .i64 md, .int .i64 pf, .slice a1 n1 c1] 25)) #[.int .i64 o, .slice b0 n0 e0, .int .i64 nx, .int .i64 md, .int .i64 pf, .slice b1 n1 e1] 25
  have d0 : Below w.heap.size w ((w.alloc (.cells #[.int .i64 o, .slice a0 n0 c0, .int .i64 nx, .int .i64 md, .int .i64 pf, .slice a1 n1 c1] 25)).alloc (.cells #[.int .i64 o, .slice b0 n0 e0, .int .i64 nx, .int .i64 md, .int .i64 pf, .slice b1 n1 e1] 25)) := below_box2 (Below.refl _ _)
  simp only [World.size_alloc] at M1
  go_enter Try.func69, Try.ntmps69
  go_wp2_with fail
  generalize (w.alloc (.cells #[.int .i64 o, .slice a0 n0 c0, .int .i64 nx, .int .i64 md, .int .i64 pf, .slice a1 n1 c1] 25)).alloc (.cells #[.int .i64 o, .slice b0 n0 e0, .int .i64 nx, .int .i64 md, .int .i64 pf, .slice b1 n1 e1] 25) = w1 at *
  refine (s0.out _ (R0.below d0) (Q0.below d0)).mono ?_
  rintro e w2 ⟨rfl, hb2⟩
  have M0 := M0.below hb2
  have M1 := M1.below hb2
  have d2 := d0.trans (hb2.mono d0.size)
  clear hb2 d0
  have u2 := M0.2.1 2 _ rfl
  have u3 := M0.2.1 3 _ rfl
  have u4 := M0.2.1 4 _ rfl
  have u5 := M0.2.1 5 _ rfl
  have v2 := M1.2.1 2 _ rfl
  have v3 := M1.2.1 3 _ rfl
  have v4 := M1.2.1 4 _ rfl
  have v5 := M1.2.1 5 _ rfl
  clear M0 M1
  go_wp2_with fail
  refine (s1.out _ (R1.below d2) (Q1.below d2)).mono ?_
  rintro e w3 ⟨rfl, hb3⟩
  have d3 := d2.trans (hb3.mono d2.size)
  go_wp2_with fail
  go_ret
  exact ⟨rfl, d3⟩

end Go.Proofs.Ytoeephmdklmpfaa
