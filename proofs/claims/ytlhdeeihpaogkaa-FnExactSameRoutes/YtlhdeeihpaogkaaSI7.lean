/- GoodRoute of the specification and of the program. -/
import Derived.Test.YtlhdeeihpaogkaaS4
import Derived.Test.YtlhdeeihpaogkaaI4
import Derived.Test.YtlhdeeihpaogkaaS1
import Derived.Test.YtlhdeeihpaogkaaI1
namespace Go.Proofs.Ytlhdeeihpaogkaa
open Go.RowKit

/-- Whether a route is good. -/
def routeB (pa pl o nx md pf : Int) (n0 : Nat) (f : Nat → Int) (n1 : Nat) (g : Nat → Int) : Bool := goodB pa pl && attrB o nx md pf n0 f n1 g
set_option maxRecDepth 100000 in
set_option maxHeartbeats 800000 in
theorem s_goodRoute (pa pl o nx md pf : Int) (a0 : Option Addr) (n0 c0 : Nat) (f : Nat → Int) (a1 : Option Addr) (n1 c1 : Nat) (g : Nat → Int) (w : World) (h0 : n0 ≤ 1048576) (h1 : n1 ≤ 1048576) (R0 : RowInt a0 n0 f w) (R1 : RowInt a1 n1 g w) :
    Calls Try.prog 32 #[.agg #[.int .i64 pa, .int .i64 pl, .int .i64 o, .slice a0 n0 c0, .int .i64 nx, .int .i64 md, .int .i64 pf, .slice a1 n1 c1]] w fun e w' => e = .returned (.bool (routeB pa pl o nx md pf n0 f n1 g)) ∧ Below w.heap.size w w' := by
  have s0 := hide (fun w => s_good pa pl w)
  have s1 := hide (fun w R0 R1 => s_goodAttrs o nx md pf a0 n0 c0 f a1 n1 c1 g w h0 h1 R0 R1)
  clear h0 h1
  have M0 := Mut.new w #[.int .i64 pa, .int .i64 pl, .int .i64 o, .slice a0 n0 c0, .int .i64 nx, .int .i64 md, .int .i64 pf, .slice a1 n1 c1] 60
  have d0 : Below w.heap.size w (w.alloc (.cells #[.int .i64 pa, .int .i64 pl, .int .i64 o, .slice a0 n0 c0, .int .i64 nx, .int .i64 md, .int .i64 pf, .slice a1 n1 c1] 60)) := below_box (Below.refl _ _)
  unfold routeB
  generalize attrB o nx md pf n0 f n1 g = r at *
  cases hg : goodB pa pl with
  | false =>
    rw [hg] at s0
    go_enter Try.func32, Try.ntmps32
    go_wp2_with fail
    refine (s0.out _).mono ?_
    rintro e w1 ⟨rfl, b1⟩
    go_wp2_with fail
    go_ret
    exact ⟨rfl, d0.trans (b1.mono d0.size)⟩
  | true =>
    rw [hg] at s0
    go_enter Try.func32, Try.ntmps32
    go_wp2_with fail
    refine (s0.out _).mono ?_
    rintro e w1 ⟨rfl, b1⟩
    have M0 := M0.below b1
    have d1 := d0.trans (b1.mono d0.size)
    have u2 := M0.2.1 2 _ rfl
    have u3 := M0.2.1 3 _ rfl
    have u4 := M0.2.1 4 _ rfl
    have u5 := M0.2.1 5 _ rfl
    have u6 := M0.2.1 6 _ rfl
    have u7 := M0.2.1 7 _ rfl
    clear M0 d0 b1
    go_wp2_with fail
    refine (s1.out _ (R0.below d1) (R1.below d1)).mono ?_
    rintro e w2 ⟨rfl, b2⟩
    go_wp2_with fail
    go_ret
    exact ⟨rfl, d1.trans (b2.mono d1.size)⟩
set_option maxRecDepth 100000 in
set_option maxHeartbeats 800000 in
theorem i_goodRoute (pa pl o nx md pf : Int) (a0 : Option Addr) (n0 c0 : Nat) (f : Nat → Int) (a1 : Option Addr) (n1 c1 : Nat) (g : Nat → Int) (w : World) (h0 : n0 ≤ 1048576) (h1 : n1 ≤ 1048576) (R0 : RowInt a0 n0 f w) (R1 : RowInt a1 n1 g w) :
    Calls Try.prog 35 #[.agg #[.int .i64 pa, .int .i64 pl, .int .i64 o, .slice a0 n0 c0, .int .i64 nx, .int .i64 md, .int .i64 pf, .slice a1 n1 c1]] w fun e w' => e = .returned (.bool (routeB pa pl o nx md pf n0 f n1 g)) ∧ Below w.heap.size w w' := by
  have s0 := hide (fun w => i_good pa pl w)
  have s1 := hide (fun w R0 R1 => i_goodAttrs o nx md pf a0 n0 c0 f a1 n1 c1 g w h0 h1 R0 R1)
  clear h0 h1
  have M0 := Mut.new w #[.int .i64 pa, .int .i64 pl, .int .i64 o, .slice a0 n0 c0, .int .i64 nx, .int .i64 md, .int .i64 pf, .slice a1 n1 c1] 60
  have d0 : Below w.heap.size w (w.alloc (.cells #[.int .i64 pa, .int .i64 pl, .int .i64 o, .slice a0 n0 c0, .int .i64 nx, .int .i64 md, .int .i64 pf, .slice a1 n1 c1] 60)) := below_box (Below.refl _ _)
  unfold routeB
  generalize attrB o nx md pf n0 f n1 g = r at *
  cases hg : goodB pa pl with
  | false =>
    rw [hg] at s0
    go_enter Try.func35, Try.ntmps35
    go_wp2_with fail
    refine (s0.out _).mono ?_
    rintro e w1 ⟨rfl, b1⟩
    go_wp2_with fail
    go_ret
    exact ⟨rfl, d0.trans (b1.mono d0.size)⟩
  | true =>
    rw [hg] at s0
    go_enter Try.func35, Try.ntmps35
    go_wp2_with fail
    refine (s0.out _).mono ?_
    rintro e w1 ⟨rfl, b1⟩
    have M0 := M0.below b1
    have d1 := d0.trans (b1.mono d0.size)
    have u2 := M0.2.1 2 _ rfl
    have u3 := M0.2.1 3 _ rfl
    have u4 := M0.2.1 4 _ rfl
    have u5 := M0.2.1 5 _ rfl
    have u6 := M0.2.1 6 _ rfl
    have u7 := M0.2.1 7 _ rfl
    clear M0 d0 b1
    go_wp2_with fail
    refine (s1.out _ (R0.below d1) (R1.below d1)).mono ?_
    rintro e w2 ⟨rfl, b2⟩
    go_wp2_with fail
    go_ret
    exact ⟨rfl, d1.trans (b2.mono d1.size)⟩
end Go.Proofs.Ytlhdeeihpaogkaa
