/- The law on GoodConfig: the program answers as the specification. -/
import Derived.Test.YthkooojjhagkeaaS15c
import Derived.Test.YthkooojjhagkeaaI15c
namespace Go.Proofs.Ythkooojjhagkeaa
open Go.RowKit

set_option maxRecDepth 100000 in
set_option maxHeartbeats 6400000 in
theorem w_goodConfig (a0 : Option Addr) (n0 c0 : Nat) (T0 : Nat → Lf) (w : World) (hn0 : n0 ≤ maxLen) (hx0 : MaxF n0 T0) (hR0 : RowF false a0 n0 T0 w) :
    Calls Try.prog 3 #[.slice a0 n0 c0] w fun e w' => e = .returned (.bool true) ∧ Below w.heap.size w w' := by
  have SZ0 := hide (fun w R => w_szLeafS a0 n0 c0 T0 1048576 w hn0 hx0 (by omega) (by omega) R)
  have d0 : Below w.heap.size w w := Below.refl _ _
  go_enter Try.func3, Try.ntmps3
  go_wp2_with fail
  refine (SZ0.out _ (hR0.below d0)).mono ?_
  rintro e w1 ⟨r0, rfl, hr0, bb⟩
  have d1 := d0.trans (bb.mono d0.size)
  clear bb
  rcases hr0 with rfl | ⟨r0a, r0b, l0⟩
  · go_wp2_with fail
    go_ret
    exact ⟨rfl, d1⟩
  have z0 : ¬ (r0 < 0) := by omega
  have m0 : n0 ≤ 1048576 := by omega
  have y0 : (totF T0 n0 : Int) ≤ 1048576 := by omega
  clear SZ0
  have TO0 := hide (fun w R => w_toLeafS a0 n0 c0 T0 w m0 l0 R)
  have EQ0 := hide (fun a a' c c' w R Q => w_eqLeafS a a' n0 c c' T0 w m0 l0 R Q)
  have S := hide (fun q0 e0 w R0 => s_goodConfig q0 n0 e0 T0 w m0 l0 R0)
  have I := hide (fun q0 e0 w R0 => i_goodConfig q0 n0 e0 T0 w m0 l0 R0)
  generalize tB (GC n0 T0) = b at *
  have k0 : (b != b) = false := by simp
  clear l0 hx0 r0a r0b y0
  go_wp2_with fail
  refine (TO0.out _ (hR0.below d1)).mono ?_
  rintro e w2 ⟨rfl, ⟨Xs0, Os0⟩, Fs0, bb⟩
  have vs0 : w.heap.size ≤ w1.heap.size := d1.size
  have d2 := d1.trans (bb.mono d1.size)
  clear bb
  generalize w1.heap.size = s0 at *
  go_wp2_with fail
  refine (S.out _ _ _ Os0.row).mono ?_
  rintro e w3 ⟨rfl, bb⟩
  replace Os0 := Os0.below bb
  replace Fs0 := Fs0.below bb
  have d3 := d2.trans (bb.mono d2.size)
  clear bb
  clear Os0
  clear Fs0
  go_wp2_with fail
  refine (TO0.out _ (hR0.below d3)).mono ?_
  rintro e w4 ⟨rfl, ⟨Xx0, Ox0⟩, Fx0, bb⟩
  have vx0 : w.heap.size ≤ w3.heap.size := d3.size
  have d4 := d3.trans (bb.mono d3.size)
  clear bb
  generalize w3.heap.size = x0 at *
  go_wp2_with fail
  refine (I.out _ _ _ Ox0.row).mono ?_
  rintro e w5 ⟨rfl, bb⟩
  replace Ox0 := Ox0.below bb
  replace Fx0 := Fx0.below bb
  have d5 := d4.trans (bb.mono d4.size)
  clear bb
  go_wp2_with fail
  refine (TO0.out _ (hR0.below d5)).mono ?_
  rintro e w6 ⟨rfl, ⟨Xy0, Oy0⟩, Fy0, bb⟩
  have vy0 : w.heap.size ≤ w5.heap.size := d5.size
  replace Ox0 := Ox0.below bb
  replace Fx0 := Fx0.below bb
  have d6 := d5.trans (bb.mono d5.size)
  clear bb
  generalize w5.heap.size = y0 at *
  go_wp2_with fail
  refine (EQ0.out _ _ _ _ _ Ox0.row.any Oy0.row.any).mono ?_
  rintro e w7 ⟨rfl, bb⟩
  replace Ox0 := Ox0.below bb
  replace Fx0 := Fx0.below bb
  replace Oy0 := Oy0.below bb
  replace Fy0 := Fy0.below bb
  have d7 := d6.trans (bb.mono d6.size)
  clear bb
  clear Oy0
  clear Fy0
  go_wp2_with fail
  go_ret
  exact ⟨rfl, d7⟩
end Go.Proofs.Ythkooojjhagkeaa
