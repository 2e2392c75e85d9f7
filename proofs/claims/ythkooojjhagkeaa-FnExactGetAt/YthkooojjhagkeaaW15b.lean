/- The law on GetAt: the program answers as the specification. -/
import Derived.Test.YthkooojjhagkeaaS15d
import Derived.Test.YthkooojjhagkeaaI15d
namespace Go.Proofs.Ythkooojjhagkeaa
open Go.RowKit

set_option maxRecDepth 100000 in
set_option maxHeartbeats 6400000 in
theorem w_getAt (a0 : Option Addr) (n0 c0 : Nat) (T0 : Nat → Lf) (a1 : Option Addr) (n1 c1 : Nat) (f1 : Nat → ByteArray) (w : World) (hn0 : n0 ≤ maxLen) (hx0 : MaxF n0 T0) (hR0 : RowF false a0 n0 T0 w) (hn1 : n1 ≤ maxLen) (hR1 : RowStr a1 n1 f1 w) (hx1 : ∀ i, i < n1 → (f1 i).size ≤ maxLen) :
    Calls Try.prog 4 #[.slice a0 n0 c0, .slice a1 n1 c1] w fun e w' => e = .returned (.bool true) ∧ Below w.heap.size w w' := by
  have SZ0 := hide (fun w R => w_szLeafS a0 n0 c0 T0 1048576 w hn0 hx0 (by omega) (by omega) R)
  have d0 : Below w.heap.size w w := Below.refl _ _
  go_enter Try.func4, Try.ntmps4
  go_wp2_with fail
  refine (SZ0.out _ (hR0.below d0)).mono ?_
  rintro e w1 ⟨r0, rfl, hr0, bb⟩
  have d1 := d0.trans (bb.mono d0.size)
  clear bb
  rcases hr0 with rfl | ⟨r0a, r0b, l0⟩
  · go_wp2_with fail
    go_ret
    exact ⟨rfl, d1⟩
  have z0 : ¬ (r0 < 0) := by omega
  have m0 : n0 ≤ 1048576 := by omega
  have y0 : (totF T0 n0 : Int) ≤ 1048576 := by omega
  clear SZ0
  have SZ1 := hide (fun w R => w_szStrS a1 n1 c1 f1 r0 w hn1 (by omega) (by omega) R hx1)
  go_wp2_with fail
  refine (SZ1.out _ (hR1.below d1)).mono ?_
  rintro e w2 ⟨r1, rfl, hr1, bb⟩
  have d2 := d1.trans (bb.mono d1.size)
  clear bb
  rcases hr1 with rfl | ⟨r1a, r1b, l1⟩
  · go_wp2_with fail
    go_ret
    exact ⟨rfl, d2⟩
  have z1 : ¬ (r1 < 0) := by omega
  have m1 : n1 ≤ 1048576 := by omega
  clear SZ1
  have TO0 := hide (fun w R => w_toLeafS a0 n0 c0 T0 w m0 l0 R)
  have EQ0 := hide (fun a a' c c' w R Q => w_eqLeafS a a' n0 c c' T0 w m0 l0 R Q)
  have TO1 := hide (fun w R => w_toStringS a1 n1 c1 f1 w m1 R)
  have EQ1 := hide (fun a a' c c' w R Q => w_eqStringS a a' n1 c c' f1 w (by omega) R Q)
  have S := hide (fun q0 e0 q1 e1 w R0 R1 => s_getAt q0 n0 e0 T0 q1 n1 e1 f1 w m0 l0 m1 (fun i hi => Nat.le_trans (l1 i hi) (by unfold maxLen; omega)) R0 R1)
  have I := hide (fun q0 e0 q1 e1 w R0 R1 => i_getAt q0 n0 e0 T0 q1 n1 e1 f1 w m0 l0 R0 R1)
  generalize getA n0 T0 n1 f1 = GA at *
  obtain ⟨gv, gb⟩ := GA
  have k0 : (gb != gb) = false := by simp
  dsimp only at S I
  clear l0 hx0 r0a r0b y0 l1 hx1 r1a r1b
  go_wp2_with fail
  refine (TO0.out _ (hR0.below d2)).mono ?_
  rintro e w3 ⟨rfl, ⟨Xs0, Os0⟩, Fs0, bb⟩
  have vs0 : w.heap.size ≤ w2.heap.size := d2.size
  have d3 := d2.trans (bb.mono d2.size)
  clear bb
  generalize w2.heap.size = s0 at *
  go_wp2_with fail
  refine (TO1.out _ (hR1.below d3)).mono ?_
  rintro e w4 ⟨rfl, bb, Os1⟩
  have vs1 : w.heap.size ≤ w3.heap.size := d3.size
  replace Os0 := Os0.below bb
  replace Fs0 := Fs0.below bb
  have d4 := d3.trans (bb.mono d3.size)
  clear bb
  generalize w3.heap.size = s1 at *
  go_wp2_with fail
  refine (S.out _ _ _ _ _ Os0.row Os1.row).mono ?_
  rintro e w5 ⟨rfl, bb⟩
  replace Os0 := Os0.below bb
  replace Fs0 := Fs0.below bb
  replace Os1 := Os1.below bb
  have d5 := d4.trans (bb.mono d4.size)
  clear bb
  clear Os0
  clear Fs0
  clear Os1
  go_wp2_with fail
  refine (TO0.out _ (hR0.below d5)).mono ?_
  rintro e w6 ⟨rfl, ⟨Xx0, Ox0⟩, Fx0, bb⟩
  have vx0 : w.heap.size ≤ w5.heap.size := d5.size
  have d6 := d5.trans (bb.mono d5.size)
  clear bb
  generalize w5.heap.size = x0 at *
  go_wp2_with fail
  refine (TO1.out _ (hR1.below d6)).mono ?_
  rintro e w7 ⟨rfl, bb, Ox1⟩
  have vx1 : w.heap.size ≤ w6.heap.size := d6.size
  replace Ox0 := Ox0.below bb
  replace Fx0 := Fx0.below bb
  have d7 := d6.trans (bb.mono d6.size)
  clear bb
  generalize w6.heap.size = x1 at *
  go_wp2_with fail
  refine (I.out _ _ _ _ _ Ox0.row Ox1.row).mono ?_
  rintro e w8 ⟨rfl, bb⟩
  replace Ox0 := Ox0.below bb
  replace Fx0 := Fx0.below bb
  replace Ox1 := Ox1.below bb
  have d8 := d7.trans (bb.mono d7.size)
  clear bb
  go_wp2_with fail
  refine (TO0.out _ (hR0.below d8)).mono ?_
  rintro e w9 ⟨rfl, ⟨Xy0, Oy0⟩, Fy0, bb⟩
  have vy0 : w.heap.size ≤ w8.heap.size := d8.size
  replace Ox0 := Ox0.below bb
  replace Fx0 := Fx0.below bb
  replace Ox1 := Ox1.below bb
  have d9 := d8.trans (bb.mono d8.size)
  clear bb
  generalize w8.heap.size = y0 at *
  go_wp2_with fail
  refine (EQ0.out _ _ _ _ _ Ox0.row.any Oy0.row.any).mono ?_
  rintro e w10 ⟨rfl, bb⟩
  replace Ox0 := Ox0.below bb
  replace Fx0 := Fx0.below bb
  replace Ox1 := Ox1.below bb
  replace Oy0 := Oy0.below bb
  replace Fy0 := Fy0.below bb
  have d10 := d9.trans (bb.mono d9.size)
  clear bb
  clear Oy0
  clear Fy0
  go_wp2_with fail
  refine (TO1.out _ (hR1.below d10)).mono ?_
  rintro e w11 ⟨rfl, bb, Oy1⟩
  have vy1 : w.heap.size ≤ w10.heap.size := d10.size
  replace Ox0 := Ox0.below bb
  replace Fx0 := Fx0.below bb
  replace Ox1 := Ox1.below bb
  have d11 := d10.trans (bb.mono d10.size)
  clear bb
  generalize w10.heap.size = y1 at *
  go_wp2_with fail
  refine (EQ1.out _ _ _ _ _ Ox1.row Oy1.row).mono ?_
  rintro e w12 ⟨rfl, bb⟩
  replace Ox0 := Ox0.below bb
  replace Fx0 := Fx0.below bb
  replace Ox1 := Ox1.below bb
  replace Oy1 := Oy1.below bb
  have d12 := d11.trans (bb.mono d11.size)
  clear bb
  clear Oy1
  go_wp2_with fail
  go_ret
  exact ⟨rfl, d12⟩
end Go.Proofs.Ythkooojjhagkeaa
