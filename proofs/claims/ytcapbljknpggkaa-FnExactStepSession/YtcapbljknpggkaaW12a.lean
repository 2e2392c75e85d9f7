/- The laws on GoodSession, IsUp and NewSession: the program answers as the specification. -/
import Derived.Test.YtcapbljknpggkaaSI12
import Derived.Test.YtcapbljknpggkaaFlatSession
import Derived.Test.YtcapbljknpggkaaFlatEvent
namespace Go.Proofs.Ytcapbljknpggkaa
open Go.RowKit

set_option maxRecDepth 100000 in
set_option maxHeartbeats 800000 in
theorem w_goodSession (x0 x1 x2 x3 x4 : Int) (w : World) :
    Calls Try.prog 4 #[.agg #[.int .i64 x0, .int .i64 x1, .int .i64 x2, .int .i64 x3, .int .i64 x4]] w fun e w' => e = .returned (.bool true) ∧ Below w.heap.size w w' := by
  have s1 := hide (fun w => s_goodS x0 x1 x2 x3 x4 w)
  have s2 := hide (fun w => i_goodS x0 x1 x2 x3 x4 w)
  have T := hide (fun w => w_toSession x0 x1 x2 x3 x4 w)
  have M := Mut.new w #[.int .i64 x0, .int .i64 x1, .int .i64 x2, .int .i64 x3, .int .i64 x4] 28
  have d0 : Below w.heap.size w (w.alloc (.cells #[.int .i64 x0, .int .i64 x1, .int .i64 x2, .int .i64 x3, .int .i64 x4] 28)) := below_box (Below.refl _ _)
  generalize gsB ⟨x0, x1, x2, x3, x4⟩ = g at s1 s2
  go_enter Try.func4, Try.ntmps4
  go_wp2_with fail
  generalize w.alloc (.cells #[.int .i64 x0, .int .i64 x1, .int .i64 x2, .int .i64 x3, .int .i64 x4] 28) = wz at *
  refine (T.out _).mono ?_
  rintro e w1 ⟨rfl, b1⟩
  replace M := M.below b1
  replace d0 := d0.trans (b1.mono d0.size)
  clear b1
  go_wp2_with fail
  refine (s1.out _).mono ?_
  rintro e w2 ⟨rfl, b2⟩
  replace M := M.below b2
  replace d0 := d0.trans (b2.mono d0.size)
  have c0 := M.2.1 0 _ rfl
  have c1 := M.2.1 1 _ rfl
  have c2 := M.2.1 2 _ rfl
  have c3 := M.2.1 3 _ rfl
  have c4 := M.2.1 4 _ rfl
  clear b2
  go_wp2_with fail
  refine (T.out _).mono ?_
  rintro e w3 ⟨rfl, b3⟩
  replace d0 := d0.trans (b3.mono d0.size)
  clear b3 c0 c1 c2 c3 c4 M
  go_wp2_with fail
  refine (s2.out _).mono ?_
  rintro e w4 ⟨rfl, b4⟩
  replace d0 := d0.trans (b4.mono d0.size)
  go_wp2_with fail
  go_ret
  exact ⟨rfl, d0⟩
set_option maxRecDepth 100000 in
set_option maxHeartbeats 800000 in
theorem w_isUp (x0 x1 x2 x3 x4 : Int) (w : World) :
    Calls Try.prog 6 #[.agg #[.int .i64 x0, .int .i64 x1, .int .i64 x2, .int .i64 x3, .int .i64 x4]] w fun e w' => e = .returned (.bool true) ∧ Below w.heap.size w w' := by
  have s1 := hide (fun w => s_isUp x0 x1 x2 x3 x4 w)
  have s2 := hide (fun w => i_isUp x0 x1 x2 x3 x4 w)
  have T := hide (fun w => w_toSession x0 x1 x2 x3 x4 w)
  have M := Mut.new w #[.int .i64 x0, .int .i64 x1, .int .i64 x2, .int .i64 x3, .int .i64 x4] 28
  have d0 : Below w.heap.size w (w.alloc (.cells #[.int .i64 x0, .int .i64 x1, .int .i64 x2, .int .i64 x3, .int .i64 x4] 28)) := below_box (Below.refl _ _)
  generalize (gsB ⟨x0, x1, x2, x3, x4⟩ && x0 == 4) = g' at s1 s2
  generalize gsB ⟨x0, x1, x2, x3, x4⟩ = g at s1 s2
  go_enter Try.func6, Try.ntmps6
  go_wp2_with fail
  generalize w.alloc (.cells #[.int .i64 x0, .int .i64 x1, .int .i64 x2, .int .i64 x3, .int .i64 x4] 28) = wz at *
  refine (T.out _).mono ?_
  rintro e w1 ⟨rfl, b1⟩
  replace M := M.below b1
  replace d0 := d0.trans (b1.mono d0.size)
  clear b1
  go_wp2_with fail
  refine (s1.out _).mono ?_
  rintro e w2 ⟨rfl, b2⟩
  replace M := M.below b2
  replace d0 := d0.trans (b2.mono d0.size)
  have c0 := M.2.1 0 _ rfl
  have c1 := M.2.1 1 _ rfl
  have c2 := M.2.1 2 _ rfl
  have c3 := M.2.1 3 _ rfl
  have c4 := M.2.1 4 _ rfl
  clear b2
  go_wp2_with fail
  refine (T.out _).mono ?_
  rintro e w3 ⟨rfl, b3⟩
  replace d0 := d0.trans (b3.mono d0.size)
  clear b3 c0 c1 c2 c3 c4 M
  go_wp2_with fail
  refine (s2.out _).mono ?_
  rintro e w4 ⟨rfl, b4⟩
  replace d0 := d0.trans (b4.mono d0.size)
  go_wp2_with fail
  go_ret
  exact ⟨rfl, d0⟩
set_option maxRecDepth 100000 in
set_option maxHeartbeats 800000 in
theorem w_newSession (h : Int) (w : World) :
    Calls Try.prog 3 #[.int .i64 h] w fun e w' => e = .returned (.bool true) ∧ Below w.heap.size w w' := by
  have s1 := hide (fun w => s_new h w)
  have s2 := hide (fun w => i_new h w)
  generalize newS h = T at *
  generalize newB h = g at *
  obtain ⟨y0, y1, y2, y3, y4⟩ := T
  have E := hide (fun w => w_eqSession y0 y1 y2 y3 y4 w)
  go_enter Try.func3, Try.ntmps3
  go_wp2_with fail
  refine (s1.out _).mono ?_
  rintro e w1 ⟨rfl, b1⟩
  have d1 := b1
  have MA := Mut.new w1 #[.int .i64 y0, .int .i64 y1, .int .i64 y2, .int .i64 y3, .int .i64 y4] 23
  have dA : Below w.heap.size w (w1.alloc (.cells #[.int .i64 y0, .int .i64 y1, .int .i64 y2, .int .i64 y3, .int .i64 y4] 23)) := Below.alloc d1 d1.size _
  clear b1 d1
  go_wp2_with fail
  generalize w1.alloc (.cells #[.int .i64 y0, .int .i64 y1, .int .i64 y2, .int .i64 y3, .int .i64 y4] 23) = wA at *
  generalize w1.heap.size = qA at *
  refine (s2.out _).mono ?_
  rintro e w2 ⟨rfl, b2⟩
  replace MA := MA.below b2
  replace dA := dA.trans (b2.mono dA.size)
  have hA := MA.1
  have c0 := MA.2.1 0 _ rfl
  have c1 := MA.2.1 1 _ rfl
  have c2 := MA.2.1 2 _ rfl
  have c3 := MA.2.1 3 _ rfl
  have c4 := MA.2.1 4 _ rfl
  have A0 := fun (o : Obj) k => old1 hA o k
  have dB : Below w.heap.size w (w2.alloc (.cells #[.int .i64 y0, .int .i64 y1, .int .i64 y2, .int .i64 y3, .int .i64 y4] 23)) := Below.alloc dA dA.size _
  clear b2 MA hA
  go_wp2_with fail
  refine (E.out _).mono ?_
  rintro e w3 ⟨rfl, b3⟩
  replace dB := dB.trans (b3.mono dB.size)
  clear b3 c0 c1 c2 c3 c4 A0 dA
  go_wp2_with fail
  go_ret
  exact ⟨rfl, dB⟩
end Go.Proofs.Ytcapbljknpggkaa
