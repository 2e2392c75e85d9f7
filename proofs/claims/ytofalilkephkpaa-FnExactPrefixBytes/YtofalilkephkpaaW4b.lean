/- The law on PrefixBytes: the program answers as the specification. -/
import Derived.Test.YtofalilkephkpaaI4b
import Derived.Test.YtofalilkephkpaaW0
namespace Go.Proofs.Ytofalilkephkpaa
open Go.RowKit

set_option maxRecDepth 100000 in
set_option maxHeartbeats 1600000 in
theorem w_prefixBytes (a l : Int) (w : World) :
    Calls Try.prog 9 #[.agg #[.int .i64 a, .int .i64 l]] w fun e w' => e = .returned (.bool true) ∧ Below w.heap.size w w' := by
  have P1 := hide (fun w => w_toPrefix a l w)
  have S1 := hide (fun w => s_prefixBytes a l w)
  have I1 := hide (fun w => i_prefixBytes a l w)
  generalize (if goodB a l then strOfNums (pbs a l) else ByteArray.empty) = X at *
  generalize goodB a l = r at *
  have k0 : (r != r) = false := by simp
  go_enter Try.func9, Try.ntmps9
  go_wp2_with fail
  refine (P1.out _).mono ?_
  rintro e w1 ⟨rfl, b1⟩
  go_wp2_with fail
  refine (S1.out _).mono ?_
  rintro e w2 ⟨rfl, b2⟩
  have d2 := b1.trans (b2.mono b1.size)
  obtain ⟨hc, _⟩ := bcell d2
  go_wp2_with fail
  refine (P1.out _).mono ?_
  rintro e w3 ⟨rfl, b3⟩
  go_wp2_with fail
  refine (I1.out _).mono ?_
  rintro e w4 ⟨rfl, b4⟩
  have d4 := below_step (below_step (below_box d2) b3) b4
  go_wp2_with fail
  go_ret
  exact ⟨rfl, d4⟩
end Go.Proofs.Ytofalilkephkpaa
