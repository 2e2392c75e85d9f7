/- The law on TakePrefix: the program answers as the specification. -/
import Derived.Test.YtofalilkephkpaaI4t
import Derived.Test.YtofalilkephkpaaW0
namespace Go.Proofs.Ytofalilkephkpaa
open Go.RowKit

/-- What TakePrefix answers, part by part. -/
theorem tkV_parts (s : ByteArray) (x : Int) : ∃ (a l n : Int) (r : Bool), tkV s x = .tuple #[.agg #[.int .i64 a, .int .i64 l], .int .i64 n, .bool r] := by
  unfold tkV
  split
  · exact ⟨_, _, _, _, rfl⟩
  · exact ⟨_, _, _, _, rfl⟩
set_option maxRecDepth 100000 in
set_option maxHeartbeats 1600000 in
theorem w_takePrefix (s : ByteArray) (x : Int) (w : World) (hs : s.size ≤ maxLen) :
    Calls Try.prog 10 #[.string s, .int .i64 x] w fun e w' => e = .returned (.bool true) ∧ Below w.heap.size w w' := by
  have S1 := hide (fun w => s_take s x w hs)
  have I1 := hide (fun w => i_takeP s x w hs)
  obtain ⟨a, l, n, r, hv⟩ := tkV_parts s x
  rw [hv] at S1 I1
  clear hv
  unfold maxLen at hs
  have E1 := hide (fun w => w_eqPrefix a l w)
  have k0 : (r != r) = false := by simp
  have k1 : (n != n) = false := by simp
  by_cases h : s.size ≤ 1048576
  · have h' : ¬ ((s.size : Int) > 1048576) := by omega
    go_enter Try.func10, Try.ntmps10
    go_wp2_with fail
    refine (S1.out _).mono ?_
    rintro e w1 ⟨rfl, b1⟩
    have N1 := Mut.new w1 #[.int .i64 a, .int .i64 l] 34
    have d1 : Below w.heap.size w (w1.alloc (.cells #[.int .i64 a, .int .i64 l] 34)) := b1.trans ((below_box (Below.refl _ _)).mono b1.size)
    go_wp2_with fail
    generalize w1.alloc (.cells #[.int .i64 a, .int .i64 l] 34) = w2 at *
    refine (I1.out _).mono ?_
    rintro e w3 ⟨rfl, b3⟩
    have N1 := N1.below b3
    have d3 := d1.trans (b3.mono d1.size)
    have N3 := N1.alloc (.cells #[.int .i64 a, .int .i64 l] 34)
    have p0 := N3.2.1 0 _ rfl
    have p1 := N3.2.1 1 _ rfl
    have d4 : Below w.heap.size w (w3.alloc (.cells #[.int .i64 a, .int .i64 l] 34)) := d3.trans ((below_box (Below.refl _ _)).mono d3.size)
    go_wp2_with fail
    refine (E1.out _).mono ?_
    rintro e w5 ⟨rfl, b5⟩
    have d5 := d4.trans (b5.mono d4.size)
    go_wp2_with fail
    go_ret
    exact ⟨rfl, d5⟩
  · have h' : ((s.size : Int) > 1048576) := by omega
    go_enter Try.func10, Try.ntmps10
    go_wp2_with fail
    go_ret
    exact ⟨rfl, Below.refl _ _⟩
end Go.Proofs.Ytofalilkephkpaa
