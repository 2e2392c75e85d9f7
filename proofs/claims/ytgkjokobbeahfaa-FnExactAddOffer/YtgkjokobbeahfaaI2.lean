/- What the program's functions of chapter 2 answer: values, order, tables. -/
import Derived.Test.YtgkjokobbeahfaaFlatEntry
import Derived.Test.YtgkjokobbeahfaaS2
import Derived.Test.YtgkjokobbeahfaaI1c
namespace Go.Proofs.Ytgkjokobbeahfaa
open Go.RowKit

set_option maxHeartbeats 400000 in
theorem i_value (n : Int) (w : World) :
    Calls Try.prog 133 #[.int .i64 n] w fun e w' => e = .returned (.bool (inB n 0 1000000)) ∧ w' = w := by
  by_cases h1 : 0 ≤ n
  · by_cases h2 : n ≤ 1000000
    · rw [inB_t h1 h2]
      go_enter Try.func133, Try.ntmps133
      go_wp2
      go_ret
      exact ⟨rfl, rfl⟩
    · rw [inB_f2 h2]
      go_enter Try.func133, Try.ntmps133
      go_wp2
      go_ret
      exact ⟨rfl, rfl⟩
  · rw [inB_f1 h1]
    go_enter Try.func133, Try.ntmps133
    go_wp2
    go_ret
    exact ⟨rfl, rfl⟩

end Go.Proofs.Ytgkjokobbeahfaa
