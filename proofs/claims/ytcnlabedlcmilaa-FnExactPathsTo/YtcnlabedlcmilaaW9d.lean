/- The law on WeightOf: the program answers as the specification. -/
import Derived.Test.YtcnlabedlcmilaaAl9
import Derived.Test.YtcnlabedlcmilaaS9c
import Derived.Test.YtcnlabedlcmilaaI9e
import Derived.Deep.RegionHeld3
namespace Go.Proofs.Ytcnlabedlcmilaa
open Go.RowKit

set_option maxHeartbeats 400000 in
theorem w_szArcM (a : Option Addr) (len cap : Nat) (m : Int) (w : World) (hl : len ≤ maxLen) (hm : m ≤ 1048576) (hm0 : 0 ≤ m) :
    Calls Try.prog 43 #[.slice a len cap, .int .i64 m] w fun e w' => e = .returned (.int .i64 (if (len : Int) ≤ m then m - (len : Int) else -1)) ∧ w' = w := by
  unfold maxLen at hl
  by_cases h : (len : Int) ≤ m
  · rw [if_pos h]
    have h1 : ¬ (m - (len : Int) < 0) := by omega
    go_enter Try.func43, Try.ntmps43
    go_wp2_with fail
    go_ret
    exact ⟨rfl, rfl⟩
  · rw [if_neg h]
    have h1 : m - (len : Int) < 0 := by omega
    go_enter Try.func43, Try.ntmps43
    go_wp2_with fail
    go_ret
    exact ⟨rfl, rfl⟩
end Go.Proofs.Ytcnlabedlcmilaa
