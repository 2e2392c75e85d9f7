/- What is left of the bound behind a second list. -/
import Derived.Test.YtofalilkephkpaaFlatPrefix
namespace Go.Proofs.Ytofalilkephkpaa
open Go.RowKit

set_option maxHeartbeats 400000 in
theorem w_szPrefixSr (a : Option Addr) (len cap : Nat) (m : Int) (w : World) (hm : m ≤ 1048576) (hl : (len : Int) ≤ m) (_h : 0 ≤ m) :
    Calls Try.prog 135 #[.slice a len cap, .int .i64 m] w fun e w' => e = .returned (.int .i64 (m - (len : Int))) ∧ w' = w := by
  have h1 : ¬ (m - (len : Int) < 0) := by omega
  go_enter Try.func135, Try.ntmps135
  go_wp2_with fail
  go_ret
  exact ⟨rfl, rfl⟩
set_option maxHeartbeats 400000 in
theorem w_szPrefixSo (a : Option Addr) (len cap : Nat) (m : Int) (w : World) (hl0 : len ≤ maxLen) (hm : m ≤ 1048576) (hl : m < (len : Int)) (_h : 0 ≤ m) :
    Calls Try.prog 135 #[.slice a len cap, .int .i64 m] w fun e w' => e = .returned (.int .i64 (-1)) ∧ w' = w := by
  unfold maxLen at hl0
  have h1 : m - (len : Int) < 0 := by omega
  go_enter Try.func135, Try.ntmps135
  go_wp2_with fail
  go_ret
  exact ⟨rfl, rfl⟩
end Go.Proofs.Ytofalilkephkpaa
