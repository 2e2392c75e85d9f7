/- What the specification's functions of chapter 1 answer, one contract each. -/
import Derived.Test.YtelehmkmdbhcfaaPlain10b
import Derived.Test.YtelehmkmdbhcfaaFlatInt
import Derived.Test.YtelehmkmdbhcfaaKit
import Derived.Test.YtelehmkmdbhcfaaPlain1
/- A list of numbers as the answer: marked, and looked at again. -/
namespace Go.Proofs.Ytelehmkmdbhcfaa
open Go.RowKit
theorem w_markAnsL (base : Nat) (ga : Option Addr) (gc : Nat) (R : List Int) (w : World) (hn : R.length ≤ 1048576) (hb : base ≤ w.heap.size)
    (hA : R = [] ∨ ∃ g, ga = some ⟨g, 0, none⟩ ∧ base ≤ g ∧ OutInt g R.length R.length (fun i => R.getD i 0) w) :
    Calls Try.prog 15 #[.slice ga R.length gc, .int .i64 1] w fun e w' => e = .returned (.int .i64 (1 + (R.length : Int))) ∧ RowInt ga R.length (fun i => 1 + (i : Int)) w' ∧ Below base w w' := by
  rcases hA with rfl | ⟨g, rfl, hg, hO⟩
  · refine (w_markIntS_nil ga gc 1 w).mono ?_
    rintro e w' ⟨rfl, rfl⟩
    exact ⟨rfl, fun i hi => absurd hi (Nat.not_lt_zero _), Below.refl _ _⟩
  · refine (w_markIntS g R.length gc _ 1 w (by omega) (by omega) (by omega) hO).mono ?_
    rintro e w' ⟨rfl, ho, hO'⟩
    exact ⟨rfl, hO'.row, ⟨ho.1, ho.2.1, ho.2.2.1, ho.2.2.2.1, fun k hk => ho.2.2.2.2 k (by omega) (by omega)⟩⟩
end Go.Proofs.Ytelehmkmdbhcfaa

namespace Go.Proofs.Ytelehmkmdbhcfaa
open Go.RowKit

set_option maxHeartbeats 400000 in
theorem s_in (n lo hi : Int) (w : World) :
    Calls Try.prog 19 #[.int .i64 n, .int .i64 lo, .int .i64 hi] w fun e w' => e = .returned (.bool (inB n lo hi)) ∧ w' = w := by
  by_cases h1 : lo ≤ n
  · by_cases h2 : n ≤ hi
    · rw [inB_t h1 h2]
      go_enter Try.func19, Try.ntmps19
      go_wp2
      go_ret
      exact ⟨rfl, rfl⟩
    · rw [inB_f2 h2]
      go_enter Try.func19, Try.ntmps19
      go_wp2
      go_ret
      exact ⟨rfl, rfl⟩
  · rw [inB_f1 h1]
    go_enter Try.func19, Try.ntmps19
    go_wp2
    go_ret
    exact ⟨rfl, rfl⟩

end Go.Proofs.Ytelehmkmdbhcfaa
