/- A list of numbers as the answer: marked, and looked at again. -/
import Derived.Test.YtcnlabedlcmilaaPlain10b
import Derived.Test.YtcnlabedlcmilaaFlatInt
namespace Go.Proofs.Ytcnlabedlcmilaa
open Go.RowKit
theorem w_markAnsL (base : Nat) (ga : Option Addr) (gc : Nat) (R : List Int) (w : World) (hn : R.length ≤ 1048576) (hb : base ≤ w.heap.size)
    (hA : R = [] ∨ ∃ g, ga = some ⟨g, 0, none⟩ ∧ base ≤ g ∧ OutInt g R.length R.length (fun i => R.getD i 0) w) :
    Calls Try.prog 29 #[.slice ga R.length gc, .int .i64 1] w fun e w' => e = .returned (.int .i64 (1 + (R.length : Int))) ∧ RowInt ga R.length (fun i => 1 + (i : Int)) w' ∧ Below base w w' := by
  rcases hA with rfl | ⟨g, rfl, hg, hO⟩
  · refine (w_markIntS_nil ga gc 1 w).mono ?_
    rintro e w' ⟨rfl, rfl⟩
    exact ⟨rfl, fun i hi => absurd hi (Nat.not_lt_zero _), Below.refl _ _⟩
  · refine (w_markIntS g R.length gc _ 1 w (by omega) (by omega) (by omega) hO).mono ?_
    rintro e w' ⟨rfl, ho, hO'⟩
    exact ⟨rfl, hO'.row, ⟨ho.1, ho.2.1, ho.2.2.1, ho.2.2.2.1, fun k hk => ho.2.2.2.2 k (by omega) (by omega)⟩⟩
end Go.Proofs.Ytcnlabedlcmilaa
