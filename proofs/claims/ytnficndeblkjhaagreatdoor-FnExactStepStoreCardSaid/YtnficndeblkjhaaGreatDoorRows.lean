/-
  NARROWER THAN 'FOR EVERY INPUT', by the rows' own cells (each row's printed sentence says how): FnExactStepStore: ifaces, laid · FnExactPlayOps: ifaces, laid.
  DERIVED. THE GIVEN ROWS OF THIS SEAT. 2 by the template 'for every input the law returns true; each argument reads behind the call as it read before'; 0 by the template 'total and deterministic' (their statements: YtnficndeblkjhaaGreatDoorTotals.lean).
  GIVEN WITH THE SEED: the statements are not yours to turn. If you find one false, say at which input.
  Laid BY PROGRAM, IN A SANDBOX (cutbox-rows.mjs): the forced cells as the released guide's own fill.sh prints them over the translation 12a5db1aef2f0621… (all of the seat's roots in one cut). By AI agents, Wed Nov 11 2026. No macro, syntax, notation, axiom, sorry.
-/
import Derived.Test.YtnficndeblkjhaaGreatDoorChecked
import GoSem.Claim
import GoSem.ClaimJoined
import GoSem.ClaimMapViews
import Derived.JoinedTies
import Derived.KernelRfl
namespace Go.Proofs.YtnficndeblkjhaaGreatDoor
/- THE CELL 'sum', in the pinned program and in every row, IS THE sha256 OF THE DUMP (.gsa) THAT YtnficndeblkjhaaGreatDoorProg.lean LOADS. Nothing in Lean hashes anything: it is a label: what it is worth is what the hold of that sum in a sandbox is worth. -/
noncomputable def Tryz.pinned : Pinned := { name := "ytnficndeblkjhaagreatdoor", sum := "12a5db1aef2f06210b4dd32cfe0b702b2a413ffeb8784be1877e35292cffe60c", checked := Tryz.checked }
namespace Rows
def none {H : Type} : Left H := { results := [], args := [] }

/- WHAT THE LISTED PACKAGE-LEVEL VARIABLES READ AS WHEN THE CALL BEGINS. Each datum BY PROGRAM (the guide's laid-datum.mjs) off the statement by which the dump's own 'gosem.cut.vars' lays the variable. In a bare row this is a premise. The card (YtnficndeblkjhaaGreatDoorCards.lean) ties it to the program's text. -/
def laid_errors_errorType {H : Type} : DataW H := .iface "internal/reflectlite.rtype" (.agg [.ptr (.lit (.string [101, 114, 114, 111, 114]))])
def laid_loop_example_g00344_impl_errRefused {H : Type} : DataW H := .iface "*errors.errorString" (.ptr (.agg [.lit (.string [110, 111, 116, 104, 105, 110, 103, 32, 99, 97, 110, 32, 98, 101, 32, 100, 111, 110, 101])]))
def laid_loop_example_g00344_impl_errLapsed {H : Type} : DataW H := .iface "*errors.errorString" (.ptr (.agg [.lit (.string [110, 111, 98, 111, 100, 121, 32, 99, 111, 110, 102, 105, 114, 109, 101, 100, 32, 105, 116, 32, 105, 110, 32, 116, 105, 109, 101])]))

/-- 'laws.FnExactStepStore': WHATEVER THE INPUT: true; the input reads as it did. -/
def fnExactStepStoreSpec : ChangeSpec := { name := "fnExactStepStore", vars := ["loop.example/g00344/impl.errRefused", "loop.example/g00344/impl.errLapsed"], fn := fun _ => fun
  | [d1, d2, g1, g2] => { results := [.lit (.bool true)], args := [d1, d2], vars := [g1, g2] }
  | _ => none }
def fnExactStepStoreRow : OpenClaim := { program := "ytnficndeblkjhaagreatdoor", sum := "12a5db1aef2f06210b4dd32cfe0b702b2a413ffeb8784be1877e35292cffe60c", func := "loop.example/g00344/laws.FnExactStepStore", spec := "fnExactStepStore", inPlace := ["internal/reflectlite.ValueOf", "(internal/reflectlite.Value).Type", "(internal/reflectlite.Value).IsNil", "internal/reflectlite.TypeOf", "(internal/reflectlite.Value).Elem", "(internal/reflectlite.Value).Set"], unfollowed := true, recurses := true, named := ["loop.example/g00344/impl.errRefused", "loop.example/g00344/impl.errLapsed", "errors.errorType"], ifaces := true, apart := false, laid := [("errors.errorType", laid_errors_errorType), ("loop.example/g00344/impl.errRefused", laid_loop_example_g00344_impl_errRefused), ("loop.example/g00344/impl.errLapsed", laid_loop_example_g00344_impl_errLapsed)] }
def FnExactStepStoreSaid : Prop := fnExactStepStoreRow.holds Tryz.pinned (OpenSpec.ofChange fnExactStepStoreSpec)

/-- ITS FALSE NEIGHBOUR: 'it returns false'. Refute it at one input. -/
def fnExactStepStoreWrong : ChangeSpec := { name := "fnExactStepStore", vars := ["loop.example/g00344/impl.errRefused", "loop.example/g00344/impl.errLapsed"], fn := fun _ => fun
  | [d1, d2, g1, g2] => { results := [.lit (.bool false)], args := [d1, d2], vars := [g1, g2] }
  | _ => none }
def FnExactStepStoreWrongFalsely : Prop := fnExactStepStoreRow.holds Tryz.pinned (OpenSpec.ofChange fnExactStepStoreWrong)

/-- 'laws.FnExactPlayOps': WHATEVER THE INPUT: true; the input reads as it did. -/
def fnExactPlayOpsSpec : ChangeSpec := { name := "fnExactPlayOps", vars := ["loop.example/g00344/impl.errRefused", "loop.example/g00344/impl.errLapsed"], fn := fun _ => fun
  | [d, g1, g2] => { results := [.lit (.bool true)], args := [d], vars := [g1, g2] }
  | _ => none }
def fnExactPlayOpsRow : OpenClaim := { program := "ytnficndeblkjhaagreatdoor", sum := "12a5db1aef2f06210b4dd32cfe0b702b2a413ffeb8784be1877e35292cffe60c", func := "loop.example/g00344/laws.FnExactPlayOps", spec := "fnExactPlayOps", inPlace := ["internal/reflectlite.ValueOf", "(internal/reflectlite.Value).Type", "(internal/reflectlite.Value).IsNil", "internal/reflectlite.TypeOf", "(internal/reflectlite.Value).Elem", "(internal/reflectlite.Value).Set"], unfollowed := true, recurses := true, named := ["loop.example/g00344/impl.errRefused", "loop.example/g00344/impl.errLapsed", "errors.errorType"], ifaces := true, apart := false, laid := [("errors.errorType", laid_errors_errorType), ("loop.example/g00344/impl.errRefused", laid_loop_example_g00344_impl_errRefused), ("loop.example/g00344/impl.errLapsed", laid_loop_example_g00344_impl_errLapsed)] }
def FnExactPlayOpsSaid : Prop := fnExactPlayOpsRow.holds Tryz.pinned (OpenSpec.ofChange fnExactPlayOpsSpec)

/-- ITS FALSE NEIGHBOUR: 'it returns false'. Refute it at one input. -/
def fnExactPlayOpsWrong : ChangeSpec := { name := "fnExactPlayOps", vars := ["loop.example/g00344/impl.errRefused", "loop.example/g00344/impl.errLapsed"], fn := fun _ => fun
  | [d, g1, g2] => { results := [.lit (.bool false)], args := [d], vars := [g1, g2] }
  | _ => none }
def FnExactPlayOpsWrongFalsely : Prop := fnExactPlayOpsRow.holds Tryz.pinned (OpenSpec.ofChange fnExactPlayOpsWrong)

/- THE SECOND FORM. 'bulk': how many values and letters a reading holds, each counted each time it is reached (what is shared counts as often as it is met; a slice's spare places count too). A statement '..UptoSaid' is the law's where the arguments, and the package variables that the reading takes, are together of bulk at most 1048576: NARROWER than '..Said'. Prove '..Said' where nothing that the law and all that it calls make is longer than what came in: it says more and counts as full. Else prove '..UptoSaid'. A law counts once. -/
mutual
def uptoBulk {H : Type} : DataW H → Nat
  | .lit (.string bytes) => bytes.length + 1
  | .lit _ => 1
  | .nil => 1
  | .ptr d => uptoBulk d + 1
  | .slice elems spare => uptoBulkAll elems + uptoBulkAll spare + 1
  | .agg parts => uptoBulkAll parts + 1
  | .iface _ d => uptoBulk d + 1
  | .map entries => uptoBulkEntries entries + 1
  | .held _ => 1
def uptoBulkAll {H : Type} : List (DataW H) → Nat
  | [] => 0
  | d :: r => uptoBulk d + uptoBulkAll r
def uptoBulkEntries {H : Type} : List (Lit × DataW H) → Nat
  | [] => 0
  | x :: r => uptoBulkEntry x + uptoBulkEntries r
def uptoBulkEntry {H : Type} : Lit × DataW H → Nat
  | (.string bytes, d) => bytes.length + uptoBulk d + 1
  | (_, d) => uptoBulk d + 1
 end
def uptoSmall : (H : Type) → List (DataW H) → Bool := fun _ ds => decide (uptoBulkAll ds ≤ 1048576)
def OpenSpec.upto (s : _root_.Go.ChangeSpec) : _root_.Go.OpenSpec := { _root_.Go.OpenSpec.ofChange s with cond := some uptoSmall }

/-- 'laws.FnExactStepStore', WHERE WHAT IT READS IS OF BULK AT MOST 1048576: true; the input reads as it did. -/
def fnExactStepStoreUptoRow : OpenClaim := { program := "ytnficndeblkjhaagreatdoor", sum := "12a5db1aef2f06210b4dd32cfe0b702b2a413ffeb8784be1877e35292cffe60c", func := "loop.example/g00344/laws.FnExactStepStore", spec := "fnExactStepStore", inPlace := ["internal/reflectlite.ValueOf", "(internal/reflectlite.Value).Type", "(internal/reflectlite.Value).IsNil", "internal/reflectlite.TypeOf", "(internal/reflectlite.Value).Elem", "(internal/reflectlite.Value).Set"], unfollowed := true, recurses := true, named := ["loop.example/g00344/impl.errRefused", "loop.example/g00344/impl.errLapsed", "errors.errorType"], ifaces := true, apart := false, laid := [("errors.errorType", laid_errors_errorType), ("loop.example/g00344/impl.errRefused", laid_loop_example_g00344_impl_errRefused), ("loop.example/g00344/impl.errLapsed", laid_loop_example_g00344_impl_errLapsed)], narrowed := true }
def FnExactStepStoreUptoSaid : Prop := fnExactStepStoreUptoRow.holds Tryz.pinned (OpenSpec.upto fnExactStepStoreSpec)

/-- 'laws.FnExactPlayOps', WHERE WHAT IT READS IS OF BULK AT MOST 1048576: true; the input reads as it did. -/
def fnExactPlayOpsUptoRow : OpenClaim := { program := "ytnficndeblkjhaagreatdoor", sum := "12a5db1aef2f06210b4dd32cfe0b702b2a413ffeb8784be1877e35292cffe60c", func := "loop.example/g00344/laws.FnExactPlayOps", spec := "fnExactPlayOps", inPlace := ["internal/reflectlite.ValueOf", "(internal/reflectlite.Value).Type", "(internal/reflectlite.Value).IsNil", "internal/reflectlite.TypeOf", "(internal/reflectlite.Value).Elem", "(internal/reflectlite.Value).Set"], unfollowed := true, recurses := true, named := ["loop.example/g00344/impl.errRefused", "loop.example/g00344/impl.errLapsed", "errors.errorType"], ifaces := true, apart := false, laid := [("errors.errorType", laid_errors_errorType), ("loop.example/g00344/impl.errRefused", laid_loop_example_g00344_impl_errRefused), ("loop.example/g00344/impl.errLapsed", laid_loop_example_g00344_impl_errLapsed)], narrowed := true }
def FnExactPlayOpsUptoSaid : Prop := fnExactPlayOpsUptoRow.holds Tryz.pinned (OpenSpec.upto fnExactPlayOpsSpec)

end Rows
end Go.Proofs.YtnficndeblkjhaaGreatDoor
