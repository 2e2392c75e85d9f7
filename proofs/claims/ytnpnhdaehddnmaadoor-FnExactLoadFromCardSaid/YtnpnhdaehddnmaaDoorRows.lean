/-
  NARROWER THAN 'FOR EVERY INPUT', by the rows' own cells (each row's printed sentence says how): FnExactLoadFrom: ifaces, laid · FnExactPlanOf: ifaces, laid · FnExactUnseal: ifaces, laid.
  DERIVED. THE GIVEN ROWS OF THIS SEAT. 3 by the template 'for every input the law returns true; each argument reads behind the call as it read before'; 0 by the template 'total and deterministic' (their statements: YtnpnhdaehddnmaaDoorTotals.lean).
  GIVEN WITH THE SEED: the statements are not yours to turn. If you find one false, say at which input.
  Laid BY PROGRAM, IN A SANDBOX (cutbox-rows.mjs): the forced cells as the released guide's own fill.sh prints them over the translation 72f155fec81837f1… (all of the seat's roots in one cut). By AI agents, Wed Nov 11 2026. No macro, syntax, notation, axiom, sorry.
-/
import Derived.Test.YtnpnhdaehddnmaaDoorChecked
import GoSem.Claim
import GoSem.ClaimJoined
import GoSem.ClaimMapViews
import Derived.JoinedTies
import Derived.KernelRfl
namespace Go.Proofs.YtnpnhdaehddnmaaDoor
/- THE CELL 'sum', in the pinned program and in every row, IS THE sha256 OF THE DUMP (.gsa) THAT YtnpnhdaehddnmaaDoorProg.lean LOADS. Nothing in Lean hashes anything: it is a label: what it is worth is what the hold of that sum in a sandbox is worth. -/
noncomputable def Tryd.pinned : Pinned := { name := "ytnpnhdaehddnmaadoor", sum := "72f155fec81837f182dd44923c18f8237f54ff014cd05104b8ee31991dabe159", checked := Tryd.checked }
namespace Rows
def none {H : Type} : Left H := { results := [], args := [] }

/- WHAT THE LISTED PACKAGE-LEVEL VARIABLES READ AS WHEN THE CALL BEGINS. Each datum BY PROGRAM (the guide's laid-datum.mjs) off the statement by which the dump's own 'gosem.cut.vars' lays the variable. In a bare row this is a premise. The card (YtnpnhdaehddnmaaDoorCards.lean) ties it to the program's text. -/
def laid_loop_example_g00344_impl_errGaveUp {H : Type} : DataW H := .iface "*errors.errorString" (.ptr (.agg [.lit (.string [116, 104, 101, 32, 106, 111, 117, 114, 110, 97, 108, 32, 103, 97, 118, 101, 32, 117, 112])]))

/-- 'laws.FnExactLoadFrom': WHATEVER THE INPUT: true; the input reads as it did. -/
def fnExactLoadFromSpec : ChangeSpec := { name := "fnExactLoadFrom", vars := ["loop.example/g00344/impl.errGaveUp"], fn := fun _ => fun
  | [d, g1] => { results := [.lit (.bool true)], args := [d], vars := [g1] }
  | _ => none }
def fnExactLoadFromRow : OpenClaim := { program := "ytnpnhdaehddnmaadoor", sum := "72f155fec81837f182dd44923c18f8237f54ff014cd05104b8ee31991dabe159", func := "loop.example/g00344/laws.FnExactLoadFrom", spec := "fnExactLoadFrom", unfollowed := true, recurses := true, named := ["loop.example/g00344/impl.errGaveUp"], ifaces := true, apart := false, laid := [("loop.example/g00344/impl.errGaveUp", laid_loop_example_g00344_impl_errGaveUp)] }
def FnExactLoadFromSaid : Prop := fnExactLoadFromRow.holds Tryd.pinned (OpenSpec.ofChange fnExactLoadFromSpec)

/-- ITS FALSE NEIGHBOUR: 'it returns false'. Refute it at one input. -/
def fnExactLoadFromWrong : ChangeSpec := { name := "fnExactLoadFrom", vars := ["loop.example/g00344/impl.errGaveUp"], fn := fun _ => fun
  | [d, g1] => { results := [.lit (.bool false)], args := [d], vars := [g1] }
  | _ => none }
def FnExactLoadFromWrongFalsely : Prop := fnExactLoadFromRow.holds Tryd.pinned (OpenSpec.ofChange fnExactLoadFromWrong)

/-- 'laws.FnExactPlanOf': WHATEVER THE INPUT: true; the input reads as it did. -/
def fnExactPlanOfSpec : ChangeSpec := { name := "fnExactPlanOf", vars := ["loop.example/g00344/impl.errGaveUp"], fn := fun _ => fun
  | [d1, d2, g1] => { results := [.lit (.bool true)], args := [d1, d2], vars := [g1] }
  | _ => none }
def fnExactPlanOfRow : OpenClaim := { program := "ytnpnhdaehddnmaadoor", sum := "72f155fec81837f182dd44923c18f8237f54ff014cd05104b8ee31991dabe159", func := "loop.example/g00344/laws.FnExactPlanOf", spec := "fnExactPlanOf", unfollowed := true, recurses := true, named := ["loop.example/g00344/impl.errGaveUp"], ifaces := true, apart := false, laid := [("loop.example/g00344/impl.errGaveUp", laid_loop_example_g00344_impl_errGaveUp)] }
def FnExactPlanOfSaid : Prop := fnExactPlanOfRow.holds Tryd.pinned (OpenSpec.ofChange fnExactPlanOfSpec)

/-- ITS FALSE NEIGHBOUR: 'it returns false'. Refute it at one input. -/
def fnExactPlanOfWrong : ChangeSpec := { name := "fnExactPlanOf", vars := ["loop.example/g00344/impl.errGaveUp"], fn := fun _ => fun
  | [d1, d2, g1] => { results := [.lit (.bool false)], args := [d1, d2], vars := [g1] }
  | _ => none }
def FnExactPlanOfWrongFalsely : Prop := fnExactPlanOfRow.holds Tryd.pinned (OpenSpec.ofChange fnExactPlanOfWrong)

/-- 'laws.FnExactUnseal': WHATEVER THE INPUT: true; the input reads as it did. -/
def fnExactUnsealSpec : ChangeSpec := { name := "fnExactUnseal", vars := ["loop.example/g00344/impl.errGaveUp"], fn := fun _ => fun
  | [d, g1] => { results := [.lit (.bool true)], args := [d], vars := [g1] }
  | _ => none }
def fnExactUnsealRow : OpenClaim := { program := "ytnpnhdaehddnmaadoor", sum := "72f155fec81837f182dd44923c18f8237f54ff014cd05104b8ee31991dabe159", func := "loop.example/g00344/laws.FnExactUnseal", spec := "fnExactUnseal", unfollowed := true, recurses := true, named := ["loop.example/g00344/impl.errGaveUp"], ifaces := true, apart := false, laid := [("loop.example/g00344/impl.errGaveUp", laid_loop_example_g00344_impl_errGaveUp)] }
def FnExactUnsealSaid : Prop := fnExactUnsealRow.holds Tryd.pinned (OpenSpec.ofChange fnExactUnsealSpec)

/-- ITS FALSE NEIGHBOUR: 'it returns false'. Refute it at one input. -/
def fnExactUnsealWrong : ChangeSpec := { name := "fnExactUnseal", vars := ["loop.example/g00344/impl.errGaveUp"], fn := fun _ => fun
  | [d, g1] => { results := [.lit (.bool false)], args := [d], vars := [g1] }
  | _ => none }
def FnExactUnsealWrongFalsely : Prop := fnExactUnsealRow.holds Tryd.pinned (OpenSpec.ofChange fnExactUnsealWrong)

/- THE SECOND FORM. 'bulk': how many values and letters a reading holds, each counted each time it is reached (what is shared counts as often as it is met; a slice's spare places count too). A statement '..UptoSaid' is the law's where the arguments, and the package variables that the reading takes, are together of bulk at most 1048576: NARROWER than '..Said'. Prove '..Said' where nothing that the law and all that it calls make is longer than what came in: it says more and counts as full. Else prove '..UptoSaid'. A law counts once. -/
mutual
def uptoBulk {H : Type} : DataW H → Nat
  | .lit (.string bytes) => bytes.length + 1
  | .lit _ => 1
  | .nil => 1
  | .ptr d => uptoBulk d + 1
  | .slice elems spare => uptoBulkAll elems + uptoBulkAll spare + 1
  | .agg parts => uptoBulkAll parts + 1
  | .iface _ d => uptoBulk d + 1
  | .map entries => uptoBulkEntries entries + 1
  | .held _ => 1
def uptoBulkAll {H : Type} : List (DataW H) → Nat
  | [] => 0
  | d :: r => uptoBulk d + uptoBulkAll r
def uptoBulkEntries {H : Type} : List (Lit × DataW H) → Nat
  | [] => 0
  | x :: r => uptoBulkEntry x + uptoBulkEntries r
def uptoBulkEntry {H : Type} : Lit × DataW H → Nat
  | (.string bytes, d) => bytes.length + uptoBulk d + 1
  | (_, d) => uptoBulk d + 1
 end
def uptoSmall : (H : Type) → List (DataW H) → Bool := fun _ ds => decide (uptoBulkAll ds ≤ 1048576)
def OpenSpec.upto (s : _root_.Go.ChangeSpec) : _root_.Go.OpenSpec := { _root_.Go.OpenSpec.ofChange s with cond := some uptoSmall }

/-- 'laws.FnExactLoadFrom', WHERE WHAT IT READS IS OF BULK AT MOST 1048576: true; the input reads as it did. -/
def fnExactLoadFromUptoRow : OpenClaim := { program := "ytnpnhdaehddnmaadoor", sum := "72f155fec81837f182dd44923c18f8237f54ff014cd05104b8ee31991dabe159", func := "loop.example/g00344/laws.FnExactLoadFrom", spec := "fnExactLoadFrom", unfollowed := true, recurses := true, named := ["loop.example/g00344/impl.errGaveUp"], ifaces := true, apart := false, laid := [("loop.example/g00344/impl.errGaveUp", laid_loop_example_g00344_impl_errGaveUp)], narrowed := true }
def FnExactLoadFromUptoSaid : Prop := fnExactLoadFromUptoRow.holds Tryd.pinned (OpenSpec.upto fnExactLoadFromSpec)

/-- 'laws.FnExactPlanOf', WHERE WHAT IT READS IS OF BULK AT MOST 1048576: true; the input reads as it did. -/
def fnExactPlanOfUptoRow : OpenClaim := { program := "ytnpnhdaehddnmaadoor", sum := "72f155fec81837f182dd44923c18f8237f54ff014cd05104b8ee31991dabe159", func := "loop.example/g00344/laws.FnExactPlanOf", spec := "fnExactPlanOf", unfollowed := true, recurses := true, named := ["loop.example/g00344/impl.errGaveUp"], ifaces := true, apart := false, laid := [("loop.example/g00344/impl.errGaveUp", laid_loop_example_g00344_impl_errGaveUp)], narrowed := true }
def FnExactPlanOfUptoSaid : Prop := fnExactPlanOfUptoRow.holds Tryd.pinned (OpenSpec.upto fnExactPlanOfSpec)

/-- 'laws.FnExactUnseal', WHERE WHAT IT READS IS OF BULK AT MOST 1048576: true; the input reads as it did. -/
def fnExactUnsealUptoRow : OpenClaim := { program := "ytnpnhdaehddnmaadoor", sum := "72f155fec81837f182dd44923c18f8237f54ff014cd05104b8ee31991dabe159", func := "loop.example/g00344/laws.FnExactUnseal", spec := "fnExactUnseal", unfollowed := true, recurses := true, named := ["loop.example/g00344/impl.errGaveUp"], ifaces := true, apart := false, laid := [("loop.example/g00344/impl.errGaveUp", laid_loop_example_g00344_impl_errGaveUp)], narrowed := true }
def FnExactUnsealUptoSaid : Prop := fnExactUnsealUptoRow.holds Tryd.pinned (OpenSpec.upto fnExactUnsealSpec)

end Rows
end Go.Proofs.YtnpnhdaehddnmaaDoor
