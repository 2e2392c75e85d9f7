/-
  No cell of these rows narrows 'for every input' (looked for: loops, veiled, ifaces, maps, wideKeys, modest, calm, conditions, laid).
  DERIVED. THE GIVEN ROWS OF THIS SEAT. 5 by the template 'for every input the law returns true; each argument reads behind the call as it read before'; 0 by the template 'total and deterministic' (their statements: YtocgghhlfmgndaaGreatTotals.lean).
  GIVEN WITH THE SEED: the statements are not yours to turn. If you find one false, say at which input.
  Laid BY PROGRAM, IN A SANDBOX (cutbox-rows.mjs): the forced cells as the released guide's own fill.sh prints them over the translation 9058badfc4d51e1a… (all of the seat's roots in one cut). By AI agents, Wed Nov 11 2026. No macro, syntax, notation, axiom, sorry.
-/
import Derived.Test.YtocgghhlfmgndaaGreatChecked
import GoSem.Claim
import GoSem.ClaimJoined
import GoSem.ClaimMapViews
import Derived.JoinedTies
import Derived.KernelRfl
namespace Go.Proofs.YtocgghhlfmgndaaGreat
/- THE CELL 'sum', in the pinned program and in every row, IS THE sha256 OF THE DUMP (.gsa) THAT YtocgghhlfmgndaaGreatProg.lean LOADS. Nothing in Lean hashes anything: it is a label: what it is worth is what the hold of that sum in a sandbox is worth. -/
noncomputable def Tryz.pinned : Pinned := { name := "ytocgghhlfmgndaagreat", sum := "9058badfc4d51e1abaeccbdd9b83eda7e962c6618c98c092718b16d7a6769fb5", checked := Tryz.checked }
namespace Rows
def none {H : Type} : Left H := { results := [], args := [] }

/-- 'laws.FnExactTermFits': WHATEVER THE INPUT: true; the input reads as it did. -/
def fnExactTermFitsSpec : ChangeSpec := { name := "fnExactTermFits", fn := fun _ => fun
  | [d1, d2] => { results := [.lit (.bool true)], args := [d1, d2] }
  | _ => none }
def fnExactTermFitsRow : OpenClaim := { program := "ytocgghhlfmgndaagreat", sum := "9058badfc4d51e1abaeccbdd9b83eda7e962c6618c98c092718b16d7a6769fb5", func := "loop.example/g00344/laws.FnExactTermFits", spec := "fnExactTermFits", inPlace := ["slices.overlaps[int]"], unfollowed := true, recurses := true, apart := false }
def FnExactTermFitsSaid : Prop := fnExactTermFitsRow.holds Tryz.pinned (OpenSpec.ofChange fnExactTermFitsSpec)

/-- ITS FALSE NEIGHBOUR: 'it returns false'. Refute it at one input. -/
def fnExactTermFitsWrong : ChangeSpec := { name := "fnExactTermFits", fn := fun _ => fun
  | [d1, d2] => { results := [.lit (.bool false)], args := [d1, d2] }
  | _ => none }
def FnExactTermFitsWrongFalsely : Prop := fnExactTermFitsRow.holds Tryz.pinned (OpenSpec.ofChange fnExactTermFitsWrong)

/-- 'laws.FnExactApplyPolicy': WHATEVER THE INPUT: true; the input reads as it did. -/
def fnExactApplyPolicySpec : ChangeSpec := { name := "fnExactApplyPolicy", fn := fun _ => fun
  | [d1, d2] => { results := [.lit (.bool true)], args := [d1, d2] }
  | _ => none }
def fnExactApplyPolicyRow : OpenClaim := { program := "ytocgghhlfmgndaagreat", sum := "9058badfc4d51e1abaeccbdd9b83eda7e962c6618c98c092718b16d7a6769fb5", func := "loop.example/g00344/laws.FnExactApplyPolicy", spec := "fnExactApplyPolicy", inPlace := ["slices.overlaps[int]"], unfollowed := true, recurses := true, apart := false }
def FnExactApplyPolicySaid : Prop := fnExactApplyPolicyRow.holds Tryz.pinned (OpenSpec.ofChange fnExactApplyPolicySpec)

/-- ITS FALSE NEIGHBOUR: 'it returns false'. Refute it at one input. -/
def fnExactApplyPolicyWrong : ChangeSpec := { name := "fnExactApplyPolicy", fn := fun _ => fun
  | [d1, d2] => { results := [.lit (.bool false)], args := [d1, d2] }
  | _ => none }
def FnExactApplyPolicyWrongFalsely : Prop := fnExactApplyPolicyRow.holds Tryz.pinned (OpenSpec.ofChange fnExactApplyPolicyWrong)

/-- 'laws.FnExactFilterRoutes': WHATEVER THE INPUT: true; the input reads as it did. -/
def fnExactFilterRoutesSpec : ChangeSpec := { name := "fnExactFilterRoutes", fn := fun _ => fun
  | [d1, d2] => { results := [.lit (.bool true)], args := [d1, d2] }
  | _ => none }
def fnExactFilterRoutesRow : OpenClaim := { program := "ytocgghhlfmgndaagreat", sum := "9058badfc4d51e1abaeccbdd9b83eda7e962c6618c98c092718b16d7a6769fb5", func := "loop.example/g00344/laws.FnExactFilterRoutes", spec := "fnExactFilterRoutes", inPlace := ["slices.overlaps[int]"], unfollowed := true, recurses := true, apart := false }
def FnExactFilterRoutesSaid : Prop := fnExactFilterRoutesRow.holds Tryz.pinned (OpenSpec.ofChange fnExactFilterRoutesSpec)

/-- ITS FALSE NEIGHBOUR: 'it returns false'. Refute it at one input. -/
def fnExactFilterRoutesWrong : ChangeSpec := { name := "fnExactFilterRoutes", fn := fun _ => fun
  | [d1, d2] => { results := [.lit (.bool false)], args := [d1, d2] }
  | _ => none }
def FnExactFilterRoutesWrongFalsely : Prop := fnExactFilterRoutesRow.holds Tryz.pinned (OpenSpec.ofChange fnExactFilterRoutesWrong)

/-- 'laws.FnPolicies': WHATEVER THE INPUT: true; the input reads as it did. -/
def fnPoliciesSpec : ChangeSpec := { name := "fnPolicies", fn := fun _ => fun
  | [d1, d2] => { results := [.lit (.bool true)], args := [d1, d2] }
  | _ => none }
def fnPoliciesRow : OpenClaim := { program := "ytocgghhlfmgndaagreat", sum := "9058badfc4d51e1abaeccbdd9b83eda7e962c6618c98c092718b16d7a6769fb5", func := "loop.example/g00344/laws.FnPolicies", spec := "fnPolicies", inPlace := ["slices.overlaps[int]"], unfollowed := true, recurses := true, apart := false }
def FnPoliciesSaid : Prop := fnPoliciesRow.holds Tryz.pinned (OpenSpec.ofChange fnPoliciesSpec)

/-- ITS FALSE NEIGHBOUR: 'it returns false'. Refute it at one input. -/
def fnPoliciesWrong : ChangeSpec := { name := "fnPolicies", fn := fun _ => fun
  | [d1, d2] => { results := [.lit (.bool false)], args := [d1, d2] }
  | _ => none }
def FnPoliciesWrongFalsely : Prop := fnPoliciesRow.holds Tryz.pinned (OpenSpec.ofChange fnPoliciesWrong)

/-- 'laws.FnActs': WHATEVER THE INPUT: true; the input reads as it did. -/
def fnActsSpec : ChangeSpec := { name := "fnActs", fn := fun _ => fun
  | [d1, d2] => { results := [.lit (.bool true)], args := [d1, d2] }
  | _ => none }
def fnActsRow : OpenClaim := { program := "ytocgghhlfmgndaagreat", sum := "9058badfc4d51e1abaeccbdd9b83eda7e962c6618c98c092718b16d7a6769fb5", func := "loop.example/g00344/laws.FnActs", spec := "fnActs", inPlace := ["slices.overlaps[int]"], unfollowed := true, recurses := true, apart := false }
def FnActsSaid : Prop := fnActsRow.holds Tryz.pinned (OpenSpec.ofChange fnActsSpec)

/-- ITS FALSE NEIGHBOUR: 'it returns false'. Refute it at one input. -/
def fnActsWrong : ChangeSpec := { name := "fnActs", fn := fun _ => fun
  | [d1, d2] => { results := [.lit (.bool false)], args := [d1, d2] }
  | _ => none }
def FnActsWrongFalsely : Prop := fnActsRow.holds Tryz.pinned (OpenSpec.ofChange fnActsWrong)

/- THE SECOND FORM. 'bulk': how many values and letters a reading holds, each counted each time it is reached (what is shared counts as often as it is met; a slice's spare places count too). A statement '..UptoSaid' is the law's where the arguments, and the package variables that the reading takes, are together of bulk at most 1048576: NARROWER than '..Said'. Prove '..Said' where nothing that the law and all that it calls make is longer than what came in: it says more and counts as full. Else prove '..UptoSaid'. A law counts once. -/
mutual
def uptoBulk {H : Type} : DataW H → Nat
  | .lit (.string bytes) => bytes.length + 1
  | .lit _ => 1
  | .nil => 1
  | .ptr d => uptoBulk d + 1
  | .slice elems spare => uptoBulkAll elems + uptoBulkAll spare + 1
  | .agg parts => uptoBulkAll parts + 1
  | .iface _ d => uptoBulk d + 1
  | .map entries => uptoBulkEntries entries + 1
  | .held _ => 1
def uptoBulkAll {H : Type} : List (DataW H) → Nat
  | [] => 0
  | d :: r => uptoBulk d + uptoBulkAll r
def uptoBulkEntries {H : Type} : List (Lit × DataW H) → Nat
  | [] => 0
  | x :: r => uptoBulkEntry x + uptoBulkEntries r
def uptoBulkEntry {H : Type} : Lit × DataW H → Nat
  | (.string bytes, d) => bytes.length + uptoBulk d + 1
  | (_, d) => uptoBulk d + 1
 end
def uptoSmall : (H : Type) → List (DataW H) → Bool := fun _ ds => decide (uptoBulkAll ds ≤ 1048576)
def OpenSpec.upto (s : _root_.Go.ChangeSpec) : _root_.Go.OpenSpec := { _root_.Go.OpenSpec.ofChange s with cond := some uptoSmall }

/-- 'laws.FnExactTermFits', WHERE WHAT IT READS IS OF BULK AT MOST 1048576: true; the input reads as it did. -/
def fnExactTermFitsUptoRow : OpenClaim := { program := "ytocgghhlfmgndaagreat", sum := "9058badfc4d51e1abaeccbdd9b83eda7e962c6618c98c092718b16d7a6769fb5", func := "loop.example/g00344/laws.FnExactTermFits", spec := "fnExactTermFits", inPlace := ["slices.overlaps[int]"], unfollowed := true, recurses := true, apart := false, narrowed := true }
def FnExactTermFitsUptoSaid : Prop := fnExactTermFitsUptoRow.holds Tryz.pinned (OpenSpec.upto fnExactTermFitsSpec)

/-- 'laws.FnExactApplyPolicy', WHERE WHAT IT READS IS OF BULK AT MOST 1048576: true; the input reads as it did. -/
def fnExactApplyPolicyUptoRow : OpenClaim := { program := "ytocgghhlfmgndaagreat", sum := "9058badfc4d51e1abaeccbdd9b83eda7e962c6618c98c092718b16d7a6769fb5", func := "loop.example/g00344/laws.FnExactApplyPolicy", spec := "fnExactApplyPolicy", inPlace := ["slices.overlaps[int]"], unfollowed := true, recurses := true, apart := false, narrowed := true }
def FnExactApplyPolicyUptoSaid : Prop := fnExactApplyPolicyUptoRow.holds Tryz.pinned (OpenSpec.upto fnExactApplyPolicySpec)

/-- 'laws.FnExactFilterRoutes', WHERE WHAT IT READS IS OF BULK AT MOST 1048576: true; the input reads as it did. -/
def fnExactFilterRoutesUptoRow : OpenClaim := { program := "ytocgghhlfmgndaagreat", sum := "9058badfc4d51e1abaeccbdd9b83eda7e962c6618c98c092718b16d7a6769fb5", func := "loop.example/g00344/laws.FnExactFilterRoutes", spec := "fnExactFilterRoutes", inPlace := ["slices.overlaps[int]"], unfollowed := true, recurses := true, apart := false, narrowed := true }
def FnExactFilterRoutesUptoSaid : Prop := fnExactFilterRoutesUptoRow.holds Tryz.pinned (OpenSpec.upto fnExactFilterRoutesSpec)

/-- 'laws.FnPolicies', WHERE WHAT IT READS IS OF BULK AT MOST 1048576: true; the input reads as it did. -/
def fnPoliciesUptoRow : OpenClaim := { program := "ytocgghhlfmgndaagreat", sum := "9058badfc4d51e1abaeccbdd9b83eda7e962c6618c98c092718b16d7a6769fb5", func := "loop.example/g00344/laws.FnPolicies", spec := "fnPolicies", inPlace := ["slices.overlaps[int]"], unfollowed := true, recurses := true, apart := false, narrowed := true }
def FnPoliciesUptoSaid : Prop := fnPoliciesUptoRow.holds Tryz.pinned (OpenSpec.upto fnPoliciesSpec)

/-- 'laws.FnActs', WHERE WHAT IT READS IS OF BULK AT MOST 1048576: true; the input reads as it did. -/
def fnActsUptoRow : OpenClaim := { program := "ytocgghhlfmgndaagreat", sum := "9058badfc4d51e1abaeccbdd9b83eda7e962c6618c98c092718b16d7a6769fb5", func := "loop.example/g00344/laws.FnActs", spec := "fnActs", inPlace := ["slices.overlaps[int]"], unfollowed := true, recurses := true, apart := false, narrowed := true }
def FnActsUptoSaid : Prop := fnActsUptoRow.holds Tryz.pinned (OpenSpec.upto fnActsSpec)

end Rows
end Go.Proofs.YtocgghhlfmgndaaGreat
