/-
  No cell of these rows narrows 'for every input' (looked for: loops, veiled, ifaces, maps, wideKeys, modest, calm, conditions, laid).
  DERIVED. THE GIVEN ROWS OF THIS SEAT. 4 by the template 'for every input the law returns true; each argument reads behind the call as it read before'; 0 by the template 'total and deterministic' (their statements: YtnpmkckkfbddpaaTotals.lean).
  GIVEN WITH THE SEED: the statements are not yours to turn. If you find one false, say at which input.
  Laid BY PROGRAM, IN A SANDBOX (cutbox-rows.mjs): the forced cells as the released guide's own fill.sh prints them over the translation 5a56884e424ddd1c… (all of the seat's roots in one cut). By AI agents, Wed Nov 11 2026. No macro, syntax, notation, axiom, sorry.
-/
import Derived.Test.YtnpmkckkfbddpaaChecked
import GoSem.Claim
import GoSem.ClaimJoined
import GoSem.ClaimMapViews
import Derived.JoinedTies
import Derived.KernelRfl
namespace Go.Proofs.Ytnpmkckkfbddpaa
/- THE CELL 'sum', in the pinned program and in every row, IS THE sha256 OF THE DUMP (.gsa) THAT YtnpmkckkfbddpaaProg.lean LOADS. Nothing in Lean hashes anything: it is a label: what it is worth is what the hold of that sum in a sandbox is worth. -/
noncomputable def Try.pinned : Pinned := { name := "ytnpmkckkfbddpaa", sum := "5a56884e424ddd1c8f08534ceef0461ac7d4c0b251da8349427f6a46251af9ba", checked := Try.checked }
namespace Rows
def none {H : Type} : Left H := { results := [], args := [] }

/-- 'laws.FnExactGoodRels': WHATEVER THE INPUT: true; the input reads as it did. -/
def fnExactGoodRelsSpec : ChangeSpec := { name := "fnExactGoodRels", fn := fun _ => fun
  | [d1, d2] => { results := [.lit (.bool true)], args := [d1, d2] }
  | _ => none }
def fnExactGoodRelsRow : OpenClaim := { program := "ytnpmkckkfbddpaa", sum := "5a56884e424ddd1c8f08534ceef0461ac7d4c0b251da8349427f6a46251af9ba", func := "loop.example/g00344/laws.FnExactGoodRels", spec := "fnExactGoodRels", plainKeys := false, apart := false }
def FnExactGoodRelsSaid : Prop := fnExactGoodRelsRow.holds Try.pinned (OpenSpec.ofChange fnExactGoodRelsSpec)

/-- ITS FALSE NEIGHBOUR: 'it returns false'. Refute it at one input. -/
def fnExactGoodRelsWrong : ChangeSpec := { name := "fnExactGoodRels", fn := fun _ => fun
  | [d1, d2] => { results := [.lit (.bool false)], args := [d1, d2] }
  | _ => none }
def FnExactGoodRelsWrongFalsely : Prop := fnExactGoodRelsRow.holds Try.pinned (OpenSpec.ofChange fnExactGoodRelsWrong)

/-- 'laws.FnExactKindTo': WHATEVER THE INPUT: true; the input reads as it did. -/
def fnExactKindToSpec : ChangeSpec := { name := "fnExactKindTo", fn := fun _ => fun
  | [d1, d2, d3, d4] => { results := [.lit (.bool true)], args := [d1, d2, d3, d4] }
  | _ => none }
def fnExactKindToRow : OpenClaim := { program := "ytnpmkckkfbddpaa", sum := "5a56884e424ddd1c8f08534ceef0461ac7d4c0b251da8349427f6a46251af9ba", func := "loop.example/g00344/laws.FnExactKindTo", spec := "fnExactKindTo", plainKeys := false, apart := false }
def FnExactKindToSaid : Prop := fnExactKindToRow.holds Try.pinned (OpenSpec.ofChange fnExactKindToSpec)

/-- ITS FALSE NEIGHBOUR: 'it returns false'. Refute it at one input. -/
def fnExactKindToWrong : ChangeSpec := { name := "fnExactKindTo", fn := fun _ => fun
  | [d1, d2, d3, d4] => { results := [.lit (.bool false)], args := [d1, d2, d3, d4] }
  | _ => none }
def FnExactKindToWrongFalsely : Prop := fnExactKindToRow.holds Try.pinned (OpenSpec.ofChange fnExactKindToWrong)

/-- 'laws.FnExactIsValleyFree': WHATEVER THE INPUT: true; the input reads as it did. -/
def fnExactIsValleyFreeSpec : ChangeSpec := { name := "fnExactIsValleyFree", fn := fun _ => fun
  | [d1, d2, d3] => { results := [.lit (.bool true)], args := [d1, d2, d3] }
  | _ => none }
def fnExactIsValleyFreeRow : OpenClaim := { program := "ytnpmkckkfbddpaa", sum := "5a56884e424ddd1c8f08534ceef0461ac7d4c0b251da8349427f6a46251af9ba", func := "loop.example/g00344/laws.FnExactIsValleyFree", spec := "fnExactIsValleyFree", plainKeys := false, apart := false }
def FnExactIsValleyFreeSaid : Prop := fnExactIsValleyFreeRow.holds Try.pinned (OpenSpec.ofChange fnExactIsValleyFreeSpec)

/-- ITS FALSE NEIGHBOUR: 'it returns false'. Refute it at one input. -/
def fnExactIsValleyFreeWrong : ChangeSpec := { name := "fnExactIsValleyFree", fn := fun _ => fun
  | [d1, d2, d3] => { results := [.lit (.bool false)], args := [d1, d2, d3] }
  | _ => none }
def FnExactIsValleyFreeWrongFalsely : Prop := fnExactIsValleyFreeRow.holds Try.pinned (OpenSpec.ofChange fnExactIsValleyFreeWrong)

/-- 'laws.FnExactMayTell': WHATEVER THE INPUT: true; the input reads as it did. -/
def fnExactMayTellSpec : ChangeSpec := { name := "fnExactMayTell", fn := fun _ => fun
  | [d1, d2, d3, d4, d5] => { results := [.lit (.bool true)], args := [d1, d2, d3, d4, d5] }
  | _ => none }
def fnExactMayTellRow : OpenClaim := { program := "ytnpmkckkfbddpaa", sum := "5a56884e424ddd1c8f08534ceef0461ac7d4c0b251da8349427f6a46251af9ba", func := "loop.example/g00344/laws.FnExactMayTell", spec := "fnExactMayTell", plainKeys := false, apart := false }
def FnExactMayTellSaid : Prop := fnExactMayTellRow.holds Try.pinned (OpenSpec.ofChange fnExactMayTellSpec)

/-- ITS FALSE NEIGHBOUR: 'it returns false'. Refute it at one input. -/
def fnExactMayTellWrong : ChangeSpec := { name := "fnExactMayTell", fn := fun _ => fun
  | [d1, d2, d3, d4, d5] => { results := [.lit (.bool false)], args := [d1, d2, d3, d4, d5] }
  | _ => none }
def FnExactMayTellWrongFalsely : Prop := fnExactMayTellRow.holds Try.pinned (OpenSpec.ofChange fnExactMayTellWrong)

/- THE SECOND FORM. 'bulk': how many values and letters a reading holds, each counted each time it is reached (what is shared counts as often as it is met; a slice's spare places count too). A statement '..UptoSaid' is the law's where the arguments, and the package variables that the reading takes, are together of bulk at most 1048576: NARROWER than '..Said'. Prove '..Said' where nothing that the law and all that it calls make is longer than what came in: it says more and counts as full. Else prove '..UptoSaid'. A law counts once. -/
mutual
def uptoBulk {H : Type} : DataW H → Nat
  | .lit (.string bytes) => bytes.length + 1
  | .lit _ => 1
  | .nil => 1
  | .ptr d => uptoBulk d + 1
  | .slice elems spare => uptoBulkAll elems + uptoBulkAll spare + 1
  | .agg parts => uptoBulkAll parts + 1
  | .iface _ d => uptoBulk d + 1
  | .map entries => uptoBulkEntries entries + 1
  | .held _ => 1
def uptoBulkAll {H : Type} : List (DataW H) → Nat
  | [] => 0
  | d :: r => uptoBulk d + uptoBulkAll r
def uptoBulkEntries {H : Type} : List (Lit × DataW H) → Nat
  | [] => 0
  | x :: r => uptoBulkEntry x + uptoBulkEntries r
def uptoBulkEntry {H : Type} : Lit × DataW H → Nat
  | (.string bytes, d) => bytes.length + uptoBulk d + 1
  | (_, d) => uptoBulk d + 1
 end
def uptoSmall : (H : Type) → List (DataW H) → Bool := fun _ ds => decide (uptoBulkAll ds ≤ 1048576)
def OpenSpec.upto (s : _root_.Go.ChangeSpec) : _root_.Go.OpenSpec := { _root_.Go.OpenSpec.ofChange s with cond := some uptoSmall }

/-- 'laws.FnExactGoodRels', WHERE WHAT IT READS IS OF BULK AT MOST 1048576: true; the input reads as it did. -/
def fnExactGoodRelsUptoRow : OpenClaim := { program := "ytnpmkckkfbddpaa", sum := "5a56884e424ddd1c8f08534ceef0461ac7d4c0b251da8349427f6a46251af9ba", func := "loop.example/g00344/laws.FnExactGoodRels", spec := "fnExactGoodRels", plainKeys := false, apart := false, narrowed := true }
def FnExactGoodRelsUptoSaid : Prop := fnExactGoodRelsUptoRow.holds Try.pinned (OpenSpec.upto fnExactGoodRelsSpec)

/-- 'laws.FnExactKindTo', WHERE WHAT IT READS IS OF BULK AT MOST 1048576: true; the input reads as it did. -/
def fnExactKindToUptoRow : OpenClaim := { program := "ytnpmkckkfbddpaa", sum := "5a56884e424ddd1c8f08534ceef0461ac7d4c0b251da8349427f6a46251af9ba", func := "loop.example/g00344/laws.FnExactKindTo", spec := "fnExactKindTo", plainKeys := false, apart := false, narrowed := true }
def FnExactKindToUptoSaid : Prop := fnExactKindToUptoRow.holds Try.pinned (OpenSpec.upto fnExactKindToSpec)

/-- 'laws.FnExactIsValleyFree', WHERE WHAT IT READS IS OF BULK AT MOST 1048576: true; the input reads as it did. -/
def fnExactIsValleyFreeUptoRow : OpenClaim := { program := "ytnpmkckkfbddpaa", sum := "5a56884e424ddd1c8f08534ceef0461ac7d4c0b251da8349427f6a46251af9ba", func := "loop.example/g00344/laws.FnExactIsValleyFree", spec := "fnExactIsValleyFree", plainKeys := false, apart := false, narrowed := true }
def FnExactIsValleyFreeUptoSaid : Prop := fnExactIsValleyFreeUptoRow.holds Try.pinned (OpenSpec.upto fnExactIsValleyFreeSpec)

/-- 'laws.FnExactMayTell', WHERE WHAT IT READS IS OF BULK AT MOST 1048576: true; the input reads as it did. -/
def fnExactMayTellUptoRow : OpenClaim := { program := "ytnpmkckkfbddpaa", sum := "5a56884e424ddd1c8f08534ceef0461ac7d4c0b251da8349427f6a46251af9ba", func := "loop.example/g00344/laws.FnExactMayTell", spec := "fnExactMayTell", plainKeys := false, apart := false, narrowed := true }
def FnExactMayTellUptoSaid : Prop := fnExactMayTellUptoRow.holds Try.pinned (OpenSpec.upto fnExactMayTellSpec)

end Rows
end Go.Proofs.Ytnpmkckkfbddpaa
