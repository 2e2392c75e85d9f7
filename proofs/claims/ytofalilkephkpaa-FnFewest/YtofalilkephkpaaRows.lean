/-
  No cell of these rows narrows 'for every input' (looked for: loops, veiled, ifaces, maps, wideKeys, modest, calm, conditions, laid).
  DERIVED. THE GIVEN ROWS OF THIS SEAT. 12 by the template 'for every input the law returns true; each argument reads behind the call as it read before'; 0 by the template 'total and deterministic' (their statements: YtofalilkephkpaaTotals.lean).
  GIVEN WITH THE SEED: the statements are not yours to turn. If you find one false, say at which input.
  Laid BY PROGRAM, IN A SANDBOX (cutbox-rows.mjs): the forced cells as the released guide's own fill.sh prints them over the translation be0581a89826436c… (all of the seat's roots in one cut). By AI agents, Wed Nov 11 2026. No macro, syntax, notation, axiom, sorry.
-/
import Derived.Test.YtofalilkephkpaaChecked
import GoSem.Claim
import GoSem.ClaimJoined
import GoSem.ClaimMapViews
import Derived.JoinedTies
import Derived.KernelRfl
namespace Go.Proofs.Ytofalilkephkpaa
/- THE CELL 'sum', in the pinned program and in every row, IS THE sha256 OF THE DUMP (.gsa) THAT YtofalilkephkpaaProg.lean LOADS. Nothing in Lean hashes anything: it is a label: what it is worth is what the hold of that sum in a sandbox is worth. -/
noncomputable def Try.pinned : Pinned := { name := "ytofalilkephkpaa", sum := "be0581a89826436c8b14b3d07b69dad3dba8f28708b17b9e21297962cbaeea41", checked := Try.checked }
namespace Rows
def none {H : Type} : Left H := { results := [], args := [] }

/-- 'laws.FnFewest': WHATEVER THE INPUT: true; the input reads as it did. -/
def fnFewestSpec : ChangeSpec := { name := "fnFewest", fn := fun _ => fun
  | [d1, d2] => { results := [.lit (.bool true)], args := [d1, d2] }
  | _ => none }
def fnFewestRow : OpenClaim := { program := "ytofalilkephkpaa", sum := "be0581a89826436c8b14b3d07b69dad3dba8f28708b17b9e21297962cbaeea41", func := "loop.example/g00344/laws.FnFewest", spec := "fnFewest", unfollowed := true, recurses := true, apart := false }
def FnFewestSaid : Prop := fnFewestRow.holds Try.pinned (OpenSpec.ofChange fnFewestSpec)

/-- ITS FALSE NEIGHBOUR: 'it returns false'. Refute it at one input. -/
def fnFewestWrong : ChangeSpec := { name := "fnFewest", fn := fun _ => fun
  | [d1, d2] => { results := [.lit (.bool false)], args := [d1, d2] }
  | _ => none }
def FnFewestWrongFalsely : Prop := fnFewestRow.holds Try.pinned (OpenSpec.ofChange fnFewestWrong)

/-- 'laws.FnLongest': WHATEVER THE INPUT: true; the input reads as it did. -/
def fnLongestSpec : ChangeSpec := { name := "fnLongest", fn := fun _ => fun
  | [d1, d2] => { results := [.lit (.bool true)], args := [d1, d2] }
  | _ => none }
def fnLongestRow : OpenClaim := { program := "ytofalilkephkpaa", sum := "be0581a89826436c8b14b3d07b69dad3dba8f28708b17b9e21297962cbaeea41", func := "loop.example/g00344/laws.FnLongest", spec := "fnLongest", recurses := true, apart := false }
def FnLongestSaid : Prop := fnLongestRow.holds Try.pinned (OpenSpec.ofChange fnLongestSpec)

/-- ITS FALSE NEIGHBOUR: 'it returns false'. Refute it at one input. -/
def fnLongestWrong : ChangeSpec := { name := "fnLongest", fn := fun _ => fun
  | [d1, d2] => { results := [.lit (.bool false)], args := [d1, d2] }
  | _ => none }
def FnLongestWrongFalsely : Prop := fnLongestRow.holds Try.pinned (OpenSpec.ofChange fnLongestWrong)

/-- 'laws.FnTrieSteps': WHATEVER THE INPUT: true; the input reads as it did. -/
def fnTrieStepsSpec : ChangeSpec := { name := "fnTrieSteps", fn := fun _ => fun
  | [d1, d2] => { results := [.lit (.bool true)], args := [d1, d2] }
  | _ => none }
def fnTrieStepsRow : OpenClaim := { program := "ytofalilkephkpaa", sum := "be0581a89826436c8b14b3d07b69dad3dba8f28708b17b9e21297962cbaeea41", func := "loop.example/g00344/laws.FnTrieSteps", spec := "fnTrieSteps", recurses := true, apart := false }
def FnTrieStepsSaid : Prop := fnTrieStepsRow.holds Try.pinned (OpenSpec.ofChange fnTrieStepsSpec)

/-- ITS FALSE NEIGHBOUR: 'it returns false'. Refute it at one input. -/
def fnTrieStepsWrong : ChangeSpec := { name := "fnTrieSteps", fn := fun _ => fun
  | [d1, d2] => { results := [.lit (.bool false)], args := [d1, d2] }
  | _ => none }
def FnTrieStepsWrongFalsely : Prop := fnTrieStepsRow.holds Try.pinned (OpenSpec.ofChange fnTrieStepsWrong)

/-- 'laws.FnExactGoodAttrs': WHATEVER THE INPUT: true; the input reads as it did. -/
def fnExactGoodAttrsSpec : ChangeSpec := { name := "fnExactGoodAttrs", fn := fun _ => fun
  | [d] => { results := [.lit (.bool true)], args := [d] }
  | _ => none }
def fnExactGoodAttrsRow : OpenClaim := { program := "ytofalilkephkpaa", sum := "be0581a89826436c8b14b3d07b69dad3dba8f28708b17b9e21297962cbaeea41", func := "loop.example/g00344/laws.FnExactGoodAttrs", spec := "fnExactGoodAttrs", apart := false }
def FnExactGoodAttrsSaid : Prop := fnExactGoodAttrsRow.holds Try.pinned (OpenSpec.ofChange fnExactGoodAttrsSpec)

/-- ITS FALSE NEIGHBOUR: 'it returns false'. Refute it at one input. -/
def fnExactGoodAttrsWrong : ChangeSpec := { name := "fnExactGoodAttrs", fn := fun _ => fun
  | [d] => { results := [.lit (.bool false)], args := [d] }
  | _ => none }
def FnExactGoodAttrsWrongFalsely : Prop := fnExactGoodAttrsRow.holds Try.pinned (OpenSpec.ofChange fnExactGoodAttrsWrong)

/-- 'laws.FnExactGoodUpdate': WHATEVER THE INPUT: true; the input reads as it did. -/
def fnExactGoodUpdateSpec : ChangeSpec := { name := "fnExactGoodUpdate", fn := fun _ => fun
  | [d] => { results := [.lit (.bool true)], args := [d] }
  | _ => none }
def fnExactGoodUpdateRow : OpenClaim := { program := "ytofalilkephkpaa", sum := "be0581a89826436c8b14b3d07b69dad3dba8f28708b17b9e21297962cbaeea41", func := "loop.example/g00344/laws.FnExactGoodUpdate", spec := "fnExactGoodUpdate", apart := false }
def FnExactGoodUpdateSaid : Prop := fnExactGoodUpdateRow.holds Try.pinned (OpenSpec.ofChange fnExactGoodUpdateSpec)

/-- ITS FALSE NEIGHBOUR: 'it returns false'. Refute it at one input. -/
def fnExactGoodUpdateWrong : ChangeSpec := { name := "fnExactGoodUpdate", fn := fun _ => fun
  | [d] => { results := [.lit (.bool false)], args := [d] }
  | _ => none }
def FnExactGoodUpdateWrongFalsely : Prop := fnExactGoodUpdateRow.holds Try.pinned (OpenSpec.ofChange fnExactGoodUpdateWrong)

/-- 'laws.FnExactPrependPath': WHATEVER THE INPUT: true; the input reads as it did. -/
def fnExactPrependPathSpec : ChangeSpec := { name := "fnExactPrependPath", fn := fun _ => fun
  | [d1, d2, d3] => { results := [.lit (.bool true)], args := [d1, d2, d3] }
  | _ => none }
def fnExactPrependPathRow : OpenClaim := { program := "ytofalilkephkpaa", sum := "be0581a89826436c8b14b3d07b69dad3dba8f28708b17b9e21297962cbaeea41", func := "loop.example/g00344/laws.FnExactPrependPath", spec := "fnExactPrependPath", apart := false }
def FnExactPrependPathSaid : Prop := fnExactPrependPathRow.holds Try.pinned (OpenSpec.ofChange fnExactPrependPathSpec)

/-- ITS FALSE NEIGHBOUR: 'it returns false'. Refute it at one input. -/
def fnExactPrependPathWrong : ChangeSpec := { name := "fnExactPrependPath", fn := fun _ => fun
  | [d1, d2, d3] => { results := [.lit (.bool false)], args := [d1, d2, d3] }
  | _ => none }
def FnExactPrependPathWrongFalsely : Prop := fnExactPrependPathRow.holds Try.pinned (OpenSpec.ofChange fnExactPrependPathWrong)

/-- 'laws.FnExactPrefixBytes': WHATEVER THE INPUT: true; the input reads as it did. -/
def fnExactPrefixBytesSpec : ChangeSpec := { name := "fnExactPrefixBytes", fn := fun _ => fun
  | [d] => { results := [.lit (.bool true)], args := [d] }
  | _ => none }
def fnExactPrefixBytesRow : OpenClaim := { program := "ytofalilkephkpaa", sum := "be0581a89826436c8b14b3d07b69dad3dba8f28708b17b9e21297962cbaeea41", func := "loop.example/g00344/laws.FnExactPrefixBytes", spec := "fnExactPrefixBytes", apart := false }
def FnExactPrefixBytesSaid : Prop := fnExactPrefixBytesRow.holds Try.pinned (OpenSpec.ofChange fnExactPrefixBytesSpec)

/-- ITS FALSE NEIGHBOUR: 'it returns false'. Refute it at one input. -/
def fnExactPrefixBytesWrong : ChangeSpec := { name := "fnExactPrefixBytes", fn := fun _ => fun
  | [d] => { results := [.lit (.bool false)], args := [d] }
  | _ => none }
def FnExactPrefixBytesWrongFalsely : Prop := fnExactPrefixBytesRow.holds Try.pinned (OpenSpec.ofChange fnExactPrefixBytesWrong)

/-- 'laws.FnExactTakePrefix': WHATEVER THE INPUT: true; the input reads as it did. -/
def fnExactTakePrefixSpec : ChangeSpec := { name := "fnExactTakePrefix", fn := fun _ => fun
  | [d1, d2] => { results := [.lit (.bool true)], args := [d1, d2] }
  | _ => none }
def fnExactTakePrefixRow : OpenClaim := { program := "ytofalilkephkpaa", sum := "be0581a89826436c8b14b3d07b69dad3dba8f28708b17b9e21297962cbaeea41", func := "loop.example/g00344/laws.FnExactTakePrefix", spec := "fnExactTakePrefix", apart := false }
def FnExactTakePrefixSaid : Prop := fnExactTakePrefixRow.holds Try.pinned (OpenSpec.ofChange fnExactTakePrefixSpec)

/-- ITS FALSE NEIGHBOUR: 'it returns false'. Refute it at one input. -/
def fnExactTakePrefixWrong : ChangeSpec := { name := "fnExactTakePrefix", fn := fun _ => fun
  | [d1, d2] => { results := [.lit (.bool false)], args := [d1, d2] }
  | _ => none }
def FnExactTakePrefixWrongFalsely : Prop := fnExactTakePrefixRow.holds Try.pinned (OpenSpec.ofChange fnExactTakePrefixWrong)

/-- 'laws.FnExactUpdateBytes': WHATEVER THE INPUT: true; the input reads as it did. -/
def fnExactUpdateBytesSpec : ChangeSpec := { name := "fnExactUpdateBytes", fn := fun _ => fun
  | [d] => { results := [.lit (.bool true)], args := [d] }
  | _ => none }
def fnExactUpdateBytesRow : OpenClaim := { program := "ytofalilkephkpaa", sum := "be0581a89826436c8b14b3d07b69dad3dba8f28708b17b9e21297962cbaeea41", func := "loop.example/g00344/laws.FnExactUpdateBytes", spec := "fnExactUpdateBytes", apart := false }
def FnExactUpdateBytesSaid : Prop := fnExactUpdateBytesRow.holds Try.pinned (OpenSpec.ofChange fnExactUpdateBytesSpec)

/-- ITS FALSE NEIGHBOUR: 'it returns false'. Refute it at one input. -/
def fnExactUpdateBytesWrong : ChangeSpec := { name := "fnExactUpdateBytes", fn := fun _ => fun
  | [d] => { results := [.lit (.bool false)], args := [d] }
  | _ => none }
def FnExactUpdateBytesWrongFalsely : Prop := fnExactUpdateBytesRow.holds Try.pinned (OpenSpec.ofChange fnExactUpdateBytesWrong)

/-- 'laws.FnExactReadUpdate': WHATEVER THE INPUT: true; the input reads as it did. -/
def fnExactReadUpdateSpec : ChangeSpec := { name := "fnExactReadUpdate", fn := fun _ => fun
  | [d] => { results := [.lit (.bool true)], args := [d] }
  | _ => none }
def fnExactReadUpdateRow : OpenClaim := { program := "ytofalilkephkpaa", sum := "be0581a89826436c8b14b3d07b69dad3dba8f28708b17b9e21297962cbaeea41", func := "loop.example/g00344/laws.FnExactReadUpdate", spec := "fnExactReadUpdate", apart := false }
def FnExactReadUpdateSaid : Prop := fnExactReadUpdateRow.holds Try.pinned (OpenSpec.ofChange fnExactReadUpdateSpec)

/-- ITS FALSE NEIGHBOUR: 'it returns false'. Refute it at one input. -/
def fnExactReadUpdateWrong : ChangeSpec := { name := "fnExactReadUpdate", fn := fun _ => fun
  | [d] => { results := [.lit (.bool false)], args := [d] }
  | _ => none }
def FnExactReadUpdateWrongFalsely : Prop := fnExactReadUpdateRow.holds Try.pinned (OpenSpec.ofChange fnExactReadUpdateWrong)

/-- 'laws.FnUpdates': WHATEVER THE INPUT: true; the input reads as it did. -/
def fnUpdatesSpec : ChangeSpec := { name := "fnUpdates", fn := fun _ => fun
  | [d1, d2] => { results := [.lit (.bool true)], args := [d1, d2] }
  | _ => none }
def fnUpdatesRow : OpenClaim := { program := "ytofalilkephkpaa", sum := "be0581a89826436c8b14b3d07b69dad3dba8f28708b17b9e21297962cbaeea41", func := "loop.example/g00344/laws.FnUpdates", spec := "fnUpdates", apart := false }
def FnUpdatesSaid : Prop := fnUpdatesRow.holds Try.pinned (OpenSpec.ofChange fnUpdatesSpec)

/-- ITS FALSE NEIGHBOUR: 'it returns false'. Refute it at one input. -/
def fnUpdatesWrong : ChangeSpec := { name := "fnUpdates", fn := fun _ => fun
  | [d1, d2] => { results := [.lit (.bool false)], args := [d1, d2] }
  | _ => none }
def FnUpdatesWrongFalsely : Prop := fnUpdatesRow.holds Try.pinned (OpenSpec.ofChange fnUpdatesWrong)

/-- 'laws.FnPrepend': WHATEVER THE INPUT: true; the input reads as it did. -/
def fnPrependSpec : ChangeSpec := { name := "fnPrepend", fn := fun _ => fun
  | [d1, d2] => { results := [.lit (.bool true)], args := [d1, d2] }
  | _ => none }
def fnPrependRow : OpenClaim := { program := "ytofalilkephkpaa", sum := "be0581a89826436c8b14b3d07b69dad3dba8f28708b17b9e21297962cbaeea41", func := "loop.example/g00344/laws.FnPrepend", spec := "fnPrepend", apart := false }
def FnPrependSaid : Prop := fnPrependRow.holds Try.pinned (OpenSpec.ofChange fnPrependSpec)

/-- ITS FALSE NEIGHBOUR: 'it returns false'. Refute it at one input. -/
def fnPrependWrong : ChangeSpec := { name := "fnPrepend", fn := fun _ => fun
  | [d1, d2] => { results := [.lit (.bool false)], args := [d1, d2] }
  | _ => none }
def FnPrependWrongFalsely : Prop := fnPrependRow.holds Try.pinned (OpenSpec.ofChange fnPrependWrong)

/- THE SECOND FORM. 'bulk': how many values and letters a reading holds, each counted each time it is reached (what is shared counts as often as it is met; a slice's spare places count too). A statement '..UptoSaid' is the law's where the arguments, and the package variables that the reading takes, are together of bulk at most 1048576: NARROWER than '..Said'. Prove '..Said' where nothing that the law and all that it calls make is longer than what came in: it says more and counts as full. Else prove '..UptoSaid'. A law counts once. -/
mutual
def uptoBulk {H : Type} : DataW H → Nat
  | .lit (.string bytes) => bytes.length + 1
  | .lit _ => 1
  | .nil => 1
  | .ptr d => uptoBulk d + 1
  | .slice elems spare => uptoBulkAll elems + uptoBulkAll spare + 1
  | .agg parts => uptoBulkAll parts + 1
  | .iface _ d => uptoBulk d + 1
  | .map entries => uptoBulkEntries entries + 1
  | .held _ => 1
def uptoBulkAll {H : Type} : List (DataW H) → Nat
  | [] => 0
  | d :: r => uptoBulk d + uptoBulkAll r
def uptoBulkEntries {H : Type} : List (Lit × DataW H) → Nat
  | [] => 0
  | x :: r => uptoBulkEntry x + uptoBulkEntries r
def uptoBulkEntry {H : Type} : Lit × DataW H → Nat
  | (.string bytes, d) => bytes.length + uptoBulk d + 1
  | (_, d) => uptoBulk d + 1
 end
def uptoSmall : (H : Type) → List (DataW H) → Bool := fun _ ds => decide (uptoBulkAll ds ≤ 1048576)
def OpenSpec.upto (s : _root_.Go.ChangeSpec) : _root_.Go.OpenSpec := { _root_.Go.OpenSpec.ofChange s with cond := some uptoSmall }

/-- 'laws.FnFewest', WHERE WHAT IT READS IS OF BULK AT MOST 1048576: true; the input reads as it did. -/
def fnFewestUptoRow : OpenClaim := { program := "ytofalilkephkpaa", sum := "be0581a89826436c8b14b3d07b69dad3dba8f28708b17b9e21297962cbaeea41", func := "loop.example/g00344/laws.FnFewest", spec := "fnFewest", unfollowed := true, recurses := true, apart := false, narrowed := true }
def FnFewestUptoSaid : Prop := fnFewestUptoRow.holds Try.pinned (OpenSpec.upto fnFewestSpec)

/-- 'laws.FnLongest', WHERE WHAT IT READS IS OF BULK AT MOST 1048576: true; the input reads as it did. -/
def fnLongestUptoRow : OpenClaim := { program := "ytofalilkephkpaa", sum := "be0581a89826436c8b14b3d07b69dad3dba8f28708b17b9e21297962cbaeea41", func := "loop.example/g00344/laws.FnLongest", spec := "fnLongest", recurses := true, apart := false, narrowed := true }
def FnLongestUptoSaid : Prop := fnLongestUptoRow.holds Try.pinned (OpenSpec.upto fnLongestSpec)

/-- 'laws.FnTrieSteps', WHERE WHAT IT READS IS OF BULK AT MOST 1048576: true; the input reads as it did. -/
def fnTrieStepsUptoRow : OpenClaim := { program := "ytofalilkephkpaa", sum := "be0581a89826436c8b14b3d07b69dad3dba8f28708b17b9e21297962cbaeea41", func := "loop.example/g00344/laws.FnTrieSteps", spec := "fnTrieSteps", recurses := true, apart := false, narrowed := true }
def FnTrieStepsUptoSaid : Prop := fnTrieStepsUptoRow.holds Try.pinned (OpenSpec.upto fnTrieStepsSpec)

/-- 'laws.FnExactGoodAttrs', WHERE WHAT IT READS IS OF BULK AT MOST 1048576: true; the input reads as it did. -/
def fnExactGoodAttrsUptoRow : OpenClaim := { program := "ytofalilkephkpaa", sum := "be0581a89826436c8b14b3d07b69dad3dba8f28708b17b9e21297962cbaeea41", func := "loop.example/g00344/laws.FnExactGoodAttrs", spec := "fnExactGoodAttrs", apart := false, narrowed := true }
def FnExactGoodAttrsUptoSaid : Prop := fnExactGoodAttrsUptoRow.holds Try.pinned (OpenSpec.upto fnExactGoodAttrsSpec)

/-- 'laws.FnExactGoodUpdate', WHERE WHAT IT READS IS OF BULK AT MOST 1048576: true; the input reads as it did. -/
def fnExactGoodUpdateUptoRow : OpenClaim := { program := "ytofalilkephkpaa", sum := "be0581a89826436c8b14b3d07b69dad3dba8f28708b17b9e21297962cbaeea41", func := "loop.example/g00344/laws.FnExactGoodUpdate", spec := "fnExactGoodUpdate", apart := false, narrowed := true }
def FnExactGoodUpdateUptoSaid : Prop := fnExactGoodUpdateUptoRow.holds Try.pinned (OpenSpec.upto fnExactGoodUpdateSpec)

/-- 'laws.FnExactPrependPath', WHERE WHAT IT READS IS OF BULK AT MOST 1048576: true; the input reads as it did. -/
def fnExactPrependPathUptoRow : OpenClaim := { program := "ytofalilkephkpaa", sum := "be0581a89826436c8b14b3d07b69dad3dba8f28708b17b9e21297962cbaeea41", func := "loop.example/g00344/laws.FnExactPrependPath", spec := "fnExactPrependPath", apart := false, narrowed := true }
def FnExactPrependPathUptoSaid : Prop := fnExactPrependPathUptoRow.holds Try.pinned (OpenSpec.upto fnExactPrependPathSpec)

/-- 'laws.FnExactPrefixBytes', WHERE WHAT IT READS IS OF BULK AT MOST 1048576: true; the input reads as it did. -/
def fnExactPrefixBytesUptoRow : OpenClaim := { program := "ytofalilkephkpaa", sum := "be0581a89826436c8b14b3d07b69dad3dba8f28708b17b9e21297962cbaeea41", func := "loop.example/g00344/laws.FnExactPrefixBytes", spec := "fnExactPrefixBytes", apart := false, narrowed := true }
def FnExactPrefixBytesUptoSaid : Prop := fnExactPrefixBytesUptoRow.holds Try.pinned (OpenSpec.upto fnExactPrefixBytesSpec)

/-- 'laws.FnExactTakePrefix', WHERE WHAT IT READS IS OF BULK AT MOST 1048576: true; the input reads as it did. -/
def fnExactTakePrefixUptoRow : OpenClaim := { program := "ytofalilkephkpaa", sum := "be0581a89826436c8b14b3d07b69dad3dba8f28708b17b9e21297962cbaeea41", func := "loop.example/g00344/laws.FnExactTakePrefix", spec := "fnExactTakePrefix", apart := false, narrowed := true }
def FnExactTakePrefixUptoSaid : Prop := fnExactTakePrefixUptoRow.holds Try.pinned (OpenSpec.upto fnExactTakePrefixSpec)

/-- 'laws.FnExactUpdateBytes', WHERE WHAT IT READS IS OF BULK AT MOST 1048576: true; the input reads as it did. -/
def fnExactUpdateBytesUptoRow : OpenClaim := { program := "ytofalilkephkpaa", sum := "be0581a89826436c8b14b3d07b69dad3dba8f28708b17b9e21297962cbaeea41", func := "loop.example/g00344/laws.FnExactUpdateBytes", spec := "fnExactUpdateBytes", apart := false, narrowed := true }
def FnExactUpdateBytesUptoSaid : Prop := fnExactUpdateBytesUptoRow.holds Try.pinned (OpenSpec.upto fnExactUpdateBytesSpec)

/-- 'laws.FnExactReadUpdate', WHERE WHAT IT READS IS OF BULK AT MOST 1048576: true; the input reads as it did. -/
def fnExactReadUpdateUptoRow : OpenClaim := { program := "ytofalilkephkpaa", sum := "be0581a89826436c8b14b3d07b69dad3dba8f28708b17b9e21297962cbaeea41", func := "loop.example/g00344/laws.FnExactReadUpdate", spec := "fnExactReadUpdate", apart := false, narrowed := true }
def FnExactReadUpdateUptoSaid : Prop := fnExactReadUpdateUptoRow.holds Try.pinned (OpenSpec.upto fnExactReadUpdateSpec)

/-- 'laws.FnUpdates', WHERE WHAT IT READS IS OF BULK AT MOST 1048576: true; the input reads as it did. -/
def fnUpdatesUptoRow : OpenClaim := { program := "ytofalilkephkpaa", sum := "be0581a89826436c8b14b3d07b69dad3dba8f28708b17b9e21297962cbaeea41", func := "loop.example/g00344/laws.FnUpdates", spec := "fnUpdates", apart := false, narrowed := true }
def FnUpdatesUptoSaid : Prop := fnUpdatesUptoRow.holds Try.pinned (OpenSpec.upto fnUpdatesSpec)

/-- 'laws.FnPrepend', WHERE WHAT IT READS IS OF BULK AT MOST 1048576: true; the input reads as it did. -/
def fnPrependUptoRow : OpenClaim := { program := "ytofalilkephkpaa", sum := "be0581a89826436c8b14b3d07b69dad3dba8f28708b17b9e21297962cbaeea41", func := "loop.example/g00344/laws.FnPrepend", spec := "fnPrepend", apart := false, narrowed := true }
def FnPrependUptoSaid : Prop := fnPrependUptoRow.holds Try.pinned (OpenSpec.upto fnPrependSpec)

end Rows
end Go.Proofs.Ytofalilkephkpaa
