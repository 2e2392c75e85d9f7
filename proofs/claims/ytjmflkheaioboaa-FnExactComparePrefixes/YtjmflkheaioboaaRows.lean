/-
  No cell of these rows narrows 'for every input' (looked for: loops, veiled, ifaces, maps, wideKeys, modest, calm, conditions, laid).
  DERIVED. THE GIVEN ROWS OF THIS SEAT. 8 by the template 'for every input the law returns true; each argument reads behind the call as it read before'; 0 by the template 'total and deterministic' (their statements: YtjmflkheaioboaaTotals.lean).
  GIVEN WITH THE SEED: the statements are not yours to turn. If you find one false, say at which input.
  Laid BY PROGRAM, IN A SANDBOX (cutbox-rows.mjs): the forced cells as the released guide's own fill.sh prints them over the translation 4186413281341760… (all of the seat's roots in one cut). By AI agents, Wed Nov 11 2026. No macro, syntax, notation, axiom, sorry.
-/
import Derived.Test.YtjmflkheaioboaaChecked
import GoSem.Claim
import GoSem.ClaimJoined
import GoSem.ClaimMapViews
import Derived.JoinedTies
import Derived.KernelRfl
namespace Go.Proofs.Ytjmflkheaioboaa
/- THE CELL 'sum', in the pinned program and in every row, IS THE sha256 OF THE DUMP (.gsa) THAT YtjmflkheaioboaaProg.lean LOADS. Nothing in Lean hashes anything: it is a label: what it is worth is what the hold of that sum in a sandbox is worth. -/
noncomputable def Try.pinned : Pinned := { name := "ytjmflkheaioboaa", sum := "41864132813417604288f5b65e070ef4e1f8ee334f5b52b39bb1702cd541b41b", checked := Try.checked }
namespace Rows
def none {H : Type} : Left H := { results := [], args := [] }

/-- 'laws.FnLongest': WHATEVER THE INPUT: true; the input reads as it did. -/
def fnLongestSpec : ChangeSpec := { name := "fnLongest", fn := fun _ => fun
  | [d1, d2] => { results := [.lit (.bool true)], args := [d1, d2] }
  | _ => none }
def fnLongestRow : OpenClaim := { program := "ytjmflkheaioboaa", sum := "41864132813417604288f5b65e070ef4e1f8ee334f5b52b39bb1702cd541b41b", func := "loop.example/g00344/laws.FnLongest", spec := "fnLongest", recurses := true, apart := false }
def FnLongestSaid : Prop := fnLongestRow.holds Try.pinned (OpenSpec.ofChange fnLongestSpec)

/-- ITS FALSE NEIGHBOUR: 'it returns false'. Refute it at one input. -/
def fnLongestWrong : ChangeSpec := { name := "fnLongest", fn := fun _ => fun
  | [d1, d2] => { results := [.lit (.bool false)], args := [d1, d2] }
  | _ => none }
def FnLongestWrongFalsely : Prop := fnLongestRow.holds Try.pinned (OpenSpec.ofChange fnLongestWrong)

/-- 'laws.FnTrieSteps': WHATEVER THE INPUT: true; the input reads as it did. -/
def fnTrieStepsSpec : ChangeSpec := { name := "fnTrieSteps", fn := fun _ => fun
  | [d1, d2] => { results := [.lit (.bool true)], args := [d1, d2] }
  | _ => none }
def fnTrieStepsRow : OpenClaim := { program := "ytjmflkheaioboaa", sum := "41864132813417604288f5b65e070ef4e1f8ee334f5b52b39bb1702cd541b41b", func := "loop.example/g00344/laws.FnTrieSteps", spec := "fnTrieSteps", recurses := true, apart := false }
def FnTrieStepsSaid : Prop := fnTrieStepsRow.holds Try.pinned (OpenSpec.ofChange fnTrieStepsSpec)

/-- ITS FALSE NEIGHBOUR: 'it returns false'. Refute it at one input. -/
def fnTrieStepsWrong : ChangeSpec := { name := "fnTrieSteps", fn := fun _ => fun
  | [d1, d2] => { results := [.lit (.bool false)], args := [d1, d2] }
  | _ => none }
def FnTrieStepsWrongFalsely : Prop := fnTrieStepsRow.holds Try.pinned (OpenSpec.ofChange fnTrieStepsWrong)

/-- 'laws.FnExactGoodPrefix': WHATEVER THE INPUT: true; the input reads as it did. -/
def fnExactGoodPrefixSpec : ChangeSpec := { name := "fnExactGoodPrefix", fn := fun _ => fun
  | [d] => { results := [.lit (.bool true)], args := [d] }
  | _ => none }
def fnExactGoodPrefixRow : OpenClaim := { program := "ytjmflkheaioboaa", sum := "41864132813417604288f5b65e070ef4e1f8ee334f5b52b39bb1702cd541b41b", func := "loop.example/g00344/laws.FnExactGoodPrefix", spec := "fnExactGoodPrefix", apart := false }
def FnExactGoodPrefixSaid : Prop := fnExactGoodPrefixRow.holds Try.pinned (OpenSpec.ofChange fnExactGoodPrefixSpec)

/-- ITS FALSE NEIGHBOUR: 'it returns false'. Refute it at one input. -/
def fnExactGoodPrefixWrong : ChangeSpec := { name := "fnExactGoodPrefix", fn := fun _ => fun
  | [d] => { results := [.lit (.bool false)], args := [d] }
  | _ => none }
def FnExactGoodPrefixWrongFalsely : Prop := fnExactGoodPrefixRow.holds Try.pinned (OpenSpec.ofChange fnExactGoodPrefixWrong)

/-- 'laws.FnExactPrefixHas': WHATEVER THE INPUT: true; the input reads as it did. -/
def fnExactPrefixHasSpec : ChangeSpec := { name := "fnExactPrefixHas", fn := fun _ => fun
  | [d1, d2] => { results := [.lit (.bool true)], args := [d1, d2] }
  | _ => none }
def fnExactPrefixHasRow : OpenClaim := { program := "ytjmflkheaioboaa", sum := "41864132813417604288f5b65e070ef4e1f8ee334f5b52b39bb1702cd541b41b", func := "loop.example/g00344/laws.FnExactPrefixHas", spec := "fnExactPrefixHas", apart := false }
def FnExactPrefixHasSaid : Prop := fnExactPrefixHasRow.holds Try.pinned (OpenSpec.ofChange fnExactPrefixHasSpec)

/-- ITS FALSE NEIGHBOUR: 'it returns false'. Refute it at one input. -/
def fnExactPrefixHasWrong : ChangeSpec := { name := "fnExactPrefixHas", fn := fun _ => fun
  | [d1, d2] => { results := [.lit (.bool false)], args := [d1, d2] }
  | _ => none }
def FnExactPrefixHasWrongFalsely : Prop := fnExactPrefixHasRow.holds Try.pinned (OpenSpec.ofChange fnExactPrefixHasWrong)

/-- 'laws.FnExactHasAddr': WHATEVER THE INPUT: true; the input reads as it did. -/
def fnExactHasAddrSpec : ChangeSpec := { name := "fnExactHasAddr", fn := fun _ => fun
  | [d1, d2] => { results := [.lit (.bool true)], args := [d1, d2] }
  | _ => none }
def fnExactHasAddrRow : OpenClaim := { program := "ytjmflkheaioboaa", sum := "41864132813417604288f5b65e070ef4e1f8ee334f5b52b39bb1702cd541b41b", func := "loop.example/g00344/laws.FnExactHasAddr", spec := "fnExactHasAddr", apart := false }
def FnExactHasAddrSaid : Prop := fnExactHasAddrRow.holds Try.pinned (OpenSpec.ofChange fnExactHasAddrSpec)

/-- ITS FALSE NEIGHBOUR: 'it returns false'. Refute it at one input. -/
def fnExactHasAddrWrong : ChangeSpec := { name := "fnExactHasAddr", fn := fun _ => fun
  | [d1, d2] => { results := [.lit (.bool false)], args := [d1, d2] }
  | _ => none }
def FnExactHasAddrWrongFalsely : Prop := fnExactHasAddrRow.holds Try.pinned (OpenSpec.ofChange fnExactHasAddrWrong)

/-- 'laws.FnExactComparePrefixes': WHATEVER THE INPUT: true; the input reads as it did. -/
def fnExactComparePrefixesSpec : ChangeSpec := { name := "fnExactComparePrefixes", fn := fun _ => fun
  | [d1, d2] => { results := [.lit (.bool true)], args := [d1, d2] }
  | _ => none }
def fnExactComparePrefixesRow : OpenClaim := { program := "ytjmflkheaioboaa", sum := "41864132813417604288f5b65e070ef4e1f8ee334f5b52b39bb1702cd541b41b", func := "loop.example/g00344/laws.FnExactComparePrefixes", spec := "fnExactComparePrefixes", apart := false }
def FnExactComparePrefixesSaid : Prop := fnExactComparePrefixesRow.holds Try.pinned (OpenSpec.ofChange fnExactComparePrefixesSpec)

/-- ITS FALSE NEIGHBOUR: 'it returns false'. Refute it at one input. -/
def fnExactComparePrefixesWrong : ChangeSpec := { name := "fnExactComparePrefixes", fn := fun _ => fun
  | [d1, d2] => { results := [.lit (.bool false)], args := [d1, d2] }
  | _ => none }
def FnExactComparePrefixesWrongFalsely : Prop := fnExactComparePrefixesRow.holds Try.pinned (OpenSpec.ofChange fnExactComparePrefixesWrong)

/-- 'laws.FnExactParentOf': WHATEVER THE INPUT: true; the input reads as it did. -/
def fnExactParentOfSpec : ChangeSpec := { name := "fnExactParentOf", fn := fun _ => fun
  | [d] => { results := [.lit (.bool true)], args := [d] }
  | _ => none }
def fnExactParentOfRow : OpenClaim := { program := "ytjmflkheaioboaa", sum := "41864132813417604288f5b65e070ef4e1f8ee334f5b52b39bb1702cd541b41b", func := "loop.example/g00344/laws.FnExactParentOf", spec := "fnExactParentOf", apart := false }
def FnExactParentOfSaid : Prop := fnExactParentOfRow.holds Try.pinned (OpenSpec.ofChange fnExactParentOfSpec)

/-- ITS FALSE NEIGHBOUR: 'it returns false'. Refute it at one input. -/
def fnExactParentOfWrong : ChangeSpec := { name := "fnExactParentOf", fn := fun _ => fun
  | [d] => { results := [.lit (.bool false)], args := [d] }
  | _ => none }
def FnExactParentOfWrongFalsely : Prop := fnExactParentOfRow.holds Try.pinned (OpenSpec.ofChange fnExactParentOfWrong)

/-- 'laws.FnExactHalvesOf': WHATEVER THE INPUT: true; the input reads as it did. -/
def fnExactHalvesOfSpec : ChangeSpec := { name := "fnExactHalvesOf", fn := fun _ => fun
  | [d] => { results := [.lit (.bool true)], args := [d] }
  | _ => none }
def fnExactHalvesOfRow : OpenClaim := { program := "ytjmflkheaioboaa", sum := "41864132813417604288f5b65e070ef4e1f8ee334f5b52b39bb1702cd541b41b", func := "loop.example/g00344/laws.FnExactHalvesOf", spec := "fnExactHalvesOf", apart := false }
def FnExactHalvesOfSaid : Prop := fnExactHalvesOfRow.holds Try.pinned (OpenSpec.ofChange fnExactHalvesOfSpec)

/-- ITS FALSE NEIGHBOUR: 'it returns false'. Refute it at one input. -/
def fnExactHalvesOfWrong : ChangeSpec := { name := "fnExactHalvesOf", fn := fun _ => fun
  | [d] => { results := [.lit (.bool false)], args := [d] }
  | _ => none }
def FnExactHalvesOfWrongFalsely : Prop := fnExactHalvesOfRow.holds Try.pinned (OpenSpec.ofChange fnExactHalvesOfWrong)

/- THE SECOND FORM. 'bulk': how many values and letters a reading holds, each counted each time it is reached (what is shared counts as often as it is met; a slice's spare places count too). A statement '..UptoSaid' is the law's where the arguments, and the package variables that the reading takes, are together of bulk at most 1048576: NARROWER than '..Said'. Prove '..Said' where nothing that the law and all that it calls make is longer than what came in: it says more and counts as full. Else prove '..UptoSaid'. A law counts once. -/
mutual
def uptoBulk {H : Type} : DataW H → Nat
  | .lit (.string bytes) => bytes.length + 1
  | .lit _ => 1
  | .nil => 1
  | .ptr d => uptoBulk d + 1
  | .slice elems spare => uptoBulkAll elems + uptoBulkAll spare + 1
  | .agg parts => uptoBulkAll parts + 1
  | .iface _ d => uptoBulk d + 1
  | .map entries => uptoBulkEntries entries + 1
  | .held _ => 1
def uptoBulkAll {H : Type} : List (DataW H) → Nat
  | [] => 0
  | d :: r => uptoBulk d + uptoBulkAll r
def uptoBulkEntries {H : Type} : List (Lit × DataW H) → Nat
  | [] => 0
  | x :: r => uptoBulkEntry x + uptoBulkEntries r
def uptoBulkEntry {H : Type} : Lit × DataW H → Nat
  | (.string bytes, d) => bytes.length + uptoBulk d + 1
  | (_, d) => uptoBulk d + 1
 end
def uptoSmall : (H : Type) → List (DataW H) → Bool := fun _ ds => decide (uptoBulkAll ds ≤ 1048576)
def OpenSpec.upto (s : _root_.Go.ChangeSpec) : _root_.Go.OpenSpec := { _root_.Go.OpenSpec.ofChange s with cond := some uptoSmall }

/-- 'laws.FnLongest', WHERE WHAT IT READS IS OF BULK AT MOST 1048576: true; the input reads as it did. -/
def fnLongestUptoRow : OpenClaim := { program := "ytjmflkheaioboaa", sum := "41864132813417604288f5b65e070ef4e1f8ee334f5b52b39bb1702cd541b41b", func := "loop.example/g00344/laws.FnLongest", spec := "fnLongest", recurses := true, apart := false, narrowed := true }
def FnLongestUptoSaid : Prop := fnLongestUptoRow.holds Try.pinned (OpenSpec.upto fnLongestSpec)

/-- 'laws.FnTrieSteps', WHERE WHAT IT READS IS OF BULK AT MOST 1048576: true; the input reads as it did. -/
def fnTrieStepsUptoRow : OpenClaim := { program := "ytjmflkheaioboaa", sum := "41864132813417604288f5b65e070ef4e1f8ee334f5b52b39bb1702cd541b41b", func := "loop.example/g00344/laws.FnTrieSteps", spec := "fnTrieSteps", recurses := true, apart := false, narrowed := true }
def FnTrieStepsUptoSaid : Prop := fnTrieStepsUptoRow.holds Try.pinned (OpenSpec.upto fnTrieStepsSpec)

/-- 'laws.FnExactGoodPrefix', WHERE WHAT IT READS IS OF BULK AT MOST 1048576: true; the input reads as it did. -/
def fnExactGoodPrefixUptoRow : OpenClaim := { program := "ytjmflkheaioboaa", sum := "41864132813417604288f5b65e070ef4e1f8ee334f5b52b39bb1702cd541b41b", func := "loop.example/g00344/laws.FnExactGoodPrefix", spec := "fnExactGoodPrefix", apart := false, narrowed := true }
def FnExactGoodPrefixUptoSaid : Prop := fnExactGoodPrefixUptoRow.holds Try.pinned (OpenSpec.upto fnExactGoodPrefixSpec)

/-- 'laws.FnExactPrefixHas', WHERE WHAT IT READS IS OF BULK AT MOST 1048576: true; the input reads as it did. -/
def fnExactPrefixHasUptoRow : OpenClaim := { program := "ytjmflkheaioboaa", sum := "41864132813417604288f5b65e070ef4e1f8ee334f5b52b39bb1702cd541b41b", func := "loop.example/g00344/laws.FnExactPrefixHas", spec := "fnExactPrefixHas", apart := false, narrowed := true }
def FnExactPrefixHasUptoSaid : Prop := fnExactPrefixHasUptoRow.holds Try.pinned (OpenSpec.upto fnExactPrefixHasSpec)

/-- 'laws.FnExactHasAddr', WHERE WHAT IT READS IS OF BULK AT MOST 1048576: true; the input reads as it did. -/
def fnExactHasAddrUptoRow : OpenClaim := { program := "ytjmflkheaioboaa", sum := "41864132813417604288f5b65e070ef4e1f8ee334f5b52b39bb1702cd541b41b", func := "loop.example/g00344/laws.FnExactHasAddr", spec := "fnExactHasAddr", apart := false, narrowed := true }
def FnExactHasAddrUptoSaid : Prop := fnExactHasAddrUptoRow.holds Try.pinned (OpenSpec.upto fnExactHasAddrSpec)

/-- 'laws.FnExactComparePrefixes', WHERE WHAT IT READS IS OF BULK AT MOST 1048576: true; the input reads as it did. -/
def fnExactComparePrefixesUptoRow : OpenClaim := { program := "ytjmflkheaioboaa", sum := "41864132813417604288f5b65e070ef4e1f8ee334f5b52b39bb1702cd541b41b", func := "loop.example/g00344/laws.FnExactComparePrefixes", spec := "fnExactComparePrefixes", apart := false, narrowed := true }
def FnExactComparePrefixesUptoSaid : Prop := fnExactComparePrefixesUptoRow.holds Try.pinned (OpenSpec.upto fnExactComparePrefixesSpec)

/-- 'laws.FnExactParentOf', WHERE WHAT IT READS IS OF BULK AT MOST 1048576: true; the input reads as it did. -/
def fnExactParentOfUptoRow : OpenClaim := { program := "ytjmflkheaioboaa", sum := "41864132813417604288f5b65e070ef4e1f8ee334f5b52b39bb1702cd541b41b", func := "loop.example/g00344/laws.FnExactParentOf", spec := "fnExactParentOf", apart := false, narrowed := true }
def FnExactParentOfUptoSaid : Prop := fnExactParentOfUptoRow.holds Try.pinned (OpenSpec.upto fnExactParentOfSpec)

/-- 'laws.FnExactHalvesOf', WHERE WHAT IT READS IS OF BULK AT MOST 1048576: true; the input reads as it did. -/
def fnExactHalvesOfUptoRow : OpenClaim := { program := "ytjmflkheaioboaa", sum := "41864132813417604288f5b65e070ef4e1f8ee334f5b52b39bb1702cd541b41b", func := "loop.example/g00344/laws.FnExactHalvesOf", spec := "fnExactHalvesOf", apart := false, narrowed := true }
def FnExactHalvesOfUptoSaid : Prop := fnExactHalvesOfUptoRow.holds Try.pinned (OpenSpec.upto fnExactHalvesOfSpec)

end Rows
end Go.Proofs.Ytjmflkheaioboaa
