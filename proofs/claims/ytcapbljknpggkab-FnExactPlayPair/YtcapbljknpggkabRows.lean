/-
  No cell of these rows narrows 'for every input' (looked for: loops, veiled, ifaces, maps, wideKeys, modest, calm, conditions, laid).
  DERIVED. THE GIVEN ROWS OF THIS SEAT. 2 by the template 'for every input the law returns true; each argument reads behind the call as it read before'; 0 by the template 'total and deterministic' (their statements: YtcapbljknpggkabTotals.lean).
  GIVEN WITH THE SEED: the statements are not yours to turn. If you find one false, say at which input.
  Laid BY PROGRAM, IN A SANDBOX (cutbox-rows.mjs): the forced cells as the released guide's own fill.sh prints them over the translation 1421b840c62018c6… (all of the seat's roots in one cut). By AI agents, Wed Nov 11 2026. No macro, syntax, notation, axiom, sorry.
-/
import Derived.Test.YtcapbljknpggkabChecked
import GoSem.Claim
import GoSem.ClaimJoined
import GoSem.ClaimMapViews
import Derived.JoinedTies
import Derived.KernelRfl
namespace Go.Proofs.Ytcapbljknpggkab
/- THE CELL 'sum', in the pinned program and in every row, IS THE sha256 OF THE DUMP (.gsa) THAT YtcapbljknpggkabProg.lean LOADS. Nothing in Lean hashes anything: it is a label: what it is worth is what the hold of that sum in a sandbox is worth. -/
noncomputable def Try.pinned : Pinned := { name := "ytcapbljknpggkab", sum := "1421b840c62018c6426146b10cc91c4e511f74b7aa900fea77387a803dc9cfdd", checked := Try.checked }
namespace Rows
def none {H : Type} : Left H := { results := [], args := [] }

/-- 'laws.FnExactPlayEvents': WHATEVER THE INPUT: true; the input reads as it did. -/
def fnExactPlayEventsSpec : ChangeSpec := { name := "fnExactPlayEvents", fn := fun _ => fun
  | [d1, d2] => { results := [.lit (.bool true)], args := [d1, d2] }
  | _ => none }
def fnExactPlayEventsRow : OpenClaim := { program := "ytcapbljknpggkab", sum := "1421b840c62018c6426146b10cc91c4e511f74b7aa900fea77387a803dc9cfdd", func := "loop.example/g00344/laws.FnExactPlayEvents", spec := "fnExactPlayEvents", unfollowed := true, recurses := true, apart := false }
def FnExactPlayEventsSaid : Prop := fnExactPlayEventsRow.holds Try.pinned (OpenSpec.ofChange fnExactPlayEventsSpec)

/-- ITS FALSE NEIGHBOUR: 'it returns false'. Refute it at one input. -/
def fnExactPlayEventsWrong : ChangeSpec := { name := "fnExactPlayEvents", fn := fun _ => fun
  | [d1, d2] => { results := [.lit (.bool false)], args := [d1, d2] }
  | _ => none }
def FnExactPlayEventsWrongFalsely : Prop := fnExactPlayEventsRow.holds Try.pinned (OpenSpec.ofChange fnExactPlayEventsWrong)

/-- 'laws.FnExactPlayPair': WHATEVER THE INPUT: true; the input reads as it did. -/
def fnExactPlayPairSpec : ChangeSpec := { name := "fnExactPlayPair", fn := fun _ => fun
  | [d1, d2, d3] => { results := [.lit (.bool true)], args := [d1, d2, d3] }
  | _ => none }
def fnExactPlayPairRow : OpenClaim := { program := "ytcapbljknpggkab", sum := "1421b840c62018c6426146b10cc91c4e511f74b7aa900fea77387a803dc9cfdd", func := "loop.example/g00344/laws.FnExactPlayPair", spec := "fnExactPlayPair", inPlace := ["sync/atomic.LoadInt64", "sync/atomic.AddInt64"], unfollowed := true, recurses := true, apart := false }
def FnExactPlayPairSaid : Prop := fnExactPlayPairRow.holds Try.pinned (OpenSpec.ofChange fnExactPlayPairSpec)

/-- ITS FALSE NEIGHBOUR: 'it returns false'. Refute it at one input. -/
def fnExactPlayPairWrong : ChangeSpec := { name := "fnExactPlayPair", fn := fun _ => fun
  | [d1, d2, d3] => { results := [.lit (.bool false)], args := [d1, d2, d3] }
  | _ => none }
def FnExactPlayPairWrongFalsely : Prop := fnExactPlayPairRow.holds Try.pinned (OpenSpec.ofChange fnExactPlayPairWrong)

/- THE SECOND FORM. 'bulk': how many values and letters a reading holds, each counted each time it is reached (what is shared counts as often as it is met; a slice's spare places count too). A statement '..UptoSaid' is the law's where the arguments, and the package variables that the reading takes, are together of bulk at most 1048576: NARROWER than '..Said'. Prove '..Said' where nothing that the law and all that it calls make is longer than what came in: it says more and counts as full. Else prove '..UptoSaid'. A law counts once. -/
mutual
def uptoBulk {H : Type} : DataW H → Nat
  | .lit (.string bytes) => bytes.length + 1
  | .lit _ => 1
  | .nil => 1
  | .ptr d => uptoBulk d + 1
  | .slice elems spare => uptoBulkAll elems + uptoBulkAll spare + 1
  | .agg parts => uptoBulkAll parts + 1
  | .iface _ d => uptoBulk d + 1
  | .map entries => uptoBulkEntries entries + 1
  | .held _ => 1
def uptoBulkAll {H : Type} : List (DataW H) → Nat
  | [] => 0
  | d :: r => uptoBulk d + uptoBulkAll r
def uptoBulkEntries {H : Type} : List (Lit × DataW H) → Nat
  | [] => 0
  | x :: r => uptoBulkEntry x + uptoBulkEntries r
def uptoBulkEntry {H : Type} : Lit × DataW H → Nat
  | (.string bytes, d) => bytes.length + uptoBulk d + 1
  | (_, d) => uptoBulk d + 1
 end
def uptoSmall : (H : Type) → List (DataW H) → Bool := fun _ ds => decide (uptoBulkAll ds ≤ 1048576)
def OpenSpec.upto (s : _root_.Go.ChangeSpec) : _root_.Go.OpenSpec := { _root_.Go.OpenSpec.ofChange s with cond := some uptoSmall }

/-- 'laws.FnExactPlayEvents', WHERE WHAT IT READS IS OF BULK AT MOST 1048576: true; the input reads as it did. -/
def fnExactPlayEventsUptoRow : OpenClaim := { program := "ytcapbljknpggkab", sum := "1421b840c62018c6426146b10cc91c4e511f74b7aa900fea77387a803dc9cfdd", func := "loop.example/g00344/laws.FnExactPlayEvents", spec := "fnExactPlayEvents", unfollowed := true, recurses := true, apart := false, narrowed := true }
def FnExactPlayEventsUptoSaid : Prop := fnExactPlayEventsUptoRow.holds Try.pinned (OpenSpec.upto fnExactPlayEventsSpec)

/-- 'laws.FnExactPlayPair', WHERE WHAT IT READS IS OF BULK AT MOST 1048576: true; the input reads as it did. -/
def fnExactPlayPairUptoRow : OpenClaim := { program := "ytcapbljknpggkab", sum := "1421b840c62018c6426146b10cc91c4e511f74b7aa900fea77387a803dc9cfdd", func := "loop.example/g00344/laws.FnExactPlayPair", spec := "fnExactPlayPair", inPlace := ["sync/atomic.LoadInt64", "sync/atomic.AddInt64"], unfollowed := true, recurses := true, apart := false, narrowed := true }
def FnExactPlayPairUptoSaid : Prop := fnExactPlayPairUptoRow.holds Try.pinned (OpenSpec.upto fnExactPlayPairSpec)

end Rows
end Go.Proofs.Ytcapbljknpggkab
