/-
  No cell of these rows narrows 'for every input' (looked for: loops, veiled, ifaces, maps, wideKeys, modest, calm, conditions, laid).
  DERIVED. THE GIVEN ROWS OF THIS SEAT. 4 by the template 'for every input the law returns true; each argument reads behind the call as it read before'; 0 by the template 'total and deterministic' (their statements: YtjjdfniemlcnnaaTotals.lean).
  GIVEN WITH THE SEED: the statements are not yours to turn. If you find one false, say at which input.
  Laid BY PROGRAM, IN A SANDBOX (cutbox-rows.mjs): the forced cells as the released guide's own fill.sh prints them over the translation 7491a7e4aed3612e… (all of the seat's roots in one cut). By AI agents, Wed Nov 11 2026. No macro, syntax, notation, axiom, sorry.
-/
import Derived.Test.YtjjdfniemlcnnaaChecked
import GoSem.Claim
import GoSem.ClaimJoined
import GoSem.ClaimMapViews
import Derived.JoinedTies
import Derived.KernelRfl
namespace Go.Proofs.Ytjjdfniemlcnnaa
/- THE CELL 'sum', in the pinned program and in every row, IS THE sha256 OF THE DUMP (.gsa) THAT YtjjdfniemlcnnaaProg.lean LOADS. Nothing in Lean hashes anything: it is a label: what it is worth is what the hold of that sum in a sandbox is worth. -/
noncomputable def Try.pinned : Pinned := { name := "ytjjdfniemlcnnaa", sum := "7491a7e4aed3612e9d34d119253bdb56fed903dc1cce0efdaff4cdb536f5a36d", checked := Try.checked }
namespace Rows
def none {H : Type} : Left H := { results := [], args := [] }

/-- 'laws.FnExactNewRib': WHATEVER THE INPUT: true; the input reads as it did. -/
def fnExactNewRibSpec : ChangeSpec := { name := "fnExactNewRib", fn := fun _ => fun
  | [d] => { results := [.lit (.bool true)], args := [d] }
  | _ => none }
def fnExactNewRibRow : OpenClaim := { program := "ytjjdfniemlcnnaa", sum := "7491a7e4aed3612e9d34d119253bdb56fed903dc1cce0efdaff4cdb536f5a36d", func := "loop.example/g00344/laws.FnExactNewRib", spec := "fnExactNewRib", apart := false }
def FnExactNewRibSaid : Prop := fnExactNewRibRow.holds Try.pinned (OpenSpec.ofChange fnExactNewRibSpec)

/-- ITS FALSE NEIGHBOUR: 'it returns false'. Refute it at one input. -/
def fnExactNewRibWrong : ChangeSpec := { name := "fnExactNewRib", fn := fun _ => fun
  | [d] => { results := [.lit (.bool false)], args := [d] }
  | _ => none }
def FnExactNewRibWrongFalsely : Prop := fnExactNewRibRow.holds Try.pinned (OpenSpec.ofChange fnExactNewRibWrong)

/-- 'laws.FnExactGoodRib': WHATEVER THE INPUT: true; the input reads as it did. -/
def fnExactGoodRibSpec : ChangeSpec := { name := "fnExactGoodRib", fn := fun _ => fun
  | [d] => { results := [.lit (.bool true)], args := [d] }
  | _ => none }
def fnExactGoodRibRow : OpenClaim := { program := "ytjjdfniemlcnnaa", sum := "7491a7e4aed3612e9d34d119253bdb56fed903dc1cce0efdaff4cdb536f5a36d", func := "loop.example/g00344/laws.FnExactGoodRib", spec := "fnExactGoodRib", apart := false }
def FnExactGoodRibSaid : Prop := fnExactGoodRibRow.holds Try.pinned (OpenSpec.ofChange fnExactGoodRibSpec)

/-- ITS FALSE NEIGHBOUR: 'it returns false'. Refute it at one input. -/
def fnExactGoodRibWrong : ChangeSpec := { name := "fnExactGoodRib", fn := fun _ => fun
  | [d] => { results := [.lit (.bool false)], args := [d] }
  | _ => none }
def FnExactGoodRibWrongFalsely : Prop := fnExactGoodRibRow.holds Try.pinned (OpenSpec.ofChange fnExactGoodRibWrong)

/-- 'laws.FnExactHeardFrom': WHATEVER THE INPUT: true; the input reads as it did. -/
def fnExactHeardFromSpec : ChangeSpec := { name := "fnExactHeardFrom", fn := fun _ => fun
  | [d1, d2] => { results := [.lit (.bool true)], args := [d1, d2] }
  | _ => none }
def fnExactHeardFromRow : OpenClaim := { program := "ytjjdfniemlcnnaa", sum := "7491a7e4aed3612e9d34d119253bdb56fed903dc1cce0efdaff4cdb536f5a36d", func := "loop.example/g00344/laws.FnExactHeardFrom", spec := "fnExactHeardFrom", apart := false }
def FnExactHeardFromSaid : Prop := fnExactHeardFromRow.holds Try.pinned (OpenSpec.ofChange fnExactHeardFromSpec)

/-- ITS FALSE NEIGHBOUR: 'it returns false'. Refute it at one input. -/
def fnExactHeardFromWrong : ChangeSpec := { name := "fnExactHeardFrom", fn := fun _ => fun
  | [d1, d2] => { results := [.lit (.bool false)], args := [d1, d2] }
  | _ => none }
def FnExactHeardFromWrongFalsely : Prop := fnExactHeardFromRow.holds Try.pinned (OpenSpec.ofChange fnExactHeardFromWrong)

/-- 'laws.FnExactBestAt': WHATEVER THE INPUT: true; the input reads as it did. -/
def fnExactBestAtSpec : ChangeSpec := { name := "fnExactBestAt", fn := fun _ => fun
  | [d1, d2] => { results := [.lit (.bool true)], args := [d1, d2] }
  | _ => none }
def fnExactBestAtRow : OpenClaim := { program := "ytjjdfniemlcnnaa", sum := "7491a7e4aed3612e9d34d119253bdb56fed903dc1cce0efdaff4cdb536f5a36d", func := "loop.example/g00344/laws.FnExactBestAt", spec := "fnExactBestAt", unfollowed := true, recurses := true, apart := false }
def FnExactBestAtSaid : Prop := fnExactBestAtRow.holds Try.pinned (OpenSpec.ofChange fnExactBestAtSpec)

/-- ITS FALSE NEIGHBOUR: 'it returns false'. Refute it at one input. -/
def fnExactBestAtWrong : ChangeSpec := { name := "fnExactBestAt", fn := fun _ => fun
  | [d1, d2] => { results := [.lit (.bool false)], args := [d1, d2] }
  | _ => none }
def FnExactBestAtWrongFalsely : Prop := fnExactBestAtRow.holds Try.pinned (OpenSpec.ofChange fnExactBestAtWrong)

/- THE SECOND FORM. 'bulk': how many values and letters a reading holds, each counted each time it is reached (what is shared counts as often as it is met; a slice's spare places count too). A statement '..UptoSaid' is the law's where the arguments, and the package variables that the reading takes, are together of bulk at most 1048576: NARROWER than '..Said'. Prove '..Said' where nothing that the law and all that it calls make is longer than what came in: it says more and counts as full. Else prove '..UptoSaid'. A law counts once. -/
mutual
def uptoBulk {H : Type} : DataW H → Nat
  | .lit (.string bytes) => bytes.length + 1
  | .lit _ => 1
  | .nil => 1
  | .ptr d => uptoBulk d + 1
  | .slice elems spare => uptoBulkAll elems + uptoBulkAll spare + 1
  | .agg parts => uptoBulkAll parts + 1
  | .iface _ d => uptoBulk d + 1
  | .map entries => uptoBulkEntries entries + 1
  | .held _ => 1
def uptoBulkAll {H : Type} : List (DataW H) → Nat
  | [] => 0
  | d :: r => uptoBulk d + uptoBulkAll r
def uptoBulkEntries {H : Type} : List (Lit × DataW H) → Nat
  | [] => 0
  | x :: r => uptoBulkEntry x + uptoBulkEntries r
def uptoBulkEntry {H : Type} : Lit × DataW H → Nat
  | (.string bytes, d) => bytes.length + uptoBulk d + 1
  | (_, d) => uptoBulk d + 1
 end
def uptoSmall : (H : Type) → List (DataW H) → Bool := fun _ ds => decide (uptoBulkAll ds ≤ 1048576)
def OpenSpec.upto (s : _root_.Go.ChangeSpec) : _root_.Go.OpenSpec := { _root_.Go.OpenSpec.ofChange s with cond := some uptoSmall }

/-- 'laws.FnExactNewRib', WHERE WHAT IT READS IS OF BULK AT MOST 1048576: true; the input reads as it did. -/
def fnExactNewRibUptoRow : OpenClaim := { program := "ytjjdfniemlcnnaa", sum := "7491a7e4aed3612e9d34d119253bdb56fed903dc1cce0efdaff4cdb536f5a36d", func := "loop.example/g00344/laws.FnExactNewRib", spec := "fnExactNewRib", apart := false, narrowed := true }
def FnExactNewRibUptoSaid : Prop := fnExactNewRibUptoRow.holds Try.pinned (OpenSpec.upto fnExactNewRibSpec)

/-- 'laws.FnExactGoodRib', WHERE WHAT IT READS IS OF BULK AT MOST 1048576: true; the input reads as it did. -/
def fnExactGoodRibUptoRow : OpenClaim := { program := "ytjjdfniemlcnnaa", sum := "7491a7e4aed3612e9d34d119253bdb56fed903dc1cce0efdaff4cdb536f5a36d", func := "loop.example/g00344/laws.FnExactGoodRib", spec := "fnExactGoodRib", apart := false, narrowed := true }
def FnExactGoodRibUptoSaid : Prop := fnExactGoodRibUptoRow.holds Try.pinned (OpenSpec.upto fnExactGoodRibSpec)

/-- 'laws.FnExactHeardFrom', WHERE WHAT IT READS IS OF BULK AT MOST 1048576: true; the input reads as it did. -/
def fnExactHeardFromUptoRow : OpenClaim := { program := "ytjjdfniemlcnnaa", sum := "7491a7e4aed3612e9d34d119253bdb56fed903dc1cce0efdaff4cdb536f5a36d", func := "loop.example/g00344/laws.FnExactHeardFrom", spec := "fnExactHeardFrom", apart := false, narrowed := true }
def FnExactHeardFromUptoSaid : Prop := fnExactHeardFromUptoRow.holds Try.pinned (OpenSpec.upto fnExactHeardFromSpec)

/-- 'laws.FnExactBestAt', WHERE WHAT IT READS IS OF BULK AT MOST 1048576: true; the input reads as it did. -/
def fnExactBestAtUptoRow : OpenClaim := { program := "ytjjdfniemlcnnaa", sum := "7491a7e4aed3612e9d34d119253bdb56fed903dc1cce0efdaff4cdb536f5a36d", func := "loop.example/g00344/laws.FnExactBestAt", spec := "fnExactBestAt", unfollowed := true, recurses := true, apart := false, narrowed := true }
def FnExactBestAtUptoSaid : Prop := fnExactBestAtUptoRow.holds Try.pinned (OpenSpec.upto fnExactBestAtSpec)

end Rows
end Go.Proofs.Ytjjdfniemlcnnaa
