/-
  No cell of these rows narrows 'for every input' (looked for: loops, veiled, ifaces, maps, wideKeys, modest, calm, conditions, laid).
  DERIVED. THE GIVEN ROWS OF THIS SEAT. 9 by the template 'for every input the law returns true; each argument reads behind the call as it read before'; 0 by the template 'total and deterministic' (their statements: YtdbaonpkdcmglaaTotals.lean).
  GIVEN WITH THE SEED: the statements are not yours to turn. If you find one false, say at which input.
  Laid BY PROGRAM, IN A SANDBOX (cutbox-rows.mjs): the forced cells as the released guide's own fill.sh prints them over the translation b86b6ce6d0e12791… (all of the seat's roots in one cut). By AI agents, Wed Nov 11 2026. No macro, syntax, notation, axiom, sorry.
-/
import Derived.Test.YtdbaonpkdcmglaaChecked
import GoSem.Claim
import GoSem.ClaimJoined
import GoSem.ClaimMapViews
import Derived.JoinedTies
import Derived.KernelRfl
namespace Go.Proofs.Ytdbaonpkdcmglaa
/- THE CELL 'sum', in the pinned program and in every row, IS THE sha256 OF THE DUMP (.gsa) THAT YtdbaonpkdcmglaaProg.lean LOADS. Nothing in Lean hashes anything: it is a label: what it is worth is what the hold of that sum in a sandbox is worth. -/
noncomputable def Try.pinned : Pinned := { name := "ytdbaonpkdcmglaa", sum := "b86b6ce6d0e12791c880f8411f139f1438677649477b80dd1b5305c1aed7f701", checked := Try.checked }
namespace Rows
def none {H : Type} : Left H := { results := [], args := [] }

/-- 'laws.FnExactGoodRegex': WHATEVER THE INPUT: true; the input reads as it did. -/
def fnExactGoodRegexSpec : ChangeSpec := { name := "fnExactGoodRegex", fn := fun _ => fun
  | [d] => { results := [.lit (.bool true)], args := [d] }
  | _ => none }
def fnExactGoodRegexRow : OpenClaim := { program := "ytdbaonpkdcmglaa", sum := "b86b6ce6d0e12791c880f8411f139f1438677649477b80dd1b5305c1aed7f701", func := "loop.example/g00344/laws.FnExactGoodRegex", spec := "fnExactGoodRegex", recurses := true, apart := false }
def FnExactGoodRegexSaid : Prop := fnExactGoodRegexRow.holds Try.pinned (OpenSpec.ofChange fnExactGoodRegexSpec)

/-- ITS FALSE NEIGHBOUR: 'it returns false'. Refute it at one input. -/
def fnExactGoodRegexWrong : ChangeSpec := { name := "fnExactGoodRegex", fn := fun _ => fun
  | [d] => { results := [.lit (.bool false)], args := [d] }
  | _ => none }
def FnExactGoodRegexWrongFalsely : Prop := fnExactGoodRegexRow.holds Try.pinned (OpenSpec.ofChange fnExactGoodRegexWrong)

/-- 'laws.FnExactTakesEmpty': WHATEVER THE INPUT: true; the input reads as it did. -/
def fnExactTakesEmptySpec : ChangeSpec := { name := "fnExactTakesEmpty", fn := fun _ => fun
  | [d] => { results := [.lit (.bool true)], args := [d] }
  | _ => none }
def fnExactTakesEmptyRow : OpenClaim := { program := "ytdbaonpkdcmglaa", sum := "b86b6ce6d0e12791c880f8411f139f1438677649477b80dd1b5305c1aed7f701", func := "loop.example/g00344/laws.FnExactTakesEmpty", spec := "fnExactTakesEmpty", recurses := true, apart := false }
def FnExactTakesEmptySaid : Prop := fnExactTakesEmptyRow.holds Try.pinned (OpenSpec.ofChange fnExactTakesEmptySpec)

/-- ITS FALSE NEIGHBOUR: 'it returns false'. Refute it at one input. -/
def fnExactTakesEmptyWrong : ChangeSpec := { name := "fnExactTakesEmpty", fn := fun _ => fun
  | [d] => { results := [.lit (.bool false)], args := [d] }
  | _ => none }
def FnExactTakesEmptyWrongFalsely : Prop := fnExactTakesEmptyRow.holds Try.pinned (OpenSpec.ofChange fnExactTakesEmptyWrong)

/-- 'laws.FnExactMatchPath': WHATEVER THE INPUT: true; the input reads as it did. -/
def fnExactMatchPathSpec : ChangeSpec := { name := "fnExactMatchPath", fn := fun _ => fun
  | [d1, d2] => { results := [.lit (.bool true)], args := [d1, d2] }
  | _ => none }
def fnExactMatchPathRow : OpenClaim := { program := "ytdbaonpkdcmglaa", sum := "b86b6ce6d0e12791c880f8411f139f1438677649477b80dd1b5305c1aed7f701", func := "loop.example/g00344/laws.FnExactMatchPath", spec := "fnExactMatchPath", recurses := true, apart := false }
def FnExactMatchPathSaid : Prop := fnExactMatchPathRow.holds Try.pinned (OpenSpec.ofChange fnExactMatchPathSpec)

/-- ITS FALSE NEIGHBOUR: 'it returns false'. Refute it at one input. -/
def fnExactMatchPathWrong : ChangeSpec := { name := "fnExactMatchPath", fn := fun _ => fun
  | [d1, d2] => { results := [.lit (.bool false)], args := [d1, d2] }
  | _ => none }
def FnExactMatchPathWrongFalsely : Prop := fnExactMatchPathRow.holds Try.pinned (OpenSpec.ofChange fnExactMatchPathWrong)

/-- 'laws.FnExactTidyRegex': WHATEVER THE INPUT: true; the input reads as it did. -/
def fnExactTidyRegexSpec : ChangeSpec := { name := "fnExactTidyRegex", fn := fun _ => fun
  | [d] => { results := [.lit (.bool true)], args := [d] }
  | _ => none }
def fnExactTidyRegexRow : OpenClaim := { program := "ytdbaonpkdcmglaa", sum := "b86b6ce6d0e12791c880f8411f139f1438677649477b80dd1b5305c1aed7f701", func := "loop.example/g00344/laws.FnExactTidyRegex", spec := "fnExactTidyRegex", unfollowed := true, recurses := true, apart := false }
def FnExactTidyRegexSaid : Prop := fnExactTidyRegexRow.holds Try.pinned (OpenSpec.ofChange fnExactTidyRegexSpec)

/-- ITS FALSE NEIGHBOUR: 'it returns false'. Refute it at one input. -/
def fnExactTidyRegexWrong : ChangeSpec := { name := "fnExactTidyRegex", fn := fun _ => fun
  | [d] => { results := [.lit (.bool false)], args := [d] }
  | _ => none }
def FnExactTidyRegexWrongFalsely : Prop := fnExactTidyRegexRow.holds Try.pinned (OpenSpec.ofChange fnExactTidyRegexWrong)

/-- 'laws.FnExactDeriveBy': WHATEVER THE INPUT: true; the input reads as it did. -/
def fnExactDeriveBySpec : ChangeSpec := { name := "fnExactDeriveBy", fn := fun _ => fun
  | [d1, d2] => { results := [.lit (.bool true)], args := [d1, d2] }
  | _ => none }
def fnExactDeriveByRow : OpenClaim := { program := "ytdbaonpkdcmglaa", sum := "b86b6ce6d0e12791c880f8411f139f1438677649477b80dd1b5305c1aed7f701", func := "loop.example/g00344/laws.FnExactDeriveBy", spec := "fnExactDeriveBy", unfollowed := true, recurses := true, apart := false }
def FnExactDeriveBySaid : Prop := fnExactDeriveByRow.holds Try.pinned (OpenSpec.ofChange fnExactDeriveBySpec)

/-- ITS FALSE NEIGHBOUR: 'it returns false'. Refute it at one input. -/
def fnExactDeriveByWrong : ChangeSpec := { name := "fnExactDeriveBy", fn := fun _ => fun
  | [d1, d2] => { results := [.lit (.bool false)], args := [d1, d2] }
  | _ => none }
def FnExactDeriveByWrongFalsely : Prop := fnExactDeriveByRow.holds Try.pinned (OpenSpec.ofChange fnExactDeriveByWrong)

/-- 'laws.FnExactBuildNfa': WHATEVER THE INPUT: true; the input reads as it did. -/
def fnExactBuildNfaSpec : ChangeSpec := { name := "fnExactBuildNfa", fn := fun _ => fun
  | [d] => { results := [.lit (.bool true)], args := [d] }
  | _ => none }
def fnExactBuildNfaRow : OpenClaim := { program := "ytdbaonpkdcmglaa", sum := "b86b6ce6d0e12791c880f8411f139f1438677649477b80dd1b5305c1aed7f701", func := "loop.example/g00344/laws.FnExactBuildNfa", spec := "fnExactBuildNfa", unfollowed := true, recurses := true, apart := false }
def FnExactBuildNfaSaid : Prop := fnExactBuildNfaRow.holds Try.pinned (OpenSpec.ofChange fnExactBuildNfaSpec)

/-- ITS FALSE NEIGHBOUR: 'it returns false'. Refute it at one input. -/
def fnExactBuildNfaWrong : ChangeSpec := { name := "fnExactBuildNfa", fn := fun _ => fun
  | [d] => { results := [.lit (.bool false)], args := [d] }
  | _ => none }
def FnExactBuildNfaWrongFalsely : Prop := fnExactBuildNfaRow.holds Try.pinned (OpenSpec.ofChange fnExactBuildNfaWrong)

/-- 'laws.FnExactGoodNfa': WHATEVER THE INPUT: true; the input reads as it did. -/
def fnExactGoodNfaSpec : ChangeSpec := { name := "fnExactGoodNfa", fn := fun _ => fun
  | [d] => { results := [.lit (.bool true)], args := [d] }
  | _ => none }
def fnExactGoodNfaRow : OpenClaim := { program := "ytdbaonpkdcmglaa", sum := "b86b6ce6d0e12791c880f8411f139f1438677649477b80dd1b5305c1aed7f701", func := "loop.example/g00344/laws.FnExactGoodNfa", spec := "fnExactGoodNfa", apart := false }
def FnExactGoodNfaSaid : Prop := fnExactGoodNfaRow.holds Try.pinned (OpenSpec.ofChange fnExactGoodNfaSpec)

/-- ITS FALSE NEIGHBOUR: 'it returns false'. Refute it at one input. -/
def fnExactGoodNfaWrong : ChangeSpec := { name := "fnExactGoodNfa", fn := fun _ => fun
  | [d] => { results := [.lit (.bool false)], args := [d] }
  | _ => none }
def FnExactGoodNfaWrongFalsely : Prop := fnExactGoodNfaRow.holds Try.pinned (OpenSpec.ofChange fnExactGoodNfaWrong)

/-- 'laws.FnExactRunNfa': WHATEVER THE INPUT: true; the input reads as it did. -/
def fnExactRunNfaSpec : ChangeSpec := { name := "fnExactRunNfa", fn := fun _ => fun
  | [d1, d2] => { results := [.lit (.bool true)], args := [d1, d2] }
  | _ => none }
def fnExactRunNfaRow : OpenClaim := { program := "ytdbaonpkdcmglaa", sum := "b86b6ce6d0e12791c880f8411f139f1438677649477b80dd1b5305c1aed7f701", func := "loop.example/g00344/laws.FnExactRunNfa", spec := "fnExactRunNfa", apart := false }
def FnExactRunNfaSaid : Prop := fnExactRunNfaRow.holds Try.pinned (OpenSpec.ofChange fnExactRunNfaSpec)

/-- ITS FALSE NEIGHBOUR: 'it returns false'. Refute it at one input. -/
def fnExactRunNfaWrong : ChangeSpec := { name := "fnExactRunNfa", fn := fun _ => fun
  | [d1, d2] => { results := [.lit (.bool false)], args := [d1, d2] }
  | _ => none }
def FnExactRunNfaWrongFalsely : Prop := fnExactRunNfaRow.holds Try.pinned (OpenSpec.ofChange fnExactRunNfaWrong)

/-- 'laws.FnPatterns': WHATEVER THE INPUT: true; the input reads as it did. -/
def fnPatternsSpec : ChangeSpec := { name := "fnPatterns", fn := fun _ => fun
  | [d1, d2] => { results := [.lit (.bool true)], args := [d1, d2] }
  | _ => none }
def fnPatternsRow : OpenClaim := { program := "ytdbaonpkdcmglaa", sum := "b86b6ce6d0e12791c880f8411f139f1438677649477b80dd1b5305c1aed7f701", func := "loop.example/g00344/laws.FnPatterns", spec := "fnPatterns", unfollowed := true, recurses := true, apart := false }
def FnPatternsSaid : Prop := fnPatternsRow.holds Try.pinned (OpenSpec.ofChange fnPatternsSpec)

/-- ITS FALSE NEIGHBOUR: 'it returns false'. Refute it at one input. -/
def fnPatternsWrong : ChangeSpec := { name := "fnPatterns", fn := fun _ => fun
  | [d1, d2] => { results := [.lit (.bool false)], args := [d1, d2] }
  | _ => none }
def FnPatternsWrongFalsely : Prop := fnPatternsRow.holds Try.pinned (OpenSpec.ofChange fnPatternsWrong)

/- THE SECOND FORM. 'bulk': how many values and letters a reading holds, each counted each time it is reached (what is shared counts as often as it is met; a slice's spare places count too). A statement '..UptoSaid' is the law's where the arguments, and the package variables that the reading takes, are together of bulk at most 1048576: NARROWER than '..Said'. Prove '..Said' where nothing that the law and all that it calls make is longer than what came in: it says more and counts as full. Else prove '..UptoSaid'. A law counts once. -/
mutual
def uptoBulk {H : Type} : DataW H → Nat
  | .lit (.string bytes) => bytes.length + 1
  | .lit _ => 1
  | .nil => 1
  | .ptr d => uptoBulk d + 1
  | .slice elems spare => uptoBulkAll elems + uptoBulkAll spare + 1
  | .agg parts => uptoBulkAll parts + 1
  | .iface _ d => uptoBulk d + 1
  | .map entries => uptoBulkEntries entries + 1
  | .held _ => 1
def uptoBulkAll {H : Type} : List (DataW H) → Nat
  | [] => 0
  | d :: r => uptoBulk d + uptoBulkAll r
def uptoBulkEntries {H : Type} : List (Lit × DataW H) → Nat
  | [] => 0
  | x :: r => uptoBulkEntry x + uptoBulkEntries r
def uptoBulkEntry {H : Type} : Lit × DataW H → Nat
  | (.string bytes, d) => bytes.length + uptoBulk d + 1
  | (_, d) => uptoBulk d + 1
 end
def uptoSmall : (H : Type) → List (DataW H) → Bool := fun _ ds => decide (uptoBulkAll ds ≤ 1048576)
def OpenSpec.upto (s : _root_.Go.ChangeSpec) : _root_.Go.OpenSpec := { _root_.Go.OpenSpec.ofChange s with cond := some uptoSmall }

/-- 'laws.FnExactGoodRegex', WHERE WHAT IT READS IS OF BULK AT MOST 1048576: true; the input reads as it did. -/
def fnExactGoodRegexUptoRow : OpenClaim := { program := "ytdbaonpkdcmglaa", sum := "b86b6ce6d0e12791c880f8411f139f1438677649477b80dd1b5305c1aed7f701", func := "loop.example/g00344/laws.FnExactGoodRegex", spec := "fnExactGoodRegex", recurses := true, apart := false, narrowed := true }
def FnExactGoodRegexUptoSaid : Prop := fnExactGoodRegexUptoRow.holds Try.pinned (OpenSpec.upto fnExactGoodRegexSpec)

/-- 'laws.FnExactTakesEmpty', WHERE WHAT IT READS IS OF BULK AT MOST 1048576: true; the input reads as it did. -/
def fnExactTakesEmptyUptoRow : OpenClaim := { program := "ytdbaonpkdcmglaa", sum := "b86b6ce6d0e12791c880f8411f139f1438677649477b80dd1b5305c1aed7f701", func := "loop.example/g00344/laws.FnExactTakesEmpty", spec := "fnExactTakesEmpty", recurses := true, apart := false, narrowed := true }
def FnExactTakesEmptyUptoSaid : Prop := fnExactTakesEmptyUptoRow.holds Try.pinned (OpenSpec.upto fnExactTakesEmptySpec)

/-- 'laws.FnExactMatchPath', WHERE WHAT IT READS IS OF BULK AT MOST 1048576: true; the input reads as it did. -/
def fnExactMatchPathUptoRow : OpenClaim := { program := "ytdbaonpkdcmglaa", sum := "b86b6ce6d0e12791c880f8411f139f1438677649477b80dd1b5305c1aed7f701", func := "loop.example/g00344/laws.FnExactMatchPath", spec := "fnExactMatchPath", recurses := true, apart := false, narrowed := true }
def FnExactMatchPathUptoSaid : Prop := fnExactMatchPathUptoRow.holds Try.pinned (OpenSpec.upto fnExactMatchPathSpec)

/-- 'laws.FnExactTidyRegex', WHERE WHAT IT READS IS OF BULK AT MOST 1048576: true; the input reads as it did. -/
def fnExactTidyRegexUptoRow : OpenClaim := { program := "ytdbaonpkdcmglaa", sum := "b86b6ce6d0e12791c880f8411f139f1438677649477b80dd1b5305c1aed7f701", func := "loop.example/g00344/laws.FnExactTidyRegex", spec := "fnExactTidyRegex", unfollowed := true, recurses := true, apart := false, narrowed := true }
def FnExactTidyRegexUptoSaid : Prop := fnExactTidyRegexUptoRow.holds Try.pinned (OpenSpec.upto fnExactTidyRegexSpec)

/-- 'laws.FnExactDeriveBy', WHERE WHAT IT READS IS OF BULK AT MOST 1048576: true; the input reads as it did. -/
def fnExactDeriveByUptoRow : OpenClaim := { program := "ytdbaonpkdcmglaa", sum := "b86b6ce6d0e12791c880f8411f139f1438677649477b80dd1b5305c1aed7f701", func := "loop.example/g00344/laws.FnExactDeriveBy", spec := "fnExactDeriveBy", unfollowed := true, recurses := true, apart := false, narrowed := true }
def FnExactDeriveByUptoSaid : Prop := fnExactDeriveByUptoRow.holds Try.pinned (OpenSpec.upto fnExactDeriveBySpec)

/-- 'laws.FnExactBuildNfa', WHERE WHAT IT READS IS OF BULK AT MOST 1048576: true; the input reads as it did. -/
def fnExactBuildNfaUptoRow : OpenClaim := { program := "ytdbaonpkdcmglaa", sum := "b86b6ce6d0e12791c880f8411f139f1438677649477b80dd1b5305c1aed7f701", func := "loop.example/g00344/laws.FnExactBuildNfa", spec := "fnExactBuildNfa", unfollowed := true, recurses := true, apart := false, narrowed := true }
def FnExactBuildNfaUptoSaid : Prop := fnExactBuildNfaUptoRow.holds Try.pinned (OpenSpec.upto fnExactBuildNfaSpec)

/-- 'laws.FnExactGoodNfa', WHERE WHAT IT READS IS OF BULK AT MOST 1048576: true; the input reads as it did. -/
def fnExactGoodNfaUptoRow : OpenClaim := { program := "ytdbaonpkdcmglaa", sum := "b86b6ce6d0e12791c880f8411f139f1438677649477b80dd1b5305c1aed7f701", func := "loop.example/g00344/laws.FnExactGoodNfa", spec := "fnExactGoodNfa", apart := false, narrowed := true }
def FnExactGoodNfaUptoSaid : Prop := fnExactGoodNfaUptoRow.holds Try.pinned (OpenSpec.upto fnExactGoodNfaSpec)

/-- 'laws.FnExactRunNfa', WHERE WHAT IT READS IS OF BULK AT MOST 1048576: true; the input reads as it did. -/
def fnExactRunNfaUptoRow : OpenClaim := { program := "ytdbaonpkdcmglaa", sum := "b86b6ce6d0e12791c880f8411f139f1438677649477b80dd1b5305c1aed7f701", func := "loop.example/g00344/laws.FnExactRunNfa", spec := "fnExactRunNfa", apart := false, narrowed := true }
def FnExactRunNfaUptoSaid : Prop := fnExactRunNfaUptoRow.holds Try.pinned (OpenSpec.upto fnExactRunNfaSpec)

/-- 'laws.FnPatterns', WHERE WHAT IT READS IS OF BULK AT MOST 1048576: true; the input reads as it did. -/
def fnPatternsUptoRow : OpenClaim := { program := "ytdbaonpkdcmglaa", sum := "b86b6ce6d0e12791c880f8411f139f1438677649477b80dd1b5305c1aed7f701", func := "loop.example/g00344/laws.FnPatterns", spec := "fnPatterns", unfollowed := true, recurses := true, apart := false, narrowed := true }
def FnPatternsUptoSaid : Prop := fnPatternsUptoRow.holds Try.pinned (OpenSpec.upto fnPatternsSpec)

end Rows
end Go.Proofs.Ytdbaonpkdcmglaa
