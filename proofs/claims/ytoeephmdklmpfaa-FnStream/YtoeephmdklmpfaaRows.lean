/-
  No cell of these rows narrows 'for every input' (looked for: loops, veiled, ifaces, maps, wideKeys, modest, calm, conditions, laid).
  DERIVED. THE GIVEN ROWS OF THIS SEAT. 12 by the template 'for every input the law returns true; each argument reads behind the call as it read before'; 0 by the template 'total and deterministic' (their statements: YtoeephmdklmpfaaTotals.lean).
  GIVEN WITH THE SEED: the statements are not yours to turn. If you find one false, say at which input.
  Laid BY PROGRAM, IN A SANDBOX (cutbox-rows.mjs): the forced cells as the released guide's own fill.sh prints them over the translation 3438f2a793bd4bf1… (all of the seat's roots in one cut). By AI agents, Wed Nov 11 2026. No macro, syntax, notation, axiom, sorry.
-/
import Derived.Test.YtoeephmdklmpfaaChecked
import GoSem.Claim
import GoSem.ClaimJoined
import GoSem.ClaimMapViews
import Derived.JoinedTies
import Derived.KernelRfl
namespace Go.Proofs.Ytoeephmdklmpfaa
/- THE CELL 'sum', in the pinned program and in every row, IS THE sha256 OF THE DUMP (.gsa) THAT YtoeephmdklmpfaaProg.lean LOADS. Nothing in Lean hashes anything: it is a label: what it is worth is what the hold of that sum in a sandbox is worth. -/
noncomputable def Try.pinned : Pinned := { name := "ytoeephmdklmpfaa", sum := "3438f2a793bd4bf1ee2b8df07ee5e576979970f5ed5c6174bfd849fae5f91dc5", checked := Try.checked }
namespace Rows
def none {H : Type} : Left H := { results := [], args := [] }

/-- 'laws.FnExactReadUpdate': WHATEVER THE INPUT: true; the input reads as it did. -/
def fnExactReadUpdateSpec : ChangeSpec := { name := "fnExactReadUpdate", fn := fun _ => fun
  | [d] => { results := [.lit (.bool true)], args := [d] }
  | _ => none }
def fnExactReadUpdateRow : OpenClaim := { program := "ytoeephmdklmpfaa", sum := "3438f2a793bd4bf1ee2b8df07ee5e576979970f5ed5c6174bfd849fae5f91dc5", func := "loop.example/g00344/laws.FnExactReadUpdate", spec := "fnExactReadUpdate", apart := false }
def FnExactReadUpdateSaid : Prop := fnExactReadUpdateRow.holds Try.pinned (OpenSpec.ofChange fnExactReadUpdateSpec)

/-- ITS FALSE NEIGHBOUR: 'it returns false'. Refute it at one input. -/
def fnExactReadUpdateWrong : ChangeSpec := { name := "fnExactReadUpdate", fn := fun _ => fun
  | [d] => { results := [.lit (.bool false)], args := [d] }
  | _ => none }
def FnExactReadUpdateWrongFalsely : Prop := fnExactReadUpdateRow.holds Try.pinned (OpenSpec.ofChange fnExactReadUpdateWrong)

/-- 'laws.FnExactGoodMsg': WHATEVER THE INPUT: true; the input reads as it did. -/
def fnExactGoodMsgSpec : ChangeSpec := { name := "fnExactGoodMsg", fn := fun _ => fun
  | [d] => { results := [.lit (.bool true)], args := [d] }
  | _ => none }
def fnExactGoodMsgRow : OpenClaim := { program := "ytoeephmdklmpfaa", sum := "3438f2a793bd4bf1ee2b8df07ee5e576979970f5ed5c6174bfd849fae5f91dc5", func := "loop.example/g00344/laws.FnExactGoodMsg", spec := "fnExactGoodMsg", apart := false }
def FnExactGoodMsgSaid : Prop := fnExactGoodMsgRow.holds Try.pinned (OpenSpec.ofChange fnExactGoodMsgSpec)

/-- ITS FALSE NEIGHBOUR: 'it returns false'. Refute it at one input. -/
def fnExactGoodMsgWrong : ChangeSpec := { name := "fnExactGoodMsg", fn := fun _ => fun
  | [d] => { results := [.lit (.bool false)], args := [d] }
  | _ => none }
def FnExactGoodMsgWrongFalsely : Prop := fnExactGoodMsgRow.holds Try.pinned (OpenSpec.ofChange fnExactGoodMsgWrong)

/-- 'laws.FnExactMsgBytes': WHATEVER THE INPUT: true; the input reads as it did. -/
def fnExactMsgBytesSpec : ChangeSpec := { name := "fnExactMsgBytes", fn := fun _ => fun
  | [d] => { results := [.lit (.bool true)], args := [d] }
  | _ => none }
def fnExactMsgBytesRow : OpenClaim := { program := "ytoeephmdklmpfaa", sum := "3438f2a793bd4bf1ee2b8df07ee5e576979970f5ed5c6174bfd849fae5f91dc5", func := "loop.example/g00344/laws.FnExactMsgBytes", spec := "fnExactMsgBytes", apart := false }
def FnExactMsgBytesSaid : Prop := fnExactMsgBytesRow.holds Try.pinned (OpenSpec.ofChange fnExactMsgBytesSpec)

/-- ITS FALSE NEIGHBOUR: 'it returns false'. Refute it at one input. -/
def fnExactMsgBytesWrong : ChangeSpec := { name := "fnExactMsgBytes", fn := fun _ => fun
  | [d] => { results := [.lit (.bool false)], args := [d] }
  | _ => none }
def FnExactMsgBytesWrongFalsely : Prop := fnExactMsgBytesRow.holds Try.pinned (OpenSpec.ofChange fnExactMsgBytesWrong)

/-- 'laws.FnExactCutAll': WHATEVER THE INPUT: true; the input reads as it did. -/
def fnExactCutAllSpec : ChangeSpec := { name := "fnExactCutAll", fn := fun _ => fun
  | [d] => { results := [.lit (.bool true)], args := [d] }
  | _ => none }
def fnExactCutAllRow : OpenClaim := { program := "ytoeephmdklmpfaa", sum := "3438f2a793bd4bf1ee2b8df07ee5e576979970f5ed5c6174bfd849fae5f91dc5", func := "loop.example/g00344/laws.FnExactCutAll", spec := "fnExactCutAll", apart := false }
def FnExactCutAllSaid : Prop := fnExactCutAllRow.holds Try.pinned (OpenSpec.ofChange fnExactCutAllSpec)

/-- ITS FALSE NEIGHBOUR: 'it returns false'. Refute it at one input. -/
def fnExactCutAllWrong : ChangeSpec := { name := "fnExactCutAll", fn := fun _ => fun
  | [d] => { results := [.lit (.bool false)], args := [d] }
  | _ => none }
def FnExactCutAllWrongFalsely : Prop := fnExactCutAllRow.holds Try.pinned (OpenSpec.ofChange fnExactCutAllWrong)

/-- 'laws.FnExactNewReader': WHATEVER THE INPUT: true; the input reads as it did. -/
def fnExactNewReaderSpec : ChangeSpec := { name := "fnExactNewReader", fn := fun _ => fun
  | [] => { results := [.lit (.bool true)], args := [] }
  | _ => none }
def fnExactNewReaderRow : OpenClaim := { program := "ytoeephmdklmpfaa", sum := "3438f2a793bd4bf1ee2b8df07ee5e576979970f5ed5c6174bfd849fae5f91dc5", func := "loop.example/g00344/laws.FnExactNewReader", spec := "fnExactNewReader", apart := false }
def FnExactNewReaderSaid : Prop := fnExactNewReaderRow.holds Try.pinned (OpenSpec.ofChange fnExactNewReaderSpec)

/-- ITS FALSE NEIGHBOUR: 'it returns false'. Refute it at one input. -/
def fnExactNewReaderWrong : ChangeSpec := { name := "fnExactNewReader", fn := fun _ => fun
  | [] => { results := [.lit (.bool false)], args := [] }
  | _ => none }
def FnExactNewReaderWrongFalsely : Prop := fnExactNewReaderRow.holds Try.pinned (OpenSpec.ofChange fnExactNewReaderWrong)

/-- 'laws.FnExactGoodReader': WHATEVER THE INPUT: true; the input reads as it did. -/
def fnExactGoodReaderSpec : ChangeSpec := { name := "fnExactGoodReader", fn := fun _ => fun
  | [d] => { results := [.lit (.bool true)], args := [d] }
  | _ => none }
def fnExactGoodReaderRow : OpenClaim := { program := "ytoeephmdklmpfaa", sum := "3438f2a793bd4bf1ee2b8df07ee5e576979970f5ed5c6174bfd849fae5f91dc5", func := "loop.example/g00344/laws.FnExactGoodReader", spec := "fnExactGoodReader", apart := false }
def FnExactGoodReaderSaid : Prop := fnExactGoodReaderRow.holds Try.pinned (OpenSpec.ofChange fnExactGoodReaderSpec)

/-- ITS FALSE NEIGHBOUR: 'it returns false'. Refute it at one input. -/
def fnExactGoodReaderWrong : ChangeSpec := { name := "fnExactGoodReader", fn := fun _ => fun
  | [d] => { results := [.lit (.bool false)], args := [d] }
  | _ => none }
def FnExactGoodReaderWrongFalsely : Prop := fnExactGoodReaderRow.holds Try.pinned (OpenSpec.ofChange fnExactGoodReaderWrong)

/-- 'laws.FnExactFeedReader': WHATEVER THE INPUT: true; the input reads as it did. -/
def fnExactFeedReaderSpec : ChangeSpec := { name := "fnExactFeedReader", fn := fun _ => fun
  | [d1, d2] => { results := [.lit (.bool true)], args := [d1, d2] }
  | _ => none }
def fnExactFeedReaderRow : OpenClaim := { program := "ytoeephmdklmpfaa", sum := "3438f2a793bd4bf1ee2b8df07ee5e576979970f5ed5c6174bfd849fae5f91dc5", func := "loop.example/g00344/laws.FnExactFeedReader", spec := "fnExactFeedReader", apart := false }
def FnExactFeedReaderSaid : Prop := fnExactFeedReaderRow.holds Try.pinned (OpenSpec.ofChange fnExactFeedReaderSpec)

/-- ITS FALSE NEIGHBOUR: 'it returns false'. Refute it at one input. -/
def fnExactFeedReaderWrong : ChangeSpec := { name := "fnExactFeedReader", fn := fun _ => fun
  | [d1, d2] => { results := [.lit (.bool false)], args := [d1, d2] }
  | _ => none }
def FnExactFeedReaderWrongFalsely : Prop := fnExactFeedReaderRow.holds Try.pinned (OpenSpec.ofChange fnExactFeedReaderWrong)

/-- 'laws.FnExactFeedAll': WHATEVER THE INPUT: true; the input reads as it did. -/
def fnExactFeedAllSpec : ChangeSpec := { name := "fnExactFeedAll", fn := fun _ => fun
  | [d] => { results := [.lit (.bool true)], args := [d] }
  | _ => none }
def fnExactFeedAllRow : OpenClaim := { program := "ytoeephmdklmpfaa", sum := "3438f2a793bd4bf1ee2b8df07ee5e576979970f5ed5c6174bfd849fae5f91dc5", func := "loop.example/g00344/laws.FnExactFeedAll", spec := "fnExactFeedAll", apart := false }
def FnExactFeedAllSaid : Prop := fnExactFeedAllRow.holds Try.pinned (OpenSpec.ofChange fnExactFeedAllSpec)

/-- ITS FALSE NEIGHBOUR: 'it returns false'. Refute it at one input. -/
def fnExactFeedAllWrong : ChangeSpec := { name := "fnExactFeedAll", fn := fun _ => fun
  | [d] => { results := [.lit (.bool false)], args := [d] }
  | _ => none }
def FnExactFeedAllWrongFalsely : Prop := fnExactFeedAllRow.holds Try.pinned (OpenSpec.ofChange fnExactFeedAllWrong)

/-- 'laws.FnExactTakeMsg': WHATEVER THE INPUT: true; the input reads as it did. -/
def fnExactTakeMsgSpec : ChangeSpec := { name := "fnExactTakeMsg", fn := fun _ => fun
  | [d] => { results := [.lit (.bool true)], args := [d] }
  | _ => none }
def fnExactTakeMsgRow : OpenClaim := { program := "ytoeephmdklmpfaa", sum := "3438f2a793bd4bf1ee2b8df07ee5e576979970f5ed5c6174bfd849fae5f91dc5", func := "loop.example/g00344/laws.FnExactTakeMsg", spec := "fnExactTakeMsg", apart := false }
def FnExactTakeMsgSaid : Prop := fnExactTakeMsgRow.holds Try.pinned (OpenSpec.ofChange fnExactTakeMsgSpec)

/-- ITS FALSE NEIGHBOUR: 'it returns false'. Refute it at one input. -/
def fnExactTakeMsgWrong : ChangeSpec := { name := "fnExactTakeMsg", fn := fun _ => fun
  | [d] => { results := [.lit (.bool false)], args := [d] }
  | _ => none }
def FnExactTakeMsgWrongFalsely : Prop := fnExactTakeMsgRow.holds Try.pinned (OpenSpec.ofChange fnExactTakeMsgWrong)

/-- 'laws.FnStream': WHATEVER THE INPUT: true; the input reads as it did. -/
def fnStreamSpec : ChangeSpec := { name := "fnStream", fn := fun _ => fun
  | [d1, d2] => { results := [.lit (.bool true)], args := [d1, d2] }
  | _ => none }
def fnStreamRow : OpenClaim := { program := "ytoeephmdklmpfaa", sum := "3438f2a793bd4bf1ee2b8df07ee5e576979970f5ed5c6174bfd849fae5f91dc5", func := "loop.example/g00344/laws.FnStream", spec := "fnStream", apart := false }
def FnStreamSaid : Prop := fnStreamRow.holds Try.pinned (OpenSpec.ofChange fnStreamSpec)

/-- ITS FALSE NEIGHBOUR: 'it returns false'. Refute it at one input. -/
def fnStreamWrong : ChangeSpec := { name := "fnStream", fn := fun _ => fun
  | [d1, d2] => { results := [.lit (.bool false)], args := [d1, d2] }
  | _ => none }
def FnStreamWrongFalsely : Prop := fnStreamRow.holds Try.pinned (OpenSpec.ofChange fnStreamWrong)

/-- 'laws.FnMessages': WHATEVER THE INPUT: true; the input reads as it did. -/
def fnMessagesSpec : ChangeSpec := { name := "fnMessages", fn := fun _ => fun
  | [d1, d2] => { results := [.lit (.bool true)], args := [d1, d2] }
  | _ => none }
def fnMessagesRow : OpenClaim := { program := "ytoeephmdklmpfaa", sum := "3438f2a793bd4bf1ee2b8df07ee5e576979970f5ed5c6174bfd849fae5f91dc5", func := "loop.example/g00344/laws.FnMessages", spec := "fnMessages", apart := false }
def FnMessagesSaid : Prop := fnMessagesRow.holds Try.pinned (OpenSpec.ofChange fnMessagesSpec)

/-- ITS FALSE NEIGHBOUR: 'it returns false'. Refute it at one input. -/
def fnMessagesWrong : ChangeSpec := { name := "fnMessages", fn := fun _ => fun
  | [d1, d2] => { results := [.lit (.bool false)], args := [d1, d2] }
  | _ => none }
def FnMessagesWrongFalsely : Prop := fnMessagesRow.holds Try.pinned (OpenSpec.ofChange fnMessagesWrong)

/-- 'laws.FnUpdates': WHATEVER THE INPUT: true; the input reads as it did. -/
def fnUpdatesSpec : ChangeSpec := { name := "fnUpdates", fn := fun _ => fun
  | [d1, d2] => { results := [.lit (.bool true)], args := [d1, d2] }
  | _ => none }
def fnUpdatesRow : OpenClaim := { program := "ytoeephmdklmpfaa", sum := "3438f2a793bd4bf1ee2b8df07ee5e576979970f5ed5c6174bfd849fae5f91dc5", func := "loop.example/g00344/laws.FnUpdates", spec := "fnUpdates", apart := false }
def FnUpdatesSaid : Prop := fnUpdatesRow.holds Try.pinned (OpenSpec.ofChange fnUpdatesSpec)

/-- ITS FALSE NEIGHBOUR: 'it returns false'. Refute it at one input. -/
def fnUpdatesWrong : ChangeSpec := { name := "fnUpdates", fn := fun _ => fun
  | [d1, d2] => { results := [.lit (.bool false)], args := [d1, d2] }
  | _ => none }
def FnUpdatesWrongFalsely : Prop := fnUpdatesRow.holds Try.pinned (OpenSpec.ofChange fnUpdatesWrong)

/- THE SECOND FORM. 'bulk': how many values and letters a reading holds, each counted each time it is reached (what is shared counts as often as it is met; a slice's spare places count too). A statement '..UptoSaid' is the law's where the arguments, and the package variables that the reading takes, are together of bulk at most 1048576: NARROWER than '..Said'. Prove '..Said' where nothing that the law and all that it calls make is longer than what came in: it says more and counts as full. Else prove '..UptoSaid'. A law counts once. -/
mutual
def uptoBulk {H : Type} : DataW H → Nat
  | .lit (.string bytes) => bytes.length + 1
  | .lit _ => 1
  | .nil => 1
  | .ptr d => uptoBulk d + 1
  | .slice elems spare => uptoBulkAll elems + uptoBulkAll spare + 1
  | .agg parts => uptoBulkAll parts + 1
  | .iface _ d => uptoBulk d + 1
  | .map entries => uptoBulkEntries entries + 1
  | .held _ => 1
def uptoBulkAll {H : Type} : List (DataW H) → Nat
  | [] => 0
  | d :: r => uptoBulk d + uptoBulkAll r
def uptoBulkEntries {H : Type} : List (Lit × DataW H) → Nat
  | [] => 0
  | x :: r => uptoBulkEntry x + uptoBulkEntries r
def uptoBulkEntry {H : Type} : Lit × DataW H → Nat
  | (.string bytes, d) => bytes.length + uptoBulk d + 1
  | (_, d) => uptoBulk d + 1
 end
def uptoSmall : (H : Type) → List (DataW H) → Bool := fun _ ds => decide (uptoBulkAll ds ≤ 1048576)
def OpenSpec.upto (s : _root_.Go.ChangeSpec) : _root_.Go.OpenSpec := { _root_.Go.OpenSpec.ofChange s with cond := some uptoSmall }

/-- 'laws.FnExactReadUpdate', WHERE WHAT IT READS IS OF BULK AT MOST 1048576: true; the input reads as it did. -/
def fnExactReadUpdateUptoRow : OpenClaim := { program := "ytoeephmdklmpfaa", sum := "3438f2a793bd4bf1ee2b8df07ee5e576979970f5ed5c6174bfd849fae5f91dc5", func := "loop.example/g00344/laws.FnExactReadUpdate", spec := "fnExactReadUpdate", apart := false, narrowed := true }
def FnExactReadUpdateUptoSaid : Prop := fnExactReadUpdateUptoRow.holds Try.pinned (OpenSpec.upto fnExactReadUpdateSpec)

/-- 'laws.FnExactGoodMsg', WHERE WHAT IT READS IS OF BULK AT MOST 1048576: true; the input reads as it did. -/
def fnExactGoodMsgUptoRow : OpenClaim := { program := "ytoeephmdklmpfaa", sum := "3438f2a793bd4bf1ee2b8df07ee5e576979970f5ed5c6174bfd849fae5f91dc5", func := "loop.example/g00344/laws.FnExactGoodMsg", spec := "fnExactGoodMsg", apart := false, narrowed := true }
def FnExactGoodMsgUptoSaid : Prop := fnExactGoodMsgUptoRow.holds Try.pinned (OpenSpec.upto fnExactGoodMsgSpec)

/-- 'laws.FnExactMsgBytes', WHERE WHAT IT READS IS OF BULK AT MOST 1048576: true; the input reads as it did. -/
def fnExactMsgBytesUptoRow : OpenClaim := { program := "ytoeephmdklmpfaa", sum := "3438f2a793bd4bf1ee2b8df07ee5e576979970f5ed5c6174bfd849fae5f91dc5", func := "loop.example/g00344/laws.FnExactMsgBytes", spec := "fnExactMsgBytes", apart := false, narrowed := true }
def FnExactMsgBytesUptoSaid : Prop := fnExactMsgBytesUptoRow.holds Try.pinned (OpenSpec.upto fnExactMsgBytesSpec)

/-- 'laws.FnExactCutAll', WHERE WHAT IT READS IS OF BULK AT MOST 1048576: true; the input reads as it did. -/
def fnExactCutAllUptoRow : OpenClaim := { program := "ytoeephmdklmpfaa", sum := "3438f2a793bd4bf1ee2b8df07ee5e576979970f5ed5c6174bfd849fae5f91dc5", func := "loop.example/g00344/laws.FnExactCutAll", spec := "fnExactCutAll", apart := false, narrowed := true }
def FnExactCutAllUptoSaid : Prop := fnExactCutAllUptoRow.holds Try.pinned (OpenSpec.upto fnExactCutAllSpec)

/-- 'laws.FnExactNewReader', WHERE WHAT IT READS IS OF BULK AT MOST 1048576: true; the input reads as it did. -/
def fnExactNewReaderUptoRow : OpenClaim := { program := "ytoeephmdklmpfaa", sum := "3438f2a793bd4bf1ee2b8df07ee5e576979970f5ed5c6174bfd849fae5f91dc5", func := "loop.example/g00344/laws.FnExactNewReader", spec := "fnExactNewReader", apart := false, narrowed := true }
def FnExactNewReaderUptoSaid : Prop := fnExactNewReaderUptoRow.holds Try.pinned (OpenSpec.upto fnExactNewReaderSpec)

/-- 'laws.FnExactGoodReader', WHERE WHAT IT READS IS OF BULK AT MOST 1048576: true; the input reads as it did. -/
def fnExactGoodReaderUptoRow : OpenClaim := { program := "ytoeephmdklmpfaa", sum := "3438f2a793bd4bf1ee2b8df07ee5e576979970f5ed5c6174bfd849fae5f91dc5", func := "loop.example/g00344/laws.FnExactGoodReader", spec := "fnExactGoodReader", apart := false, narrowed := true }
def FnExactGoodReaderUptoSaid : Prop := fnExactGoodReaderUptoRow.holds Try.pinned (OpenSpec.upto fnExactGoodReaderSpec)

/-- 'laws.FnExactFeedReader', WHERE WHAT IT READS IS OF BULK AT MOST 1048576: true; the input reads as it did. -/
def fnExactFeedReaderUptoRow : OpenClaim := { program := "ytoeephmdklmpfaa", sum := "3438f2a793bd4bf1ee2b8df07ee5e576979970f5ed5c6174bfd849fae5f91dc5", func := "loop.example/g00344/laws.FnExactFeedReader", spec := "fnExactFeedReader", apart := false, narrowed := true }
def FnExactFeedReaderUptoSaid : Prop := fnExactFeedReaderUptoRow.holds Try.pinned (OpenSpec.upto fnExactFeedReaderSpec)

/-- 'laws.FnExactFeedAll', WHERE WHAT IT READS IS OF BULK AT MOST 1048576: true; the input reads as it did. -/
def fnExactFeedAllUptoRow : OpenClaim := { program := "ytoeephmdklmpfaa", sum := "3438f2a793bd4bf1ee2b8df07ee5e576979970f5ed5c6174bfd849fae5f91dc5", func := "loop.example/g00344/laws.FnExactFeedAll", spec := "fnExactFeedAll", apart := false, narrowed := true }
def FnExactFeedAllUptoSaid : Prop := fnExactFeedAllUptoRow.holds Try.pinned (OpenSpec.upto fnExactFeedAllSpec)

/-- 'laws.FnExactTakeMsg', WHERE WHAT IT READS IS OF BULK AT MOST 1048576: true; the input reads as it did. -/
def fnExactTakeMsgUptoRow : OpenClaim := { program := "ytoeephmdklmpfaa", sum := "3438f2a793bd4bf1ee2b8df07ee5e576979970f5ed5c6174bfd849fae5f91dc5", func := "loop.example/g00344/laws.FnExactTakeMsg", spec := "fnExactTakeMsg", apart := false, narrowed := true }
def FnExactTakeMsgUptoSaid : Prop := fnExactTakeMsgUptoRow.holds Try.pinned (OpenSpec.upto fnExactTakeMsgSpec)

/-- 'laws.FnStream', WHERE WHAT IT READS IS OF BULK AT MOST 1048576: true; the input reads as it did. -/
def fnStreamUptoRow : OpenClaim := { program := "ytoeephmdklmpfaa", sum := "3438f2a793bd4bf1ee2b8df07ee5e576979970f5ed5c6174bfd849fae5f91dc5", func := "loop.example/g00344/laws.FnStream", spec := "fnStream", apart := false, narrowed := true }
def FnStreamUptoSaid : Prop := fnStreamUptoRow.holds Try.pinned (OpenSpec.upto fnStreamSpec)

/-- 'laws.FnMessages', WHERE WHAT IT READS IS OF BULK AT MOST 1048576: true; the input reads as it did. -/
def fnMessagesUptoRow : OpenClaim := { program := "ytoeephmdklmpfaa", sum := "3438f2a793bd4bf1ee2b8df07ee5e576979970f5ed5c6174bfd849fae5f91dc5", func := "loop.example/g00344/laws.FnMessages", spec := "fnMessages", apart := false, narrowed := true }
def FnMessagesUptoSaid : Prop := fnMessagesUptoRow.holds Try.pinned (OpenSpec.upto fnMessagesSpec)

/-- 'laws.FnUpdates', WHERE WHAT IT READS IS OF BULK AT MOST 1048576: true; the input reads as it did. -/
def fnUpdatesUptoRow : OpenClaim := { program := "ytoeephmdklmpfaa", sum := "3438f2a793bd4bf1ee2b8df07ee5e576979970f5ed5c6174bfd849fae5f91dc5", func := "loop.example/g00344/laws.FnUpdates", spec := "fnUpdates", apart := false, narrowed := true }
def FnUpdatesUptoSaid : Prop := fnUpdatesUptoRow.holds Try.pinned (OpenSpec.upto fnUpdatesSpec)

end Rows
end Go.Proofs.Ytoeephmdklmpfaa
