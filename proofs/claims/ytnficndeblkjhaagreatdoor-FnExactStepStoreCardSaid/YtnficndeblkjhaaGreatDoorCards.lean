/-
  DERIVED. GIVEN WITH THE SEED: THE CARDS: each row of YtnficndeblkjhaaGreatDoorRows.lean that lists a variable, with what it lists TIED to the program's text (the seventh form; the later family's looks); each row that meets fmt, with fmt's text TOLD by the authors' own Lean function (tested against real Go, not proved from fmt's source: count such statements apart). THE CARD IS WHAT COUNTS. Prove the row's statement (the work); the ties are given (YtnficndeblkjhaaGreatDoorTie.lean); close each card by the builder's one call (the guide's Derived/Test/ToyasCard.lean, 'card_holds'). Laid BY PROGRAM, IN A SANDBOX (cutbox-door.mjs). By AI agents, Wed Nov 11 2026. No macro, syntax, notation, axiom, sorry.
-/
import Derived.Test.YtnficndeblkjhaaGreatDoorRows
import GoSem.ClaimSeven
namespace Go.Proofs.YtnficndeblkjhaaGreatDoor
namespace Rows

/-- THE TIED CARD OF 'laws.FnExactStepStore'. -/
def fnExactStepStoreCard : Claim7 := { stood := { row := fnExactStepStoreRow, standIns := [], harness := (true, "553f6f22bb082f4798a003b447929598819efb35f068a2965d75011d6b6fa136"), looks := true }, kinds := [], alts := [], laidByText := true, laidKinds := [.handle, .sentinel, .sentinel], laidTests := true, laidLooks := .later }
def FnExactStepStoreCardSaid : Prop := Claim7.holds Tryz.pinned (.plain (OpenSpec.ofChange fnExactStepStoreSpec)) fnExactStepStoreCard

/-- THE TIED CARD OF 'laws.FnExactPlayOps'. -/
def fnExactPlayOpsCard : Claim7 := { stood := { row := fnExactPlayOpsRow, standIns := [], harness := (true, "553f6f22bb082f4798a003b447929598819efb35f068a2965d75011d6b6fa136"), looks := true }, kinds := [], alts := [], laidByText := true, laidKinds := [.handle, .sentinel, .sentinel], laidTests := true, laidLooks := .later }
def FnExactPlayOpsCardSaid : Prop := Claim7.holds Tryz.pinned (.plain (OpenSpec.ofChange fnExactPlayOpsSpec)) fnExactPlayOpsCard

/-- THE SECOND FORM's CARD OF 'laws.FnExactStepStore'. -/
def fnExactStepStoreUptoCard : Claim7 := { stood := { row := fnExactStepStoreUptoRow, standIns := [], harness := (true, "553f6f22bb082f4798a003b447929598819efb35f068a2965d75011d6b6fa136"), looks := true }, kinds := [], alts := [], laidByText := true, laidKinds := [.handle, .sentinel, .sentinel], laidTests := true, laidLooks := .later }
def FnExactStepStoreUptoCardSaid : Prop := Claim7.holds Tryz.pinned (.plain (OpenSpec.upto fnExactStepStoreSpec)) fnExactStepStoreUptoCard

/-- THE SECOND FORM's CARD OF 'laws.FnExactPlayOps'. -/
def fnExactPlayOpsUptoCard : Claim7 := { stood := { row := fnExactPlayOpsUptoRow, standIns := [], harness := (true, "553f6f22bb082f4798a003b447929598819efb35f068a2965d75011d6b6fa136"), looks := true }, kinds := [], alts := [], laidByText := true, laidKinds := [.handle, .sentinel, .sentinel], laidTests := true, laidLooks := .later }
def FnExactPlayOpsUptoCardSaid : Prop := Claim7.holds Tryz.pinned (.plain (OpenSpec.upto fnExactPlayOpsSpec)) fnExactPlayOpsUptoCard
end Rows
end Go.Proofs.YtnficndeblkjhaaGreatDoor
