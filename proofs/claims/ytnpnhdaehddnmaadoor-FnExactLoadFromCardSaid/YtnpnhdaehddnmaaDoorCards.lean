/-
  DERIVED. GIVEN WITH THE SEED: THE CARDS: each row of YtnpnhdaehddnmaaDoorRows.lean that lists a variable, with what it lists TIED to the program's text (the seventh form; the later family's looks); each row that meets fmt, with fmt's text TOLD by the authors' own Lean function (tested against real Go, not proved from fmt's source: count such statements apart). THE CARD IS WHAT COUNTS. Prove the row's statement (the work); the ties are given (YtnpnhdaehddnmaaDoorTie.lean); close each card by the builder's one call (the guide's Derived/Test/ToyasCard.lean, 'card_holds'). Laid BY PROGRAM, IN A SANDBOX (cutbox-door.mjs). By AI agents, Wed Nov 11 2026. No macro, syntax, notation, axiom, sorry.
-/
import Derived.Test.YtnpnhdaehddnmaaDoorRows
import GoSem.ClaimSeven
namespace Go.Proofs.YtnpnhdaehddnmaaDoor
namespace Rows

/-- THE TIED CARD OF 'laws.FnExactLoadFrom'. -/
def fnExactLoadFromCard : Claim7 := { stood := { row := fnExactLoadFromRow, standIns := [], harness := (true, "1508d6191b0f589f5ed4ae84947a5e85041d33416635eff56b76b4986f04bca2"), looks := true }, kinds := [], alts := [], laidByText := true, laidKinds := [.sentinel], laidTests := true, laidLooks := .later }
def FnExactLoadFromCardSaid : Prop := Claim7.holds Tryd.pinned (.plain (OpenSpec.ofChange fnExactLoadFromSpec)) fnExactLoadFromCard

/-- THE TIED CARD OF 'laws.FnExactPlanOf'. -/
def fnExactPlanOfCard : Claim7 := { stood := { row := fnExactPlanOfRow, standIns := [], harness := (true, "1508d6191b0f589f5ed4ae84947a5e85041d33416635eff56b76b4986f04bca2"), looks := true }, kinds := [], alts := [], laidByText := true, laidKinds := [.sentinel], laidTests := true, laidLooks := .later }
def FnExactPlanOfCardSaid : Prop := Claim7.holds Tryd.pinned (.plain (OpenSpec.ofChange fnExactPlanOfSpec)) fnExactPlanOfCard

/-- THE TIED CARD OF 'laws.FnExactUnseal'. -/
def fnExactUnsealCard : Claim7 := { stood := { row := fnExactUnsealRow, standIns := [], harness := (true, "1508d6191b0f589f5ed4ae84947a5e85041d33416635eff56b76b4986f04bca2"), looks := true }, kinds := [], alts := [], laidByText := true, laidKinds := [.sentinel], laidTests := true, laidLooks := .later }
def FnExactUnsealCardSaid : Prop := Claim7.holds Tryd.pinned (.plain (OpenSpec.ofChange fnExactUnsealSpec)) fnExactUnsealCard

/-- THE SECOND FORM's CARD OF 'laws.FnExactLoadFrom'. -/
def fnExactLoadFromUptoCard : Claim7 := { stood := { row := fnExactLoadFromUptoRow, standIns := [], harness := (true, "1508d6191b0f589f5ed4ae84947a5e85041d33416635eff56b76b4986f04bca2"), looks := true }, kinds := [], alts := [], laidByText := true, laidKinds := [.sentinel], laidTests := true, laidLooks := .later }
def FnExactLoadFromUptoCardSaid : Prop := Claim7.holds Tryd.pinned (.plain (OpenSpec.upto fnExactLoadFromSpec)) fnExactLoadFromUptoCard

/-- THE SECOND FORM's CARD OF 'laws.FnExactPlanOf'. -/
def fnExactPlanOfUptoCard : Claim7 := { stood := { row := fnExactPlanOfUptoRow, standIns := [], harness := (true, "1508d6191b0f589f5ed4ae84947a5e85041d33416635eff56b76b4986f04bca2"), looks := true }, kinds := [], alts := [], laidByText := true, laidKinds := [.sentinel], laidTests := true, laidLooks := .later }
def FnExactPlanOfUptoCardSaid : Prop := Claim7.holds Tryd.pinned (.plain (OpenSpec.upto fnExactPlanOfSpec)) fnExactPlanOfUptoCard

/-- THE SECOND FORM's CARD OF 'laws.FnExactUnseal'. -/
def fnExactUnsealUptoCard : Claim7 := { stood := { row := fnExactUnsealUptoRow, standIns := [], harness := (true, "1508d6191b0f589f5ed4ae84947a5e85041d33416635eff56b76b4986f04bca2"), looks := true }, kinds := [], alts := [], laidByText := true, laidKinds := [.sentinel], laidTests := true, laidLooks := .later }
def FnExactUnsealUptoCardSaid : Prop := Claim7.holds Tryd.pinned (.plain (OpenSpec.upto fnExactUnsealSpec)) fnExactUnsealUptoCard
end Rows
end Go.Proofs.YtnpnhdaehddnmaaDoor
