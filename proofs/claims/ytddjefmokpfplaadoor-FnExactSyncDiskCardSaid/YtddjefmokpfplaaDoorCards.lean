/-
  DERIVED. GIVEN WITH THE SEED: THE CARDS: each row of YtddjefmokpfplaaDoorRows.lean that lists a variable, with what it lists TIED to the program's text (the seventh form; the later family's looks); each row that meets fmt, with fmt's text TOLD by the authors' own Lean function (tested against real Go, not proved from fmt's source: count such statements apart). THE CARD IS WHAT COUNTS. Prove the row's statement (the work); the ties are given (YtddjefmokpfplaaDoorTie.lean); close each card by the builder's one call (the guide's Derived/Test/ToyasCard.lean, 'card_holds'). Laid BY PROGRAM, IN A SANDBOX (cutbox-door.mjs). By AI agents, Wed Nov 11 2026. No macro, syntax, notation, axiom, sorry.
-/
import Derived.Test.YtddjefmokpfplaaDoorRows
import GoSem.ClaimSeven
namespace Go.Proofs.YtddjefmokpfplaaDoor
namespace Rows

/-- THE TIED CARD OF 'laws.FnExactWriteTo'. -/
def fnExactWriteToCard : Claim7 := { stood := { row := fnExactWriteToRow, standIns := [], harness := (true, "c0058e5fc47e9c9b70cdaefad73b56cd61ac25601c8b068e1e6d0b3caf41f246"), looks := true }, kinds := [], alts := [], laidByText := true, laidKinds := [.sentinel], laidTests := true, laidLooks := .later }
def FnExactWriteToCardSaid : Prop := Claim7.holds Tryd.pinned (.plain (OpenSpec.ofChange fnExactWriteToSpec)) fnExactWriteToCard

/-- THE TIED CARD OF 'laws.FnExactSyncDisk'. -/
def fnExactSyncDiskCard : Claim7 := { stood := { row := fnExactSyncDiskRow, standIns := [], harness := (true, "c0058e5fc47e9c9b70cdaefad73b56cd61ac25601c8b068e1e6d0b3caf41f246"), looks := true }, kinds := [], alts := [], laidByText := true, laidKinds := [.sentinel], laidTests := true, laidLooks := .later }
def FnExactSyncDiskCardSaid : Prop := Claim7.holds Tryd.pinned (.plain (OpenSpec.ofChange fnExactSyncDiskSpec)) fnExactSyncDiskCard

/-- THE TIED CARD OF 'laws.FnExactCrashDisk'. -/
def fnExactCrashDiskCard : Claim7 := { stood := { row := fnExactCrashDiskRow, standIns := [], harness := (true, "c0058e5fc47e9c9b70cdaefad73b56cd61ac25601c8b068e1e6d0b3caf41f246"), looks := true }, kinds := [], alts := [], laidByText := true, laidKinds := [.sentinel], laidTests := true, laidLooks := .later }
def FnExactCrashDiskCardSaid : Prop := Claim7.holds Tryd.pinned (.plain (OpenSpec.ofChange fnExactCrashDiskSpec)) fnExactCrashDiskCard

/-- THE SECOND FORM's CARD OF 'laws.FnExactWriteTo'. -/
def fnExactWriteToUptoCard : Claim7 := { stood := { row := fnExactWriteToUptoRow, standIns := [], harness := (true, "c0058e5fc47e9c9b70cdaefad73b56cd61ac25601c8b068e1e6d0b3caf41f246"), looks := true }, kinds := [], alts := [], laidByText := true, laidKinds := [.sentinel], laidTests := true, laidLooks := .later }
def FnExactWriteToUptoCardSaid : Prop := Claim7.holds Tryd.pinned (.plain (OpenSpec.upto fnExactWriteToSpec)) fnExactWriteToUptoCard

/-- THE SECOND FORM's CARD OF 'laws.FnExactSyncDisk'. -/
def fnExactSyncDiskUptoCard : Claim7 := { stood := { row := fnExactSyncDiskUptoRow, standIns := [], harness := (true, "c0058e5fc47e9c9b70cdaefad73b56cd61ac25601c8b068e1e6d0b3caf41f246"), looks := true }, kinds := [], alts := [], laidByText := true, laidKinds := [.sentinel], laidTests := true, laidLooks := .later }
def FnExactSyncDiskUptoCardSaid : Prop := Claim7.holds Tryd.pinned (.plain (OpenSpec.upto fnExactSyncDiskSpec)) fnExactSyncDiskUptoCard

/-- THE SECOND FORM's CARD OF 'laws.FnExactCrashDisk'. -/
def fnExactCrashDiskUptoCard : Claim7 := { stood := { row := fnExactCrashDiskUptoRow, standIns := [], harness := (true, "c0058e5fc47e9c9b70cdaefad73b56cd61ac25601c8b068e1e6d0b3caf41f246"), looks := true }, kinds := [], alts := [], laidByText := true, laidKinds := [.sentinel], laidTests := true, laidLooks := .later }
def FnExactCrashDiskUptoCardSaid : Prop := Claim7.holds Tryd.pinned (.plain (OpenSpec.upto fnExactCrashDiskSpec)) fnExactCrashDiskUptoCard
end Rows
end Go.Proofs.YtddjefmokpfplaaDoor
