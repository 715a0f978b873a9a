/-
  DERIVED. GIVEN WITH THE SEED: THE CARDS: each row of YtegjgbgnpkncbabDoorRows.lean that lists a variable, with what it lists TIED to the program's text (the seventh form; the later family's looks); each row that meets fmt, with fmt's text TOLD by the authors' own Lean function (tested against real Go, not proved from fmt's source: count such statements apart). THE CARD IS WHAT COUNTS. Prove the row's statement (the work); the ties are given (YtegjgbgnpkncbabDoorTie.lean); close each card by the builder's one call (the guide's Derived/Test/ToyasCard.lean, 'card_holds'). Laid BY PROGRAM, IN A SANDBOX (cutbox-door.mjs). By AI agents, Wed Nov 11 2026. No macro, syntax, notation, axiom, sorry.
-/
import Derived.Test.YtegjgbgnpkncbabDoorRows
import GoSem.ClaimSeven
namespace Go.Proofs.YtegjgbgnpkncbabDoor
namespace Rows

/-- THE TIED CARD OF 'laws.FnExactLinesOverfull'. -/
def fnExactLinesOverfullCard : Claim7 := { stood := { row := fnExactLinesOverfullRow, standIns := [], harness := (true, "2d179a3afbfbae4eb8871e7b8119ad587f7e6f6711117446b958fb73c073992d"), looks := true }, kinds := [], alts := [], laidByText := true, laidKinds := [.data, .pinned], laidTests := true, laidLooks := .later }
def FnExactLinesOverfullCardSaid : Prop := Claim7.holds Tryd.pinned (.plain (OpenSpec.ofChange fnExactLinesOverfullSpec)) fnExactLinesOverfullCard

/-- THE SECOND FORM's CARD OF 'laws.FnExactLinesOverfull'. -/
def fnExactLinesOverfullUptoCard : Claim7 := { stood := { row := fnExactLinesOverfullUptoRow, standIns := [], harness := (true, "2d179a3afbfbae4eb8871e7b8119ad587f7e6f6711117446b958fb73c073992d"), looks := true }, kinds := [], alts := [], laidByText := true, laidKinds := [.data, .pinned], laidTests := true, laidLooks := .later }
def FnExactLinesOverfullUptoCardSaid : Prop := Claim7.holds Tryd.pinned (.plain (OpenSpec.upto fnExactLinesOverfullSpec)) fnExactLinesOverfullUptoCard
end Rows
end Go.Proofs.YtegjgbgnpkncbabDoor
