/-
  DERIVED. GIVEN WITH THE SEED: THE CARDS: each row of YtegjgbgnpkncbacGreatDoorRows.lean that lists a variable, with what it lists TIED to the program's text (the seventh form; the later family's looks); each row that meets fmt, with fmt's text TOLD by the authors' own Lean function (tested against real Go, not proved from fmt's source: count such statements apart). THE CARD IS WHAT COUNTS. Prove the row's statement (the work); the ties are given (YtegjgbgnpkncbacGreatDoorTie.lean); close each card by the builder's one call (the guide's Derived/Test/ToyasCard.lean, 'card_holds'). Laid BY PROGRAM, IN A SANDBOX (cutbox-door.mjs). By AI agents, Wed Nov 11 2026. No macro, syntax, notation, axiom, sorry.
-/
import Derived.Test.YtegjgbgnpkncbacGreatDoorRows
import GoSem.ClaimSeven
namespace Go.Proofs.YtegjgbgnpkncbacGreatDoor
namespace Rows

/-- THE TIED CARD OF 'laws.FnExactParseTree'. -/
def fnExactParseTreeCard : Claim7 := { stood := { row := fnExactParseTreeRow, standIns := [], harness := (true, "a74bfdbf976138b742bc19344b5de4551212f8551cb22773d5291f885002c9a9"), looks := true }, kinds := [], alts := [], laidByText := true, laidKinds := [.data, .handle, .pinned], laidTests := true, laidLooks := .later }
def FnExactParseTreeCardSaid : Prop := Claim7.holds Tryz.pinned (.plain (OpenSpec.ofChange fnExactParseTreeSpec)) fnExactParseTreeCard

/-- THE TIED CARD OF 'laws.FnExactSameMeaning'. -/
def fnExactSameMeaningCard : Claim7 := { stood := { row := fnExactSameMeaningRow, standIns := [], harness := (true, "a74bfdbf976138b742bc19344b5de4551212f8551cb22773d5291f885002c9a9"), looks := true }, kinds := [], alts := [], laidByText := true, laidKinds := [.data, .handle, .pinned], laidTests := true, laidLooks := .later }
def FnExactSameMeaningCardSaid : Prop := Claim7.holds Tryz.pinned (.plain (OpenSpec.ofChange fnExactSameMeaningSpec)) fnExactSameMeaningCard

/-- THE TIED CARD OF 'laws.FnExactSqueeze'. -/
def fnExactSqueezeCard : Claim7 := { stood := { row := fnExactSqueezeRow, standIns := [], harness := (true, "a74bfdbf976138b742bc19344b5de4551212f8551cb22773d5291f885002c9a9"), looks := true }, kinds := [], alts := [], laidByText := true, laidKinds := [.data, .handle, .pinned], laidTests := true, laidLooks := .later }
def FnExactSqueezeCardSaid : Prop := Claim7.holds Tryz.pinned (.plain (OpenSpec.ofChange fnExactSqueezeSpec)) fnExactSqueezeCard

/-- THE SECOND FORM's CARD OF 'laws.FnExactParseTree'. -/
def fnExactParseTreeUptoCard : Claim7 := { stood := { row := fnExactParseTreeUptoRow, standIns := [], harness := (true, "a74bfdbf976138b742bc19344b5de4551212f8551cb22773d5291f885002c9a9"), looks := true }, kinds := [], alts := [], laidByText := true, laidKinds := [.data, .handle, .pinned], laidTests := true, laidLooks := .later }
def FnExactParseTreeUptoCardSaid : Prop := Claim7.holds Tryz.pinned (.plain (OpenSpec.upto fnExactParseTreeSpec)) fnExactParseTreeUptoCard

/-- THE SECOND FORM's CARD OF 'laws.FnExactSameMeaning'. -/
def fnExactSameMeaningUptoCard : Claim7 := { stood := { row := fnExactSameMeaningUptoRow, standIns := [], harness := (true, "a74bfdbf976138b742bc19344b5de4551212f8551cb22773d5291f885002c9a9"), looks := true }, kinds := [], alts := [], laidByText := true, laidKinds := [.data, .handle, .pinned], laidTests := true, laidLooks := .later }
def FnExactSameMeaningUptoCardSaid : Prop := Claim7.holds Tryz.pinned (.plain (OpenSpec.upto fnExactSameMeaningSpec)) fnExactSameMeaningUptoCard

/-- THE SECOND FORM's CARD OF 'laws.FnExactSqueeze'. -/
def fnExactSqueezeUptoCard : Claim7 := { stood := { row := fnExactSqueezeUptoRow, standIns := [], harness := (true, "a74bfdbf976138b742bc19344b5de4551212f8551cb22773d5291f885002c9a9"), looks := true }, kinds := [], alts := [], laidByText := true, laidKinds := [.data, .handle, .pinned], laidTests := true, laidLooks := .later }
def FnExactSqueezeUptoCardSaid : Prop := Claim7.holds Tryz.pinned (.plain (OpenSpec.upto fnExactSqueezeSpec)) fnExactSqueezeUptoCard
end Rows
end Go.Proofs.YtegjgbgnpkncbacGreatDoor
