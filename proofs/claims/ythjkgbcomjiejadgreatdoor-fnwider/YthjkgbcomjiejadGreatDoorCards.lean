/-
  DERIVED. GIVEN WITH THE SEED: THE CARDS: each row of YthjkgbcomjiejadGreatDoorRows.lean that lists a variable, with what it lists TIED to the program's text (the seventh form; the later family's looks); each row that meets fmt, with fmt's text TOLD by the authors' own Lean function (tested against real Go, not proved from fmt's source: count such statements apart). THE CARD IS WHAT COUNTS. Prove the row's statement (the work); the ties are given (YthjkgbcomjiejadGreatDoorTie.lean); close each card by the builder's one call (the guide's Derived/Test/ToyasCard.lean, 'card_holds'). Laid BY PROGRAM, IN A SANDBOX (cutbox-door.mjs). By AI agents, Wed Nov 11 2026. No macro, syntax, notation, axiom, sorry.
-/
import Derived.Test.YthjkgbcomjiejadGreatDoorRows
import GoSem.ClaimSeven
namespace Go.Proofs.YthjkgbcomjiejadGreatDoor
namespace Rows

/-- THE TIED CARD OF 'laws.FnStyles'. -/
def fnStylesCard : Claim7 := { stood := { row := fnStylesRow, standIns := [], harness := (true, "e43651ad4da1455e981064d9e4e1998442e1e4bf0bfed76553f045f90f77f5ad"), looks := true }, kinds := [], alts := [], laidByText := true, laidKinds := [.data, .data, .data, .data, .handle, .pinned], laidTests := true, laidLooks := .later }
def FnStylesCardSaid : Prop := Claim7.holds Tryz.pinned (.plain (OpenSpec.ofChange fnStylesSpec)) fnStylesCard

/-- THE TIED CARD OF 'laws.FnWider'. -/
def fnWiderCard : Claim7 := { stood := { row := fnWiderRow, standIns := [], harness := (true, "e43651ad4da1455e981064d9e4e1998442e1e4bf0bfed76553f045f90f77f5ad"), looks := true }, kinds := [], alts := [], laidByText := true, laidKinds := [.data, .pinned], laidTests := true, laidLooks := .later }
def FnWiderCardSaid : Prop := Claim7.holds Tryz.pinned (.plain (OpenSpec.ofChange fnWiderSpec)) fnWiderCard

/-- THE SECOND FORM's CARD OF 'laws.FnStyles'. -/
def fnStylesUptoCard : Claim7 := { stood := { row := fnStylesUptoRow, standIns := [], harness := (true, "e43651ad4da1455e981064d9e4e1998442e1e4bf0bfed76553f045f90f77f5ad"), looks := true }, kinds := [], alts := [], laidByText := true, laidKinds := [.data, .data, .data, .data, .handle, .pinned], laidTests := true, laidLooks := .later }
def FnStylesUptoCardSaid : Prop := Claim7.holds Tryz.pinned (.plain (OpenSpec.upto fnStylesSpec)) fnStylesUptoCard

/-- THE SECOND FORM's CARD OF 'laws.FnWider'. -/
def fnWiderUptoCard : Claim7 := { stood := { row := fnWiderUptoRow, standIns := [], harness := (true, "e43651ad4da1455e981064d9e4e1998442e1e4bf0bfed76553f045f90f77f5ad"), looks := true }, kinds := [], alts := [], laidByText := true, laidKinds := [.data, .pinned], laidTests := true, laidLooks := .later }
def FnWiderUptoCardSaid : Prop := Claim7.holds Tryz.pinned (.plain (OpenSpec.upto fnWiderSpec)) fnWiderUptoCard
end Rows
end Go.Proofs.YthjkgbcomjiejadGreatDoor
