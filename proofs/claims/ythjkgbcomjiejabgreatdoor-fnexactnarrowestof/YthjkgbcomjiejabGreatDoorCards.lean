/-
  DERIVED. GIVEN WITH THE SEED: THE CARDS: each row of YthjkgbcomjiejabGreatDoorRows.lean that lists a variable, with what it lists TIED to the program's text (the seventh form; the later family's looks); each row that meets fmt, with fmt's text TOLD by the authors' own Lean function (tested against real Go, not proved from fmt's source: count such statements apart). THE CARD IS WHAT COUNTS. Prove the row's statement (the work); the ties are given (YthjkgbcomjiejabGreatDoorTie.lean); close each card by the builder's one call (the guide's Derived/Test/ToyasCard.lean, 'card_holds'). Laid BY PROGRAM, IN A SANDBOX (cutbox-door.mjs). By AI agents, Wed Nov 11 2026. No macro, syntax, notation, axiom, sorry.
-/
import Derived.Test.YthjkgbcomjiejabGreatDoorRows
import GoSem.ClaimSeven
namespace Go.Proofs.YthjkgbcomjiejabGreatDoor
namespace Rows

/-- THE TIED CARD OF 'laws.FnExactFitsAll'. -/
def fnExactFitsAllCard : Claim7 := { stood := { row := fnExactFitsAllRow, standIns := [], harness := (true, "93b1f0482cd9c601f1a4b462c689277cb4ce5274dc77e1a256a0dd268aa4ec83"), looks := true }, kinds := [], alts := [], laidByText := true, laidKinds := [.data, .pinned], laidTests := true, laidLooks := .later }
def FnExactFitsAllCardSaid : Prop := Claim7.holds Tryz.pinned (.plain (OpenSpec.ofChange fnExactFitsAllSpec)) fnExactFitsAllCard

/-- THE TIED CARD OF 'laws.FnExactNarrowestOf'. -/
def fnExactNarrowestOfCard : Claim7 := { stood := { row := fnExactNarrowestOfRow, standIns := [], harness := (true, "93b1f0482cd9c601f1a4b462c689277cb4ce5274dc77e1a256a0dd268aa4ec83"), looks := true }, kinds := [], alts := [], laidByText := true, laidKinds := [.data, .pinned], laidTests := true, laidLooks := .later }
def FnExactNarrowestOfCardSaid : Prop := Claim7.holds Tryz.pinned (.plain (OpenSpec.ofChange fnExactNarrowestOfSpec)) fnExactNarrowestOfCard

/-- THE TIED CARD OF 'laws.FnExactNarrowFit'. -/
def fnExactNarrowFitCard : Claim7 := { stood := { row := fnExactNarrowFitRow, standIns := [], harness := (true, "93b1f0482cd9c601f1a4b462c689277cb4ce5274dc77e1a256a0dd268aa4ec83"), looks := true }, kinds := [], alts := [], laidByText := true, laidKinds := [.data, .handle, .sentinel, .sentinel, .pinned], laidTests := true, laidLooks := .later }
def FnExactNarrowFitCardSaid : Prop := Claim7.holds Tryz.pinned (.plain (OpenSpec.ofChange fnExactNarrowFitSpec)) fnExactNarrowFitCard

/-- THE SECOND FORM's CARD OF 'laws.FnExactFitsAll'. -/
def fnExactFitsAllUptoCard : Claim7 := { stood := { row := fnExactFitsAllUptoRow, standIns := [], harness := (true, "93b1f0482cd9c601f1a4b462c689277cb4ce5274dc77e1a256a0dd268aa4ec83"), looks := true }, kinds := [], alts := [], laidByText := true, laidKinds := [.data, .pinned], laidTests := true, laidLooks := .later }
def FnExactFitsAllUptoCardSaid : Prop := Claim7.holds Tryz.pinned (.plain (OpenSpec.upto fnExactFitsAllSpec)) fnExactFitsAllUptoCard

/-- THE SECOND FORM's CARD OF 'laws.FnExactNarrowestOf'. -/
def fnExactNarrowestOfUptoCard : Claim7 := { stood := { row := fnExactNarrowestOfUptoRow, standIns := [], harness := (true, "93b1f0482cd9c601f1a4b462c689277cb4ce5274dc77e1a256a0dd268aa4ec83"), looks := true }, kinds := [], alts := [], laidByText := true, laidKinds := [.data, .pinned], laidTests := true, laidLooks := .later }
def FnExactNarrowestOfUptoCardSaid : Prop := Claim7.holds Tryz.pinned (.plain (OpenSpec.upto fnExactNarrowestOfSpec)) fnExactNarrowestOfUptoCard

/-- THE SECOND FORM's CARD OF 'laws.FnExactNarrowFit'. -/
def fnExactNarrowFitUptoCard : Claim7 := { stood := { row := fnExactNarrowFitUptoRow, standIns := [], harness := (true, "93b1f0482cd9c601f1a4b462c689277cb4ce5274dc77e1a256a0dd268aa4ec83"), looks := true }, kinds := [], alts := [], laidByText := true, laidKinds := [.data, .handle, .sentinel, .sentinel, .pinned], laidTests := true, laidLooks := .later }
def FnExactNarrowFitUptoCardSaid : Prop := Claim7.holds Tryz.pinned (.plain (OpenSpec.upto fnExactNarrowFitSpec)) fnExactNarrowFitUptoCard
end Rows
end Go.Proofs.YthjkgbcomjiejabGreatDoor
