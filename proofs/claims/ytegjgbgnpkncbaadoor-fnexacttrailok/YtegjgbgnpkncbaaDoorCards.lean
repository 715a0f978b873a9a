/-
  DERIVED. GIVEN WITH THE SEED: THE CARDS: each row of YtegjgbgnpkncbaaDoorRows.lean that lists a variable, with what it lists TIED to the program's text (the seventh form; the later family's looks); each row that meets fmt, with fmt's text TOLD by the authors' own Lean function (tested against real Go, not proved from fmt's source: count such statements apart). THE CARD IS WHAT COUNTS. Prove the row's statement (the work); the ties are given (YtegjgbgnpkncbaaDoorTie.lean); close each card by the builder's one call (the guide's Derived/Test/ToyasCard.lean, 'card_holds'). Laid BY PROGRAM, IN A SANDBOX (cutbox-door.mjs). By AI agents, Wed Nov 11 2026. No macro, syntax, notation, axiom, sorry.
-/
import Derived.Test.YtegjgbgnpkncbaaDoorRows
import GoSem.ClaimSeven
namespace Go.Proofs.YtegjgbgnpkncbaaDoor
namespace Rows

/-- THE TIED CARD OF 'laws.FnExactLineWidths'. -/
def fnExactLineWidthsCard : Claim7 := { stood := { row := fnExactLineWidthsRow, standIns := [], harness := (true, "4bcf429d45391347ea620a088bca9f488361da29999879918a569116ec5d1d26"), looks := false }, kinds := [], alts := [], laidByText := true, laidKinds := [.data, .pinned], laidTests := true, laidLooks := .later }
def FnExactLineWidthsCardSaid : Prop := Claim7.holds Tryd.pinned (.plain (OpenSpec.ofChange fnExactLineWidthsSpec)) fnExactLineWidthsCard

/-- THE TIED CARD OF 'laws.FnExactIndentsOf'. -/
def fnExactIndentsOfCard : Claim7 := { stood := { row := fnExactIndentsOfRow, standIns := [], harness := (true, "4bcf429d45391347ea620a088bca9f488361da29999879918a569116ec5d1d26"), looks := false }, kinds := [], alts := [], laidByText := true, laidKinds := [.data, .pinned], laidTests := true, laidLooks := .later }
def FnExactIndentsOfCardSaid : Prop := Claim7.holds Tryd.pinned (.plain (OpenSpec.ofChange fnExactIndentsOfSpec)) fnExactIndentsOfCard

/-- THE TIED CARD OF 'laws.FnExactTrailOk'. -/
def fnExactTrailOkCard : Claim7 := { stood := { row := fnExactTrailOkRow, standIns := [], harness := (true, "4bcf429d45391347ea620a088bca9f488361da29999879918a569116ec5d1d26"), looks := false }, kinds := [], alts := [], laidByText := true, laidKinds := [.data, .pinned], laidTests := true, laidLooks := .later }
def FnExactTrailOkCardSaid : Prop := Claim7.holds Tryd.pinned (.plain (OpenSpec.ofChange fnExactTrailOkSpec)) fnExactTrailOkCard

/-- THE TIED CARD OF 'laws.FnExactLongLines'. -/
def fnExactLongLinesCard : Claim7 := { stood := { row := fnExactLongLinesRow, standIns := [], harness := (true, "4bcf429d45391347ea620a088bca9f488361da29999879918a569116ec5d1d26"), looks := false }, kinds := [], alts := [], laidByText := true, laidKinds := [.data, .pinned], laidTests := true, laidLooks := .later }
def FnExactLongLinesCardSaid : Prop := Claim7.holds Tryd.pinned (.plain (OpenSpec.ofChange fnExactLongLinesSpec)) fnExactLongLinesCard

/-- THE TIED CARD OF 'laws.FnExactWidestLine'. -/
def fnExactWidestLineCard : Claim7 := { stood := { row := fnExactWidestLineRow, standIns := [], harness := (true, "4bcf429d45391347ea620a088bca9f488361da29999879918a569116ec5d1d26"), looks := false }, kinds := [], alts := [], laidByText := true, laidKinds := [.data, .pinned], laidTests := true, laidLooks := .later }
def FnExactWidestLineCardSaid : Prop := Claim7.holds Tryd.pinned (.plain (OpenSpec.ofChange fnExactWidestLineSpec)) fnExactWidestLineCard

/-- THE SECOND FORM's CARD OF 'laws.FnExactLineWidths'. -/
def fnExactLineWidthsUptoCard : Claim7 := { stood := { row := fnExactLineWidthsUptoRow, standIns := [], harness := (true, "4bcf429d45391347ea620a088bca9f488361da29999879918a569116ec5d1d26"), looks := false }, kinds := [], alts := [], laidByText := true, laidKinds := [.data, .pinned], laidTests := true, laidLooks := .later }
def FnExactLineWidthsUptoCardSaid : Prop := Claim7.holds Tryd.pinned (.plain (OpenSpec.upto fnExactLineWidthsSpec)) fnExactLineWidthsUptoCard

/-- THE SECOND FORM's CARD OF 'laws.FnExactIndentsOf'. -/
def fnExactIndentsOfUptoCard : Claim7 := { stood := { row := fnExactIndentsOfUptoRow, standIns := [], harness := (true, "4bcf429d45391347ea620a088bca9f488361da29999879918a569116ec5d1d26"), looks := false }, kinds := [], alts := [], laidByText := true, laidKinds := [.data, .pinned], laidTests := true, laidLooks := .later }
def FnExactIndentsOfUptoCardSaid : Prop := Claim7.holds Tryd.pinned (.plain (OpenSpec.upto fnExactIndentsOfSpec)) fnExactIndentsOfUptoCard

/-- THE SECOND FORM's CARD OF 'laws.FnExactTrailOk'. -/
def fnExactTrailOkUptoCard : Claim7 := { stood := { row := fnExactTrailOkUptoRow, standIns := [], harness := (true, "4bcf429d45391347ea620a088bca9f488361da29999879918a569116ec5d1d26"), looks := false }, kinds := [], alts := [], laidByText := true, laidKinds := [.data, .pinned], laidTests := true, laidLooks := .later }
def FnExactTrailOkUptoCardSaid : Prop := Claim7.holds Tryd.pinned (.plain (OpenSpec.upto fnExactTrailOkSpec)) fnExactTrailOkUptoCard

/-- THE SECOND FORM's CARD OF 'laws.FnExactLongLines'. -/
def fnExactLongLinesUptoCard : Claim7 := { stood := { row := fnExactLongLinesUptoRow, standIns := [], harness := (true, "4bcf429d45391347ea620a088bca9f488361da29999879918a569116ec5d1d26"), looks := false }, kinds := [], alts := [], laidByText := true, laidKinds := [.data, .pinned], laidTests := true, laidLooks := .later }
def FnExactLongLinesUptoCardSaid : Prop := Claim7.holds Tryd.pinned (.plain (OpenSpec.upto fnExactLongLinesSpec)) fnExactLongLinesUptoCard

/-- THE SECOND FORM's CARD OF 'laws.FnExactWidestLine'. -/
def fnExactWidestLineUptoCard : Claim7 := { stood := { row := fnExactWidestLineUptoRow, standIns := [], harness := (true, "4bcf429d45391347ea620a088bca9f488361da29999879918a569116ec5d1d26"), looks := false }, kinds := [], alts := [], laidByText := true, laidKinds := [.data, .pinned], laidTests := true, laidLooks := .later }
def FnExactWidestLineUptoCardSaid : Prop := Claim7.holds Tryd.pinned (.plain (OpenSpec.upto fnExactWidestLineSpec)) fnExactWidestLineUptoCard
end Rows
end Go.Proofs.YtegjgbgnpkncbaaDoor
