/-
  DERIVED. GIVEN WITH THE SEED: THE CARDS: each row of YtigdbkdddnbfpaaDoorRows.lean that lists a variable, with what it lists TIED to the program's text (the seventh form; the later family's looks); each row that meets fmt, with fmt's text TOLD by the authors' own Lean function (tested against real Go, not proved from fmt's source: count such statements apart). THE CARD IS WHAT COUNTS. Prove the row's statement (the work); the ties are given (YtigdbkdddnbfpaaDoorTie.lean); close each card by the builder's one call (the guide's Derived/Test/ToyasCard.lean, 'card_holds'). Laid BY PROGRAM, IN A SANDBOX (cutbox-door.mjs). By AI agents, Wed Nov 11 2026. No macro, syntax, notation, axiom, sorry.
-/
import Derived.Test.YtigdbkdddnbfpaaDoorRows
import GoSem.ClaimSeven
namespace Go.Proofs.YtigdbkdddnbfpaaDoor
namespace Rows

/-- THE TIED CARD OF 'laws.FnExactLexText'. -/
def fnExactLexTextCard : Claim7 := { stood := { row := fnExactLexTextRow, standIns := [], harness := (true, "42f2a89bc2b4af50b4de87345bef90bde1234577891602be33ca827ca620470e"), looks := true }, kinds := [], alts := [], laidByText := true, laidKinds := [.data, .handle, .pinned], laidTests := true, laidLooks := .later }
def FnExactLexTextCardSaid : Prop := Claim7.holds Tryd.pinned (.plain (OpenSpec.ofChange fnExactLexTextSpec)) fnExactLexTextCard

/-- THE TIED CARD OF 'laws.FnLexed'. -/
def fnLexedCard : Claim7 := { stood := { row := fnLexedRow, standIns := [], harness := (true, "42f2a89bc2b4af50b4de87345bef90bde1234577891602be33ca827ca620470e"), looks := true }, kinds := [], alts := [], laidByText := true, laidKinds := [.data, .handle, .pinned], laidTests := true, laidLooks := .later }
def FnLexedCardSaid : Prop := Claim7.holds Tryd.pinned (.plain (OpenSpec.ofChange fnLexedSpec)) fnLexedCard

/-- THE SECOND FORM's CARD OF 'laws.FnExactLexText'. -/
def fnExactLexTextUptoCard : Claim7 := { stood := { row := fnExactLexTextUptoRow, standIns := [], harness := (true, "42f2a89bc2b4af50b4de87345bef90bde1234577891602be33ca827ca620470e"), looks := true }, kinds := [], alts := [], laidByText := true, laidKinds := [.data, .handle, .pinned], laidTests := true, laidLooks := .later }
def FnExactLexTextUptoCardSaid : Prop := Claim7.holds Tryd.pinned (.plain (OpenSpec.upto fnExactLexTextSpec)) fnExactLexTextUptoCard

/-- THE SECOND FORM's CARD OF 'laws.FnLexed'. -/
def fnLexedUptoCard : Claim7 := { stood := { row := fnLexedUptoRow, standIns := [], harness := (true, "42f2a89bc2b4af50b4de87345bef90bde1234577891602be33ca827ca620470e"), looks := true }, kinds := [], alts := [], laidByText := true, laidKinds := [.data, .handle, .pinned], laidTests := true, laidLooks := .later }
def FnLexedUptoCardSaid : Prop := Claim7.holds Tryd.pinned (.plain (OpenSpec.upto fnLexedSpec)) fnLexedUptoCard
end Rows
end Go.Proofs.YtigdbkdddnbfpaaDoor
