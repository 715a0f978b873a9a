/-
  DERIVED. GIVEN WITH THE SEED: THE CARDS: each row of YtddbcifjjblkeabDoorRows.lean that lists a variable, with what it lists TIED to the program's text (the seventh form; the later family's looks); each row that meets fmt, with fmt's text TOLD by the authors' own Lean function (tested against real Go, not proved from fmt's source: count such statements apart). THE CARD IS WHAT COUNTS. Prove the row's statement (the work); the ties are given (YtddbcifjjblkeabDoorTie.lean); close each card by the builder's one call (the guide's Derived/Test/ToyasCard.lean, 'card_holds'). Laid BY PROGRAM, IN A SANDBOX (cutbox-door.mjs). By AI agents, Wed Nov 11 2026. No macro, syntax, notation, axiom, sorry.
-/
import Derived.Test.YtddbcifjjblkeabDoorRows
import GoSem.ClaimSeven
namespace Go.Proofs.YtddbcifjjblkeabDoor
namespace Rows

/-- THE TIED CARD OF 'laws.FnExactStyleText'. -/
def fnExactStyleTextCard : Claim7 := { stood := { row := fnExactStyleTextRow, standIns := [], harness := (true, "fb2bbc4299cf0948ffcfe77165ee86e9c196942ca2fe7cde76e95f1359db8c9e"), looks := false }, kinds := [], alts := [], laidByText := true, laidKinds := [.data, .data, .data], laidTests := true, laidLooks := .later }
def FnExactStyleTextCardSaid : Prop := Claim7.holds Tryd.pinned (.plain (OpenSpec.ofChange fnExactStyleTextSpec)) fnExactStyleTextCard

/-- THE TIED CARD OF 'laws.FnExactParseStyle'. -/
def fnExactParseStyleCard : Claim7 := { stood := { row := fnExactParseStyleRow, standIns := [], harness := (true, "fb2bbc4299cf0948ffcfe77165ee86e9c196942ca2fe7cde76e95f1359db8c9e"), looks := false }, kinds := [], alts := [], laidByText := true, laidKinds := [.data, .data, .data], laidTests := true, laidLooks := .later }
def FnExactParseStyleCardSaid : Prop := Claim7.holds Tryd.pinned (.plain (OpenSpec.ofChange fnExactParseStyleSpec)) fnExactParseStyleCard

/-- THE SECOND FORM's CARD OF 'laws.FnExactStyleText'. -/
def fnExactStyleTextUptoCard : Claim7 := { stood := { row := fnExactStyleTextUptoRow, standIns := [], harness := (true, "fb2bbc4299cf0948ffcfe77165ee86e9c196942ca2fe7cde76e95f1359db8c9e"), looks := false }, kinds := [], alts := [], laidByText := true, laidKinds := [.data, .data, .data], laidTests := true, laidLooks := .later }
def FnExactStyleTextUptoCardSaid : Prop := Claim7.holds Tryd.pinned (.plain (OpenSpec.upto fnExactStyleTextSpec)) fnExactStyleTextUptoCard

/-- THE SECOND FORM's CARD OF 'laws.FnExactParseStyle'. -/
def fnExactParseStyleUptoCard : Claim7 := { stood := { row := fnExactParseStyleUptoRow, standIns := [], harness := (true, "fb2bbc4299cf0948ffcfe77165ee86e9c196942ca2fe7cde76e95f1359db8c9e"), looks := false }, kinds := [], alts := [], laidByText := true, laidKinds := [.data, .data, .data], laidTests := true, laidLooks := .later }
def FnExactParseStyleUptoCardSaid : Prop := Claim7.holds Tryd.pinned (.plain (OpenSpec.upto fnExactParseStyleSpec)) fnExactParseStyleUptoCard
end Rows
end Go.Proofs.YtddbcifjjblkeabDoor
