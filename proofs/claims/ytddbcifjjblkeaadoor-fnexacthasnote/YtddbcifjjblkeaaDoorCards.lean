/-
  DERIVED. GIVEN WITH THE SEED: THE CARDS: each row of YtddbcifjjblkeaaDoorRows.lean that lists a variable, with what it lists TIED to the program's text (the seventh form; the later family's looks); each row that meets fmt, with fmt's text TOLD by the authors' own Lean function (tested against real Go, not proved from fmt's source: count such statements apart). THE CARD IS WHAT COUNTS. Prove the row's statement (the work); the ties are given (YtddbcifjjblkeaaDoorTie.lean); close each card by the builder's one call (the guide's Derived/Test/ToyasCard.lean, 'card_holds'). Laid BY PROGRAM, IN A SANDBOX (cutbox-door.mjs). By AI agents, Wed Nov 11 2026. No macro, syntax, notation, axiom, sorry.
-/
import Derived.Test.YtddbcifjjblkeaaDoorRows
import GoSem.ClaimSeven
namespace Go.Proofs.YtddbcifjjblkeaaDoor
namespace Rows

/-- THE TIED CARD OF 'laws.FnExactCountBlocks'. -/
def fnExactCountBlocksCard : Claim7 := { stood := { row := fnExactCountBlocksRow, standIns := [], harness := (true, "376b6dc590bfbc7cc7069c87706dee7b802743c7234236920f19daad888d8d1f"), looks := true }, kinds := [], alts := [], laidByText := true, laidKinds := [.data, .handle, .pinned], laidTests := true, laidLooks := .later }
def FnExactCountBlocksCardSaid : Prop := Claim7.holds Tryd.pinned (.plain (OpenSpec.ofChange fnExactCountBlocksSpec)) fnExactCountBlocksCard

/-- THE TIED CARD OF 'laws.FnExactHasNote'. -/
def fnExactHasNoteCard : Claim7 := { stood := { row := fnExactHasNoteRow, standIns := [], harness := (true, "376b6dc590bfbc7cc7069c87706dee7b802743c7234236920f19daad888d8d1f"), looks := true }, kinds := [], alts := [], laidByText := true, laidKinds := [.data, .handle, .pinned], laidTests := true, laidLooks := .later }
def FnExactHasNoteCardSaid : Prop := Claim7.holds Tryd.pinned (.plain (OpenSpec.ofChange fnExactHasNoteSpec)) fnExactHasNoteCard

/-- THE SECOND FORM's CARD OF 'laws.FnExactCountBlocks'. -/
def fnExactCountBlocksUptoCard : Claim7 := { stood := { row := fnExactCountBlocksUptoRow, standIns := [], harness := (true, "376b6dc590bfbc7cc7069c87706dee7b802743c7234236920f19daad888d8d1f"), looks := true }, kinds := [], alts := [], laidByText := true, laidKinds := [.data, .handle, .pinned], laidTests := true, laidLooks := .later }
def FnExactCountBlocksUptoCardSaid : Prop := Claim7.holds Tryd.pinned (.plain (OpenSpec.upto fnExactCountBlocksSpec)) fnExactCountBlocksUptoCard

/-- THE SECOND FORM's CARD OF 'laws.FnExactHasNote'. -/
def fnExactHasNoteUptoCard : Claim7 := { stood := { row := fnExactHasNoteUptoRow, standIns := [], harness := (true, "376b6dc590bfbc7cc7069c87706dee7b802743c7234236920f19daad888d8d1f"), looks := true }, kinds := [], alts := [], laidByText := true, laidKinds := [.data, .handle, .pinned], laidTests := true, laidLooks := .later }
def FnExactHasNoteUptoCardSaid : Prop := Claim7.holds Tryd.pinned (.plain (OpenSpec.upto fnExactHasNoteSpec)) fnExactHasNoteUptoCard
end Rows
end Go.Proofs.YtddbcifjjblkeaaDoor
