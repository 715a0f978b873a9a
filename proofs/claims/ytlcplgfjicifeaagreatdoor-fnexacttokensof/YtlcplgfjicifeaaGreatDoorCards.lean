/-
  DERIVED. GIVEN WITH THE SEED: THE CARDS: each row of YtlcplgfjicifeaaGreatDoorRows.lean that lists a variable, with what it lists TIED to the program's text (the seventh form; the later family's looks); each row that meets fmt, with fmt's text TOLD by the authors' own Lean function (tested against real Go, not proved from fmt's source: count such statements apart). THE CARD IS WHAT COUNTS. Prove the row's statement (the work); the ties are given (YtlcplgfjicifeaaGreatDoorTie.lean); close each card by the builder's one call (the guide's Derived/Test/ToyasCard.lean, 'card_holds'). Laid BY PROGRAM, IN A SANDBOX (cutbox-door.mjs). By AI agents, Wed Nov 11 2026. No macro, syntax, notation, axiom, sorry.
-/
import Derived.Test.YtlcplgfjicifeaaGreatDoorRows
import GoSem.ClaimSeven
namespace Go.Proofs.YtlcplgfjicifeaaGreatDoor
namespace Rows

/-- THE TIED CARD OF 'laws.FnExactTokensOf'. -/
def fnExactTokensOfCard : Claim7 := { stood := { row := fnExactTokensOfRow, standIns := [], harness := (true, "1ed619fe7d28332e8ebffd326ba34de64feb4a7bf3c5e36f2f377db683ae8448"), looks := true }, kinds := [], alts := [], laidByText := true, laidKinds := [.data, .handle, .pinned], laidTests := true, laidLooks := .later }
def FnExactTokensOfCardSaid : Prop := Claim7.holds Tryz.pinned (.plain (OpenSpec.ofChange fnExactTokensOfSpec)) fnExactTokensOfCard

/-- THE TIED CARD OF 'laws.FnStyles'. -/
def fnStylesCard : Claim7 := { stood := { row := fnStylesRow, standIns := [], harness := (true, "1ed619fe7d28332e8ebffd326ba34de64feb4a7bf3c5e36f2f377db683ae8448"), looks := true }, kinds := [], alts := [], laidByText := true, laidKinds := [.data, .data, .data, .data, .handle, .pinned], laidTests := true, laidLooks := .later }
def FnStylesCardSaid : Prop := Claim7.holds Tryz.pinned (.plain (OpenSpec.ofChange fnStylesSpec)) fnStylesCard

/-- THE TIED CARD OF 'laws.FnExactParseTree'. -/
def fnExactParseTreeCard : Claim7 := { stood := { row := fnExactParseTreeRow, standIns := [], harness := (true, "1ed619fe7d28332e8ebffd326ba34de64feb4a7bf3c5e36f2f377db683ae8448"), looks := true }, kinds := [], alts := [], laidByText := true, laidKinds := [.data, .handle, .pinned], laidTests := true, laidLooks := .later }
def FnExactParseTreeCardSaid : Prop := Claim7.holds Tryz.pinned (.plain (OpenSpec.ofChange fnExactParseTreeSpec)) fnExactParseTreeCard

/-- THE TIED CARD OF 'laws.FnTrees'. -/
def fnTreesCard : Claim7 := { stood := { row := fnTreesRow, standIns := [], harness := (true, "1ed619fe7d28332e8ebffd326ba34de64feb4a7bf3c5e36f2f377db683ae8448"), looks := true }, kinds := [], alts := [], laidByText := true, laidKinds := [.data, .handle, .pinned], laidTests := true, laidLooks := .later }
def FnTreesCardSaid : Prop := Claim7.holds Tryz.pinned (.plain (OpenSpec.ofChange fnTreesSpec)) fnTreesCard

/-- THE TIED CARD OF 'laws.FnParsed'. -/
def fnParsedCard : Claim7 := { stood := { row := fnParsedRow, standIns := [], harness := (true, "1ed619fe7d28332e8ebffd326ba34de64feb4a7bf3c5e36f2f377db683ae8448"), looks := true }, kinds := [], alts := [], laidByText := true, laidKinds := [.data, .handle, .pinned], laidTests := true, laidLooks := .later }
def FnParsedCardSaid : Prop := Claim7.holds Tryz.pinned (.plain (OpenSpec.ofChange fnParsedSpec)) fnParsedCard

/-- THE TIED CARD OF 'laws.FnExactSameMeaning'. -/
def fnExactSameMeaningCard : Claim7 := { stood := { row := fnExactSameMeaningRow, standIns := [], harness := (true, "1ed619fe7d28332e8ebffd326ba34de64feb4a7bf3c5e36f2f377db683ae8448"), looks := true }, kinds := [], alts := [], laidByText := true, laidKinds := [.data, .handle, .pinned], laidTests := true, laidLooks := .later }
def FnExactSameMeaningCardSaid : Prop := Claim7.holds Tryz.pinned (.plain (OpenSpec.ofChange fnExactSameMeaningSpec)) fnExactSameMeaningCard

/-- THE TIED CARD OF 'laws.FnExactSqueeze'. -/
def fnExactSqueezeCard : Claim7 := { stood := { row := fnExactSqueezeRow, standIns := [], harness := (true, "1ed619fe7d28332e8ebffd326ba34de64feb4a7bf3c5e36f2f377db683ae8448"), looks := true }, kinds := [], alts := [], laidByText := true, laidKinds := [.data, .handle, .pinned], laidTests := true, laidLooks := .later }
def FnExactSqueezeCardSaid : Prop := Claim7.holds Tryz.pinned (.plain (OpenSpec.ofChange fnExactSqueezeSpec)) fnExactSqueezeCard

/-- THE TIED CARD OF 'laws.FnExactNarrowFit'. -/
def fnExactNarrowFitCard : Claim7 := { stood := { row := fnExactNarrowFitRow, standIns := [], harness := (true, "1ed619fe7d28332e8ebffd326ba34de64feb4a7bf3c5e36f2f377db683ae8448"), looks := true }, kinds := [], alts := [], laidByText := true, laidKinds := [.data, .handle, .sentinel, .sentinel, .pinned], laidTests := true, laidLooks := .later }
def FnExactNarrowFitCardSaid : Prop := Claim7.holds Tryz.pinned (.plain (OpenSpec.ofChange fnExactNarrowFitSpec)) fnExactNarrowFitCard

/-- THE TIED CARD OF 'laws.FnExactFitsAll'. -/
def fnExactFitsAllCard : Claim7 := { stood := { row := fnExactFitsAllRow, standIns := [], harness := (true, "1ed619fe7d28332e8ebffd326ba34de64feb4a7bf3c5e36f2f377db683ae8448"), looks := true }, kinds := [], alts := [], laidByText := true, laidKinds := [.data, .pinned], laidTests := true, laidLooks := .later }
def FnExactFitsAllCardSaid : Prop := Claim7.holds Tryz.pinned (.plain (OpenSpec.ofChange fnExactFitsAllSpec)) fnExactFitsAllCard

/-- THE TIED CARD OF 'laws.FnExactNarrowestOf'. -/
def fnExactNarrowestOfCard : Claim7 := { stood := { row := fnExactNarrowestOfRow, standIns := [], harness := (true, "1ed619fe7d28332e8ebffd326ba34de64feb4a7bf3c5e36f2f377db683ae8448"), looks := true }, kinds := [], alts := [], laidByText := true, laidKinds := [.data, .pinned], laidTests := true, laidLooks := .later }
def FnExactNarrowestOfCardSaid : Prop := Claim7.holds Tryz.pinned (.plain (OpenSpec.ofChange fnExactNarrowestOfSpec)) fnExactNarrowestOfCard

/-- THE SECOND FORM's CARD OF 'laws.FnExactTokensOf'. -/
def fnExactTokensOfUptoCard : Claim7 := { stood := { row := fnExactTokensOfUptoRow, standIns := [], harness := (true, "1ed619fe7d28332e8ebffd326ba34de64feb4a7bf3c5e36f2f377db683ae8448"), looks := true }, kinds := [], alts := [], laidByText := true, laidKinds := [.data, .handle, .pinned], laidTests := true, laidLooks := .later }
def FnExactTokensOfUptoCardSaid : Prop := Claim7.holds Tryz.pinned (.plain (OpenSpec.upto fnExactTokensOfSpec)) fnExactTokensOfUptoCard

/-- THE SECOND FORM's CARD OF 'laws.FnStyles'. -/
def fnStylesUptoCard : Claim7 := { stood := { row := fnStylesUptoRow, standIns := [], harness := (true, "1ed619fe7d28332e8ebffd326ba34de64feb4a7bf3c5e36f2f377db683ae8448"), looks := true }, kinds := [], alts := [], laidByText := true, laidKinds := [.data, .data, .data, .data, .handle, .pinned], laidTests := true, laidLooks := .later }
def FnStylesUptoCardSaid : Prop := Claim7.holds Tryz.pinned (.plain (OpenSpec.upto fnStylesSpec)) fnStylesUptoCard

/-- THE SECOND FORM's CARD OF 'laws.FnExactParseTree'. -/
def fnExactParseTreeUptoCard : Claim7 := { stood := { row := fnExactParseTreeUptoRow, standIns := [], harness := (true, "1ed619fe7d28332e8ebffd326ba34de64feb4a7bf3c5e36f2f377db683ae8448"), looks := true }, kinds := [], alts := [], laidByText := true, laidKinds := [.data, .handle, .pinned], laidTests := true, laidLooks := .later }
def FnExactParseTreeUptoCardSaid : Prop := Claim7.holds Tryz.pinned (.plain (OpenSpec.upto fnExactParseTreeSpec)) fnExactParseTreeUptoCard

/-- THE SECOND FORM's CARD OF 'laws.FnTrees'. -/
def fnTreesUptoCard : Claim7 := { stood := { row := fnTreesUptoRow, standIns := [], harness := (true, "1ed619fe7d28332e8ebffd326ba34de64feb4a7bf3c5e36f2f377db683ae8448"), looks := true }, kinds := [], alts := [], laidByText := true, laidKinds := [.data, .handle, .pinned], laidTests := true, laidLooks := .later }
def FnTreesUptoCardSaid : Prop := Claim7.holds Tryz.pinned (.plain (OpenSpec.upto fnTreesSpec)) fnTreesUptoCard

/-- THE SECOND FORM's CARD OF 'laws.FnParsed'. -/
def fnParsedUptoCard : Claim7 := { stood := { row := fnParsedUptoRow, standIns := [], harness := (true, "1ed619fe7d28332e8ebffd326ba34de64feb4a7bf3c5e36f2f377db683ae8448"), looks := true }, kinds := [], alts := [], laidByText := true, laidKinds := [.data, .handle, .pinned], laidTests := true, laidLooks := .later }
def FnParsedUptoCardSaid : Prop := Claim7.holds Tryz.pinned (.plain (OpenSpec.upto fnParsedSpec)) fnParsedUptoCard

/-- THE SECOND FORM's CARD OF 'laws.FnExactSameMeaning'. -/
def fnExactSameMeaningUptoCard : Claim7 := { stood := { row := fnExactSameMeaningUptoRow, standIns := [], harness := (true, "1ed619fe7d28332e8ebffd326ba34de64feb4a7bf3c5e36f2f377db683ae8448"), looks := true }, kinds := [], alts := [], laidByText := true, laidKinds := [.data, .handle, .pinned], laidTests := true, laidLooks := .later }
def FnExactSameMeaningUptoCardSaid : Prop := Claim7.holds Tryz.pinned (.plain (OpenSpec.upto fnExactSameMeaningSpec)) fnExactSameMeaningUptoCard

/-- THE SECOND FORM's CARD OF 'laws.FnExactSqueeze'. -/
def fnExactSqueezeUptoCard : Claim7 := { stood := { row := fnExactSqueezeUptoRow, standIns := [], harness := (true, "1ed619fe7d28332e8ebffd326ba34de64feb4a7bf3c5e36f2f377db683ae8448"), looks := true }, kinds := [], alts := [], laidByText := true, laidKinds := [.data, .handle, .pinned], laidTests := true, laidLooks := .later }
def FnExactSqueezeUptoCardSaid : Prop := Claim7.holds Tryz.pinned (.plain (OpenSpec.upto fnExactSqueezeSpec)) fnExactSqueezeUptoCard

/-- THE SECOND FORM's CARD OF 'laws.FnExactNarrowFit'. -/
def fnExactNarrowFitUptoCard : Claim7 := { stood := { row := fnExactNarrowFitUptoRow, standIns := [], harness := (true, "1ed619fe7d28332e8ebffd326ba34de64feb4a7bf3c5e36f2f377db683ae8448"), looks := true }, kinds := [], alts := [], laidByText := true, laidKinds := [.data, .handle, .sentinel, .sentinel, .pinned], laidTests := true, laidLooks := .later }
def FnExactNarrowFitUptoCardSaid : Prop := Claim7.holds Tryz.pinned (.plain (OpenSpec.upto fnExactNarrowFitSpec)) fnExactNarrowFitUptoCard

/-- THE SECOND FORM's CARD OF 'laws.FnExactFitsAll'. -/
def fnExactFitsAllUptoCard : Claim7 := { stood := { row := fnExactFitsAllUptoRow, standIns := [], harness := (true, "1ed619fe7d28332e8ebffd326ba34de64feb4a7bf3c5e36f2f377db683ae8448"), looks := true }, kinds := [], alts := [], laidByText := true, laidKinds := [.data, .pinned], laidTests := true, laidLooks := .later }
def FnExactFitsAllUptoCardSaid : Prop := Claim7.holds Tryz.pinned (.plain (OpenSpec.upto fnExactFitsAllSpec)) fnExactFitsAllUptoCard

/-- THE SECOND FORM's CARD OF 'laws.FnExactNarrowestOf'. -/
def fnExactNarrowestOfUptoCard : Claim7 := { stood := { row := fnExactNarrowestOfUptoRow, standIns := [], harness := (true, "1ed619fe7d28332e8ebffd326ba34de64feb4a7bf3c5e36f2f377db683ae8448"), looks := true }, kinds := [], alts := [], laidByText := true, laidKinds := [.data, .pinned], laidTests := true, laidLooks := .later }
def FnExactNarrowestOfUptoCardSaid : Prop := Claim7.holds Tryz.pinned (.plain (OpenSpec.upto fnExactNarrowestOfSpec)) fnExactNarrowestOfUptoCard
end Rows
end Go.Proofs.YtlcplgfjicifeaaGreatDoor
