/-
  The law FnExactTokensOf returns true at every argument: TokensOf answers as its model does, writes into no argument, and its answer owns its memory.
  Conditions: none beyond the row's own; whatever the arguments. The card ties the listed variables to the program's text.
-/
import Derived.Test.YtlcplgfjicifeaaGreatDoorQtRTokensOf
namespace Go.Proofs.YtlcplgfjicifeaaGreatDoor.fnExactTokensOf
open Go.ChangeShapes Go.WideShapes Go.ChangeAt Go.RowKit Go.Joins
set_option linter.unusedVariables false

theorem kMain : Tryz.pinned.checked.prog.mainIs = some (Rows.fnExactTokensOfCard.stood.harness.fst, Rows.fnExactTokensOfCard.stood.harness.snd.toList) := by kernel_rfl
end Go.Proofs.YtlcplgfjicifeaaGreatDoor.fnExactTokensOf
