/-
  MatchOf on both sides.
-/
import Derived.Test.YthjkgbcomjiejadGreatDoorLvls
import Derived.Test.YthjkgbcomjiejadGreatDoorFnd
import Derived.Deep.QuietTactic
import Derived.BigQuiet
namespace Go.Proofs.YthjkgbcomjiejadGreatDoor
open Go.RowKit
set_option linter.unusedVariables false

theorem levs_at (l : List Tk) {i : Nat} (hi : i < l.length) : (levs l)[i]? = some (levI l i) := by
  simp [levs, List.getElem?_range hi]
theorem below_drewNm {B : Nat} {a w : World} (h : Below B a w) (n : Nat) : Below B a (w.drewN n) := ⟨h.os, h.tape, h.output, h.size, h.block⟩

end Go.Proofs.YthjkgbcomjiejadGreatDoor
