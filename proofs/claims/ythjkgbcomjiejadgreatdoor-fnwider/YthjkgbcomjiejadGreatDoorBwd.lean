/-
  The class of worlds in which all that was there stays, for regions that draw.
-/
import Derived.Test.YthjkgbcomjiejadGreatDoorCls
import Derived.Test.YthjkgbcomjiejadGreatDoorMem
namespace Go.Proofs.YthjkgbcomjiejadGreatDoor
open Go.RowKit
set_option linter.unusedVariables false
def Bw (w w' : World) : Prop := Below w.heap.size w w'
theorem Bw.start (w : World) : Bw w w.drew := (Below.refl _ _).drew
theorem Bw.keep (w : World) : ∀ w1 w2, Bw w w1 → Below w1.heap.size w1 w2 → Bw w w2 := fun w1 w2 h hb => Below.trans h (hb.mono (show w.heap.size ≤ w1.heap.size from h.size))
theorem Bw.rd {w : World} {a : Addr} {v : Value} (h : w.cell? a = some v) : ∀ x : Cl (Bw w), x.W.cell? a = some v := fun x => (Below.cell (show Below w.heap.size w x.W from x.ok) (World.block_lt_of_cell? w a h)).trans h
theorem Bw.call {P : Program} {f : FuncId} {args : Array Value} {w : World} {b c : Bool} (hbc : b = c) (h : ∀ V, Calls P f args V fun e w' => e = .returned (.bool b) ∧ Below V.heap.size V w') (x : Cl (Bw w)) : Calls P f args x.W fun e w'' => e = .returned (.bool c) ∧ ∃ y : Cl (Bw w), w'' = y.W := by
  subst hbc
  exact calls_class x (Bw.keep w) (h x.W)
theorem same_below {P : Program} {f : FuncId} {args : Array Value} {v : Value} (h : ∀ V, Calls P f args V fun e w' => e = .returned v ∧ V = w') : ∀ V, Calls P f args V fun e w' => e = .returned v ∧ Below V.heap.size V w' :=
  fun V => (h V).mono (by rintro e w' ⟨rfl, rfl⟩; exact ⟨rfl, Below.refl _ _⟩)
end Go.Proofs.YthjkgbcomjiejadGreatDoor
