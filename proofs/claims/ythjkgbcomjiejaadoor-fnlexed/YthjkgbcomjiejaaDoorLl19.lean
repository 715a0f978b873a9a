/-
  The class of worlds in which all that was there stays, for regions that draw.
-/
import Derived.BigQuiet
import Derived.Below
import Derived.Deep.Draws
import Derived.Test.YthjkgbcomjiejaaDoorLl06
namespace Go.Proofs.YthjkgbcomjiejaaDoor
open Go.RowKit

/-- a world that meets S. -/
structure Cl (S : World → Prop) where
  W : World
  ok : S W
theorem wp_region_class {P : Program} {id : Nat} {Q : Exit → Act → World → Prop} {a : Act} {w : World} {l : List Oper} (S : World → Prop) (hm : P.follows .mixedOrders = true) (hB : Region.lexB .any l.toArray = true) (hS : S w.drew)
    (h : Nonempty (Cl S) → wpQuiet P l.toArray (fun w' => ∃ x : Cl S, w' = x.W) (fun a' => ∀ w', (∃ x : Cl S, w' = x.W) → Q .normal a' w') l a) : (Code.region id l.toArray true).wp P Q a w :=
  wp_region_quiet (C := fun w' => ∃ x : Cl S, w' = x.W) hm hB ⟨⟨_, hS⟩, rfl⟩ (by simpa using h ⟨⟨_, hS⟩⟩)

/-- a callee that makes memory alone keeps the class, if S is kept. -/
theorem calls_class {P : Program} {f : FuncId} {args : Array Value} {S : World → Prop} (x : Cl S) {v : Value} (hk : ∀ w w', S w → Below w.heap.size w w' → S w')
    (h : Calls P f args x.W fun e w' => e = .returned v ∧ Below x.W.heap.size x.W w') : Calls P f args x.W fun e w'' => e = .returned v ∧ ∃ y : Cl S, w'' = y.W :=
  h.mono fun _ w' ⟨he, hb⟩ => ⟨he, ⟨w', hk _ w' x.ok hb⟩, rfl⟩
end Go.Proofs.YthjkgbcomjiejaaDoor
namespace Go.Proofs.YthjkgbcomjiejaaDoor
open Go.RowKit
set_option linter.unusedVariables false
def Bw (w w' : World) : Prop := Below w.heap.size w w'
theorem Bw.start (w : World) : Bw w w.drew := (Below.refl _ _).drew
theorem Bw.keep (w : World) : ∀ w1 w2, Bw w w1 → Below w1.heap.size w1 w2 → Bw w w2 := fun w1 w2 h hb => Below.trans h (hb.mono (show w.heap.size ≤ w1.heap.size from h.size))
theorem Bw.rd {w : World} {a : Addr} {v : Value} (h : w.cell? a = some v) : ∀ x : Cl (Bw w), x.W.cell? a = some v := fun x => (Below.cell (show Below w.heap.size w x.W from x.ok) (World.block_lt_of_cell? w a h)).trans h
theorem Bw.call {P : Program} {f : FuncId} {args : Array Value} {w : World} {b c : Bool} (hbc : b = c) (h : ∀ V, Calls P f args V fun e w' => e = .returned (.bool b) ∧ Below V.heap.size V w') (x : Cl (Bw w)) : Calls P f args x.W fun e w'' => e = .returned (.bool c) ∧ ∃ y : Cl (Bw w), w'' = y.W := by
  subst hbc
  exact calls_class x (Bw.keep w) (h x.W)
theorem same_below {P : Program} {f : FuncId} {args : Array Value} {v : Value} (h : ∀ V, Calls P f args V fun e w' => e = .returned v ∧ V = w') : ∀ V, Calls P f args V fun e w' => e = .returned v ∧ Below V.heap.size V w' :=
  fun V => (h V).mono (by rintro e w' ⟨rfl, rfl⟩; exact ⟨rfl, Below.refl _ _⟩)
end Go.Proofs.YthjkgbcomjiejaaDoor
