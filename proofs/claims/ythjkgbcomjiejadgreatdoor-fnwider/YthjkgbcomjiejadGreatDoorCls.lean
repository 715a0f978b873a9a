/-
  A region that draws its order, whose operations read and whose callees make memory: one walk of the text's order over the class of the worlds that meet S. It names no function of the program.
-/
import Derived.BigQuiet
import Derived.Below
import Derived.Deep.Draws
namespace Go.Proofs.YthjkgbcomjiejadGreatDoor
open Go.RowKit

/-- a world that meets S. -/
structure Cl (S : World → Prop) where
  W : World
  ok : S W
theorem wp_region_class {P : Program} {id : Nat} {Q : Exit → Act → World → Prop} {a : Act} {w : World} {l : List Oper} (S : World → Prop) (hm : P.follows .mixedOrders = true) (hB : Region.lexB .any l.toArray = true) (hS : S w.drew)
    (h : Nonempty (Cl S) → wpQuiet P l.toArray (fun w' => ∃ x : Cl S, w' = x.W) (fun a' => ∀ w', (∃ x : Cl S, w' = x.W) → Q .normal a' w') l a) : (Code.region id l.toArray true).wp P Q a w :=
  wp_region_quiet (C := fun w' => ∃ x : Cl S, w' = x.W) hm hB ⟨⟨_, hS⟩, rfl⟩ (by simpa using h ⟨⟨_, hS⟩⟩)

/-- a callee that makes memory alone keeps the class, if S is kept. -/
theorem calls_class {P : Program} {f : FuncId} {args : Array Value} {S : World → Prop} (x : Cl S) {v : Value} (hk : ∀ w w', S w → Below w.heap.size w w' → S w')
    (h : Calls P f args x.W fun e w' => e = .returned v ∧ Below x.W.heap.size x.W w') : Calls P f args x.W fun e w'' => e = .returned v ∧ ∃ y : Cl S, w'' = y.W :=
  h.mono fun _ w' ⟨he, hb⟩ => ⟨he, ⟨w', hk _ w' x.ok hb⟩, rfl⟩
end Go.Proofs.YthjkgbcomjiejadGreatDoor
