/-
  The implementation's shapes: what their methods answer, and what shapeOf makes of a token.
-/
import Derived.Test.YthjkgbcomjiejaaDoorLl02
import Derived.Deep.RegionHeld3
import Derived.Deep.RegionWith
namespace Go.Proofs.YthjkgbcomjiejaaDoor
open Go.RowKit

def TokAt (w : World) (k : Int) (s : ByteArray) (d o : Int) (w' : World) : Prop :=
  w'.cell? ⟨w.heap.size, 0, none⟩ = some (.int .i64 k) ∧ w'.cell? ⟨w.heap.size, 1, none⟩ = some (.string s) ∧ w'.cell? ⟨w.heap.size, 2, none⟩ = some (.int .i64 d) ∧ w'.cell? ⟨w.heap.size, 3, none⟩ = some (.int .i64 o) ∧ Below w.heap.size w w' ∧ w.heap.size < w'.heap.size
theorem TokAt.start {w w1 : World} {k : Int} {s : ByteArray} {d o : Int} {t : TypeId} (hb : Below (w.alloc (.cells #[.int .i64 k, .string s, .int .i64 d, .int .i64 o] t)).heap.size (w.alloc (.cells #[.int .i64 k, .string s, .int .i64 d, .int .i64 o] t)) w1) : TokAt w k s d o w1 := by
  have hz : w.heap.size < (w.alloc (.cells #[.int .i64 k, .string s, .int .i64 d, .int .i64 o] t)).heap.size := by simp
  refine ⟨?_, ?_, ?_, ?_, ?_, ?_⟩
  · rw [hb.cell (p := ⟨w.heap.size, 0, none⟩) hz]; simp
  · rw [hb.cell (p := ⟨w.heap.size, 1, none⟩) hz]; simp
  · rw [hb.cell (p := ⟨w.heap.size, 2, none⟩) hz]; simp
  · rw [hb.cell (p := ⟨w.heap.size, 3, none⟩) hz]; simp
  · exact ((Below.refl _ _).alloc (Nat.le_refl _) _).trans (hb.mono (by simp))
  · exact Nat.lt_of_lt_of_le hz hb.size
theorem TokAt.go {w W w2 : World} {k : Int} {s : ByteArray} {d o : Int} (h : TokAt w k s d o W) (hb : Below W.heap.size W w2) : TokAt w k s d o w2 := by
  obtain ⟨h0, h1, h2, h3, h4, h5⟩ := h
  refine ⟨?_, ?_, ?_, ?_, ?_, ?_⟩
  · rw [hb.cell (p := ⟨w.heap.size, 0, none⟩) h5]; exact h0
  · rw [hb.cell (p := ⟨w.heap.size, 1, none⟩) h5]; exact h1
  · rw [hb.cell (p := ⟨w.heap.size, 2, none⟩) h5]; exact h2
  · rw [hb.cell (p := ⟨w.heap.size, 3, none⟩) h5]; exact h3
  · exact h4.trans (hb.mono (by omega))
  · exact Nat.lt_of_lt_of_le h5 hb.size
/-- The i-th method's name of an interface type, as the program has it. -/
def ifNameOf (t : Option TypeDesc) (i : Nat) : String := match t with
  | some (.interface ms) => (ms.toList.map Prod.fst).getD i "none"
  | _ => "none"
end Go.Proofs.YthjkgbcomjiejaaDoor
