/-
  Layout, BreaksOf, LinesIn, MarksAt of the program.
-/
import Derived.Test.YtegjgbgnpkncbabPrd
namespace Go.Proofs.Ytegjgbgnpkncbab
open Go.RowKit
set_option linter.unusedVariables false

theorem conv_own {w : World} {B : Nat} {v : Value} {out : List UInt8} (h : w.ownsRow B 5 1 v out.length (Lib.byteCells out)) : (convert 94 9 v).run Try.prog w = .ok (.string ⟨out.toArray⟩) w := by
  rcases Joins.ownsRow_forms h with ⟨rfl, h0⟩ | ⟨g, cap, rfl⟩
  · have : out = [] := List.eq_nil_of_length_eq_zero h0
    subst this
    exact run_convert_bytes_nil w 94 5 Try.underlying94 Try.underlying5 0 0 9 Try.underlying9
  · refine run_convert_bytes_back w 94 9 5 ⟨g, 0, none⟩ cap out Try.underlying94 Try.underlying5 Try.underlying9 fun j hj => ?_
    refine h.cells (g := g) rfl j _ ?_
    simp [Lib.byteCells, List.getElem?_eq_getElem hj]
def layB (W : Int) (l : List Tk) : ByteArray := if okB W l = true then ⟨(run W l l.length).1.out.toArray⟩ else ByteArray.empty
def linB (W : Int) (l : List Tk) : Int := if okB W l = true then (run W l l.length).1.ln else -1
def brkL (W : Int) (l : List Tk) : List Int := if okB W l = true then (run W l l.length).2 else []
theorem brkL_le (W : Int) (l : List Tk) : (brkL W l).length ≤ 400 := by
  unfold brkL
  split
  · rename_i h
    have hS := (okB_true h).2.2
    have h4 := (strB_true hS).1
    have := (run_ok W hS l.length (Nat.le_refl _)).2.2.2
    omega
  · simp
theorem ints_of_own {w w' : World} {v : Value} {xs : List Int} (hb : Below w.heap.size w w') (h : w'.ownsRow w.heap.size 3 1 v xs.length (nums xs)) : IntsOut w xs (.returned v) w' := by
  obtain ⟨A, c, rfl, hlo⟩ := own_slice1 h
  obtain ⟨h1, h2, h3⟩ := row_of_own h
  exact ⟨hb, A, c, rfl, h2, h3, h1⟩
end Go.Proofs.Ytegjgbgnpkncbab
