/-
  Styles, in plain words. It names no function of the program.
-/
import Derived.Test.YtddbcifjjblkeabDoorStr
namespace Go.Proofs.YtddbcifjjblkeabDoor
open Go.RowKit
set_option linter.unusedVariables false

structure Sy where
  r : Int
  q : Int
  c : Int
  h : Int
  g : Int
/-- the first k numbers of a style are of 0 .. 3. -/
def Sy.ok (s : Sy) : Bool := inB s.r 0 3 && (inB s.q 0 3 && (inB s.c 0 3 && (inB s.h 0 3 && inB s.g 0 1)))
theorem Sy.ok_iff {s : Sy} : s.ok = true ↔ (0 ≤ s.r ∧ s.r ≤ 3) ∧ (0 ≤ s.q ∧ s.q ≤ 3) ∧ (0 ≤ s.c ∧ s.c ≤ 3) ∧ (0 ≤ s.h ∧ s.h ≤ 3) ∧ (0 ≤ s.g ∧ s.g ≤ 1) := by
  simp only [Sy.ok, Bool.and_eq_true, inB_true]
def Sy.vs (s : Sy) : List Int := [s.r, s.q, s.c, s.h, s.g]
def Sy.val (s : Sy) : Value := .agg #[.int .i64 s.r, .int .i64 s.q, .int .i64 s.c, .int .i64 s.h, .int .i64 s.g]
def Sy.of (s : Sy) (k : Int) : Int := if k = 3 then s.r else if k = 4 then s.q else s.c
/-- one digit. -/
def dgS (k : Int) : ByteArray := if k = 0 then ⟨#[48]⟩ else if k = 1 then ⟨#[49]⟩ else if k = 2 then ⟨#[50]⟩ else ⟨#[51]⟩
theorem dgS_size (k : Int) : (dgS k).size = 1 := by unfold dgS; split; rfl; split; rfl; split <;> rfl
end Go.Proofs.YtddbcifjjblkeabDoor
