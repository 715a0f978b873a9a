/-
  Engines: a new one, and what makes one right, in plain words; the program's NewEngine and EngineOk.
-/
import Derived.Test.YtegjgbgnpkncbabKf25
import Derived.Test.YtegjgbgnpkncbabKf26
namespace Go.Proofs.Ytegjgbgnpkncbab
open Go.RowKit
set_option linter.unusedVariables false

/-- the start of the held ahead of place i. -/
def lstN (l : List Hd) : Nat → Int
  | 0 => 0
  | i + 1 => match l[i]? with | some h => h.st | none => 0
theorem lstN_succ {l : List Hd} {i : Nat} {h : Hd} (e : l[i]? = some h) : lstN l (i + 1) = h.st := by simp [lstN, e]
structure HdOk (tot least : Int) (h : Hd) : Prop where
  tok : h.t.ok = true
  lv : 0 ≤ h.lv ∧ h.lv ≤ 12
  st : least ≤ h.st ∧ h.st ≤ tot
  sz : -1 ≤ h.sz ∧ h.sz ≤ 1000000
  un : h.sz = -1 → h.t.k = 2 ∨ h.t.k = 1
structure EnOk (e : En) : Prop where
  w : 1 ≤ e.W ∧ e.W ≤ 200
  col : 0 ≤ e.col ∧ e.col ≤ 1000000
  pend : 0 ≤ e.pend ∧ e.pend ≤ 1000000
  tot : 0 ≤ e.tot ∧ e.tot ≤ 1000000
  lev : 0 ≤ e.lev ∧ e.lev ≤ 12
  nms : 1 ≤ e.ms.length ∧ e.ms.length ≤ 13
  nit : e.it.length ≤ 400
  kinds : ∀ (i : Nat) (m : Int × Int), e.ms[i]? = some m → 0 ≤ m.1 ∧ m.1 ≤ 2
  cols : ∀ (i : Nat) (m : Int × Int), e.ms[i]? = some m → -1000000 ≤ m.2 ∧ m.2 ≤ 1000000
  helds : ∀ (i : Nat) (h : Hd), e.it[i]? = some h → HdOk e.tot (lstN e.it i) h
  stack : ∀ i, i < e.it.length → 1 ≤ e.ms.length + opN (tks e.it) (i + 1) ∧ e.ms.length + opN (tks e.it) (i + 1) ≤ 13
  fin : e.ms.length + opN (tks e.it) e.it.length = e.lev + 1
open Classical in
noncomputable def engB (e : En) : Bool := decide (EnOk e)
theorem engB_yes {e : En} (h : EnOk e) : engB e = true := by simp [engB, h]
theorem engB_no {e : En} (h : ¬ EnOk e) : engB e = false := by simp [engB, h]
theorem engB_ok {e : En} (h : engB e = true) : EnOk e := by simpa [engB] using h

def newE (W : Int) : En := if inB W 1 200 = true then ⟨W, 0, 0, [(2, 0)], [], 0, 0⟩ else ⟨0, 0, 0, [], [], 0, 0⟩
theorem newE_ms (W : Int) : (newE W).ms.length ≤ 2097152 := by unfold newE; split <;> simp
theorem newE_it (W : Int) : (newE W).it.length ≤ 2097152 := by unfold newE; split <;> simp
def NewPost (W : Int) (w : World) (r : Ending) (w' : World) : Prop := ∃ v, r = .returned (.tuple #[v, .bool (inB W 1 200)]) ∧ EngO w' w.heap.size v (newE W) ∧ Below w.heap.size w w'
end Go.Proofs.Ytegjgbgnpkncbab
