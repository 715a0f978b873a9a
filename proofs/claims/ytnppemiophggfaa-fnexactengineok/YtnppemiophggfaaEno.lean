/-
  Engines: a new one, and what makes one right, in plain words; the program's NewEngine and EngineOk.
-/
import Derived.Test.YtnppemiophggfaaEnf
import Derived.Test.YtnppemiophggfaaOpn
namespace Go.Proofs.Ytnppemiophggfaa
open Go.RowKit
set_option linter.unusedVariables false

/-- the start of the held ahead of place i. -/
def lstN (l : List Hd) : Nat → Int
  | 0 => 0
  | i + 1 => match l[i]? with | some h => h.st | none => 0
theorem lstN_succ {l : List Hd} {i : Nat} {h : Hd} (e : l[i]? = some h) : lstN l (i + 1) = h.st := by simp [lstN, e]
structure HdOk (tot least : Int) (h : Hd) : Prop where
  tok : h.t.ok = true
  lv : 0 ≤ h.lv ∧ h.lv ≤ 12
  st : least ≤ h.st ∧ h.st ≤ tot
  sz : -1 ≤ h.sz ∧ h.sz ≤ 1000000
  un : h.sz = -1 → h.t.k = 2 ∨ h.t.k = 1
structure EnOk (e : En) : Prop where
  w : 1 ≤ e.W ∧ e.W ≤ 200
  col : 0 ≤ e.col ∧ e.col ≤ 1000000
  pend : 0 ≤ e.pend ∧ e.pend ≤ 1000000
  tot : 0 ≤ e.tot ∧ e.tot ≤ 1000000
  lev : 0 ≤ e.lev ∧ e.lev ≤ 12
  nms : 1 ≤ e.ms.length ∧ e.ms.length ≤ 13
  nit : e.it.length ≤ 400
  kinds : ∀ (i : Nat) (m : Int × Int), e.ms[i]? = some m → 0 ≤ m.1 ∧ m.1 ≤ 2
  cols : ∀ (i : Nat) (m : Int × Int), e.ms[i]? = some m → -1000000 ≤ m.2 ∧ m.2 ≤ 1000000
  helds : ∀ (i : Nat) (h : Hd), e.it[i]? = some h → HdOk e.tot (lstN e.it i) h
  stack : ∀ i, i < e.it.length → 1 ≤ e.ms.length + opN (tks e.it) (i + 1) ∧ e.ms.length + opN (tks e.it) (i + 1) ≤ 13
  fin : e.ms.length + opN (tks e.it) e.it.length = e.lev + 1
open Classical in
noncomputable def engB (e : En) : Bool := decide (EnOk e)
theorem engB_yes {e : En} (h : EnOk e) : engB e = true := by simp [engB, h]
theorem engB_no {e : En} (h : ¬ EnOk e) : engB e = false := by simp [engB, h]
theorem engB_ok {e : En} (h : engB e = true) : EnOk e := by simpa [engB] using h

def newE (W : Int) : En := if inB W 1 200 = true then ⟨W, 0, 0, [(2, 0)], [], 0, 0⟩ else ⟨0, 0, 0, [], [], 0, 0⟩
theorem newE_ms (W : Int) : (newE W).ms.length ≤ 2097152 := by unfold newE; split <;> simp
theorem newE_it (W : Int) : (newE W).it.length ≤ 2097152 := by unfold newE; split <;> simp
def NewPost (W : Int) (w : World) (r : Ending) (w' : World) : Prop := ∃ v, r = .returned (.tuple #[v, .bool (inB W 1 200)]) ∧ EngO w' w.heap.size v (newE W) ∧ Below w.heap.size w w'
set_option maxRecDepth 100000 in
theorem NewEngine_any (W : Int) (w : World) : Calls Try.prog 9 #[.int .i64 W] w (NewPost W w) := by
  cases hW : inB W 1 200
  · have HW := Lib.hid hW
    clear hW
    go_enter Try.func9, Try.ntmps9
    go_wp2_with (go_at_call 26; refine (within_any _ _ _ _).mono ?_; rintro e w' ⟨rfl, rfl⟩; rw [HW.out])
    have e : newE W = ⟨0, 0, 0, [], [], 0, 0⟩ := if_neg (by rw [HW.out]; decide)
    refine bodyPost_ret (v := .tuple #[ev ⟨0, 0, 0, [], [], 0, 0⟩ none 0 none 0, .bool false]) (by simp [results, Try.results9, go_sem, ev]) rfl ⟨_, by rw [HW.out], ?_, (Below.refl _ _).alloc (Nat.le_refl _) _⟩
    rw [e]
    exact ⟨none, 0, none, 0, rfl, .inl ⟨⟨_, _, rfl⟩, rfl⟩, .inl ⟨⟨_, _, rfl⟩, rfl⟩⟩
  · have HW := Lib.hid hW
    clear hW
    go_enter Try.func9, Try.ntmps9
    go_wp2_with (go_at_call 26; refine (within_any _ _ _ _).mono ?_; rintro e w' ⟨rfl, rfl⟩; rw [HW.out])
    have e : newE W = ⟨W, 0, 0, [(2, 0)], [], 0, 0⟩ := if_pos HW.out
    have hN := BlkL.new (w.alloc (.cells #[.int .i64 W, .int .i64 0, .int .i64 0, .slice (some ⟨w.heap.size + 1, 0, none⟩) 1 1, .slice none 0 0, .int .i64 0, .int .i64 0] 25)) 51 (fl fm [(2, 0)])
    rw [show (w.alloc (.cells #[.int .i64 W, .int .i64 0, .int .i64 0, .slice (some ⟨w.heap.size + 1, 0, none⟩) 1 1, .slice none 0 0, .int .i64 0, .int .i64 0] 25)).heap.size = w.heap.size + 1 by simp] at hN
    refine bodyPost_ret (v := .tuple #[ev ⟨W, 0, 0, [(2, 0)], [], 0, 0⟩ (some ⟨w.heap.size + 1, 0, none⟩) 1 none 0, .bool true]) (by simp [results, Try.results9, go_sem, ev]) rfl ⟨_, by rw [HW.out], ?_, ((Below.refl _ _).alloc (Nat.le_refl _) _).alloc (by simp) _⟩
    rw [e]
    exact ⟨_, _, _, _, rfl, .of_blk (by omega) rfl hN, .inl ⟨⟨_, _, rfl⟩, rfl⟩⟩
set_option maxRecDepth 100000 in
theorem sNewEngine_any (W : Int) (w : World) : Calls Try.prog 8 #[.int .i64 W] w (NewPost W w) := by
  cases hW : inB W 1 200
  · have HW := Lib.hid hW
    clear hW
    go_enter Try.func8, Try.ntmps8
    go_wp2_with (go_at_call 25; refine (l01In_any _ _ _ _).mono ?_; rintro e w' ⟨rfl, rfl⟩; rw [HW.out])
    have e : newE W = ⟨0, 0, 0, [], [], 0, 0⟩ := if_neg (by rw [HW.out]; decide)
    refine bodyPost_ret (v := .tuple #[ev ⟨0, 0, 0, [], [], 0, 0⟩ none 0 none 0, .bool false]) (by simp [results, Try.results8, go_sem, ev]) rfl ⟨_, by rw [HW.out], ?_, (Below.refl _ _).alloc (Nat.le_refl _) _⟩
    rw [e]
    exact ⟨none, 0, none, 0, rfl, .inl ⟨⟨_, _, rfl⟩, rfl⟩, .inl ⟨⟨_, _, rfl⟩, rfl⟩⟩
  · have HW := Lib.hid hW
    clear hW
    go_enter Try.func8, Try.ntmps8
    go_wp2_with (go_at_call 25; refine (l01In_any _ _ _ _).mono ?_; rintro e w' ⟨rfl, rfl⟩; rw [HW.out])
    have e : newE W = ⟨W, 0, 0, [(2, 0)], [], 0, 0⟩ := if_pos HW.out
    have hN := BlkL.new (w.alloc (.cells #[.int .i64 W, .int .i64 0, .int .i64 0, .slice (some ⟨w.heap.size + 1, 0, none⟩) 1 1, .slice none 0 0, .int .i64 0, .int .i64 0] 25)) 51 (fl fm [(2, 0)])
    rw [show (w.alloc (.cells #[.int .i64 W, .int .i64 0, .int .i64 0, .slice (some ⟨w.heap.size + 1, 0, none⟩) 1 1, .slice none 0 0, .int .i64 0, .int .i64 0] 25)).heap.size = w.heap.size + 1 by simp] at hN
    refine bodyPost_ret (v := .tuple #[ev ⟨W, 0, 0, [(2, 0)], [], 0, 0⟩ (some ⟨w.heap.size + 1, 0, none⟩) 1 none 0, .bool true]) (by simp [results, Try.results8, go_sem, ev]) rfl ⟨_, by rw [HW.out], ?_, ((Below.refl _ _).alloc (Nat.le_refl _) _).alloc (by simp) _⟩
    rw [e]
    exact ⟨_, _, _, _, rfl, .of_blk (by omega) rfl hN, .inl ⟨⟨_, _, rfl⟩, rfl⟩⟩
end Go.Proofs.Ytnppemiophggfaa
