/-
  FinishEngine of the program.
-/
import Derived.Test.YtegjgbgnpkncbabKf41
import Derived.Test.YtegjgbgnpkncbabKf42
namespace Go.Proofs.Ytegjgbgnpkncbab
open Go.RowKit
set_option linter.unusedVariables false

theorem EnOk.bd0 {e : En} (h : EnOk e) : (startP e).Bd 0 := by
  have h1 := h.col
  have h2 := h.pend
  refine ⟨Nat.le_refl _, by simp only [startP]; omega, fun m hm => ?_, fun m hm => ?_, Nat.le_refl _⟩
  · obtain ⟨i, hi⟩ := List.getElem?_of_mem hm
    have := h.cols i m hi
    omega
  · obtain ⟨i, hi⟩ := List.getElem?_of_mem hm
    exact h.kinds i m hi
theorem tks_endS (tot lv : Int) (line : Bool) (l : List Hd) : tks (endS tot lv line l) = tks l := by
  unfold tks endS
  rw [List.map_map]
  apply List.map_congr_left
  intro x _
  simp only [Function.comp]
  unfold endH; split
  · split
    · rfl
    · split <;> rfl
  · rfl
theorem EnOk.stk {e : En} (h : EnOk e) (i : Nat) (hi : i ≤ e.it.length) : 1 ≤ (e.ms.length : Int) + opN (tks e.it) i ∧ (e.ms.length : Int) + opN (tks e.it) i ≤ 14 := by
  cases i with
  | zero => have := h.nms; rw [opN_zero]; omega
  | succ i => have := h.stack i (by omega); omega
theorem EnOk.fine {e : En} (h : EnOk e) (lv : Int) (line : Bool) : Fine (startP e) (endS e.tot lv line e.it) := by
  refine ⟨h.bd0, by simp only [endS, List.length_map]; have := h.nit; omega, fun i x hx => ?_, fun i hi => ?_⟩
  · have ht := tks_at hx
    rw [tks_endS] at ht
    simp only [tks, List.getElem?_map, Option.map_eq_some_iff] at ht
    obtain ⟨y, hy, e1⟩ := ht
    rw [← e1]
    exact (h.helds i y hy).tok
  · rw [tks_endS]
    exact h.stk i (by simpa [endS] using hi)
theorem EnOk.sm0 {e : En} (h : EnOk e) : (startP e).Sm := (h.fine 0 false).sm (W := 0) 0 (Nat.zero_le _)
theorem EnOk.colT {e : En} (h : EnOk e) : colB (startP e).col (startP e).pend (startP e).ms = true := by
  have h1 := h.col
  have h2 := h.pend
  simp only [colB, Bool.and_eq_true, startP]
  exact ⟨all_at.2 fun i t ht => inB_true.2 (h.cols i t ht), inB_true.2 (by omega), inB_true.2 (by omega)⟩
theorem EnOk.starts {e : En} (h : EnOk e) (i : Nat) (x : Hd) (hx : e.it[i]? = some x) : 0 ≤ x.st ∧ x.st ≤ e.tot := by
  induction i generalizing x with
  | zero => exact (h.helds 0 x hx).st
  | succ i ih =>
    have h1 := (h.helds (i + 1) x hx).st
    have hl := (List.getElem?_eq_some_iff.1 hx).1
    have hy := List.getElem?_eq_getElem (show i < e.it.length by omega)
    have h2 := ih _ hy
    rw [lstN_succ hy] at h1
    omega
theorem flu_run (W tot : Int) (s : Pr) (l : List Hd) : ∃ k, k ≤ l.length ∧ flu W tot s l = (runP W s l k, l.drop k) := by
  have main : ∀ (n k : Nat), k + n = l.length → flu W tot s l = flu W tot (runP W s l k) (l.drop k) → ∃ k, k ≤ l.length ∧ flu W tot s l = (runP W s l k, l.drop k) := by
    intro n
    induction n with
    | zero => intro k hk h; exact ⟨k, by omega, by rw [h, flu_end (by omega)]⟩
    | succ n ih =>
      intro k hk h
      have ht := List.getElem?_eq_getElem (show k < l.length by omega)
      cases hs : stopB W tot (runP W s l k) l[k]
      · exact ih (k + 1) (by omega) (by rw [h, flu_go ht hs, runP_succ ht])
      · exact ⟨k, by omega, by rw [h, flu_stop ht hs]⟩
  exact main l.length 0 (by omega) rfl
theorem OR.setN {α : Type} {f : α → List Value} {ty t : TypeId} {w : World} {B g : Nat} {v : Value} {l : List α} {cs : List Value} (hb : BlkL w g t cs) (hne : t ≠ ty) (vs : List Value) (p : Nat) (h : OR f ty w B v l) : OR f ty (World.setN w g p vs) B v l := by
  rcases h with h | ⟨g', c, rest, rfl, hB, hk⟩
  · exact .inl h
  · refine .inr ⟨g', c, rest, rfl, hB, BlkL.farN (fun e => ?_) vs w p hk⟩
    subst e
    unfold BlkL at hb hk
    rw [hb] at hk
    injection hk with hk
    injection hk with _ hk
    exact hne hk
theorem EngO.setN {w : World} {B g : Nat} {v : Value} {e : En} {t : TypeId} {cs : List Value} (hb : BlkL w g t cs) (h1 : t ≠ 121) (h2 : t ≠ 80) (vs : List Value) (p : Nat) (h : EngO w B v e) : EngO (World.setN w g p vs) B v e := by
  obtain ⟨A, c, A2, c2, hv, a, b⟩ := h
  exact ⟨A, c, A2, c2, hv, OR.setN hb h1 vs p a, OR.setN hb h2 vs p b⟩
theorem conv_own {w : World} {B : Nat} {v : Value} {out : List UInt8} (h : w.ownsRow B 5 1 v out.length (Lib.byteCells out)) : (convert 94 9 v).run Try.prog w = .ok (.string ⟨out.toArray⟩) w := by
  rcases Joins.ownsRow_forms h with ⟨rfl, h0⟩ | ⟨g, cap, rfl⟩
  · have : out = [] := List.eq_nil_of_length_eq_zero h0
    subst this
    exact run_convert_bytes_nil w 94 5 Try.underlying94 Try.underlying5 0 0 9 Try.underlying9
  · refine run_convert_bytes_back w 94 9 5 ⟨g, 0, none⟩ cap out Try.underlying94 Try.underlying5 Try.underlying9 fun j hj => ?_
    refine h.cells (g := g) rfl j _ ?_
    simp [Lib.byteCells, List.getElem?_eq_getElem hj]
theorem cell_setN {g g' : Nat} (hne : g ≠ g') : ∀ (vs : List Value) (w : World) (p i : Nat), (World.setN w g' p vs).cell? ⟨g, i, none⟩ = w.cell? ⟨g, i, none⟩
  | [], _, _, _ => rfl
  | v :: vs, w, p, i => (cell_setN hne vs _ _ i).trans (World.cell?_of_block (Below.heap_setCell w ⟨g', p, none⟩ v g hne))
theorem PX.drew {w : World} {B p : Nat} {W : Int} {s : Pr} {vI : Value} {its : List Hd} {tot lev : Int} (h : PX w B p W s vI its tot lev) : PX w.drew B p W s vI its tot lev := by
  obtain ⟨vW, vM, h1, h2⟩ := h
  exact ⟨vW, vM, PM.drew h1, h2⟩
/-- what FinishEngine answers. -/
noncomputable def finB (e : En) : Bool := engB e && decide (e.lev = 0)
def finF (e : En) : Pr × List Hd := flu e.W e.tot (startP e) (endS e.tot 0 false e.it)
noncomputable def finE (e : En) : En := if finB e = true then ⟨e.W, (finF e).1.col, (finF e).1.pend, (finF e).1.ms, (finF e).2, e.tot, e.lev⟩ else e
noncomputable def finT (e : En) : ByteArray := if finB e = true then ⟨(finF e).1.out.toArray⟩ else ByteArray.empty
def Ans3 (w : World) (e : En) (t : ByteArray) (b : Bool) (r : Ending) (w' : World) : Prop := ∃ v, r = .returned (.tuple #[v, .string t, .bool b]) ∧ EngO w' w.heap.size v e ∧ Below w.heap.size w w'
end Go.Proofs.Ytegjgbgnpkncbab
