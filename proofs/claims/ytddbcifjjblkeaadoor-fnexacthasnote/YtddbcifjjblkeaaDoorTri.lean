/-
  TreeOk of the program; TreeDepth and SameTree on both sides.
-/
import Derived.Test.YtddbcifjjblkeaaDoorTrh
namespace Go.Proofs.YtddbcifjjblkeaaDoor
open Go.RowKit
set_option linter.unusedVariables false

set_option maxHeartbeats 1000000 in
set_option maxRecDepth 100000 in
theorem TreeOk_any (A : Option Addr) (l : List Nd) (n c : Nat) (w : World) (hn : l.length = n) (hm : n ≤ 2097152) (hl : NS w A l) (hg : ErrV w) :
    Calls Tryd.prog 16 #[.slice A n c] w fun e w' => e = .returned (.bool (treB l)) ∧ Below w.heap.size w w' := by
  go_enter Tryd.func16, Tryd.ntmps16
  go_wp2_with fail
  refine (planted_any A l n c w hn hm hl hg).mono ?_
  rintro e w1 ⟨hb, h | ⟨ht, g, c1, ps, vs, rfl, _⟩⟩
  · obtain ⟨h0, rfl⟩ := h
    have H0 := Lib.hid h0
    clear h0
    go_wp2
    go_ret
    rw [H0.out]
    exact ⟨rfl, hb⟩
  · have H0 := Lib.hid (treB_yes ht)
    clear ht
    go_wp2
    go_ret
    rw [H0.out]
    exact ⟨rfl, hb⟩
def tdI (l : List Nd) : Nat → Int
  | 0 => 0
  | i + 1 => if tdI l i < dep l (i + 1) + 1 then dep l (i + 1) + 1 else tdI l i
noncomputable def tdB (l : List Nd) : Int := if treB l = true then tdI l l.length else -1
theorem tdI_bd {l : List Nd} {k : Nat} (h : UpTo l k) : ∀ i, i ≤ k → 0 ≤ tdI l i ∧ tdI l i ≤ 13
  | 0, _ => by simp [tdI]
  | i + 1, hi => by
    have h1 := tdI_bd h i (by omega)
    have h2 := h.dep (i := i + 1) hi
    simp only [tdI]
    split <;> omega
def pdI (l : List Nd) : Nat → Int
  | 0 => -1
  | j + 1 => tdI l j
end Go.Proofs.YtddbcifjjblkeaaDoor
