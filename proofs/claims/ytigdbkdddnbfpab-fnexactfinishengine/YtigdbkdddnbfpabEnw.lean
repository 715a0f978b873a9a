/-
  HeldWidth of the program and of the model.
-/
import Derived.Test.YtigdbkdddnbfpabEnr
namespace Go.Proofs.Ytigdbkdddnbfpab
open Go.RowKit
set_option linter.unusedVariables false
noncomputable def hwI (e : En) : Int := if engB e = true then (match e.it with | [] => 0 | h :: _ => e.tot - h.st) else -1
theorem hwI_no {e : En} (h : engB e = false) : hwI e = -1 := if_neg (by rw [h]; decide)
theorem hwI_nil {e : En} (h : engB e = true) (hn : ¬ 0 < e.it.length) : hwI e = 0 := by
  unfold hwI; rw [if_pos h]
  cases hi : e.it with
  | nil => rfl
  | cons a r => rw [hi] at hn; simp at hn
theorem hwI_some {e : En} {t : Hd} (h : engB e = true) (ht : e.it[0]? = some t) : hwI e = e.tot - t.st ∧ 0 ≤ e.tot - t.st ∧ e.tot - t.st ≤ 1000000 := by
  have hk := engB_ok h
  have h1 := (hk.helds 0 t ht).st
  have h2 := hk.tot
  refine ⟨?_, by omega, by have : (0 : Int) ≤ t.st := h1.1; omega⟩
  unfold hwI; rw [if_pos h]
  cases hi : e.it with
  | nil => rw [hi] at ht; simp at ht
  | cons a r => rw [hi] at ht; simp at ht; subst ht; rfl
end Go.Proofs.Ytigdbkdddnbfpab
