/-
  How long the rows of what FinishEngine answers are.
-/
import Derived.Test.YtigdbkdddnbfpabFim
import Derived.Test.YtigdbkdddnbfpabEnk
namespace Go.Proofs.Ytigdbkdddnbfpab
open Go.RowKit
set_option linter.unusedVariables false

theorem EngR.shape {w : World} {v : Value} {e : En} (h : EngR w v e) : ∃ (a0 a1 a2 : Int) (S : Option Addr) (n c : Nat) (S2 : Option Addr) (n2 c2 : Nat) (a5 a6 : Int), v = .agg #[.int .i64 a0, .int .i64 a1, .int .i64 a2, .slice S n c, .slice S2 n2 c2, .int .i64 a5, .int .i64 a6] := by
  obtain ⟨A, c, A2, c2, rfl, _, _⟩ := h
  exact ⟨_, _, _, _, _, _, _, _, _, _, _, rfl⟩
theorem finE_len (e : En) (hm : e.ms.length ≤ 1048576) (hi : e.it.length ≤ 1048576) : (finE e).ms.length ≤ 2097152 ∧ (finE e).it.length ≤ 2097152 := by
  unfold finE
  split
  · rename_i h
    have hok : EnOk e := engB_ok (by unfold finB at h; simp only [Bool.and_eq_true] at h; exact h.1)
    obtain ⟨k, hk, hrun⟩ := flu_run e.W e.tot (startP e) (endS e.tot 0 false e.it)
    have hf := hok.fine 0 false
    obtain ⟨_, h2⟩ := hf.run (W := e.W) k hk
    have hs := hf.stack k hk
    have hl := hf.len
    have e1 : finF e = (runP e.W (startP e) (endS e.tot 0 false e.it) k, (endS e.tot 0 false e.it).drop k) := hrun
    rw [e1]
    refine ⟨by show (runP _ _ _ _).ms.length ≤ _; omega, ?_⟩
    show (List.drop k _).length ≤ _
    rw [List.length_drop]
    omega
  · exact ⟨by omega, by omega⟩
end Go.Proofs.Ytigdbkdddnbfpab
