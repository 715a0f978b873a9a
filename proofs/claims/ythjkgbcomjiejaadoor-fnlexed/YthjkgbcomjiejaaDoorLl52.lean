/-
  The answer of LexText in memory of its own: marked, and read again.
-/
import Derived.Test.YthjkgbcomjiejaaDoorLl48
import Derived.Test.YthjkgbcomjiejaaDoorLl51
namespace Go.Proofs.YthjkgbcomjiejaaDoor
open Go.RowKit
set_option linter.unusedVariables false

theorem lxG_len (s : ByteArray) (f : Nat) : ∀ (a : Nat) (out : List Lx), out.length ≤ 200 → (lxG s f a out).1.length ≤ 200 := by
  induction f with
  | zero => intro a out h; exact h
  | succ f ih =>
    intro a out h
    simp only [lxG]
    split
    · exact h
    · split
      · exact ih _ _ h
      · split
        · simp
        · rename_i hr
          have := rd_cnt hr
          exact ih _ _ (by simp; omega)
theorem lxA_len (s : ByteArray) : (lxA s).1.length ≤ 200 := by
  unfold lxA
  split
  · simp
  · exact lxG_len s _ _ _ (by simp)
end Go.Proofs.YthjkgbcomjiejaaDoor
