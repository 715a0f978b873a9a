/-
  The model's l03Trim: the blanks at the ends of lines are cut off.
-/
import Derived.Test.YthjkgbcomjiejadGreatDoorPam
import Derived.Test.YthjkgbcomjiejadGreatDoorLev
import Derived.Test.YthjkgbcomjiejadGreatDoorSl
namespace Go.Proofs.YthjkgbcomjiejadGreatDoor
open Go.RowKit
set_option linter.unusedVariables false

theorem nil_or_snoc {α : Type} (l : List α) : l = [] ∨ ∃ L b, l = L ++ [b] := by
  rcases List.eq_nil_or_concat l with h | ⟨L, b, h⟩
  · exact .inl h
  · exact .inr ⟨L, b, by rw [h, List.concat_eq_append]⟩
/-- without the blanks at the end. -/
def cutB (x : List UInt8) : List UInt8 := (x.reverse.dropWhile (· == 32)).reverse
theorem cutB_nil : cutB [] = [] := rfl
theorem cutB_snoc (x : List UInt8) (c : UInt8) : cutB (x ++ [c]) = if c = 32 then cutB x else x ++ [c] := by
  unfold cutB
  rw [List.reverse_append, List.reverse_singleton, List.singleton_append, List.dropWhile_cons]
  by_cases h : c = 32
  · simp [h]
  · simp [h]
def cuS (out : List UInt8) (c : UInt8) : List UInt8 := if c = 10 then cutB out ++ [c] else out ++ [c]
def cuN (x : List UInt8) (k : Nat) : List UInt8 := (x.take k).foldl cuS []
def cuB (x : List UInt8) : List UInt8 := cutB (cuN x x.length)
theorem cuN_zero (x : List UInt8) : cuN x 0 = [] := rfl
theorem cuN_succ (s : ByteArray) (k : Nat) (h : k < s.size) : cuN s.data.toList (k + 1) = cuS (cuN s.data.toList k) s[k] := by
  unfold cuN
  rw [take_snoc s k h, List.foldl_append]
  rfl
theorem cutB_le (x : List UInt8) : (cutB x).length ≤ x.length := by
  unfold cutB
  rw [List.length_reverse]
  have h := (List.dropWhile_sublist (l := x.reverse) (fun c => c == 32)).length_le
  rw [List.length_reverse] at h
  exact h
theorem cuN_le (x : List UInt8) (k : Nat) : (cuN x k).length ≤ k := by
  induction k with
  | zero => exact Nat.le_refl _
  | succ k ih =>
    unfold cuN at ih ⊢
    cases h : x[k]? with
    | none => rw [List.take_add_one, h]; simp; omega
    | some c =>
      rw [List.take_add_one, h]
      simp only [Option.toList_some, List.foldl_append, List.foldl_cons, List.foldl_nil]
      generalize (x.take k).foldl cuS [] = y at *
      unfold cuS
      split
      · have := cutB_le y; rw [List.length_append]; simp; omega
      · rw [List.length_append]; simp; omega
theorem cut_pop {w : World} {B : Nat} {v : Value} {x : List UInt8} {c : UInt8} (h : w.ownsRow B 5 1 v (x ++ [c]).length (Lib.byteCells (x ++ [c]))) : ∃ g cap, v = .slice (some ⟨g, 0, none⟩) (x.length + 1) cap ∧ x.length + 1 ≤ cap ∧ g < w.heap.size ∧
    w.cell? ⟨g, x.length, none⟩ = some (.int .u8 c.toNat) ∧ w.ownsRow B 5 1 (.slice (some ⟨g, 0, none⟩) x.length cap) x.length (Lib.byteCells x) := by
  have hl : (x ++ [c]).length = x.length + 1 := by simp
  rw [hl] at h
  obtain ⟨g, cap, hv⟩ := Joins.ownsRow_form h (by omega)
  subst hv
  have hcap : x.length + 1 ≤ cap := by
    rcases h.2 with ⟨h0, _⟩ | ⟨g', c', cur, h0, _, _, h1, _⟩
    · cases h0
    · injection h0 with _ _ h0; omega
  refine ⟨g, cap, rfl, hcap, (h.lt g rfl).2, ?_, ?_⟩
  · rw [h.cellAt _ (by omega)]
    simp [Lib.byteCells]
  · rw [← bytes_snoc] at h
    exact ownsRow_pop (by simp [Lib.byteCells]) h
end Go.Proofs.YthjkgbcomjiejadGreatDoor
