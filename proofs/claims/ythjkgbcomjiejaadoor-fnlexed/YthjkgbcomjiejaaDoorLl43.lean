/-
  LevelsOf and DepthOf on both sides.
-/
import Derived.Test.YthjkgbcomjiejaaDoorLl42
namespace Go.Proofs.YthjkgbcomjiejaaDoor
open Go.RowKit
set_option linter.unusedVariables false

def LvPost (w : World) (l : List Tk) (e : Ending) (w' : World) : Prop :=
  Below w.heap.size w w' ∧ ((strB l = true ∧ e = .returned (.slice (some ⟨w.heap.size, 0, none⟩) l.length l.length) ∧ BlkL w' w.heap.size 3 (nums (levs l) ++ [.int .i64 0])) ∨
    (strB l = false ∧ e = .returned (.slice none 0 0)))

/-- levels in the first k places, counts behind them. -/
def lvTo (l : List Tk) (n k : Nat) : List Int := (List.range (n + 1)).map fun i => if i < k then levI l i else opN l i
theorem lvTo_length (l : List Tk) (n k : Nat) : (lvTo l n k).length = n + 1 := by simp [lvTo]
theorem lvTo_zero (l : List Tk) : lvTo l l.length 0 = ops l := by
  simp only [lvTo, ops, opsTo]
  apply List.map_congr_left
  intro i hi
  rw [if_neg (by omega), if_pos (by have := List.mem_range.1 hi; omega)]
theorem lvTo_at (l : List Tk) {n k i : Nat} (hi : i ≤ n) (hk : k ≤ i) : (lvTo l n k)[i]? = some (opN l i) := by
  simp only [lvTo, List.getElem?_map, List.getElem?_range (show i < n + 1 by omega), Option.map_some]
  rw [if_neg (by omega)]
theorem lvTo_set (l : List Tk) {n k : Nat} (hk : k < n) {x : Int} (hx : levI l k = x) : (lvTo l n k).set k x = lvTo l n (k + 1) := by
  apply List.ext_getElem?
  intro i
  by_cases hi : i < n + 1
  · rw [List.getElem?_set]
    by_cases e : k = i
    · subst e
      rw [if_pos rfl, if_pos (by rw [lvTo_length]; omega)]
      simp only [lvTo, List.getElem?_map, List.getElem?_range hi, Option.map_some]
      rw [if_pos (by omega), hx]
    · rw [if_neg e]
      simp only [lvTo, List.getElem?_map, List.getElem?_range hi, Option.map_some]
      by_cases h0 : i < k
      · rw [if_pos h0, if_pos (by omega)]
      · rw [if_neg h0, if_neg (by omega)]
  · rw [List.getElem?_eq_none (by rw [List.length_set, lvTo_length]; omega), List.getElem?_eq_none (by rw [lvTo_length]; omega)]
theorem lvTo_all (l : List Tk) : nums (lvTo l l.length l.length) = nums (levs l) ++ [.int .i64 (opN l l.length)] := by
  simp only [lvTo, levs, nums, List.range_succ, List.map_append, List.map_cons, List.map_nil, List.map_map]
  rw [if_neg (by omega)]
  congr 1
  apply List.map_congr_left
  intro i hi
  have := List.mem_range.1 hi
  simp [this]

theorem levI_if (l : List Tk) (k : Nat) : levI l k = if opN l (k + 1) < opN l k then opN l (k + 1) else opN l k := by
  unfold levI; split <;> omega
def SLvPost (w : World) (l : List Tk) (e : Ending) (w' : World) : Prop :=
  Below w.heap.size w w' ∧ ((strB l = true ∧ ∃ A c, e = .returned (.slice A l.length c) ∧ (∀ b, A.map (·.block) = some b → w.heap.size ≤ b ∧ b < w'.heap.size) ∧ IS w' A (levs l)) ∨
    (strB l = false ∧ e = .returned (.slice none 0 0)))
end Go.Proofs.YthjkgbcomjiejaaDoor
