/-
  The laws' marks: numbers and texts written into a slice and looked for again; the comparison of two slices of numbers.
-/
import Derived.Test.YthjkgbcomjiejadGreatDoorSl
import Derived.Laws.IdiomStrings
import Derived.IntWalk
namespace Go.Proofs.YthjkgbcomjiejadGreatDoor
open Go.RowKit
set_option linter.unusedVariables false

theorem below_drewN {B : Nat} {a w : World} (h : Below B a w) (n : Nat) : Below B a (w.drewN n) := ⟨h.os, h.tape, h.output, h.size, h.block⟩

/-- the last digit of j, as a letter. -/
def dgc (j : Nat) : UInt8 := UInt8.ofNat (48 + j % 10)
theorem dgc_nat (j : Nat) : ((dgc j).toNat : Int) = 48 + (j : Int) % 10 := by
  have : (dgc j).toNat = 48 + j % 10 := by unfold dgc; simp; omega
  omega
def dgs (n : Nat) : List UInt8 := if h : n = 0 then [] else dgs (n / 10) ++ [dgc n]
termination_by n
theorem dgs_zero : dgs 0 = [] := by rw [dgs]; simp
theorem dgs_pos {n : Nat} (h : 0 < n) : dgs n = dgs (n / 10) ++ [dgc n] := by rw [dgs, dif_neg (by omega)]
def mtx (k : Int) : ByteArray := if k ≤ 0 then ⟨#[109, 48]⟩ else ⟨(109 :: dgs k.toNat).toArray⟩

theorem bapp (x : UInt8) (o : List UInt8) : (⟨#[x]⟩ : ByteArray) ++ ⟨o.toArray⟩ = ⟨(x :: o).toArray⟩ := by
  apply ByteArray.ext
  simp

theorem conv1 (x : UInt8) (X : Int) (hx : (x.toNat : Int) = X) (w : World) :
    (convert 22 9 (.slice (some ⟨w.heap.size, 0, none⟩) 1 1)).run Tryz.prog (w.alloc (.cells #[.int .u8 X] 5)) = .ok (.string ⟨#[x]⟩) (w.alloc (.cells #[.int .u8 X] 5)) := by
  have h := run_convert_bytes_back (P := Tryz.prog) (w.alloc (.cells #[.int .u8 X] 5)) 22 9 5 ⟨w.heap.size, 0, none⟩ 1 [x] Tryz.underlying22 Tryz.underlying5 Tryz.underlying9 (by
    intro i hi
    have hi0 : i = 0 := by simpa using hi
    subst hi0
    subst hx
    simp [Addr.add])
  exact h

/-- x, x + 1, .., in the first k places of n; the old numbers behind them. -/
def upTo (xs : List Int) (x : Int) (k : Nat) : List Int := (List.range xs.length).map fun i => if i < k then x + i else xs.getD i 0
theorem upTo_length (xs : List Int) (x : Int) (k : Nat) : (upTo xs x k).length = xs.length := by simp [upTo]
theorem upTo_zero (xs : List Int) (x : Int) : upTo xs x 0 = xs := by
  apply List.ext_getElem?
  intro i
  by_cases hi : i < xs.length
  · simp [upTo, List.getElem?_range hi, List.getElem?_eq_getElem hi]
  · rw [List.getElem?_eq_none (by rw [upTo_length]; omega), List.getElem?_eq_none (by omega)]
theorem upTo_set (xs : List Int) (x : Int) {k : Nat} (hk : k < xs.length) {y : Int} (hy : x + (k : Int) = y) : (upTo xs x k).set k y = upTo xs x (k + 1) := by
  apply List.ext_getElem?
  intro i
  by_cases hi : i < xs.length
  · rw [List.getElem?_set]
    by_cases e : k = i
    · subst e
      rw [if_pos rfl, if_pos (by rw [upTo_length]; omega)]
      simp only [upTo, List.getElem?_map, List.getElem?_range hi, Option.map_some]
      rw [if_pos (by omega), hy]
    · rw [if_neg e]
      simp only [upTo, List.getElem?_map, List.getElem?_range hi, Option.map_some]
      by_cases h0 : i < k
      · rw [if_pos h0, if_pos (by omega)]
      · rw [if_neg h0, if_neg (by omega)]
  · rw [List.getElem?_eq_none (by rw [List.length_set, upTo_length]; omega), List.getElem?_eq_none (by rw [upTo_length]; omega)]
theorem upTo_at (xs : List Int) (x : Int) {k i : Nat} (hi : i < xs.length) (hk : i < k) : (upTo xs x k)[i]? = some (x + i) := by
  simp only [upTo, List.getElem?_map, List.getElem?_range hi, Option.map_some]
  rw [if_pos hk]

/-- a block's numbers with what lies behind them. -/
theorem nums_set_app (xs : List Int) (rest : List Value) {i : Nat} (hi : i < xs.length) (x : Int) : (nums xs ++ rest).set i (.int .i64 x) = nums (xs.set i x) ++ rest := by
  rw [List.set_append_left _ _ (by simpa [nums] using hi)]; simp [nums]
theorem grown_self_set {a w : World} {g : Nat} (h : a.grownBy w (some g)) (i : Nat) (u : Value) : a.grownBy (w.setCell ⟨g, i, none⟩ u) (some g) :=
  ⟨h.os, h.tape, h.output, by simpa [World.setCell] using h.size, fun j hj hne => (Below.heap_setCell w ⟨g, i, none⟩ u j (by rintro rfl; exact hne rfl)).trans (h.block j hj hne)⟩

theorem grown_below {a w w' : World} {row : Option Nat} (h : a.grownBy w row) (hb : Below w.heap.size w w') : a.grownBy w' row :=
  ⟨hb.os.trans h.os, hb.tape.trans h.tape, hb.output.trans h.output, Nat.le_trans h.size hb.size, fun i hi hne => (hb.block i (Nat.lt_of_lt_of_le hi h.size)).trans (h.block i hi hne)⟩

def mkT (x : Int) (i : Nat) : Tk := ⟨x + 4 * i, mtx (x + 4 * i + 1), x + 4 * i + 1 + 1, x + 4 * i + 1 + 1 + 1⟩
def mkTo (l : List Tk) (x : Int) (k : Nat) : List Tk := (List.range l.length).map fun i => if i < k then mkT x i else l.getD i zeroTk
theorem mkTo_length (l : List Tk) (x : Int) (k : Nat) : (mkTo l x k).length = l.length := by simp [mkTo]
theorem mkTo_zero (l : List Tk) (x : Int) : mkTo l x 0 = l := by
  apply List.ext_getElem?
  intro i
  by_cases hi : i < l.length
  · simp [mkTo, List.getElem?_range hi, List.getElem?_eq_getElem hi]
  · rw [List.getElem?_eq_none (by rw [mkTo_length]; omega), List.getElem?_eq_none (by omega)]
theorem mkTo_set (l : List Tk) (x : Int) {k : Nat} (hk : k < l.length) : (mkTo l x k).set k (mkT x k) = mkTo l x (k + 1) := by
  apply List.ext_getElem?
  intro i
  by_cases hi : i < l.length
  · rw [List.getElem?_set]
    by_cases e : k = i
    · subst e
      rw [if_pos rfl, if_pos (by rw [mkTo_length]; omega)]
      simp only [mkTo, List.getElem?_map, List.getElem?_range hi, Option.map_some]
      rw [if_pos (by omega)]
    · rw [if_neg e]
      simp only [mkTo, List.getElem?_map, List.getElem?_range hi, Option.map_some]
      by_cases h0 : i < k
      · rw [if_pos h0, if_pos (by omega)]
      · rw [if_neg h0, if_neg (by omega)]
  · rw [List.getElem?_eq_none (by rw [List.length_set, mkTo_length]; omega), List.getElem?_eq_none (by rw [mkTo_length]; omega)]
theorem mkTo_at (l : List Tk) (x : Int) {k i : Nat} (hi : i < l.length) (hk : i < k) : (mkTo l x k)[i]? = some (mkT x i) := by
  simp only [mkTo, List.getElem?_map, List.getElem?_range hi, Option.map_some]
  rw [if_pos hk]

end Go.Proofs.YthjkgbcomjiejadGreatDoor
