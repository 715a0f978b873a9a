/-
  The program's open blocks: what openBlocks gives at every list of tokens.
-/
import Derived.Test.YthjkgbcomjiejaaDoorLl41
import Derived.IntWalk
namespace Go.Proofs.YthjkgbcomjiejaaDoor
open Go.RowKit

/-- the counts of the first k + 1 places, 0 behind them. -/
def opsTo (l : List Tk) (n k : Nat) : List Int := (List.range (n + 1)).map fun i => if i ≤ k then opN l i else 0
theorem opsTo_length (l : List Tk) (n k : Nat) : (opsTo l n k).length = n + 1 := by simp [opsTo]
theorem opsTo_at (l : List Tk) {n k : Nat} (hk : k ≤ n) : (opsTo l n k)[k]? = some (opN l k) := by
  simp [opsTo, List.getElem?_map, List.getElem?_range (show k < n + 1 by omega)]
theorem opsTo_next (l : List Tk) {n k : Nat} (hk : k < n) : (opsTo l n k)[k + 1]? = some 0 := by
  simp only [opsTo, List.getElem?_map, List.getElem?_range (show k + 1 < n + 1 by omega), Option.map_some]
  rw [if_neg (by omega)]
theorem opsTo_zero (l : List Tk) (n : Nat) : opsTo l n 0 = List.replicate (n + 1) 0 := by
  apply List.ext_getElem?
  intro i
  by_cases hi : i < n + 1
  · simp only [opsTo, List.getElem?_map, List.getElem?_range hi, List.getElem?_replicate, hi, if_true, Option.map_some]
    by_cases h0 : i ≤ 0
    · obtain rfl : i = 0 := by omega
      simp [opN_zero]
    · simp [h0]
  · rw [List.getElem?_eq_none (by rw [opsTo_length]; omega), List.getElem?_eq_none (by simp; omega)]
theorem opsTo_set (l : List Tk) {n k : Nat} (hk : k < n) {x : Int} (hx : opN l (k + 1) = x) : (opsTo l n k).set (k + 1) x = opsTo l n (k + 1) := by
  apply List.ext_getElem?
  intro i
  by_cases hi : i < n + 1
  · rw [List.getElem?_set]
    by_cases e : k + 1 = i
    · subst e
      rw [if_pos rfl, if_pos (by rw [opsTo_length]; omega), opsTo_at l (by omega), hx]
    · rw [if_neg e]
      simp only [opsTo, List.getElem?_map, List.getElem?_range hi, Option.map_some]
      by_cases h0 : i ≤ k
      · rw [if_pos h0, if_pos (by omega)]
      · rw [if_neg h0, if_neg (by omega)]
  · rw [List.getElem?_eq_none (by rw [List.length_set, opsTo_length]; omega), List.getElem?_eq_none (by rw [opsTo_length]; omega)]
def ops (l : List Tk) : List Int := opsTo l l.length l.length
theorem ops_at (l : List Tk) {i : Nat} (hi : i ≤ l.length) : (ops l)[i]? = some (opN l i) := by
  simp only [ops, opsTo, List.getElem?_map, List.getElem?_range (show i < l.length + 1 by omega), Option.map_some]
  rw [if_pos hi]
theorem nums_set (xs : List Int) (i : Nat) (x : Int) : (nums xs).set i (.int .i64 x) = nums (xs.set i x) := by simp [nums]

def OpenPost (w : World) (l : List Tk) (e : Ending) (w' : World) : Prop :=
  Below w.heap.size w w' ∧ ((strB l = true ∧ e = .returned (.tuple #[.slice (some ⟨w.heap.size, 0, none⟩) (l.length + 1) (l.length + 1), .bool true]) ∧ BlkL w' w.heap.size 3 (nums (ops l))) ∨
    (strB l = false ∧ e = .returned (.tuple #[.slice none 0 0, .bool false])))

/-- what the region of the count keeps. -/
def OpS (w wr : World) (l : List Tk) (k : Nat) (t : Tk) (w' : World) : Prop :=
  w'.cell? ⟨wr.heap.size, 0, none⟩ = some (.int .i64 t.k) ∧ w'.cell? ⟨wr.heap.size, 1, none⟩ = some (.string t.s) ∧ w'.cell? ⟨wr.heap.size, 2, none⟩ = some (.int .i64 t.d) ∧ w'.cell? ⟨wr.heap.size, 3, none⟩ = some (.int .i64 t.o) ∧
  w'.cell? ⟨w.heap.size, k, none⟩ = some (.int .i64 (opN l k)) ∧ Below w.heap.size w w' ∧ wr.heap.size < w'.heap.size
theorem OpS.start {w wr : World} {l : List Tk} {n k : Nat} {t : Tk} {ty : TypeId} (hk : k < n) (hB : Below w.heap.size w wr) (hK : BlkL wr w.heap.size 3 (nums (opsTo l n k))) :
    OpS w wr l k t (wr.alloc (.cells #[.int .i64 t.k, .string t.s, .int .i64 t.d, .int .i64 t.o] ty)) := by
  have hK' := hK.alloc (.cells #[.int .i64 t.k, .string t.s, .int .i64 t.d, .int .i64 t.o] ty)
  have hN := BlkL.new wr ty [.int .i64 t.k, .string t.s, .int .i64 t.d, .int .i64 t.o]
  exact ⟨(hN.cell 0).trans rfl, (hN.cell 1).trans rfl, (hN.cell 2).trans rfl, (hN.cell 3).trans rfl, (hK'.cell k).trans (nums_at (opsTo_at l (by omega))), hB.alloc hB.size _, by simp⟩
theorem OpS.go {w wr : World} {l : List Tk} {k : Nat} {t : Tk} {w1 w2 : World} (hg : w.heap.size < wr.heap.size) (h : OpS w wr l k t w1) (hb : Below w1.heap.size w1 w2) : OpS w wr l k t w2 := by
  obtain ⟨h0, h1, h2, h3, h4, h8, h9⟩ := h
  have hg' := Nat.lt_trans hg h9
  exact ⟨(hb.cell (p := ⟨_, _, none⟩) h9).trans h0, (hb.cell (p := ⟨_, _, none⟩) h9).trans h1, (hb.cell (p := ⟨_, _, none⟩) h9).trans h2, (hb.cell (p := ⟨_, _, none⟩) h9).trans h3, (hb.cell (p := ⟨_, _, none⟩) hg').trans h4, h8.trans (hb.mono h8.size), Nat.lt_of_lt_of_le h9 hb.size⟩
theorem OpS.drew {w wr : World} {l : List Tk} {k : Nat} {t : Tk} {w1 : World} (h : OpS w wr l k t w1) : OpS w wr l k t w1.drew := by
  obtain ⟨h0, h1, h2, h3, h4, h8, h9⟩ := h
  exact ⟨h0, h1, h2, h3, h4, h8.drew, h9⟩
theorem OpS.store {w wr : World} {l : List Tk} {k : Nat} {t : Tk} {w1 : World} (hg : w.heap.size < wr.heap.size) (h : OpS w wr l k t w1) (v : Value) : OpS w wr l k t (w1.setCell ⟨w.heap.size, k + 1, none⟩ v) := by
  obtain ⟨h0, h1, h2, h3, h4, h8, h9⟩ := h
  have f : ∀ p, (w1.setCell ⟨w.heap.size, k + 1, none⟩ v).cell? ⟨wr.heap.size, p, none⟩ = w1.cell? ⟨wr.heap.size, p, none⟩ := fun p => World.cell?_setCell_other _ _ _ _ (by intro e; injection e; omega)
  exact ⟨(f _).trans h0, (f _).trans h1, (f _).trans h2, (f _).trans h3, (World.cell?_setCell_other _ _ _ _ (by simp)).trans h4, h8.setCell (p := ⟨w.heap.size, k + 1, none⟩) (Nat.le_refl _) _, by simpa [World.setCell] using h9⟩

end Go.Proofs.YthjkgbcomjiejaaDoor
