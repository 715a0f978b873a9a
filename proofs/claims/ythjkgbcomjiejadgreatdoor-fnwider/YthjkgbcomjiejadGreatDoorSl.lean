/-
  The laws' helpers over slices of tokens: their size, their copy, their comparison.
-/
import Derived.Test.YthjkgbcomjiejadGreatDoorLaw2
import Derived.Test.YthjkgbcomjiejadGreatDoorMem
import Derived.Deep.QuietTactic
import Derived.BigQuiet
import Derived.Laws.MakeOwn
import Derived.Deep.RegionHeld3
namespace Go.Proofs.YthjkgbcomjiejadGreatDoor
open Go.RowKit

def szB (left : Int) (l : List Tk) : Int := if left < (bulk l : Int) then -1 else left - bulk l

def zeroTk : Tk := ⟨0, ByteArray.empty, 0, 0⟩
theorem flat_rep (n : Nat) : flat (List.replicate n zeroTk) = (madeCells #[.int .i64 0, .string ByteArray.empty, .int .i64 0, .int .i64 0] (n * 4)).toList := by
  apply List.ext_getElem?
  intro j
  by_cases hj : j < n * 4
  · have hr : (madeCells #[.int .i64 0, .string ByteArray.empty, .int .i64 0, .int .i64 0] (n * 4)).toList[j]? = some (#[Value.int .i64 0, .string ByteArray.empty, .int .i64 0, .int .i64 0][j % 4]!) := by
      rw [Array.getElem?_toList]
      simp [madeCells, hj]
    rw [hr]
    have ht : (List.replicate n zeroTk)[j / 4]? = some zeroTk := by rw [List.getElem?_replicate]; rw [if_pos (by omega)]
    have f := flat_at ht
    have e : j = j / 4 * 4 + j % 4 := by omega
    have hm : j % 4 < 4 := by omega
    generalize j / 4 = q at *
    generalize j % 4 = m at *
    subst e
    match m, hm with
    | 0, _ => exact f.1
    | 1, _ => exact f.2.1
    | 2, _ => exact f.2.2.1
    | 3, _ => exact f.2.2.2
  · rw [List.getElem?_eq_none (by rw [flat_length]; simp; omega), List.getElem?_eq_none (by simp [size_madeCells]; omega)]

theorem infoTok : (Tryz.prog.info? 38).map (fun i => (i.zero, i.size, i.bytes)) = some (some (.agg #[.int .i64 0, .string ByteArray.empty, .int .i64 0, .int .i64 0]), 4, 40) := by kernel_rfl
theorem infoInt : (Tryz.prog.info? 3).map (fun i => (i.zero, i.size, i.bytes)) = some (some (.int .i64 0), 1, 8) := by kernel_rfl

theorem mkToks (n : Nat) (hn : n ≤ 2097152) (w : World) : (Instr.makeSlice 29 (.int .i64 n) (.int .i64 n)).run Tryz.prog w =
    .ok (.slice (some ⟨w.heap.size, 0, none⟩) n n) (w.alloc (.cells (flat (List.replicate n zeroTk)).toArray 38)) := by
  obtain ⟨i, hi, hz, hs, hb⟩ := info_parts infoTok
  have h := run_make (P := Tryz.prog) w 29 38 i _ Tryz.underlying29 hi hz .i64 .i64 n n (by omega) (by omega) (by rw [hb]; omega) (by omega)
  rw [h, flat_rep, hs]
  simp [Value.cells]
theorem mkInts (n : Nat) (hn : n ≤ 2097152) (w : World) : (Instr.makeSlice 57 (.int .i64 n) (.int .i64 n)).run Tryz.prog w =
    .ok (.slice (some ⟨w.heap.size, 0, none⟩) n n) (w.alloc (.cells (nums (List.replicate n 0)).toArray 3)) := by
  obtain ⟨i, hi, hz, hs, hb⟩ := info_parts infoInt
  have h := run_make (P := Tryz.prog) w 57 3 i _ Tryz.underlying57 hi hz .i64 .i64 n n (by omega) (by omega) (by rw [hb]; omega) (by omega)
  rw [h, hs]
  have e : (madeCells (Value.int .i64 0).cells (n * 1)).toList = nums (List.replicate n 0) := by
    rw [Nat.mul_one, show (Value.int .i64 0).cells = #[.int .i64 0] from rfl, toList_madeCells_one]; simp [nums]
  rw [← e]
  simp

def ToPost (w : World) (l : List Tk) (e : Ending) (w' : World) : Prop :=
  e = .returned (.slice (some ⟨w.heap.size, 0, none⟩) l.length l.length) ∧ BlkL w' w.heap.size 38 (flat l) ∧ Below w.heap.size w w'

def fillTo (l : List Tk) (n k : Nat) : List Tk := l.take k ++ List.replicate (n - k) zeroTk
theorem fillTo_length {l : List Tk} {n k : Nat} (hl : l.length = n) (hk : k ≤ n) : (fillTo l n k).length = n := by simp [fillTo]; omega
theorem fillTo_set {l : List Tk} {n k : Nat} {t : Tk} (hl : l.length = n) (hk : k < n) (ht : l[k]? = some t) : (fillTo l n k).set k t = fillTo l n (k + 1) := by
  unfold fillTo
  have e : n - k = (n - (k + 1)) + 1 := by omega
  have hlen : (l.take k).length = k := by simp; omega
  rw [List.set_append_right _ _ (by omega), hlen, e, List.replicate_succ, Nat.sub_self, List.set_cons_zero, List.take_add_one, ht]
  simp
theorem fillTo_all {l : List Tk} {n : Nat} (hl : l.length = n) : fillTo l n n = l := by
  subst hl; simp [fillTo]

def Eight (w0 : World) (a p b q : Nat) (t : Tk) (w : World) : Prop :=
  w.cell? ⟨a, p, none⟩ = some (.int .i64 t.k) ∧ w.cell? ⟨a, p + 1, none⟩ = some (.string t.s) ∧ w.cell? ⟨a, p + 2, none⟩ = some (.int .i64 t.d) ∧ w.cell? ⟨a, p + 3, none⟩ = some (.int .i64 t.o) ∧
  w.cell? ⟨b, q, none⟩ = some (.int .i64 t.k) ∧ w.cell? ⟨b, q + 1, none⟩ = some (.string t.s) ∧ w.cell? ⟨b, q + 2, none⟩ = some (.int .i64 t.d) ∧ w.cell? ⟨b, q + 3, none⟩ = some (.int .i64 t.o) ∧
  Below w0.heap.size w0 w
theorem Eight.go {w0 w w' : World} {a p b q : Nat} {t : Tk} (ha : a < w.heap.size) (hb : b < w.heap.size) (h : Eight w0 a p b q t w) (hw : Below w.heap.size w w') : Eight w0 a p b q t w' := by
  obtain ⟨h0, h1, h2, h3, h4, h5, h6, h7, h8⟩ := h
  exact ⟨(hw.cell (p := ⟨a, _, none⟩) ha).trans h0, (hw.cell (p := ⟨a, _, none⟩) ha).trans h1, (hw.cell (p := ⟨a, _, none⟩) ha).trans h2, (hw.cell (p := ⟨a, _, none⟩) ha).trans h3, (hw.cell (p := ⟨b, _, none⟩) hb).trans h4, (hw.cell (p := ⟨b, _, none⟩) hb).trans h5, (hw.cell (p := ⟨b, _, none⟩) hb).trans h6, (hw.cell (p := ⟨b, _, none⟩) hb).trans h7, h8.trans (hw.mono h8.size)⟩

end Go.Proofs.YthjkgbcomjiejadGreatDoor
