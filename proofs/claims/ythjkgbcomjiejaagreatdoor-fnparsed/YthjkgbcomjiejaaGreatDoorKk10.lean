/-
  Words for slices of Node, and the laws' helpers over them (made by gen_row.py).
-/
import Derived.Test.YthjkgbcomjiejaaGreatDoorKk04
import Derived.Laws.IdiomStrings
import Derived.IntWalk
import Derived.Test.YthjkgbcomjiejaaGreatDoorKk03
import Derived.Test.YthjkgbcomjiejaaGreatDoorRows
import Derived.ProofKit
import Derived.OpenShut
import Derived.ShutString
import Derived.ChangeOld
import Derived.Below
import Derived.Lib.SmallJoins
import Derived.Deep.Slices
import Derived.Test.YthjkgbcomjiejaaGreatDoorKk09
namespace Go.Proofs.YthjkgbcomjiejaaGreatDoor
open Go.RowKit
set_option linter.unusedVariables false

theorem below_drewN {B : Nat} {a w : World} (h : Below B a w) (n : Nat) : Below B a (w.drewN n) := ⟨h.os, h.tape, h.output, h.size, h.block⟩

/-- the last digit of j, as a letter. -/
def dgc (j : Nat) : UInt8 := UInt8.ofNat (48 + j % 10)
theorem dgc_nat (j : Nat) : ((dgc j).toNat : Int) = 48 + (j : Int) % 10 := by
  have : (dgc j).toNat = 48 + j % 10 := by unfold dgc; simp; omega
  omega
def dgs (n : Nat) : List UInt8 := if h : n = 0 then [] else dgs (n / 10) ++ [dgc n]
termination_by n
theorem dgs_zero : dgs 0 = [] := by rw [dgs]; simp
theorem dgs_pos {n : Nat} (h : 0 < n) : dgs n = dgs (n / 10) ++ [dgc n] := by rw [dgs, dif_neg (by omega)]
def mtx (k : Int) : ByteArray := if k ≤ 0 then ⟨#[109, 48]⟩ else ⟨(109 :: dgs k.toNat).toArray⟩

theorem bapp (x : UInt8) (o : List UInt8) : (⟨#[x]⟩ : ByteArray) ++ ⟨o.toArray⟩ = ⟨(x :: o).toArray⟩ := by
  apply ByteArray.ext
  simp

theorem conv1 (x : UInt8) (X : Int) (hx : (x.toNat : Int) = X) (w : World) :
    (convert 22 9 (.slice (some ⟨w.heap.size, 0, none⟩) 1 1)).run Tryz.prog (w.alloc (.cells #[.int .u8 X] 5)) = .ok (.string ⟨#[x]⟩) (w.alloc (.cells #[.int .u8 X] 5)) := by
  have h := run_convert_bytes_back (P := Tryz.prog) (w.alloc (.cells #[.int .u8 X] 5)) 22 9 5 ⟨w.heap.size, 0, none⟩ 1 [x] Tryz.underlying22 Tryz.underlying5 Tryz.underlying9 (by
    intro i hi
    have hi0 : i = 0 := by simpa using hi
    subst hi0
    subst hx
    simp [Addr.add])
  exact h

/-- x, x + 1, .., in the first k places of n; the old numbers behind them. -/
def upTo (xs : List Int) (x : Int) (k : Nat) : List Int := (List.range xs.length).map fun i => if i < k then x + i else xs.getD i 0
theorem upTo_length (xs : List Int) (x : Int) (k : Nat) : (upTo xs x k).length = xs.length := by simp [upTo]
theorem upTo_zero (xs : List Int) (x : Int) : upTo xs x 0 = xs := by
  apply List.ext_getElem?
  intro i
  by_cases hi : i < xs.length
  · simp [upTo, List.getElem?_range hi, List.getElem?_eq_getElem hi]
  · rw [List.getElem?_eq_none (by rw [upTo_length]; omega), List.getElem?_eq_none (by omega)]
theorem upTo_set (xs : List Int) (x : Int) {k : Nat} (hk : k < xs.length) {y : Int} (hy : x + (k : Int) = y) : (upTo xs x k).set k y = upTo xs x (k + 1) := by
  apply List.ext_getElem?
  intro i
  by_cases hi : i < xs.length
  · rw [List.getElem?_set]
    by_cases e : k = i
    · subst e
      rw [if_pos rfl, if_pos (by rw [upTo_length]; omega)]
      simp only [upTo, List.getElem?_map, List.getElem?_range hi, Option.map_some]
      rw [if_pos (by omega), hy]
    · rw [if_neg e]
      simp only [upTo, List.getElem?_map, List.getElem?_range hi, Option.map_some]
      by_cases h0 : i < k
      · rw [if_pos h0, if_pos (by omega)]
      · rw [if_neg h0, if_neg (by omega)]
  · rw [List.getElem?_eq_none (by rw [List.length_set, upTo_length]; omega), List.getElem?_eq_none (by rw [upTo_length]; omega)]
theorem upTo_at (xs : List Int) (x : Int) {k i : Nat} (hi : i < xs.length) (hk : i < k) : (upTo xs x k)[i]? = some (x + i) := by
  simp only [upTo, List.getElem?_map, List.getElem?_range hi, Option.map_some]
  rw [if_pos hk]

/-- a block's numbers with what lies behind them. -/
theorem nums_set_app (xs : List Int) (rest : List Value) {i : Nat} (hi : i < xs.length) (x : Int) : (nums xs ++ rest).set i (.int .i64 x) = nums (xs.set i x) ++ rest := by
  rw [List.set_append_left _ _ (by simpa [nums] using hi)]; simp [nums]
theorem grown_self_set {a w : World} {g : Nat} (h : a.grownBy w (some g)) (i : Nat) (u : Value) : a.grownBy (w.setCell ⟨g, i, none⟩ u) (some g) :=
  ⟨h.os, h.tape, h.output, by simpa [World.setCell] using h.size, fun j hj hne => (Below.heap_setCell w ⟨g, i, none⟩ u j (by rintro rfl; exact hne rfl)).trans (h.block j hj hne)⟩

theorem grown_below {a w w' : World} {row : Option Nat} (h : a.grownBy w row) (hb : Below w.heap.size w w') : a.grownBy w' row :=
  ⟨hb.os.trans h.os, hb.tape.trans h.tape, hb.output.trans h.output, Nat.le_trans h.size hb.size, fun i hi hne => (hb.block i (Nat.lt_of_lt_of_le hi h.size)).trans (h.block i hi hne)⟩

def mkT (x : Int) (i : Nat) : Tk := ⟨x + 4 * i, mtx (x + 4 * i + 1), x + 4 * i + 1 + 1, x + 4 * i + 1 + 1 + 1⟩
def mkTo (l : List Tk) (x : Int) (k : Nat) : List Tk := (List.range l.length).map fun i => if i < k then mkT x i else l.getD i zeroTk
theorem mkTo_length (l : List Tk) (x : Int) (k : Nat) : (mkTo l x k).length = l.length := by simp [mkTo]
theorem mkTo_zero (l : List Tk) (x : Int) : mkTo l x 0 = l := by
  apply List.ext_getElem?
  intro i
  by_cases hi : i < l.length
  · simp [mkTo, List.getElem?_range hi, List.getElem?_eq_getElem hi]
  · rw [List.getElem?_eq_none (by rw [mkTo_length]; omega), List.getElem?_eq_none (by omega)]
theorem mkTo_set (l : List Tk) (x : Int) {k : Nat} (hk : k < l.length) : (mkTo l x k).set k (mkT x k) = mkTo l x (k + 1) := by
  apply List.ext_getElem?
  intro i
  by_cases hi : i < l.length
  · rw [List.getElem?_set]
    by_cases e : k = i
    · subst e
      rw [if_pos rfl, if_pos (by rw [mkTo_length]; omega)]
      simp only [mkTo, List.getElem?_map, List.getElem?_range hi, Option.map_some]
      rw [if_pos (by omega)]
    · rw [if_neg e]
      simp only [mkTo, List.getElem?_map, List.getElem?_range hi, Option.map_some]
      by_cases h0 : i < k
      · rw [if_pos h0, if_pos (by omega)]
      · rw [if_neg h0, if_neg (by omega)]
  · rw [List.getElem?_eq_none (by rw [List.length_set, mkTo_length]; omega), List.getElem?_eq_none (by rw [mkTo_length]; omega)]
theorem mkTo_at (l : List Tk) (x : Int) {k i : Nat} (hi : i < l.length) (hk : i < k) : (mkTo l x k)[i]? = some (mkT x i) := by
  simp only [mkTo, List.getElem?_map, List.getElem?_range hi, Option.map_some]
  rw [if_pos hk]

end Go.Proofs.YthjkgbcomjiejaaGreatDoor
namespace Go.Proofs.YthjkgbcomjiejaaGreatDoor
open Go.ChangeShapes Go.WideShapes Go.ChangeAt Go.RowKit Go.Joins Go.Deep

theorem own : ownKnob Tryz.prog.godebug = none := by kernel_rfl
theorem laidOut : laidOutB Tryz.prog = true := by kernel_rfl
theorem cell_addr {w : World} {a : Addr} {v : Value} (h : w.cell? a = some v) : a = ⟨a.block, a.off, none⟩ ∧ a.block < w.heap.size := by
  unfold World.cell? at h
  cases hb : w.heap[a.block]? with
  | none => rw [hb] at h; simp at h
  | some o =>
    refine ⟨?_, (Array.getElem?_eq_some_iff.1 hb).1⟩
    rw [hb] at h
    obtain ⟨b, off, s⟩ := a
    cases o with
    | cells c e f =>
      cases s with
      | none => rfl
      | some _ => simp at h
    | _ => simp at h
theorem add_plain (b o n : Nat) : (⟨b, o, none⟩ : Addr).add n = ⟨b, o + n, none⟩ := by
  unfold Addr.add
  by_cases h : n = 0 <;> simp [h]

theorem cellsInt : Tryz.prog.cellsOf 3 = 1 := by kernel_rfl
theorem cellsStr : Tryz.prog.cellsOf 9 = 1 := by kernel_rfl

end Go.Proofs.YthjkgbcomjiejaaGreatDoor
namespace Go.Proofs.YthjkgbcomjiejaaGreatDoor
open Go.ChangeShapes Go.WideShapes Go.ChangeAt Go.RowKit Go.Joins Go.Deep
set_option linter.unusedVariables false

structure Nd where
  d : Int
  k : Int
  s : ByteArray
def fn (x : Nd) : List Value := [.int .i64 x.d, .int .i64 x.k, .string x.s]
theorem fn_len (x : Nd) : (fn x).length = 3 := rfl
def NS (w : World) (A : Option Addr) (l : List Nd) : Prop := RS fn 3 w A l
theorem NS.all {w : World} {A : Option Addr} {l : List Nd} (h : NS w A l) {k : Nat} (hk : k < l.length) : ∃ m b o, l[k]? = some m ∧ A = some ⟨b, o, none⟩ ∧ b < w.heap.size ∧
    w.cell? ⟨b, o + k * 3, none⟩ = some (.int .i64 m.d) ∧ w.cell? ⟨b, o + k * 3 + 1, none⟩ = some (.int .i64 m.k) ∧ w.cell? ⟨b, o + k * 3 + 2, none⟩ = some (.string m.s) := by
  obtain ⟨m, b, o, hm, ha, hb, hc⟩ := RS.at h hk
  exact ⟨m, b, o, hm, ha, hb, hc 0 (by decide), hc 1 (by decide), hc 2 (by decide)⟩
theorem NS.get {w : World} {b o : Nat} {l : List Nd} (h : NS w (some ⟨b, o, none⟩) l) {k : Nat} {m : Nd} (hm : l[k]? = some m) : b < w.heap.size ∧
    w.cell? ⟨b, o + k * 3, none⟩ = some (.int .i64 m.d) ∧ w.cell? ⟨b, o + k * 3 + 1, none⟩ = some (.int .i64 m.k) ∧ w.cell? ⟨b, o + k * 3 + 2, none⟩ = some (.string m.s) := by
  obtain ⟨hb, hc⟩ := RS.get h hm
  exact ⟨hb, hc 0 (by decide), hc 1 (by decide), hc 2 (by decide)⟩
theorem NS.below {w w' : World} {A : Option Addr} {l : List Nd} (h : NS w A l) (hb : Below w.heap.size w w') : NS w' A l := RS.below h hb
theorem NS.of_blk {w : World} {g : Nat} {ty : TypeId} {l : List Nd} (h : BlkL w g ty (fl fn l)) : NS w (some ⟨g, 0, none⟩) l := RS.of_blk fn_len h
theorem NS.old {w0 w w' : World} {A : Option Addr} {l : List Nd} {row : Option Nat} (h : NS w A l) (h0 : NS w0 A l) (hz : w0.heap.size ≤ w.heap.size) (hg : w.grownBy w' row) (hr : ∀ g, row = some g → w0.heap.size ≤ g) : NS w' A l := by
  intro i t ht
  obtain ⟨b, o, rfl, hb, _⟩ := h0 i t ht
  obtain ⟨hb', hc⟩ := RS.get h ht
  refine ⟨b, o, rfl, Nat.lt_of_lt_of_le hb' hg.size, fun j hj => (World.cell?_of_block (hg.block b hb' ?_)).trans (hc j hj)⟩
  intro e
  have := hr b e.symm
  omega
def tkn (x : Nd) : Tk := ⟨0, x.s, 0, 0⟩
def tns (l : List Nd) : List Tk := l.map tkn
theorem tns_at {l : List Nd} {i : Nat} {h : Nd} (e : l[i]? = some h) : (tns l)[i]? = some (tkn h) := by simp [tns, e]
theorem tns_length (l : List Nd) : (tns l).length = l.length := by simp [tns]

def zeroNd : Nd := ⟨0, 0, ByteArray.empty⟩
theorem infoNd : (Tryz.prog.info? 31).map (fun i => (i.zero, i.size, i.bytes)) = some (some (.agg #[.int .i64 0, .int .i64 0, .string ByteArray.empty]), 3, 32) := by kernel_rfl
theorem makeNd (n : Nat) (hn : n ≤ 2097152) (w : World) : (Instr.makeSlice 25 (.int .i64 n) (.int .i64 n)).run Tryz.prog w =
    .ok (.slice (some ⟨w.heap.size, 0, none⟩) n n) (w.alloc (.cells (fl fn (List.replicate n zeroNd)).toArray 31)) := by
  obtain ⟨i, hi, hz, hs, hb⟩ := info_parts infoNd
  have h := run_make (P := Tryz.prog) w 25 31 i _ Tryz.underlying25 hi hz .i64 .i64 n n (by omega) (by omega) (by rw [hb]; omega) (by omega)
  rw [h, fl_rep fn_len (by decide), hs]
  simp [Value.cells, fn, zeroNd]
def ToNd (w : World) (l : List Nd) (e : Ending) (w' : World) : Prop :=
  e = .returned (.slice (some ⟨w.heap.size, 0, none⟩) l.length l.length) ∧ BlkL w' w.heap.size 31 (fl fn l) ∧ Below w.heap.size w w'
def BothNd (w0 : World) (a p b q : Nat) (t : Nd) (w : World) : Prop :=
  w.cell? ⟨a, p, none⟩ = some (.int .i64 t.d) ∧ w.cell? ⟨a, p + 1, none⟩ = some (.int .i64 t.k) ∧ w.cell? ⟨a, p + 2, none⟩ = some (.string t.s) ∧ w.cell? ⟨b, q, none⟩ = some (.int .i64 t.d) ∧ w.cell? ⟨b, q + 1, none⟩ = some (.int .i64 t.k) ∧ w.cell? ⟨b, q + 2, none⟩ = some (.string t.s) ∧ Below w0.heap.size w0 w
theorem BothNd.go {w0 w w' : World} {a p b q : Nat} {t : Nd} (ha : a < w.heap.size) (hb : b < w.heap.size) (h : BothNd w0 a p b q t w) (hw : Below w.heap.size w w') : BothNd w0 a p b q t w' := by
  obtain ⟨h0, h1, h2, g0, g1, g2, h8⟩ := h
  exact ⟨(hw.cell (p := ⟨a, _, none⟩) ha).trans h0, (hw.cell (p := ⟨a, _, none⟩) ha).trans h1, (hw.cell (p := ⟨a, _, none⟩) ha).trans h2, (hw.cell (p := ⟨b, _, none⟩) hb).trans g0, (hw.cell (p := ⟨b, _, none⟩) hb).trans g1, (hw.cell (p := ⟨b, _, none⟩) hb).trans g2, h8.trans (hw.mono h8.size)⟩
def mkNd (x : Int) (k : Nat) : Nd := ⟨x + 3 * k, x + 3 * k + 1, mtx (x + 3 * k + 1 + 1)⟩
end Go.Proofs.YthjkgbcomjiejaaGreatDoor
