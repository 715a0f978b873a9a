/-
  Words for slices of Lexeme, and the laws' helpers over them (made by gen_row.py).
-/
import Derived.Test.YthjkgbcomjiejaaDoorLl21
import Derived.Test.YthjkgbcomjiejaaDoorLl07
import Derived.Test.YthjkgbcomjiejaaDoorLl31
import Derived.Test.YthjkgbcomjiejaaDoorLl32
namespace Go.Proofs.YthjkgbcomjiejaaDoor
open Go.ChangeShapes Go.WideShapes Go.ChangeAt Go.RowKit Go.Joins Go.Deep
set_option linter.unusedVariables false

structure Lx where
  k : Int
  s : ByteArray
  a : Int
def fx (x : Lx) : List Value := [.int .i64 x.k, .string x.s, .int .i64 x.a]
theorem fx_len (x : Lx) : (fx x).length = 3 := rfl
def XS (w : World) (A : Option Addr) (l : List Lx) : Prop := RS fx 3 w A l
theorem XS.all {w : World} {A : Option Addr} {l : List Lx} (h : XS w A l) {k : Nat} (hk : k < l.length) : ∃ m b o, l[k]? = some m ∧ A = some ⟨b, o, none⟩ ∧ b < w.heap.size ∧
    w.cell? ⟨b, o + k * 3, none⟩ = some (.int .i64 m.k) ∧ w.cell? ⟨b, o + k * 3 + 1, none⟩ = some (.string m.s) ∧ w.cell? ⟨b, o + k * 3 + 2, none⟩ = some (.int .i64 m.a) := by
  obtain ⟨m, b, o, hm, ha, hb, hc⟩ := RS.at h hk
  exact ⟨m, b, o, hm, ha, hb, hc 0 (by decide), hc 1 (by decide), hc 2 (by decide)⟩
theorem XS.get {w : World} {b o : Nat} {l : List Lx} (h : XS w (some ⟨b, o, none⟩) l) {k : Nat} {m : Lx} (hm : l[k]? = some m) : b < w.heap.size ∧
    w.cell? ⟨b, o + k * 3, none⟩ = some (.int .i64 m.k) ∧ w.cell? ⟨b, o + k * 3 + 1, none⟩ = some (.string m.s) ∧ w.cell? ⟨b, o + k * 3 + 2, none⟩ = some (.int .i64 m.a) := by
  obtain ⟨hb, hc⟩ := RS.get h hm
  exact ⟨hb, hc 0 (by decide), hc 1 (by decide), hc 2 (by decide)⟩
theorem XS.below {w w' : World} {A : Option Addr} {l : List Lx} (h : XS w A l) (hb : Below w.heap.size w w') : XS w' A l := RS.below h hb
theorem XS.of_blk {w : World} {g : Nat} {ty : TypeId} {l : List Lx} (h : BlkL w g ty (fl fx l)) : XS w (some ⟨g, 0, none⟩) l := RS.of_blk fx_len h
theorem XS.old {w0 w w' : World} {A : Option Addr} {l : List Lx} {row : Option Nat} (h : XS w A l) (h0 : XS w0 A l) (hz : w0.heap.size ≤ w.heap.size) (hg : w.grownBy w' row) (hr : ∀ g, row = some g → w0.heap.size ≤ g) : XS w' A l := by
  intro i t ht
  obtain ⟨b, o, rfl, hb, _⟩ := h0 i t ht
  obtain ⟨hb', hc⟩ := RS.get h ht
  refine ⟨b, o, rfl, Nat.lt_of_lt_of_le hb' hg.size, fun j hj => (World.cell?_of_block (hg.block b hb' ?_)).trans (hc j hj)⟩
  intro e
  have := hr b e.symm
  omega
def tkx (x : Lx) : Tk := ⟨0, x.s, 0, 0⟩
def txs (l : List Lx) : List Tk := l.map tkx
theorem txs_at {l : List Lx} {i : Nat} {h : Lx} (e : l[i]? = some h) : (txs l)[i]? = some (tkx h) := by simp [txs, e]
theorem txs_length (l : List Lx) : (txs l).length = l.length := by simp [txs]

def zeroLx : Lx := ⟨0, ByteArray.empty, 0⟩
theorem infoLx : (Tryd.prog.info? 32).map (fun i => (i.zero, i.size, i.bytes)) = some (some (.agg #[.int .i64 0, .string ByteArray.empty, .int .i64 0]), 3, 32) := by kernel_rfl
theorem makeLx (n : Nat) (hn : n ≤ 2097152) (w : World) : (Instr.makeSlice 25 (.int .i64 n) (.int .i64 n)).run Tryd.prog w =
    .ok (.slice (some ⟨w.heap.size, 0, none⟩) n n) (w.alloc (.cells (fl fx (List.replicate n zeroLx)).toArray 32)) := by
  obtain ⟨i, hi, hz, hs, hb⟩ := info_parts infoLx
  have h := run_make (P := Tryd.prog) w 25 32 i _ Tryd.underlying25 hi hz .i64 .i64 n n (by omega) (by omega) (by rw [hb]; omega) (by omega)
  rw [h, fl_rep fx_len (by decide), hs]
  simp [Value.cells, fx, zeroLx]
def ToLx (w : World) (l : List Lx) (e : Ending) (w' : World) : Prop :=
  e = .returned (.slice (some ⟨w.heap.size, 0, none⟩) l.length l.length) ∧ BlkL w' w.heap.size 32 (fl fx l) ∧ Below w.heap.size w w'
def BothLx (w0 : World) (a p b q : Nat) (t : Lx) (w : World) : Prop :=
  w.cell? ⟨a, p, none⟩ = some (.int .i64 t.k) ∧ w.cell? ⟨a, p + 1, none⟩ = some (.string t.s) ∧ w.cell? ⟨a, p + 2, none⟩ = some (.int .i64 t.a) ∧ w.cell? ⟨b, q, none⟩ = some (.int .i64 t.k) ∧ w.cell? ⟨b, q + 1, none⟩ = some (.string t.s) ∧ w.cell? ⟨b, q + 2, none⟩ = some (.int .i64 t.a) ∧ Below w0.heap.size w0 w
theorem BothLx.go {w0 w w' : World} {a p b q : Nat} {t : Lx} (ha : a < w.heap.size) (hb : b < w.heap.size) (h : BothLx w0 a p b q t w) (hw : Below w.heap.size w w') : BothLx w0 a p b q t w' := by
  obtain ⟨h0, h1, h2, g0, g1, g2, h8⟩ := h
  exact ⟨(hw.cell (p := ⟨a, _, none⟩) ha).trans h0, (hw.cell (p := ⟨a, _, none⟩) ha).trans h1, (hw.cell (p := ⟨a, _, none⟩) ha).trans h2, (hw.cell (p := ⟨b, _, none⟩) hb).trans g0, (hw.cell (p := ⟨b, _, none⟩) hb).trans g1, (hw.cell (p := ⟨b, _, none⟩) hb).trans g2, h8.trans (hw.mono h8.size)⟩
def mkLx (x : Int) (k : Nat) : Lx := ⟨x + 3 * k, mtx (x + 3 * k + 1), x + 3 * k + 1 + 1⟩
end Go.Proofs.YthjkgbcomjiejaaDoor
