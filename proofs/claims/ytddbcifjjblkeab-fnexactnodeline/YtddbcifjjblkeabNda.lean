/-
  Words for slices of Node, and the laws' helpers over them (made by gen_row.py).
-/
import Derived.Test.YtddbcifjjblkeabRws
import Derived.Test.YtddbcifjjblkeabSl
import Derived.Test.YtddbcifjjblkeabMark
import Derived.Test.YtddbcifjjblkeabArg
namespace Go.Proofs.Ytddbcifjjblkeab
open Go.ChangeShapes Go.WideShapes Go.ChangeAt Go.RowKit Go.Joins Go.Deep
set_option linter.unusedVariables false

structure Nd where
  d : Int
  k : Int
  s : ByteArray
def fn (x : Nd) : List Value := [.int .i64 x.d, .int .i64 x.k, .string x.s]
theorem fn_len (x : Nd) : (fn x).length = 3 := rfl
def NS (w : World) (A : Option Addr) (l : List Nd) : Prop := RS fn 3 w A l
theorem NS.all {w : World} {A : Option Addr} {l : List Nd} (h : NS w A l) {k : Nat} (hk : k < l.length) : ∃ m b o, l[k]? = some m ∧ A = some ⟨b, o, none⟩ ∧ b < w.heap.size ∧
    w.cell? ⟨b, o + k * 3, none⟩ = some (.int .i64 m.d) ∧ w.cell? ⟨b, o + k * 3 + 1, none⟩ = some (.int .i64 m.k) ∧ w.cell? ⟨b, o + k * 3 + 2, none⟩ = some (.string m.s) := by
  obtain ⟨m, b, o, hm, ha, hb, hc⟩ := RS.at h hk
  exact ⟨m, b, o, hm, ha, hb, hc 0 (by decide), hc 1 (by decide), hc 2 (by decide)⟩
theorem NS.get {w : World} {b o : Nat} {l : List Nd} (h : NS w (some ⟨b, o, none⟩) l) {k : Nat} {m : Nd} (hm : l[k]? = some m) : b < w.heap.size ∧
    w.cell? ⟨b, o + k * 3, none⟩ = some (.int .i64 m.d) ∧ w.cell? ⟨b, o + k * 3 + 1, none⟩ = some (.int .i64 m.k) ∧ w.cell? ⟨b, o + k * 3 + 2, none⟩ = some (.string m.s) := by
  obtain ⟨hb, hc⟩ := RS.get h hm
  exact ⟨hb, hc 0 (by decide), hc 1 (by decide), hc 2 (by decide)⟩
theorem NS.below {w w' : World} {A : Option Addr} {l : List Nd} (h : NS w A l) (hb : Below w.heap.size w w') : NS w' A l := RS.below h hb
theorem NS.of_blk {w : World} {g : Nat} {ty : TypeId} {l : List Nd} (h : BlkL w g ty (fl fn l)) : NS w (some ⟨g, 0, none⟩) l := RS.of_blk fn_len h
theorem NS.old {w0 w w' : World} {A : Option Addr} {l : List Nd} {row : Option Nat} (h : NS w A l) (h0 : NS w0 A l) (hz : w0.heap.size ≤ w.heap.size) (hg : w.grownBy w' row) (hr : ∀ g, row = some g → w0.heap.size ≤ g) : NS w' A l := by
  intro i t ht
  obtain ⟨b, o, rfl, hb, _⟩ := h0 i t ht
  obtain ⟨hb', hc⟩ := RS.get h ht
  refine ⟨b, o, rfl, Nat.lt_of_lt_of_le hb' hg.size, fun j hj => (World.cell?_of_block (hg.block b hb' ?_)).trans (hc j hj)⟩
  intro e
  have := hr b e.symm
  omega
def tkn (x : Nd) : Tk := ⟨0, x.s, 0, 0⟩
def tns (l : List Nd) : List Tk := l.map tkn
theorem tns_at {l : List Nd} {i : Nat} {h : Nd} (e : l[i]? = some h) : (tns l)[i]? = some (tkn h) := by simp [tns, e]
theorem tns_length (l : List Nd) : (tns l).length = l.length := by simp [tns]

set_option maxHeartbeats 400000 in
theorem szNode_any (x : Nd) (left : Int) (w : World) (hs : x.s.size ≤ maxLen) (h0 : 0 ≤ left) (h1 : left ≤ 1048576) :
    Calls Try.prog 18 #[.agg #[.int .i64 x.d, .int .i64 x.k, .string x.s], .int .i64 left] w fun e w' => e = .returned (.int .i64 (szV left x.s.size)) ∧ Below w.heap.size w w' := by
  unfold maxLen at hs
  by_cases h : left < (x.s.size : Int)
  · have hI := Lib.hid (show szV left x.s.size = -1 from if_pos h)
    go_enter Try.func18, Try.ntmps18
    go_wp2
    go_ret
    rw [hI.out]
    exact ⟨rfl, (Below.refl _ _).alloc (Nat.le_refl _) _⟩
  · have hI := Lib.hid (show szV left x.s.size = left - x.s.size from if_neg h)
    go_enter Try.func18, Try.ntmps18
    go_wp2
    go_ret
    rw [hI.out]
    exact ⟨rfl, (Below.refl _ _).alloc (Nat.le_refl _) _⟩
def zeroNd : Nd := ⟨0, 0, ByteArray.empty⟩
theorem infoNd : (Try.prog.info? 42).map (fun i => (i.zero, i.size, i.bytes)) = some (some (.agg #[.int .i64 0, .int .i64 0, .string ByteArray.empty]), 3, 32) := by kernel_rfl
set_option maxRecDepth 100000 in
theorem toNode_any (x : Nd) (w : World) : Calls Try.prog 20 #[.agg #[.int .i64 x.d, .int .i64 x.k, .string x.s]] w
    fun e w' => e = .returned (.agg #[.int .i64 x.d, .int .i64 x.k, .string x.s]) ∧ Below w.heap.size w w' := by
  go_enter Try.func20, Try.ntmps20
  go_wp2
  refine bodyPost_ret (v := .agg #[.int .i64 x.d, .int .i64 x.k, .string x.s]) (by simp [results, Try.results20, go_sem]) rfl ⟨rfl, ?_⟩
  exact (((Below.refl _ _).alloc (Nat.le_refl _) _).alloc (by simp) _).alloc (by simp; omega) _
def ToNd (w : World) (l : List Nd) (e : Ending) (w' : World) : Prop :=
  e = .returned (.slice (some ⟨w.heap.size, 0, none⟩) l.length l.length) ∧ BlkL w' w.heap.size 42 (fl fn l) ∧ Below w.heap.size w w'
def BothNd (w0 : World) (a p b q : Nat) (t : Nd) (w : World) : Prop :=
  w.cell? ⟨a, p, none⟩ = some (.int .i64 t.d) ∧ w.cell? ⟨a, p + 1, none⟩ = some (.int .i64 t.k) ∧ w.cell? ⟨a, p + 2, none⟩ = some (.string t.s) ∧ w.cell? ⟨b, q, none⟩ = some (.int .i64 t.d) ∧ w.cell? ⟨b, q + 1, none⟩ = some (.int .i64 t.k) ∧ w.cell? ⟨b, q + 2, none⟩ = some (.string t.s) ∧ Below w0.heap.size w0 w
theorem BothNd.go {w0 w w' : World} {a p b q : Nat} {t : Nd} (ha : a < w.heap.size) (hb : b < w.heap.size) (h : BothNd w0 a p b q t w) (hw : Below w.heap.size w w') : BothNd w0 a p b q t w' := by
  obtain ⟨h0, h1, h2, g0, g1, g2, h8⟩ := h
  exact ⟨(hw.cell (p := ⟨a, _, none⟩) ha).trans h0, (hw.cell (p := ⟨a, _, none⟩) ha).trans h1, (hw.cell (p := ⟨a, _, none⟩) ha).trans h2, (hw.cell (p := ⟨b, _, none⟩) hb).trans g0, (hw.cell (p := ⟨b, _, none⟩) hb).trans g1, (hw.cell (p := ⟨b, _, none⟩) hb).trans g2, h8.trans (hw.mono h8.size)⟩
def mkNd (x : Int) (k : Nat) : Nd := ⟨x + 3 * k, x + 3 * k + 1, mtx (x + 3 * k + 1 + 1)⟩
theorem cellsNd : Try.prog.cellsOf 39 = 3 := by kernel_rfl
end Go.Proofs.Ytddbcifjjblkeab
