/-
  The draws: a cursor over the bytes of a draw; what is drawn below n is below n.
-/
import Derived.Test.YthjkgbcomjiejaaGreatDoorKk02
import Derived.Test.YthjkgbcomjiejaaGreatDoorKk03
import Derived.Deep.QuietTactic
import Derived.BigQuiet
import Derived.Laws.MakeOwn
import Derived.Deep.RegionHeld3
import Derived.Deep.RegionWith
namespace Go.Proofs.YthjkgbcomjiejaaGreatDoor
open Go.RowKit

def szB (left : Int) (l : List Tk) : Int := if left < (bulk l : Int) then -1 else left - bulk l

def zeroTk : Tk := ⟨0, ByteArray.empty, 0, 0⟩
theorem flat_rep (n : Nat) : flat (List.replicate n zeroTk) = (madeCells #[.int .i64 0, .string ByteArray.empty, .int .i64 0, .int .i64 0] (n * 4)).toList := by
  apply List.ext_getElem?
  intro j
  by_cases hj : j < n * 4
  · have hr : (madeCells #[.int .i64 0, .string ByteArray.empty, .int .i64 0, .int .i64 0] (n * 4)).toList[j]? = some (#[Value.int .i64 0, .string ByteArray.empty, .int .i64 0, .int .i64 0][j % 4]!) := by
      rw [Array.getElem?_toList]
      simp [madeCells, hj]
    rw [hr]
    have ht : (List.replicate n zeroTk)[j / 4]? = some zeroTk := by rw [List.getElem?_replicate]; rw [if_pos (by omega)]
    have f := flat_at ht
    have e : j = j / 4 * 4 + j % 4 := by omega
    have hm : j % 4 < 4 := by omega
    generalize j / 4 = q at *
    generalize j % 4 = m at *
    subst e
    match m, hm with
    | 0, _ => exact f.1
    | 1, _ => exact f.2.1
    | 2, _ => exact f.2.2.1
    | 3, _ => exact f.2.2.2
  · rw [List.getElem?_eq_none (by rw [flat_length]; simp; omega), List.getElem?_eq_none (by simp [size_madeCells]; omega)]

theorem infoInt : (Tryz.prog.info? 3).map (fun i => (i.zero, i.size, i.bytes)) = some (some (.int .i64 0), 1, 8) := by kernel_rfl

theorem mkInts (n : Nat) (hn : n ≤ 2097152) (w : World) : (Instr.makeSlice 37 (.int .i64 n) (.int .i64 n)).run Tryz.prog w =
    .ok (.slice (some ⟨w.heap.size, 0, none⟩) n n) (w.alloc (.cells (nums (List.replicate n 0)).toArray 3)) := by
  obtain ⟨i, hi, hz, hs, hb⟩ := info_parts infoInt
  have h := run_make (P := Tryz.prog) w 37 3 i _ Tryz.underlying37 hi hz .i64 .i64 n n (by omega) (by omega) (by rw [hb]; omega) (by omega)
  rw [h, hs]
  have e : (madeCells (Value.int .i64 0).cells (n * 1)).toList = nums (List.replicate n 0) := by
    rw [Nat.mul_one, show (Value.int .i64 0).cells = #[.int .i64 0] from rfl, toList_madeCells_one]; simp [nums]
  rw [← e]
  simp

def fillTo (l : List Tk) (n k : Nat) : List Tk := l.take k ++ List.replicate (n - k) zeroTk
theorem fillTo_length {l : List Tk} {n k : Nat} (hl : l.length = n) (hk : k ≤ n) : (fillTo l n k).length = n := by simp [fillTo]; omega
theorem fillTo_set {l : List Tk} {n k : Nat} {t : Tk} (hl : l.length = n) (hk : k < n) (ht : l[k]? = some t) : (fillTo l n k).set k t = fillTo l n (k + 1) := by
  unfold fillTo
  have e : n - k = (n - (k + 1)) + 1 := by omega
  have hlen : (l.take k).length = k := by simp; omega
  rw [List.set_append_right _ _ (by omega), hlen, e, List.replicate_succ, Nat.sub_self, List.set_cons_zero, List.take_add_one, ht]
  simp
theorem fillTo_all {l : List Tk} {n : Nat} (hl : l.length = n) : fillTo l n n = l := by
  subst hl; simp [fillTo]

def Eight (w0 : World) (a p b q : Nat) (t : Tk) (w : World) : Prop :=
  w.cell? ⟨a, p, none⟩ = some (.int .i64 t.k) ∧ w.cell? ⟨a, p + 1, none⟩ = some (.string t.s) ∧ w.cell? ⟨a, p + 2, none⟩ = some (.int .i64 t.d) ∧ w.cell? ⟨a, p + 3, none⟩ = some (.int .i64 t.o) ∧
  w.cell? ⟨b, q, none⟩ = some (.int .i64 t.k) ∧ w.cell? ⟨b, q + 1, none⟩ = some (.string t.s) ∧ w.cell? ⟨b, q + 2, none⟩ = some (.int .i64 t.d) ∧ w.cell? ⟨b, q + 3, none⟩ = some (.int .i64 t.o) ∧
  Below w0.heap.size w0 w
theorem Eight.go {w0 w w' : World} {a p b q : Nat} {t : Tk} (ha : a < w.heap.size) (hb : b < w.heap.size) (h : Eight w0 a p b q t w) (hw : Below w.heap.size w w') : Eight w0 a p b q t w' := by
  obtain ⟨h0, h1, h2, h3, h4, h5, h6, h7, h8⟩ := h
  exact ⟨(hw.cell (p := ⟨a, _, none⟩) ha).trans h0, (hw.cell (p := ⟨a, _, none⟩) ha).trans h1, (hw.cell (p := ⟨a, _, none⟩) ha).trans h2, (hw.cell (p := ⟨a, _, none⟩) ha).trans h3, (hw.cell (p := ⟨b, _, none⟩) hb).trans h4, (hw.cell (p := ⟨b, _, none⟩) hb).trans h5, (hw.cell (p := ⟨b, _, none⟩) hb).trans h6, (hw.cell (p := ⟨b, _, none⟩) hb).trans h7, h8.trans (hw.mono h8.size)⟩

end Go.Proofs.YthjkgbcomjiejaaGreatDoor
namespace Go.Proofs.YthjkgbcomjiejaaGreatDoor
open Go.RowKit
set_option linter.unusedVariables false

/-- bytes of an argument. -/
def BS (w : World) (A : Option Addr) (n : Nat) : Prop :=
  ∀ i, i < n → ∃ b o x, A = some ⟨b, o, none⟩ ∧ b < w.heap.size ∧ w.cell? ⟨b, o + i, none⟩ = some (.int .u8 x) ∧ 0 ≤ x ∧ x ≤ 255
/-- the cursor at block p: the bytes, a place among them, a number. -/
def Cur (w : World) (p : Nat) (A : Option Addr) (n c : Nat) : Prop :=
  ∃ (i : Nat) (h : Int), i ≤ n ∧ BlkL w p 75 [.slice A n c, .int .i64 i, .int .i64 h]

theorem and255 (a : Int) : 0 ≤ bits .and .i64 a 255 ∧ bits .and .i64 a 255 ≤ 255 := by
  have h : bits .and .i64 a 255 = IntKind.i64.wrap ((BitVec.ofInt 64 a &&& BitVec.ofInt 64 255).toNat : Int) := rfl
  have h2 : (BitVec.ofInt 64 a &&& BitVec.ofInt 64 255).toNat ≤ 255 := by
    rw [BitVec.toNat_and]
    exact Nat.and_le_right
  rw [h, IntWalk.i64_in _ (by omega)]
  omega
theorem Cur.put {w w' : World} {p : Nat} {A : Option Addr} {n c i : Nat} {h : Int} (hi : i ≤ n) (hb : BlkL w' p 75 [.slice A n c, .int .i64 i, .int .i64 h]) : Cur w' p A n c := ⟨i, h, hi, hb⟩

theorem gB_set (W : World) (p : Addr) (v : Value) : W.grownBy (W.setCell p v) (some p.block) :=
  ⟨rfl, rfl, rfl, by simp [World.setCell], fun k _ hk => Below.heap_setCell _ _ _ k (fun e => hk (by rw [e]))⟩
theorem gB_drew {W W' : World} {row : Option Nat} (h : W.grownBy W' row) : W.grownBy W'.drew row := ⟨h.os, h.tape, h.output, h.size, h.block⟩
theorem gB_tr {A B C : World} {p : Nat} (h : A.grownBy B (some p)) (k : B.grownBy C (some p)) : A.grownBy C (some p) :=
  ⟨k.os.trans h.os, k.tape.trans h.tape, k.output.trans h.output, Nat.le_trans h.size k.size, fun q hq hne => (k.block q (Nat.lt_of_lt_of_le hq h.size) hne).trans (h.block q hq hne)⟩
theorem gB_below {A B : World} (p : Nat) (h : Below A.heap.size A B) : A.grownBy B (some p) := ⟨h.os, h.tape, h.output, h.size, fun k hk _ => h.block k hk⟩
theorem BS.grown {w w' : World} {A : Option Addr} {n p : Nat} (h : BS w A n) (hne : ∀ b, A.map (·.block) = some b → b ≠ p) (hg : w.grownBy w' (some p)) : BS w' A n := by
  intro i hi
  obtain ⟨b, o, x, rfl, hb, hc, hx⟩ := h i hi
  exact ⟨b, o, x, rfl, Nat.lt_of_lt_of_le hb hg.size, (World.cell?_of_block (hg.block b hb (fun e => hne b rfl (by injection e)))).trans hc, hx⟩
/-- what a draw by the cursor at p leaves: a value that meets S. -/
def Drawn (w : World) (p : Nat) (A : Option Addr) (n c : Nat) (S : Value → Prop) (e : Ending) (w' : World) : Prop :=
  (∃ v, S v ∧ e = .returned v) ∧ Cur w' p A n c ∧ w.grownBy w' (some p)

set_option maxHeartbeats 1000000 in
set_option maxRecDepth 100000 in
theorem l01Byte_any (p : Nat) (A : Option Addr) (n c : Nat) (w : World) (hm : n ≤ 1048576) (hb : BS w A n) (hne : ∀ b, A.map (·.block) = some b → b ≠ p) (hc : Cur w p A n c) :
    Calls Tryz.prog 51 #[.pointer (some ⟨p, 0, none⟩)] w (Drawn w p A n c fun v => ∃ x : Int, v = .int .i64 x ∧ 0 ≤ x ∧ x ≤ 255) := by
  obtain ⟨i, h, hi, hblk⟩ := hc
  have c0 : w.cell? ⟨p, 0, none⟩ = some (.slice A n c) := (hblk.cell 0).trans rfl
  have c1 : w.cell? ⟨p, 1, none⟩ = some (.int .i64 i) := (hblk.cell 1).trans rfl
  have c2 : w.cell? ⟨p, 2, none⟩ = some (.int .i64 h) := (hblk.cell 2).trans rfl
  have f1 := hblk.frozen 1
  have f2 := hblk.frozen 2
  have HB := Lib.hid hblk
  clear hblk
  go_enter Tryz.func51, Tryz.ntmps51
  by_cases hlt : i < n
  · obtain ⟨b, o, x, rfl, hbl, cx, hx0, hx1⟩ := hb i hlt
    have hbp : b ≠ p := hne b rfl
    have cx2 : ∀ u, (w.setCell ⟨p, 2, none⟩ u).cell? ⟨b, o + i, none⟩ = some (.int .u8 x) := fun u => (World.cell?_setCell_other _ _ _ _ (by intro e; injection e; omega)).trans cx
    clear hb hne
    go_wp2
    generalize wrap64 (wrap64 (h * 6364136223846793005) + 1442695040888963407) = h1 at *
    go_region
    generalize bits BinOp.xor IntKind.i64 (h1 / 8589934592) (h1 / 35184372088832) = g1 at *
    obtain ⟨a0, a1⟩ := and255 g1
    generalize bits BinOp.and IntKind.i64 g1 255 = g2 at *
    go_wp2
    go_region
    go_wp2
    go_region
    obtain ⟨a2, a3⟩ := and255 (g2 + x)
    generalize bits BinOp.and IntKind.i64 (g2 + x) 255 = g4 at *
    go_wp2
    go_ret
    exact ⟨⟨_, ⟨_, rfl, a2, a3⟩, rfl⟩, ⟨i + 1, h1, by omega, ((HB.out.set 2 (.int .i64 h1)).set 1 (.int .i64 ((i + 1 : Nat) : Int)))⟩, gB_drew (gB_drew (gB_drew (gB_tr (gB_set w ⟨p, 2, none⟩ _) (gB_set _ ⟨p, 1, none⟩ _))))⟩
  · have hin : i = n := by omega
    have HI := Lib.hid hin
    clear hin hb hne
    go_wp2
    generalize wrap64 (wrap64 (h * 6364136223846793005) + 1442695040888963407) = h1 at *
    go_region
    generalize bits BinOp.xor IntKind.i64 (h1 / 8589934592) (h1 / 35184372088832) = g1 at *
    obtain ⟨a0, a1⟩ := and255 g1
    generalize bits BinOp.and IntKind.i64 g1 255 = g2 at *
    go_wp2
    go_region
    go_wp2
    go_ret
    exact ⟨⟨_, ⟨_, rfl, a0, a1⟩, rfl⟩, ⟨i, h1, hi, HB.out.set 2 (.int .i64 h1)⟩, gB_drew (gB_drew (gB_set w ⟨p, 2, none⟩ _))⟩

set_option maxHeartbeats 1000000 in
set_option maxRecDepth 100000 in
theorem l01Below_any (m p : Nat) (A : Option Addr) (n c : Nat) (w : World) (hm : n ≤ 1048576) (hm1 : 1 ≤ m) (hm2 : m ≤ 256) (hb : BS w A n) (hne : ∀ b, A.map (·.block) = some b → b ≠ p) (hc : Cur w p A n c) :
    Calls Tryz.prog 25 #[.pointer (some ⟨p, 0, none⟩), .int .i64 m] w (Drawn w p A n c fun v => ∃ x : Nat, v = .int .i64 x ∧ x < m) := by
  have HB := Lib.hid hb
  have HC := Lib.hid hc
  have HNE := Lib.hid hne
  clear hb hc hne
  go_enter Tryz.func25, Tryz.ntmps25
  go_wp2_with fail
  refine (l01Byte_any p A n c w hm HB.out HNE.out HC.out).mono ?_
  rintro e w1 ⟨⟨v, ⟨x, rfl, hx0, hx1⟩, rfl⟩, hc1, hg1⟩
  have HC1 := Lib.hid hc1
  have HG1 := Lib.hid hg1
  clear hc1 hg1
  go_wp2
  go_ret
  have hmod : 0 ≤ x % (m : Int) ∧ x % (m : Int) < m := ⟨Int.emod_nonneg _ (by omega), Int.emod_lt_of_pos _ (by omega)⟩
  exact ⟨⟨_, ⟨(x % (m : Int)).toNat, by rw [Int.toNat_of_nonneg hmod.1]; rfl, by omega⟩, rfl⟩, HC1.out, HG1.out⟩

set_option maxHeartbeats 1000000 in
theorem l01Once_any (m p : Nat) (A : Option Addr) (n c : Nat) (w : World) (hm : n ≤ 1048576) (hm1 : 1 ≤ m) (hm2 : m ≤ 256) (hb : BS w A n) (hne : ∀ b, A.map (·.block) = some b → b ≠ p) (hc : Cur w p A n c) :
    Calls Tryz.prog 24 #[.pointer (some ⟨p, 0, none⟩), .int .i64 m] w (Drawn w p A n c fun v => ∃ x : Bool, v = .bool x) := by
  have HB := Lib.hid hb
  have HC := Lib.hid hc
  have HNE := Lib.hid hne
  clear hb hc hne
  go_enter Tryz.func24, Tryz.ntmps24
  go_wp2_with fail
  refine (l01Below_any m p A n c w hm hm1 hm2 HB.out HNE.out HC.out).mono ?_
  rintro e w1 ⟨⟨v, ⟨x, rfl, hx⟩, rfl⟩, hc1, hg1⟩
  have HC1 := Lib.hid hc1
  have HG1 := Lib.hid hg1
  clear hc1 hg1
  go_wp2
  go_ret
  exact ⟨⟨_, ⟨_, rfl⟩, rfl⟩, HC1.out, HG1.out⟩

set_option maxHeartbeats 1000000 in
theorem l01PickInt_any (xs : List Int) (B : Option Addr) (cb m p : Nat) (A : Option Addr) (n c : Nat) (w : World) (hm : n ≤ 1048576) (hxs : xs.length = m) (hm1 : 1 ≤ m) (hm2 : m ≤ 256) (hb : BS w A n) (hne : ∀ b, A.map (·.block) = some b → b ≠ p) (hc : Cur w p A n c) (hB : IS w B xs) (hBp : ∀ b, B.map (·.block) = some b → b ≠ p) :
    Calls Tryz.prog 54 #[.pointer (some ⟨p, 0, none⟩), .slice B m cb] w (Drawn w p A n c fun v => ∃ x : Int, v = .int .i64 x ∧ x ∈ xs) := by
  have HB := Lib.hid hb
  have HC := Lib.hid hc
  have HNE := Lib.hid hne
  have HXS := Lib.hid hxs
  have HIS := Lib.hid hB
  have HBP := Lib.hid hBp
  clear hb hc hne hxs hB hBp
  go_enter Tryz.func54, Tryz.ntmps54
  go_wp2_with fail
  refine (l01Below_any m p A n c w hm hm1 hm2 HB.out HNE.out HC.out).mono ?_
  rintro e w1 ⟨⟨v, ⟨x, rfl, hx⟩, rfl⟩, hc1, hg1⟩
  have hI1 := HIS.out.grown hg1 (fun b hb e => HBP.out b hb (by injection e))
  obtain ⟨y, b, hy, rfl, hbl, cy⟩ := hI1.at (k := x) (by have := HXS.out; omega)
  have HC1 := Lib.hid hc1
  have HG1 := Lib.hid hg1
  have HY := Lib.hid hy
  clear hc1 hg1 hI1 hy
  go_wp2
  go_ret
  exact ⟨⟨_, ⟨_, rfl, List.mem_of_getElem? HY.out⟩, rfl⟩, HC1.out, HG1.out⟩

/-- texts of a literal. -/
def SS (w : World) (B : Option Addr) (xs : List ByteArray) : Prop := ∀ (i : Nat) (s : ByteArray), xs[i]? = some s → ∃ b, B = some ⟨b, 0, none⟩ ∧ b < w.heap.size ∧ w.cell? ⟨b, i, none⟩ = some (.string s)
theorem SS.grown {w w' : World} {B : Option Addr} {xs : List ByteArray} {p : Nat} (h : SS w B xs) (hg : w.grownBy w' (some p)) (hne : ∀ b, B.map (·.block) = some b → b ≠ p) : SS w' B xs := by
  intro i s hs
  obtain ⟨b, rfl, hb, hc⟩ := h i s hs
  exact ⟨b, rfl, Nat.lt_of_lt_of_le hb hg.size, (World.cell?_of_block (hg.block b hb (fun e => hne b rfl (by injection e)))).trans hc⟩
set_option maxHeartbeats 1000000 in
theorem l01PickText_any (xs : List ByteArray) (B : Option Addr) (cb m p : Nat) (A : Option Addr) (n c : Nat) (w : World) (hm : n ≤ 1048576) (hxs : xs.length = m) (hm1 : 1 ≤ m) (hm2 : m ≤ 256) (hb : BS w A n) (hne : ∀ b, A.map (·.block) = some b → b ≠ p) (hc : Cur w p A n c) (hB : SS w B xs) (hBp : ∀ b, B.map (·.block) = some b → b ≠ p) :
    Calls Tryz.prog 26 #[.pointer (some ⟨p, 0, none⟩), .slice B m cb] w (Drawn w p A n c fun v => ∃ s : ByteArray, v = .string s ∧ s ∈ xs) := by
  have HB := Lib.hid hb
  have HC := Lib.hid hc
  have HNE := Lib.hid hne
  have HXS := Lib.hid hxs
  have HIS := Lib.hid hB
  have HBP := Lib.hid hBp
  clear hb hc hne hxs hB hBp
  go_enter Tryz.func26, Tryz.ntmps26
  go_wp2_with fail
  refine (l01Below_any m p A n c w hm hm1 hm2 HB.out HNE.out HC.out).mono ?_
  rintro e w1 ⟨⟨v, ⟨x, rfl, hx⟩, rfl⟩, hc1, hg1⟩
  have hI1 := HIS.out.grown hg1 HBP.out
  have hxl : x < xs.length := by have := HXS.out; omega
  obtain ⟨b, rfl, hbl, cy⟩ := hI1 x _ (List.getElem?_eq_getElem hxl)
  have HY := Lib.hid (List.getElem_mem hxl)
  generalize xs[x] = y at *
  have HC1 := Lib.hid hc1
  have HG1 := Lib.hid hg1
  clear hc1 hg1 hI1 hxl
  go_wp2
  go_ret
  exact ⟨⟨_, ⟨_, rfl, HY.out⟩, rfl⟩, HC1.out, HG1.out⟩
end Go.Proofs.YthjkgbcomjiejaaGreatDoor
