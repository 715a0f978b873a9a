/-
  The draws: a list of tokens that may be no stream.
-/
import Derived.Test.YthjkgbcomjiejadGreatDoorSl
import Derived.Deep.RegionHeld3
import Derived.Deep.RegionWith
import Derived.Test.YthjkgbcomjiejadGreatDoorInts
import Derived.Test.YthjkgbcomjiejadGreatDoorJoin
import Derived.Lib.SmallJoins
namespace Go.Proofs.YthjkgbcomjiejadGreatDoor
open Go.RowKit
set_option linter.unusedVariables false

/-- bytes of an argument. -/
def BS (w : World) (A : Option Addr) (n : Nat) : Prop :=
  ∀ i, i < n → ∃ b o x, A = some ⟨b, o, none⟩ ∧ b < w.heap.size ∧ w.cell? ⟨b, o + i, none⟩ = some (.int .u8 x) ∧ 0 ≤ x ∧ x ≤ 255
/-- the cursor at block p: the bytes, a place among them, a number. -/
def Cur (w : World) (p : Nat) (A : Option Addr) (n c : Nat) : Prop :=
  ∃ (i : Nat) (h : Int), i ≤ n ∧ BlkL w p 110 [.slice A n c, .int .i64 i, .int .i64 h]

theorem and255 (a : Int) : 0 ≤ bits .and .i64 a 255 ∧ bits .and .i64 a 255 ≤ 255 := by
  have h : bits .and .i64 a 255 = IntKind.i64.wrap ((BitVec.ofInt 64 a &&& BitVec.ofInt 64 255).toNat : Int) := rfl
  have h2 : (BitVec.ofInt 64 a &&& BitVec.ofInt 64 255).toNat ≤ 255 := by
    rw [BitVec.toNat_and]
    exact Nat.and_le_right
  rw [h, IntWalk.i64_in _ (by omega)]
  omega
theorem Cur.put {w w' : World} {p : Nat} {A : Option Addr} {n c i : Nat} {h : Int} (hi : i ≤ n) (hb : BlkL w' p 110 [.slice A n c, .int .i64 i, .int .i64 h]) : Cur w' p A n c := ⟨i, h, hi, hb⟩

theorem gB_set (W : World) (p : Addr) (v : Value) : W.grownBy (W.setCell p v) (some p.block) :=
  ⟨rfl, rfl, rfl, by simp [World.setCell], fun k _ hk => Below.heap_setCell _ _ _ k (fun e => hk (by rw [e]))⟩
theorem gB_drew {W W' : World} {row : Option Nat} (h : W.grownBy W' row) : W.grownBy W'.drew row := ⟨h.os, h.tape, h.output, h.size, h.block⟩
theorem gB_tr {A B C : World} {p : Nat} (h : A.grownBy B (some p)) (k : B.grownBy C (some p)) : A.grownBy C (some p) :=
  ⟨k.os.trans h.os, k.tape.trans h.tape, k.output.trans h.output, Nat.le_trans h.size k.size, fun q hq hne => (k.block q (Nat.lt_of_lt_of_le hq h.size) hne).trans (h.block q hq hne)⟩
theorem gB_below {A B : World} (p : Nat) (h : Below A.heap.size A B) : A.grownBy B (some p) := ⟨h.os, h.tape, h.output, h.size, fun k hk _ => h.block k hk⟩
theorem BS.grown {w w' : World} {A : Option Addr} {n p : Nat} (h : BS w A n) (hne : ∀ b, A.map (·.block) = some b → b ≠ p) (hg : w.grownBy w' (some p)) : BS w' A n := by
  intro i hi
  obtain ⟨b, o, x, rfl, hb, hc, hx⟩ := h i hi
  exact ⟨b, o, x, rfl, Nat.lt_of_lt_of_le hb hg.size, (World.cell?_of_block (hg.block b hb (fun e => hne b rfl (by injection e)))).trans hc, hx⟩
/-- what a draw by the cursor at p leaves: a value that meets S. -/
def Drawn (w : World) (p : Nat) (A : Option Addr) (n c : Nat) (S : Value → Prop) (e : Ending) (w' : World) : Prop :=
  (∃ v, S v ∧ e = .returned v) ∧ Cur w' p A n c ∧ w.grownBy w' (some p)

set_option maxHeartbeats 1000000 in
set_option maxRecDepth 100000 in
theorem l01Byte_any (p : Nat) (A : Option Addr) (n c : Nat) (w : World) (hm : n ≤ 1048576) (hb : BS w A n) (hne : ∀ b, A.map (·.block) = some b → b ≠ p) (hc : Cur w p A n c) :
    Calls Tryz.prog 94 #[.pointer (some ⟨p, 0, none⟩)] w (Drawn w p A n c fun v => ∃ x : Int, v = .int .i64 x ∧ 0 ≤ x ∧ x ≤ 255) := by
  obtain ⟨i, h, hi, hblk⟩ := hc
  have c0 : w.cell? ⟨p, 0, none⟩ = some (.slice A n c) := (hblk.cell 0).trans rfl
  have c1 : w.cell? ⟨p, 1, none⟩ = some (.int .i64 i) := (hblk.cell 1).trans rfl
  have c2 : w.cell? ⟨p, 2, none⟩ = some (.int .i64 h) := (hblk.cell 2).trans rfl
  have f1 := hblk.frozen 1
  have f2 := hblk.frozen 2
  have HB := Lib.hid hblk
  clear hblk
  go_enter Tryz.func94, Tryz.ntmps94
  by_cases hlt : i < n
  · obtain ⟨b, o, x, rfl, hbl, cx, hx0, hx1⟩ := hb i hlt
    have hbp : b ≠ p := hne b rfl
    have cx2 : ∀ u, (w.setCell ⟨p, 2, none⟩ u).cell? ⟨b, o + i, none⟩ = some (.int .u8 x) := fun u => (World.cell?_setCell_other _ _ _ _ (by intro e; injection e; omega)).trans cx
    clear hb hne
    go_wp2
    generalize wrap64 (wrap64 (h * 6364136223846793005) + 1442695040888963407) = h1 at *
    go_region
    generalize bits BinOp.xor IntKind.i64 (h1 / 8589934592) (h1 / 35184372088832) = g1 at *
    obtain ⟨a0, a1⟩ := and255 g1
    generalize bits BinOp.and IntKind.i64 g1 255 = g2 at *
    go_wp2
    go_region
    go_wp2
    go_region
    obtain ⟨a2, a3⟩ := and255 (g2 + x)
    generalize bits BinOp.and IntKind.i64 (g2 + x) 255 = g4 at *
    go_wp2
    go_ret
    exact ⟨⟨_, ⟨_, rfl, a2, a3⟩, rfl⟩, ⟨i + 1, h1, by omega, ((HB.out.set 2 (.int .i64 h1)).set 1 (.int .i64 ((i + 1 : Nat) : Int)))⟩, gB_drew (gB_drew (gB_drew (gB_tr (gB_set w ⟨p, 2, none⟩ _) (gB_set _ ⟨p, 1, none⟩ _))))⟩
  · have hin : i = n := by omega
    have HI := Lib.hid hin
    clear hin hb hne
    go_wp2
    generalize wrap64 (wrap64 (h * 6364136223846793005) + 1442695040888963407) = h1 at *
    go_region
    generalize bits BinOp.xor IntKind.i64 (h1 / 8589934592) (h1 / 35184372088832) = g1 at *
    obtain ⟨a0, a1⟩ := and255 g1
    generalize bits BinOp.and IntKind.i64 g1 255 = g2 at *
    go_wp2
    go_region
    go_wp2
    go_ret
    exact ⟨⟨_, ⟨_, rfl, a0, a1⟩, rfl⟩, ⟨i, h1, hi, HB.out.set 2 (.int .i64 h1)⟩, gB_drew (gB_drew (gB_set w ⟨p, 2, none⟩ _))⟩

set_option maxHeartbeats 1000000 in
set_option maxRecDepth 100000 in
theorem l01Below_any (m p : Nat) (A : Option Addr) (n c : Nat) (w : World) (hm : n ≤ 1048576) (hm1 : 1 ≤ m) (hm2 : m ≤ 256) (hb : BS w A n) (hne : ∀ b, A.map (·.block) = some b → b ≠ p) (hc : Cur w p A n c) :
    Calls Tryz.prog 50 #[.pointer (some ⟨p, 0, none⟩), .int .i64 m] w (Drawn w p A n c fun v => ∃ x : Nat, v = .int .i64 x ∧ x < m) := by
  have HB := Lib.hid hb
  have HC := Lib.hid hc
  have HNE := Lib.hid hne
  clear hb hc hne
  go_enter Tryz.func50, Tryz.ntmps50
  go_wp2_with fail
  refine (l01Byte_any p A n c w hm HB.out HNE.out HC.out).mono ?_
  rintro e w1 ⟨⟨v, ⟨x, rfl, hx0, hx1⟩, rfl⟩, hc1, hg1⟩
  have HC1 := Lib.hid hc1
  have HG1 := Lib.hid hg1
  clear hc1 hg1
  go_wp2
  go_ret
  have hmod : 0 ≤ x % (m : Int) ∧ x % (m : Int) < m := ⟨Int.emod_nonneg _ (by omega), Int.emod_lt_of_pos _ (by omega)⟩
  exact ⟨⟨_, ⟨(x % (m : Int)).toNat, by rw [Int.toNat_of_nonneg hmod.1]; rfl, by omega⟩, rfl⟩, HC1.out, HG1.out⟩

set_option maxHeartbeats 1000000 in
theorem l01Once_any (m p : Nat) (A : Option Addr) (n c : Nat) (w : World) (hm : n ≤ 1048576) (hm1 : 1 ≤ m) (hm2 : m ≤ 256) (hb : BS w A n) (hne : ∀ b, A.map (·.block) = some b → b ≠ p) (hc : Cur w p A n c) :
    Calls Tryz.prog 48 #[.pointer (some ⟨p, 0, none⟩), .int .i64 m] w (Drawn w p A n c fun v => ∃ x : Bool, v = .bool x) := by
  have HB := Lib.hid hb
  have HC := Lib.hid hc
  have HNE := Lib.hid hne
  clear hb hc hne
  go_enter Tryz.func48, Tryz.ntmps48
  go_wp2_with fail
  refine (l01Below_any m p A n c w hm hm1 hm2 HB.out HNE.out HC.out).mono ?_
  rintro e w1 ⟨⟨v, ⟨x, rfl, hx⟩, rfl⟩, hc1, hg1⟩
  have HC1 := Lib.hid hc1
  have HG1 := Lib.hid hg1
  clear hc1 hg1
  go_wp2
  go_ret
  exact ⟨⟨_, ⟨_, rfl⟩, rfl⟩, HC1.out, HG1.out⟩

set_option maxHeartbeats 1000000 in
theorem l01PickInt_any (xs : List Int) (B : Option Addr) (cb m p : Nat) (A : Option Addr) (n c : Nat) (w : World) (hm : n ≤ 1048576) (hxs : xs.length = m) (hm1 : 1 ≤ m) (hm2 : m ≤ 256) (hb : BS w A n) (hne : ∀ b, A.map (·.block) = some b → b ≠ p) (hc : Cur w p A n c) (hB : IS w B xs) (hBp : ∀ b, B.map (·.block) = some b → b ≠ p) :
    Calls Tryz.prog 65 #[.pointer (some ⟨p, 0, none⟩), .slice B m cb] w (Drawn w p A n c fun v => ∃ x : Int, v = .int .i64 x ∧ x ∈ xs) := by
  have HB := Lib.hid hb
  have HC := Lib.hid hc
  have HNE := Lib.hid hne
  have HXS := Lib.hid hxs
  have HIS := Lib.hid hB
  have HBP := Lib.hid hBp
  clear hb hc hne hxs hB hBp
  go_enter Tryz.func65, Tryz.ntmps65
  go_wp2_with fail
  refine (l01Below_any m p A n c w hm hm1 hm2 HB.out HNE.out HC.out).mono ?_
  rintro e w1 ⟨⟨v, ⟨x, rfl, hx⟩, rfl⟩, hc1, hg1⟩
  have hI1 := HIS.out.grown hg1 (fun b hb e => HBP.out b hb (by injection e))
  obtain ⟨y, b, hy, rfl, hbl, cy⟩ := hI1.at (k := x) (by have := HXS.out; omega)
  have HC1 := Lib.hid hc1
  have HG1 := Lib.hid hg1
  have HY := Lib.hid hy
  clear hc1 hg1 hI1 hy
  go_wp2
  go_ret
  exact ⟨⟨_, ⟨_, rfl, List.mem_of_getElem? HY.out⟩, rfl⟩, HC1.out, HG1.out⟩

/-- texts of a literal. -/
def SS (w : World) (B : Option Addr) (xs : List ByteArray) : Prop := ∀ (i : Nat) (s : ByteArray), xs[i]? = some s → ∃ b, B = some ⟨b, 0, none⟩ ∧ b < w.heap.size ∧ w.cell? ⟨b, i, none⟩ = some (.string s)
theorem SS.grown {w w' : World} {B : Option Addr} {xs : List ByteArray} {p : Nat} (h : SS w B xs) (hg : w.grownBy w' (some p)) (hne : ∀ b, B.map (·.block) = some b → b ≠ p) : SS w' B xs := by
  intro i s hs
  obtain ⟨b, rfl, hb, hc⟩ := h i s hs
  exact ⟨b, rfl, Nat.lt_of_lt_of_le hb hg.size, (World.cell?_of_block (hg.block b hb (fun e => hne b rfl (by injection e)))).trans hc⟩
set_option maxHeartbeats 1000000 in
theorem l01PickText_any (xs : List ByteArray) (B : Option Addr) (cb m p : Nat) (A : Option Addr) (n c : Nat) (w : World) (hm : n ≤ 1048576) (hxs : xs.length = m) (hm1 : 1 ≤ m) (hm2 : m ≤ 256) (hb : BS w A n) (hne : ∀ b, A.map (·.block) = some b → b ≠ p) (hc : Cur w p A n c) (hB : SS w B xs) (hBp : ∀ b, B.map (·.block) = some b → b ≠ p) :
    Calls Tryz.prog 67 #[.pointer (some ⟨p, 0, none⟩), .slice B m cb] w (Drawn w p A n c fun v => ∃ s : ByteArray, v = .string s ∧ s ∈ xs) := by
  have HB := Lib.hid hb
  have HC := Lib.hid hc
  have HNE := Lib.hid hne
  have HXS := Lib.hid hxs
  have HIS := Lib.hid hB
  have HBP := Lib.hid hBp
  clear hb hc hne hxs hB hBp
  go_enter Tryz.func67, Tryz.ntmps67
  go_wp2_with fail
  refine (l01Below_any m p A n c w hm hm1 hm2 HB.out HNE.out HC.out).mono ?_
  rintro e w1 ⟨⟨v, ⟨x, rfl, hx⟩, rfl⟩, hc1, hg1⟩
  have hI1 := HIS.out.grown hg1 HBP.out
  have hxl : x < xs.length := by have := HXS.out; omega
  obtain ⟨b, rfl, hbl, cy⟩ := hI1 x _ (List.getElem?_eq_getElem hxl)
  have HY := Lib.hid (List.getElem_mem hxl)
  generalize xs[x] = y at *
  have HC1 := Lib.hid hc1
  have HG1 := Lib.hid hg1
  clear hc1 hg1 hI1 hxl
  go_wp2
  go_ret
  exact ⟨⟨_, ⟨_, rfl, HY.out⟩, rfl⟩, HC1.out, HG1.out⟩
end Go.Proofs.YthjkgbcomjiejadGreatDoor
namespace Go.Proofs.YthjkgbcomjiejadGreatDoor
open Go.RowKit
set_option linter.unusedVariables false

set_option maxHeartbeats 1000000 in
set_option maxRecDepth 100000 in
theorem l01New_any (A : Option Addr) (n c : Nat) (w : World) (hm : n ≤ 1048576) (hb : BS w A n) :
    Calls Tryz.prog 27 #[.slice A n c] w fun e w' => ∃ p, w.heap.size ≤ p ∧ e = .returned (.pointer (some ⟨p, 0, none⟩)) ∧ Cur w' p A n c ∧ Below w.heap.size w w' := by
  go_enter Tryz.func27, Tryz.ntmps27
  go_wp2
  go_loopw [3, 4] (fun hv iv wr => ∃ (i : Nat) (h : Int), i ≤ n ∧ hv = .int .i64 h ∧ iv = .int .i64 i ∧ BS wr A n ∧ Below w.heap.size w wr) (fun _ iv _ => n - (intOf iv).toNat)
  case atStart => exact ⟨0, _, Nat.zero_le _, rfl, rfl, hb, Below.refl _ _⟩
  case round =>
    obtain ⟨i, h, hi, rfl, rfl, hbs, hbw⟩ := hrel
    have HBS := Lib.hid hbs
    have HBW := Lib.hid hbw
    clear hbw
    by_cases hlt : i < n
    · obtain ⟨b, o, x, rfl, hbl, cx, hx0, hx1⟩ := hbs i hlt
      clear hbs
      by_cases h4 : i < 4000
      · go_wp2
        try go_region
        try go_wp2
        go_roundw
        case rel => exact ⟨i + 1, _, by omega, rfl, by go_num, HBS.out, HBW.out⟩
        case measure => simp [intOf]; omega
      · go_wp2
        go_ret
        exact ⟨wr.heap.size, HBW.out.size, rfl, ⟨0, h, Nat.zero_le _, BlkL.new wr _ [_, _, _]⟩, HBW.out.alloc HBW.out.size _⟩
    · clear hbs
      go_wp2
      go_ret
      exact ⟨wr.heap.size, HBW.out.size, rfl, ⟨0, h, Nat.zero_le _, BlkL.new wr _ [_, _, _]⟩, HBW.out.alloc HBW.out.size _⟩

set_option maxHeartbeats 1000000 in
theorem l01Size_any (A : Option Addr) (n c m : Nat) (w : World) (hm : n ≤ 1048576) (hm2 : m ≤ 256) (hm1 : 2 ≤ m) :
    Calls Tryz.prog 95 #[.slice A n c, .int .i64 m] w fun e w' => (∃ x : Nat, e = .returned (.int .i64 x) ∧ 1 ≤ x ∧ x ≤ m) ∧ w = w' := by
  go_enter Tryz.func95, Tryz.ntmps95
  by_cases h : (m : Int) < 2 + (n : Int) / 16
  · go_wp2
    go_ret
    exact ⟨⟨m, rfl, by omega, by omega⟩, rfl⟩
  · go_wp2
    go_ret
    refine ⟨⟨2 + n / 16, ?_, by omega, by omega⟩, rfl⟩
    go_num

/-- a token in a block of its own, beside the cursor. -/
structure St (w0 : World) (tb p : Nat) (A : Option Addr) (n c : Nat) (t : Tk) (W : World) : Prop where
  tok : BlkL W tb 38 [.int .i64 t.k, .string t.s, .int .i64 t.d, .int .i64 t.o]
  cur : Cur W p A n c
  bytes : BS W A n
  ne : ∀ b, A.map (·.block) = some b → b ≠ p
  grown : w0.grownBy W (some p)
  late : w0.heap.size ≤ tb
  old : p < w0.heap.size
theorem Cur.alloc {w : World} {p : Nat} {A : Option Addr} {n c : Nat} (h : Cur w p A n c) (o : Obj) : Cur (w.alloc o) p A n c := by
  obtain ⟨i, x, hi, hb⟩ := h
  exact ⟨i, x, hi, hb.alloc o⟩
theorem BS.alloc {w : World} {A : Option Addr} {n : Nat} (h : BS w A n) (o : Obj) : BS (w.alloc o) A n := by
  intro i hi
  obtain ⟨b, off, x, rfl, hb, hc, hx⟩ := h i hi
  exact ⟨b, off, x, rfl, by simp; omega, (World.cell?_of_block (Below.heap_alloc w o b hb)).trans hc, hx⟩
theorem gB_alloc {A B : World} {p : Nat} (h : A.grownBy B (some p)) (o : Obj) : A.grownBy (B.alloc o) (some p) := gB_tr h (gB_below p ((Below.refl _ B).alloc (Nat.le_refl _) o))
theorem Cur.lt {w : World} {p : Nat} {A : Option Addr} {n c : Nat} (h : Cur w p A n c) : p < w.heap.size := by obtain ⟨i, x, hi, hb⟩ := h; exact hb.lt
/-- one cell of the token is written. -/
theorem St.set {w0 : World} {tb p : Nat} {A : Option Addr} {n c : Nat} {t t' : Tk} {W : World} (h : St w0 tb p A n c t W) (j : Nat) (v : Value)
    (he : [Value.int .i64 t.k, .string t.s, .int .i64 t.d, .int .i64 t.o].set j v = [.int .i64 t'.k, .string t'.s, .int .i64 t'.d, .int .i64 t'.o])
    (hA : ∀ b, A.map (·.block) = some b → b < w0.heap.size) : St w0 tb p A n c t' (W.setCell ⟨tb, j, none⟩ v) := by
  have htp : p ≠ tb := by have := h.late; have := h.old; omega
  have h1 := h.tok.set j v
  rw [he] at h1
  obtain ⟨i, x, hi, hb⟩ := h.cur
  have hg := gB_set W ⟨tb, j, none⟩ v
  refine ⟨h1, ⟨i, x, hi, hb.far (p := ⟨tb, j, none⟩) htp v⟩, h.bytes.grown (p := tb) (fun b hb => by have := hA b hb; have := h.late; omega) hg, h.ne, ?_, h.late, h.old⟩
  have g := h.grown
  exact ⟨hg.os.trans g.os, hg.tape.trans g.tape, hg.output.trans g.output, Nat.le_trans g.size hg.size, fun q hq hne => (hg.block q (Nat.lt_of_lt_of_le hq g.size) (fun e => by injection e with e; have e' : q = tb := e; have := h.late; omega)).trans (g.block q hq hne)⟩

theorem St.go {w0 : World} {tb p : Nat} {A : Option Addr} {n c : Nat} {t : Tk} {W w' : World} (h : St w0 tb p A n c t W) (hc : Cur w' p A n c) (hg : W.grownBy w' (some p)) : St w0 tb p A n c t w' :=
  ⟨h.tok.grown hg (fun e => by injection e with e; have := h.late; have := h.old; omega), hc, h.bytes.grown h.ne hg, h.ne, gB_tr h.grown hg, h.late, h.old⟩
theorem St.alloc {w0 : World} {tb p : Nat} {A : Option Addr} {n c : Nat} {t : Tk} {W : World} (h : St w0 tb p A n c t W) (o : Obj) : St w0 tb p A n c t (W.alloc o) :=
  h.go (h.cur.alloc o) (gB_below p ((Below.refl _ W).alloc (Nat.le_refl _) o))
theorem St.new {w0 : World} {tb p : Nat} {A : Option Addr} {n c : Nat} {t : Tk} {W : World} (h : St w0 tb p A n c t W) (t' : Tk) : St w0 W.heap.size p A n c t' (W.alloc (.cells #[.int .i64 t'.k, .string t'.s, .int .i64 t'.d, .int .i64 t'.o] 38)) :=
  ⟨BlkL.new W _ [_, _, _, _], (h.alloc _).cur, (h.alloc _).bytes, h.ne, (h.alloc _).grown, h.grown.size, h.old⟩
/-- the result's token and one's own. -/
def Tw (w0 : World) (rb tb p : Nat) (A : Option Addr) (n c : Nat) (r t : Tk) (W : World) : Prop := St w0 rb p A n c r W ∧ St w0 tb p A n c t W
theorem Tw.pick {w0 : World} {rb tb p : Nat} {A : Option Addr} {n c : Nat} {r t : Tk} {W : World} (hm : n ≤ 1048576) (h : Tw w0 rb tb p A n c r t W) (xs : List Int) (m : Nat) (hxs : xs.length = m) (hm1 : 1 ≤ m) (hm2 : m ≤ 256) :
    Calls Tryz.prog 65 #[.pointer (some ⟨p, 0, none⟩), .slice (some ⟨W.heap.size, 0, none⟩) m m] (W.alloc (.cells (nums xs).toArray 3)) fun e w' => ∃ x, x ∈ xs ∧ e = .returned (.int .i64 x) ∧ Tw w0 rb tb p A n c r t w' := by
  have hp := h.1.cur.lt
  have ha := h.1.alloc (.cells (nums xs).toArray 3)
  have hb := h.2.alloc (.cells (nums xs).toArray 3)
  refine (l01PickInt_any xs _ m m p A n c _ hm hxs hm1 hm2 ha.bytes ha.ne ha.cur (IS.of_blk (BlkL.new W 3 (nums xs))) (fun b hb => by simp at hb; omega)).mono ?_
  rintro e w' ⟨⟨v, ⟨x, rfl, hx⟩, rfl⟩, hc, hg⟩
  exact ⟨x, hx, rfl, ha.go hc hg, hb.go hc hg⟩
theorem Tw.pickT {w0 : World} {rb tb p : Nat} {A : Option Addr} {n c : Nat} {r t : Tk} {W : World} (hm : n ≤ 1048576) (h : Tw w0 rb tb p A n c r t W) (xs : List ByteArray) (m : Nat) (hxs : xs.length = m) (hm1 : 1 ≤ m) (hm2 : m ≤ 256) :
    Calls Tryz.prog 67 #[.pointer (some ⟨p, 0, none⟩), .slice (some ⟨W.heap.size, 0, none⟩) m m] (W.alloc (.cells (xs.map Value.string).toArray 9)) fun e w' => ∃ s, s ∈ xs ∧ e = .returned (.string s) ∧ Tw w0 rb tb p A n c r t w' := by
  have hp := h.1.cur.lt
  have ha := h.1.alloc (.cells (xs.map Value.string).toArray 9)
  have hb := h.2.alloc (.cells (xs.map Value.string).toArray 9)
  have hN := BlkL.new W 9 (xs.map Value.string)
  refine (l01PickText_any xs _ m m p A n c _ hm hxs hm1 hm2 ha.bytes ha.ne ha.cur (fun i s hs => ⟨_, rfl, hN.lt, (hN.cell i).trans (by simp [hs])⟩) (fun b hb => by simp at hb; omega)).mono ?_
  rintro e w' ⟨⟨v, ⟨x, rfl, hx⟩, rfl⟩, hc, hg⟩
  exact ⟨x, hx, rfl, ha.go hc hg, hb.go hc hg⟩
theorem Tw.below {w0 : World} {rb tb p : Nat} {A : Option Addr} {n c : Nat} {r t : Tk} {W : World} (hm : n ≤ 1048576) (h : Tw w0 rb tb p A n c r t W) (m : Nat) (hm1 : 1 ≤ m) (hm2 : m ≤ 256) :
    Calls Tryz.prog 50 #[.pointer (some ⟨p, 0, none⟩), .int .i64 m] W fun e w' => ∃ x : Nat, x < m ∧ e = .returned (.int .i64 x) ∧ Tw w0 rb tb p A n c r t w' := by
  refine (l01Below_any m p A n c W hm hm1 hm2 h.1.bytes h.1.ne h.1.cur).mono ?_
  rintro e w' ⟨⟨v, ⟨x, rfl, hx⟩, rfl⟩, hc, hg⟩
  exact ⟨x, hx, rfl, h.1.go hc hg, h.2.go hc hg⟩
end Go.Proofs.YthjkgbcomjiejadGreatDoor
namespace Go.Proofs.YthjkgbcomjiejadGreatDoor
open Go.RowKit
set_option linter.unusedVariables false

theorem Tw.cells {w0 : World} {rb tb p : Nat} {A : Option Addr} {n c : Nat} {r t : Tk} {W : World} (h : Tw w0 rb tb p A n c r t W) :
    (W.cell? ⟨tb, 0, none⟩ = some (.int .i64 t.k) ∧ W.cell? ⟨tb, 1, none⟩ = some (.string t.s) ∧ W.cell? ⟨tb, 2, none⟩ = some (.int .i64 t.d) ∧ W.cell? ⟨tb, 3, none⟩ = some (.int .i64 t.o)) ∧
    (W.frozen? ⟨tb, 0, none⟩ = false ∧ W.frozen? ⟨tb, 1, none⟩ = false ∧ W.frozen? ⟨tb, 2, none⟩ = false ∧ W.frozen? ⟨tb, 3, none⟩ = false) ∧
    (W.cell? ⟨rb, 0, none⟩ = some (.int .i64 r.k) ∧ W.cell? ⟨rb, 1, none⟩ = some (.string r.s) ∧ W.cell? ⟨rb, 2, none⟩ = some (.int .i64 r.d) ∧ W.cell? ⟨rb, 3, none⟩ = some (.int .i64 r.o)) ∧
    (W.frozen? ⟨rb, 0, none⟩ = false ∧ W.frozen? ⟨rb, 1, none⟩ = false ∧ W.frozen? ⟨rb, 2, none⟩ = false ∧ W.frozen? ⟨rb, 3, none⟩ = false) :=
  ⟨⟨(h.2.tok.cell 0).trans rfl, (h.2.tok.cell 1).trans rfl, (h.2.tok.cell 2).trans rfl, (h.2.tok.cell 3).trans rfl⟩, ⟨h.2.tok.frozen 0, h.2.tok.frozen 1, h.2.tok.frozen 2, h.2.tok.frozen 3⟩,
   ⟨(h.1.tok.cell 0).trans rfl, (h.1.tok.cell 1).trans rfl, (h.1.tok.cell 2).trans rfl, (h.1.tok.cell 3).trans rfl⟩, ⟨h.1.tok.frozen 0, h.1.tok.frozen 1, h.1.tok.frozen 2, h.1.tok.frozen 3⟩⟩

theorem St.far {w0 : World} {rb p : Nat} {A : Option Addr} {n c : Nat} {r : Tk} {W : World} (h : St w0 rb p A n c r W) {tb : Nat} (j : Nat) (v : Value) (hne : rb ≠ tb) (hl : w0.heap.size ≤ tb)
    (hA : ∀ b, A.map (·.block) = some b → b < w0.heap.size) : St w0 rb p A n c r (W.setCell ⟨tb, j, none⟩ v) := by
  have htp : p ≠ tb := by have := h.old; omega
  obtain ⟨i, x, hi, hb⟩ := h.cur
  have hg := gB_set W ⟨tb, j, none⟩ v
  refine ⟨h.tok.far (p := ⟨tb, j, none⟩) hne v, ⟨i, x, hi, hb.far (p := ⟨tb, j, none⟩) htp v⟩, h.bytes.grown (p := tb) (fun b hb => by have := hA b hb; omega) hg, h.ne, ?_, h.late, h.old⟩
  have g := h.grown
  exact ⟨hg.os.trans g.os, hg.tape.trans g.tape, hg.output.trans g.output, Nat.le_trans g.size hg.size, fun q hq hne => (hg.block q (Nat.lt_of_lt_of_le hq g.size) (fun e => by injection e with e; have e' : q = tb := e; omega)).trans (g.block q hq hne)⟩
theorem Tw.set {w0 : World} {rb tb p : Nat} {A : Option Addr} {n c : Nat} {r t t' : Tk} {W : World} (h : Tw w0 rb tb p A n c r t W) (j : Nat) (v : Value) (hne : rb ≠ tb)
    (he : [Value.int .i64 t.k, .string t.s, .int .i64 t.d, .int .i64 t.o].set j v = [.int .i64 t'.k, .string t'.s, .int .i64 t'.d, .int .i64 t'.o])
    (hA : ∀ b, A.map (·.block) = some b → b < w0.heap.size) : Tw w0 rb tb p A n c r t' (W.setCell ⟨tb, j, none⟩ v) :=
  ⟨h.1.far j v hne h.2.late hA, h.2.set j v he hA⟩
theorem St.fin {w0 : World} {rb p : Nat} {A : Option Addr} {n c : Nat} {r : Tk} {W : World} (h : St w0 rb p A n c r W) (t : Tk) (hA : ∀ b, A.map (·.block) = some b → b < w0.heap.size) :
    ∃ w9, w9 = ((((W.setCell ⟨rb, 0, none⟩ (.int .i64 t.k)).setCell ⟨rb, 1, none⟩ (.string t.s)).setCell ⟨rb, 2, none⟩ (.int .i64 t.d)).setCell ⟨rb, 3, none⟩ (.int .i64 t.o)) ∧ Cur w9 p A n c ∧ w0.grownBy w9 (some p) ∧
    w9.cell? ⟨rb, 0, none⟩ = some (.int .i64 t.k) ∧ w9.cell? ⟨rb, 1, none⟩ = some (.string t.s) ∧ w9.cell? ⟨rb, 2, none⟩ = some (.int .i64 t.d) ∧ w9.cell? ⟨rb, 3, none⟩ = some (.int .i64 t.o) := by
  have h4 := (((h.set (t' := ⟨t.k, r.s, r.d, r.o⟩) 0 (.int .i64 t.k) rfl hA).set (t' := ⟨t.k, t.s, r.d, r.o⟩) 1 (.string t.s) rfl hA).set (t' := ⟨t.k, t.s, t.d, r.o⟩) 2 (.int .i64 t.d) rfl hA).set (t' := t) 3 (.int .i64 t.o) rfl hA
  exact ⟨_, rfl, h4.cur, h4.grown, (h4.tok.cell 0).trans rfl, (h4.tok.cell 1).trans rfl, (h4.tok.cell 2).trans rfl, (h4.tok.cell 3).trans rfl⟩

set_option maxHeartbeats 1000000 in
set_option maxRecDepth 100000 in
theorem l01DrawToken_any (p : Nat) (A : Option Addr) (n c : Nat) (w : World) (hm : n ≤ 1048576) (hb : BS w A n) (hne : ∀ b, A.map (·.block) = some b → b ≠ p) (hAlt : ∀ b, A.map (·.block) = some b → b < w.heap.size) (hc : Cur w p A n c) :
    Calls Tryz.prog 93 #[.pointer (some ⟨p, 0, none⟩)] w (Drawn w p A n c fun v => ∃ t : Tk, v = .agg #[.int .i64 t.k, .string t.s, .int .i64 t.d, .int .i64 t.o] ∧ t.s.size ≤ 40) := by
  have hst0 : St w w.heap.size p A n c ⟨0, ByteArray.empty, 0, 0⟩ (w.alloc (.cells #[.int .i64 0, .string ByteArray.empty, .int .i64 0, .int .i64 0] 38)) :=
    ⟨BlkL.new w _ [_, _, _, _], hc.alloc _, hb.alloc _, hne, gB_alloc (World.grownBy.refl _ _) _, Nat.le_refl _, hc.lt⟩
  have hp0 := Tw.pick hm ⟨hst0, hst0⟩ [0, 0, 0, 1, 1, 2, 3, 4] 8 rfl (by decide) (by decide)
  simp only [World.size_alloc, nums, List.map_cons, List.map_nil] at hp0
  have HP0 := Lib.hid hp0
  clear hp0 hst0 hb hc hne
  go_enter Tryz.func93, Tryz.ntmps93
  go_wp2_with fail
  refine HP0.out.mono ?_
  clear HP0
  rintro e w1 ⟨x, hx, rfl, hst1, hst1b⟩
  have HS1 := Lib.hid hst1b
  clear hst1b
  have htw : Tw w w.heap.size w1.heap.size p A n c ⟨0, ByteArray.empty, 0, 0⟩ ⟨x, ByteArray.empty, 0, 0⟩ (w1.alloc (.cells #[.int .i64 x, .string ByteArray.empty, .int .i64 0, .int .i64 0] 38)) := ⟨hst1.alloc _, hst1.new ⟨x, ByteArray.empty, 0, 0⟩⟩
  have hz1 : w.heap.size < w1.heap.size := hst1.tok.lt
  have hz2 : w.heap.size ≠ w1.heap.size := by omega
  have hz3 : w1.heap.size ≠ w.heap.size := by omega
  clear hst1
  simp only [List.mem_cons, List.not_mem_nil, or_false] at hx
  have hx' : x = 0 ∨ x = 1 ∨ x = 2 ∨ x = 3 ∨ x = 4 := by omega
  clear hx
  rcases hx' with rfl | rfl | rfl | rfl | rfl
  · have hp := htw.pickT hm [⟨#[97]⟩, ⟨#[98, 99]⟩, ⟨#[100, 101, 102]⟩, ⟨#[103, 104, 105, 106]⟩, ⟨#[107, 108, 109, 110, 111, 112]⟩, ⟨#[120, 32, 121]⟩] 6 rfl (by decide) (by decide)
    simp only [World.size_alloc, List.map_cons, List.map_nil] at hp
    have HP := Lib.hid hp
    clear hp htw
    go_wp2_with fail
    refine HP.out.mono ?_
    clear HP
    rintro e w2 ⟨s, hs, rfl, htw2⟩
    obtain ⟨⟨c0, c1, c2, c3⟩, ⟨f0, f1, f2, f3⟩, ⟨d0, d1, d2, d3⟩, ⟨g0, g1, g2, g3⟩⟩ := htw2.cells
    have HT := Lib.hid htw2
    have hs40 : s.size ≤ 40 := by
      simp only [List.mem_cons, List.not_mem_nil, or_false] at hs
      rcases hs with rfl | rfl | rfl | rfl | rfl | rfl <;> decide
    clear htw2 hs
    go_wp2
    obtain ⟨w9, hw9, k1, k2, e0, e1, e2, e3⟩ := (HT.out.set (t' := ⟨0, s, 0, 0⟩) 1 (.string s) hz2 rfl hAlt).1.fin ⟨0, s, 0, 0⟩ hAlt
    simp only at hw9 e0 e1 e2 e3
    rw [← hw9]
    refine bodyPost_ret (v := .agg #[.int .i64 0, .string s, .int .i64 0, .int .i64 0]) (by simp [results, Tryz.results93, go_sem, e0, e1, e2, e3]) rfl ?_
    exact ⟨⟨_, ⟨⟨0, s, 0, 0⟩, rfl, hs40⟩, rfl⟩, k1, k2⟩
  · have hp := htw.pick hm [1, 1, 1, 0, 2] 5 rfl (by decide) (by decide)
    simp only [World.size_alloc, nums, List.map_cons, List.map_nil] at hp
    have HP := Lib.hid hp
    clear hp htw
    go_wp2_with fail
    refine HP.out.mono ?_
    clear HP
    rintro e w2 ⟨x, _, rfl, htw2⟩
    obtain ⟨⟨c0, c1, c2, c3⟩, ⟨f0, f1, f2, f3⟩, ⟨d0, d1, d2, d3⟩, ⟨g0, g1, g2, g3⟩⟩ := htw2.cells
    have hp := (htw2.set (t' := ⟨1, ByteArray.empty, x, 0⟩) 2 (.int .i64 x) hz2 rfl hAlt).pick hm [0, 0, 2, -1] 4 rfl (by decide) (by decide)
    have hzz : (w2.setCell ⟨w1.heap.size, 2, none⟩ (.int .i64 x)).heap.size = w2.heap.size := by simp [World.setCell]
    simp only [hzz, nums, List.map_cons, List.map_nil] at hp
    have HP := Lib.hid hp
    clear hp htw2
    go_wp2_with fail
    refine HP.out.mono ?_
    clear HP c0 c1 c2 c3 f0 f1 f2 f3 d0 d1 d2 d3 g0 g1 g2 g3
    rintro e w3 ⟨y, _, rfl, htw3⟩
    obtain ⟨⟨c0, c1, c2, c3⟩, ⟨f0, f1, f2, f3⟩, ⟨d0, d1, d2, d3⟩, ⟨g0, g1, g2, g3⟩⟩ := htw3.cells
    have HT := Lib.hid htw3
    clear htw3
    go_wp2
    obtain ⟨w9, hw9, k1, k2, e0, e1, e2, e3⟩ := (HT.out.set (t' := ⟨1, ByteArray.empty, x, y⟩) 3 (.int .i64 y) hz2 rfl hAlt).1.fin ⟨1, ByteArray.empty, x, y⟩ hAlt
    simp only at hw9 e0 e1 e2 e3
    rw [← hw9]
    refine bodyPost_ret (v := .agg #[.int .i64 1, .string ByteArray.empty, .int .i64 x, .int .i64 y]) (by simp [results, Tryz.results93, go_sem, e0, e1, e2, e3]) rfl ?_
    exact ⟨⟨_, ⟨⟨1, ByteArray.empty, x, y⟩, rfl, (show ByteArray.empty.size ≤ 40 by decide)⟩, rfl⟩, k1, k2⟩
  · have HP := Lib.hid (htw.below hm 2 (by decide) (by decide))
    clear htw
    go_wp2_with fail
    refine HP.out.mono ?_
    clear HP
    rintro e w2 ⟨x, _, rfl, htw2⟩
    obtain ⟨⟨c0, c1, c2, c3⟩, ⟨f0, f1, f2, f3⟩, ⟨d0, d1, d2, d3⟩, ⟨g0, g1, g2, g3⟩⟩ := htw2.cells
    have hp := (htw2.set (t' := ⟨2, ByteArray.empty, x, 0⟩) 2 (.int .i64 x) hz2 rfl hAlt).pick hm [0, 1, 2, 4] 4 rfl (by decide) (by decide)
    have hzz : (w2.setCell ⟨w1.heap.size, 2, none⟩ (.int .i64 x)).heap.size = w2.heap.size := by simp [World.setCell]
    simp only [hzz, nums, List.map_cons, List.map_nil] at hp
    have HP := Lib.hid hp
    clear hp htw2
    go_wp2_with fail
    refine HP.out.mono ?_
    clear HP c0 c1 c2 c3 f0 f1 f2 f3 d0 d1 d2 d3 g0 g1 g2 g3
    rintro e w3 ⟨y, _, rfl, htw3⟩
    obtain ⟨⟨c0, c1, c2, c3⟩, ⟨f0, f1, f2, f3⟩, ⟨d0, d1, d2, d3⟩, ⟨g0, g1, g2, g3⟩⟩ := htw3.cells
    have HT := Lib.hid htw3
    clear htw3
    go_wp2
    obtain ⟨w9, hw9, k1, k2, e0, e1, e2, e3⟩ := (HT.out.set (t' := ⟨2, ByteArray.empty, x, y⟩) 3 (.int .i64 y) hz2 rfl hAlt).1.fin ⟨2, ByteArray.empty, x, y⟩ hAlt
    simp only at hw9 e0 e1 e2 e3
    rw [← hw9]
    refine bodyPost_ret (v := .agg #[.int .i64 2, .string ByteArray.empty, .int .i64 x, .int .i64 y]) (by simp [results, Tryz.results93, go_sem, e0, e1, e2, e3]) rfl ?_
    exact ⟨⟨_, ⟨⟨2, ByteArray.empty, x, y⟩, rfl, (show ByteArray.empty.size ≤ 40 by decide)⟩, rfl⟩, k1, k2⟩
  · have htw : Tw w w.heap.size w1.heap.size p A n c ⟨0, ⟨#[]⟩, 0, 0⟩ ⟨3, ⟨#[]⟩, 0, 0⟩ (w1.alloc (.cells #[.int .i64 3, .string ⟨#[]⟩, .int .i64 0, .int .i64 0] 38)) := htw
    have d0 : w1.cell? ⟨w.heap.size, 0, none⟩ = some (.int .i64 0) := (HS1.out.tok.cell 0).trans rfl
    have d1 : w1.cell? ⟨w.heap.size, 1, none⟩ = some (.string ⟨#[]⟩) := (HS1.out.tok.cell 1).trans rfl
    have d2 : w1.cell? ⟨w.heap.size, 2, none⟩ = some (.int .i64 0) := (HS1.out.tok.cell 2).trans rfl
    have d3 : w1.cell? ⟨w.heap.size, 3, none⟩ = some (.int .i64 0) := (HS1.out.tok.cell 3).trans rfl
    have g0 := HS1.out.tok.frozen 0
    have g1 := HS1.out.tok.frozen 1
    have g2 := HS1.out.tok.frozen 2
    have g3 := HS1.out.tok.frozen 3
    have HT := Lib.hid htw
    clear htw
    go_wp2
    obtain ⟨w9, hw9, k1, k2, e0, e1, e2, e3⟩ := HS1.out.fin ⟨3, ⟨#[]⟩, 0, 0⟩ hAlt
    simp only at hw9 e0 e1 e2 e3
    have hlt9 : w.heap.size < w9.heap.size := by rw [hw9]; simpa [World.setCell] using hz1
    rw [← hw9]
    clear hw9
    refine bodyPost_ret (v := .agg #[.int .i64 3, .string ⟨#[]⟩, .int .i64 0, .int .i64 0]) (by simp [results, Tryz.results93, go_sem, e0, e1, e2, e3, hlt9]) rfl ?_
    exact ⟨⟨_, ⟨⟨3, ⟨#[]⟩, 0, 0⟩, rfl, (show ByteArray.empty.size ≤ 40 by decide)⟩, rfl⟩, k1.alloc _, gB_alloc k2 _⟩
  · have hp := htw.pick hm [0, 0, 2, -1] 4 rfl (by decide) (by decide)
    simp only [World.size_alloc, nums, List.map_cons, List.map_nil] at hp
    have HP := Lib.hid hp
    clear hp htw
    go_wp2_with fail
    refine HP.out.mono ?_
    clear HP
    rintro e w2 ⟨x, _, rfl, htw2⟩
    obtain ⟨⟨c0, c1, c2, c3⟩, ⟨f0, f1, f2, f3⟩, ⟨d0, d1, d2, d3⟩, ⟨g0, g1, g2, g3⟩⟩ := htw2.cells
    have HT := Lib.hid htw2
    clear htw2
    go_wp2
    obtain ⟨w9, hw9, k1, k2, e0, e1, e2, e3⟩ := (HT.out.set (t' := ⟨4, ByteArray.empty, 0, x⟩) 3 (.int .i64 x) hz2 rfl hAlt).1.fin ⟨4, ByteArray.empty, 0, x⟩ hAlt
    simp only at hw9 e0 e1 e2 e3
    rw [← hw9]
    refine bodyPost_ret (v := .agg #[.int .i64 4, .string ByteArray.empty, .int .i64 0, .int .i64 x]) (by simp [results, Tryz.results93, go_sem, e0, e1, e2, e3]) rfl ?_
    exact ⟨⟨_, ⟨⟨4, ByteArray.empty, 0, x⟩, rfl, (show ByteArray.empty.size ≤ 40 by decide)⟩, rfl⟩, k1, k2⟩
end Go.Proofs.YthjkgbcomjiejadGreatDoor
namespace Go.Proofs.YthjkgbcomjiejadGreatDoor
open Go.RowKit
set_option linter.unusedVariables false

/-- tokens drawn so far: a row of one's own, each text short. -/
structure Dr (w : World) (p : Nat) (A : Option Addr) (n c : Nat) (v : Value) (l : List Tk) (wr : World) : Prop where
  own : wr.ownsRow w.heap.size 38 4 v l.length (flat l)
  short : ∀ t, t ∈ l → t.s.size ≤ 41
  cur : Cur wr p A n c
  grown : w.grownBy wr (some p)
theorem Dr.go {w : World} {p : Nat} {A : Option Addr} {n c : Nat} {v : Value} {l : List Tk} {wr w' : World} (hp : p < w.heap.size) (h : Dr w p A n c v l wr) (hc : Cur w' p A n c) (hg : wr.grownBy w' (some p)) : Dr w p A n c v l w' :=
  ⟨h.own.kept hg (by
    cases hv : v.ownBlock with
    | none => exact .inl rfl
    | some q => exact .inr fun e => by injection e with e; have := (h.own.lt q hv).1; omega), h.short, hc, gB_tr h.grown hg⟩
theorem Dr.alloc {w : World} {p : Nat} {A : Option Addr} {n c : Nat} {v : Value} {l : List Tk} {wr : World} (hp : p < w.heap.size) (h : Dr w p A n c v l wr) (o : Obj) : Dr w p A n c v l (wr.alloc o) :=
  h.go hp (h.cur.alloc o) (gB_below p ((Below.refl _ wr).alloc (Nat.le_refl _) o))
theorem Dr.app {w : World} {p : Nat} {A : Option Addr} {n c : Nat} {v v' : Value} {l : List Tk} {t : Tk} {wr w3 : World} {o : Obj} (hp : p < w.heap.size) (h : Dr w p A n c v l wr) (ht : t.s.size ≤ 41)
    (hown : w3.ownsRow w.heap.size 38 4 v' (l.length + 1) (flat l ++ [.int .i64 t.k, .string t.s, .int .i64 t.d, .int .i64 t.o])) (hg : (wr.alloc o).grownBy w3 v.ownBlock) : Dr w p A n c v' (l ++ [t]) w3 := by
  have hlt := h.own.lt
  refine ⟨by rw [List.length_append, flat_append]; exact hown, fun x hx => ?_, ?_, ?_⟩
  · rcases List.mem_append.1 hx with hx | hx
    · exact h.short x hx
    · rw [List.mem_singleton.1 hx]; exact ht
  · obtain ⟨i, x, hi, hb⟩ := h.cur
    exact ⟨i, x, hi, (hb.alloc o).grown hg (fun e => by have := (hlt p e.symm).1; omega)⟩
  · have g := gB_alloc h.grown o
    exact ⟨hg.os.trans g.os, hg.tape.trans g.tape, hg.output.trans g.output, Nat.le_trans g.size hg.size, fun q hq hne => (hg.block q (Nat.lt_of_lt_of_le hq g.size) (fun e => by have := (hlt q e.symm).1; omega)).trans (g.block q hq hne)⟩
theorem Dr.far {w : World} {p q : Nat} {A : Option Addr} {n c : Nat} {v : Value} {l : List Tk} {wr : World} (hp : p < w.heap.size) (h : Dr w p A n c v l wr) (hq : w.heap.size ≤ q) (hv : v.ownBlock ≠ some q) (j : Nat) (u : Value) : Dr w p A n c v l (wr.setCell ⟨q, j, none⟩ u) := by
  have hg := gB_set wr ⟨q, j, none⟩ u
  obtain ⟨i, x, hi, hb⟩ := h.cur
  have g := h.grown
  refine ⟨h.own.kept hg (by cases hv' : v.ownBlock with
    | none => exact .inl rfl
    | some b => exact .inr fun e => hv (by rw [hv', e])), h.short, ⟨i, x, hi, hb.far (p := ⟨q, j, none⟩) (by show p ≠ q; omega) u⟩, ?_⟩
  exact ⟨hg.os.trans g.os, hg.tape.trans g.tape, hg.output.trans g.output, Nat.le_trans g.size hg.size, fun b hb' hne => (hg.block b (Nat.lt_of_lt_of_le hb' g.size) (fun e => by injection e with e; have e' : b = q := e; omega)).trans (g.block b hb' hne)⟩
theorem Dr.bs {w : World} {p : Nat} {A : Option Addr} {n c : Nat} {v : Value} {l : List Tk} {wr : World} (h : Dr w p A n c v l wr) (hb : BS w A n) (hne : ∀ b, A.map (·.block) = some b → b ≠ p) : BS wr A n := hb.grown hne h.grown
theorem cell_four_at (w : World) (q : Nat) (hq : q = w.heap.size) (x0 x1 x2 x3 : Value) (t : TypeId) : ∀ j u, [x0, x1, x2, x3][j]? = some u → (w.alloc (.cells #[x0, x1, x2, x3] t)).cell? ((⟨q, 0, none⟩ : Addr).add j) = some u := by
  subst hq
  exact cell_four_new w x0 x1 x2 x3 t
def StrPost (w : World) (p : Nat) (A : Option Addr) (n c m : Nat) (e : Ending) (w' : World) : Prop := ∃ v l, e = .returned v ∧ l.length ≤ m ∧ Dr w p A n c v l w'

set_option maxHeartbeats 1000000 in
set_option maxRecDepth 100000 in
theorem l02DrawStream_any (m p : Nat) (A : Option Addr) (n c : Nat) (w : World) (hm : n ≤ 1048576) (hmm : m ≤ 256) (hb : BS w A n) (hne : ∀ b, A.map (·.block) = some b → b ≠ p) (hAlt : ∀ b, A.map (·.block) = some b → b < w.heap.size) (hc : Cur w p A n c) :
    Calls Tryz.prog 49 #[.pointer (some ⟨p, 0, none⟩), .int .i64 m] w (StrPost w p A n c (m + 12)) := by
  have hp := hc.lt
  have HB := Lib.hid hb
  have HNE := Lib.hid hne
  have HAL := Lib.hid hAlt
  have HC := Lib.hid hc
  clear hb hne hAlt hc
  have hmk : ∀ w : World, (Instr.buildSlice 29 0 #[]).run Tryz.prog w = .ok (.slice (some ⟨w.heap.size, 0, none⟩) 0 0) (w.alloc (.cells #[] 38)) := fun _ => by kernel_rfl
  obtain ⟨i0, hi, hz0, hz1, hz2⟩ := info_parts infoTok
  go_enter Tryz.func49, Tryz.ntmps49
  go_wp2_with fail
  clear hmk
  go_loopw [5, 6, 7] (fun v ov iv wr => ∃ (i : Nat) (op : Int) (l : List Tk), i ≤ m ∧ iv = .int .i64 i ∧ ov = .int .i64 op ∧ 0 ≤ op ∧ op ≤ 12 ∧ l.length ≤ i ∧ Dr w p A n c v l wr) (fun _ _ iv _ => m - (intOf iv).toNat)
  case atStart =>
    refine ⟨0, 0, [], Nat.zero_le _, rfl, rfl, by omega, by omega, Nat.le_refl _, ?_⟩
    exact ⟨by simpa [flat] using World.ownsRow_lit (base := w.heap.size) (e := 38) (size := 4) w #[] 0 (Nat.le_refl _) (Nat.zero_le _) rfl, fun t ht => by simp at ht, HC.out.alloc _, gB_alloc (World.grownBy.refl _ _) _⟩
  case round =>
    obtain ⟨i, op, l, hil, rfl, rfl, ho0, ho1, hll, hdr⟩ := hrel
    have HD := Lib.hid hdr
    have hgs := hdr.grown.size
    clear hdr
    by_cases hlt : i < m
    · go_wp2_with fail
      refine (l01DrawToken_any p A n c wr hm (HD.out.bs HB.out HNE.out) HNE.out (fun b hb => Nat.lt_of_lt_of_le (HAL.out b hb) hgs) HD.out.cur).mono ?_
      rintro e w1 ⟨⟨v1, ⟨t, rfl, ht40⟩, rfl⟩, hc1, hg1⟩
      have HD1 := Lib.hid (HD.out.go hp hc1 hg1)
      have hg1s := hg1.size
      clear hc1 hg1 HD
      have hD2 := Dr.alloc hp HD1.out (.cells #[.int .i64 t.k, .string t.s, .int .i64 t.d, .int .i64 t.o] 38)
      have hTB := BlkL.new w1 38 [.int .i64 t.k, .string t.s, .int .i64 t.d, .int .i64 t.o]
      have hob : u5.ownBlock ≠ some w1.heap.size := fun e => by have := (HD1.out.own.lt _ e).2; omega
      have HD2 := Lib.hid hD2
      have HTB := Lib.hid hTB
      have hs41 : t.s.size ≤ 41 := by omega
      have hz3 : w.heap.size ≤ w1.heap.size := by omega
      clear hD2 hTB
      by_cases h4 : t.k = 4
      · have b4 : (t.k == 4) = true := by rw [h4]; rfl
        have b3 : (t.k == 3) = false := by rw [h4]; rfl
        have b2 : (t.k == 2) = false := by rw [h4]; rfl
        clear h4
        go_wp2_with fail
        refine (l01Once_any 4 p A n c _ hm (by decide) (by decide) (HD2.out.bs HB.out HNE.out) HNE.out HD2.out.cur).mono ?_
        rintro e w2 ⟨⟨v2, ⟨x, rfl⟩, rfl⟩, hc2, hg2⟩
        have HD4 := Lib.hid (Dr.go hp HD2.out hc2 hg2)
        have hTB2 := HTB.out.grown hg2 (fun e => by injection e; omega)
        have hz4 : w1.heap.size < w2.heap.size := hTB2.lt
        have q0 : w2.cell? ⟨w1.heap.size, 0, none⟩ = some (.int .i64 t.k) := (hTB2.cell 0).trans rfl
        have q1 : w2.cell? ⟨w1.heap.size, 1, none⟩ = some (.string t.s) := (hTB2.cell 1).trans rfl
        have q2 : w2.cell? ⟨w1.heap.size, 2, none⟩ = some (.int .i64 t.d) := (hTB2.cell 2).trans rfl
        have q3 : w2.cell? ⟨w1.heap.size, 3, none⟩ = some (.int .i64 t.o) := (hTB2.cell 3).trans rfl
        have qf := hTB2.frozen
        clear hc2 hg2 hTB2
        cases x
        · have HD5 := Lib.hid ((((HD4.out.far hp hz3 hob 0 (.int .i64 1)).far hp hz3 hob 1 (.string ⟨#[]⟩)).far hp hz3 hob 2 (.int .i64 1)).far hp hz3 hob 3 (.int .i64 0))
          go_wp2_with (at_builtin; refine wpList_append_own _ rfl _ _ 29 rfl w.heap.size 38 i0 (.agg #[.int .i64 0, .string ByteArray.empty, .int .i64 0, .int .i64 0]) 4 40 Tryz.underlying29 hi hz0 hz1 hz2 rfl (by decide) u5 l.length _ rfl (HD5.out.own.alloc _) ⟨w2.heap.size, 0, none⟩ 1 1 [.int .i64 (⟨1, ⟨#[]⟩, 1, 0⟩ : Tk).k, .string (⟨1, ⟨#[]⟩, 1, 0⟩ : Tk).s, .int .i64 (⟨1, ⟨#[]⟩, 1, 0⟩ : Tk).d, .int .i64 (⟨1, ⟨#[]⟩, 1, 0⟩ : Tk).o] rfl rfl (cell_four_at ((((w2.setCell ⟨w1.heap.size, 0, none⟩ (.int .i64 1)).setCell ⟨w1.heap.size, 1, none⟩ (.string ⟨#[]⟩)).setCell ⟨w1.heap.size, 2, none⟩ (.int .i64 1)).setCell ⟨w1.heap.size, 3, none⟩ (.int .i64 0)) _ (by simp [World.setCell]) _ _ _ _ _) (by simp [Value.oneCell']) (by simp only [maxLen]; omega) (by omega) (by simp [World.setCell]; omega) ?_)
          intro v' w3 hown3 hgrow3 _
          have HD3 := Lib.hid (Dr.app (t := (⟨1, ⟨#[]⟩, 1, 0⟩ : Tk)) hp HD5.out (by first | exact hs41 | decide) hown3 hgrow3)
          clear hown3 hgrow3
          go_wp2
          go_roundw
          case rel => exact ⟨i + 1, op, l ++ [(⟨1, ⟨#[]⟩, 1, 0⟩ : Tk)], by omega, by go_num, by first | rfl | go_num, by omega, by omega, by rw [List.length_append]; exact Nat.succ_le_succ hll, HD3.out⟩
          case measure => simp [intOf] <;> omega
        · go_wp2_with (at_builtin; refine wpList_append_own _ rfl _ _ 29 rfl w.heap.size 38 i0 (.agg #[.int .i64 0, .string ByteArray.empty, .int .i64 0, .int .i64 0]) 4 40 Tryz.underlying29 hi hz0 hz1 hz2 rfl (by decide) u5 l.length _ rfl (HD4.out.own.alloc _) ⟨w2.heap.size, 0, none⟩ 1 1 [.int .i64 t.k, .string t.s, .int .i64 t.d, .int .i64 t.o] rfl rfl (cell_four_at w2 _ (rfl) _ _ _ _ _) (by simp [Value.oneCell']) (by simp only [maxLen]; omega) (by omega) (by simp; omega) ?_)
          intro v' w3 hown3 hgrow3 _
          have HD3 := Lib.hid (Dr.app (t := t) hp HD4.out (by first | exact hs41 | decide) hown3 hgrow3)
          clear hown3 hgrow3
          go_wp2
          go_roundw
          case rel => exact ⟨i + 1, op, l ++ [t], by omega, by go_num, by first | rfl | go_num, by omega, by omega, by rw [List.length_append]; exact Nat.succ_le_succ hll, HD3.out⟩
          case measure => simp [intOf] <;> omega
      · have b4 : (t.k == 4) = false := by simpa using h4
        clear h4
        by_cases h3 : t.k = 3
        · have b3 : (t.k == 3) = true := by rw [h3]; rfl
          have b2 : (t.k == 2) = false := by rw [h3]; rfl
          clear h3
          by_cases hop : op = 0
          · have bo : (op == 0) = true := by rw [hop]; rfl
            clear hop
            go_wp2
            go_roundw
            case rel => exact ⟨i + 1, op, l, by omega, by go_num, rfl, ho0, ho1, by omega, HD2.out⟩
            case measure => simp [intOf] <;> omega
          · have bo : (op == 0) = false := by simpa using hop
            have ho0' : 1 ≤ op := by omega
            clear hop
            go_wp2_with (at_builtin; refine wpList_append_own _ rfl _ _ 29 rfl w.heap.size 38 i0 (.agg #[.int .i64 0, .string ByteArray.empty, .int .i64 0, .int .i64 0]) 4 40 Tryz.underlying29 hi hz0 hz1 hz2 rfl (by decide) u5 l.length _ rfl (HD2.out.own.alloc _) ⟨w1.heap.size + 1, 0, none⟩ 1 1 [.int .i64 t.k, .string t.s, .int .i64 t.d, .int .i64 t.o] rfl rfl (cell_four_at (w1.alloc (.cells #[.int .i64 t.k, .string t.s, .int .i64 t.d, .int .i64 t.o] 38)) _ (by simp) _ _ _ _ _) (by simp [Value.oneCell']) (by simp only [maxLen]; omega) (by omega) (by simp; omega) ?_)
            intro v' w3 hown3 hgrow3 _
            have HD3 := Lib.hid (Dr.app (t := t) hp HD2.out (by first | exact hs41 | decide) hown3 hgrow3)
            clear hown3 hgrow3
            go_wp2
            go_roundw
            case rel => exact ⟨i + 1, op - 1, l ++ [t], by omega, by go_num, by first | rfl | go_num, by omega, by omega, by rw [List.length_append]; exact Nat.succ_le_succ hll, HD3.out⟩
            case measure => simp [intOf] <;> omega
        · have b3 : (t.k == 3) = false := by simpa using h3
          clear h3
          by_cases h2 : t.k = 2
          · have b2 : (t.k == 2) = true := by rw [h2]; rfl
            clear h2
            by_cases hop : op = 12
            · have bo : (op == 12) = true := by rw [hop]; rfl
              clear hop
              go_wp2
              go_roundw
              case rel => exact ⟨i + 1, op, l, by omega, by go_num, rfl, ho0, ho1, by omega, HD2.out⟩
              case measure => simp [intOf] <;> omega
            · have bo : (op == 12) = false := by simpa using hop
              have ho1' : op ≤ 11 := by omega
              clear hop
              go_wp2_with (at_builtin; refine wpList_append_own _ rfl _ _ 29 rfl w.heap.size 38 i0 (.agg #[.int .i64 0, .string ByteArray.empty, .int .i64 0, .int .i64 0]) 4 40 Tryz.underlying29 hi hz0 hz1 hz2 rfl (by decide) u5 l.length _ rfl (HD2.out.own.alloc _) ⟨w1.heap.size + 1, 0, none⟩ 1 1 [.int .i64 t.k, .string t.s, .int .i64 t.d, .int .i64 t.o] rfl rfl (cell_four_at (w1.alloc (.cells #[.int .i64 t.k, .string t.s, .int .i64 t.d, .int .i64 t.o] 38)) _ (by simp) _ _ _ _ _) (by simp [Value.oneCell']) (by simp only [maxLen]; omega) (by omega) (by simp; omega) ?_)
              intro v' w3 hown3 hgrow3 _
              have HD3 := Lib.hid (Dr.app (t := t) hp HD2.out (by first | exact hs41 | decide) hown3 hgrow3)
              clear hown3 hgrow3
              go_wp2
              go_roundw
              case rel => exact ⟨i + 1, op + 1, l ++ [t], by omega, by go_num, by first | rfl | go_num, by omega, by omega, by rw [List.length_append]; exact Nat.succ_le_succ hll, HD3.out⟩
              case measure => simp [intOf] <;> omega
          · have b2 : (t.k == 2) = false := by simpa using h2
            clear h2
            go_wp2_with (at_builtin; refine wpList_append_own _ rfl _ _ 29 rfl w.heap.size 38 i0 (.agg #[.int .i64 0, .string ByteArray.empty, .int .i64 0, .int .i64 0]) 4 40 Tryz.underlying29 hi hz0 hz1 hz2 rfl (by decide) u5 l.length _ rfl (HD2.out.own.alloc _) ⟨w1.heap.size + 1, 0, none⟩ 1 1 [.int .i64 t.k, .string t.s, .int .i64 t.d, .int .i64 t.o] rfl rfl (cell_four_at (w1.alloc (.cells #[.int .i64 t.k, .string t.s, .int .i64 t.d, .int .i64 t.o] 38)) _ (by simp) _ _ _ _ _) (by simp [Value.oneCell']) (by simp only [maxLen]; omega) (by omega) (by simp; omega) ?_)
            intro v' w3 hown3 hgrow3 _
            have HD3 := Lib.hid (Dr.app (t := t) hp HD2.out (by first | exact hs41 | decide) hown3 hgrow3)
            clear hown3 hgrow3
            go_wp2
            go_roundw
            case rel => exact ⟨i + 1, op, l ++ [t], by omega, by go_num, by first | rfl | go_num, by omega, by omega, by rw [List.length_append]; exact Nat.succ_le_succ hll, HD3.out⟩
            case measure => simp [intOf] <;> omega
    · have hdl : l.length ≤ m := by omega
      obtain ⟨q, rfl⟩ := Int.eq_ofNat_of_zero_le ho0
      have hq12 : q ≤ 12 := by omega
      go_wp2_with fail
      go_loopw [5, 9] (fun v kv wr => ∃ (k : Nat) (l : List Tk), k ≤ q ∧ kv = .int .i64 k ∧ l.length ≤ m + k ∧ Dr w p A n c v l wr) (fun _ kv _ => q - (intOf kv).toNat)
      case atStart => exact ⟨0, l, Nat.zero_le _, rfl, by omega, HD.out⟩
      case round =>
        clear HD hgs hll hdl
        obtain ⟨k, l, hkq, rfl, hll, hdr⟩ := hrel
        have HD := Lib.hid hdr
        have hgs := hdr.grown.size
        clear hdr
        by_cases hlt2 : k < q
        · go_wp2_with (at_builtin; refine wpList_append_own _ rfl _ _ 29 rfl w.heap.size 38 i0 (.agg #[.int .i64 0, .string ByteArray.empty, .int .i64 0, .int .i64 0]) 4 40 Tryz.underlying29 hi hz0 hz1 hz2 rfl (by decide) u5 l.length _ rfl (HD.out.own.alloc _) ⟨wr.heap.size, 0, none⟩ 1 1 [.int .i64 3, .string ⟨#[]⟩, .int .i64 0, .int .i64 0] rfl rfl (cell_four_at wr _ rfl _ _ _ _ _) (by simp [Value.oneCell']) (by simp only [maxLen]; omega) (by omega) (by simp; omega) ?_)
          intro v' w3 hown3 hgrow3 _
          have HD3 := Lib.hid (Dr.app (t := ⟨3, ⟨#[]⟩, 0, 0⟩) hp HD.out (by decide) hown3 hgrow3)
          clear hown3 hgrow3
          go_wp2
          go_roundw
          case rel => exact ⟨k + 1, l ++ [⟨3, ⟨#[]⟩, 0, 0⟩], by omega, by go_num, by rw [List.length_append]; exact Nat.succ_le_succ hll, HD3.out⟩
          case measure => simp [intOf] <;> omega
        · go_wp2
          go_ret
          exact ⟨_, l, rfl, by omega, HD.out⟩
end Go.Proofs.YthjkgbcomjiejadGreatDoor
namespace Go.Proofs.YthjkgbcomjiejadGreatDoor
open Go.RowKit
set_option linter.unusedVariables false

theorem pickText_at (xs : List ByteArray) (m : Nat) {w0 W : World} {p n c : Nat} {A : Option Addr} (hm : n ≤ 1048576) (hb : BS w0 A n) (hne : ∀ b, A.map (·.block) = some b → b ≠ p) (hc : Cur W p A n c) (hg : w0.grownBy W (some p)) (hxs : xs.length = m) (hm1 : 1 ≤ m) (hm2 : m ≤ 256) :
    Calls Tryz.prog 67 #[.pointer (some ⟨p, 0, none⟩), .slice (some ⟨W.heap.size, 0, none⟩) m m] (W.alloc (.cells (xs.map Value.string).toArray 9)) fun e w' => ∃ s, s ∈ xs ∧ e = .returned (.string s) ∧ Cur w' p A n c ∧ w0.grownBy w' (some p) := by
  have hp := hc.lt
  have hN := BlkL.new W 9 (xs.map Value.string)
  refine (l01PickText_any xs _ m m p A n c _ hm hxs hm1 hm2 ((hb.grown hne hg).alloc _) hne (hc.alloc _) (fun i s hs => ⟨_, rfl, hN.lt, (hN.cell i).trans (by simp [hs])⟩) (fun b hb => by simp at hb; omega)).mono ?_
  rintro e w' ⟨⟨v, ⟨x, rfl, hx⟩, rfl⟩, hc', hg'⟩
  exact ⟨x, hx, rfl, hc', gB_tr (gB_alloc hg _) hg'⟩

set_option maxHeartbeats 1000000 in
set_option maxRecDepth 100000 in
theorem l01DrawText_any (p : Nat) (A : Option Addr) (n c : Nat) (w : World) (hm : n ≤ 1048576) (hb : BS w A n) (hne : ∀ b, A.map (·.block) = some b → b ≠ p) (hc : Cur w p A n c) :
    Calls Tryz.prog 130 #[.pointer (some ⟨p, 0, none⟩)] w (Drawn w p A n c fun v => ∃ s : ByteArray, v = .string s ∧ s.size ≤ 41) := by
  have hp := pickText_at [⟨#[97]⟩, ⟨#[98, 99]⟩, ⟨#[100, 101, 102]⟩, ⟨#[103, 104, 105, 106]⟩, ⟨#[107, 108, 109, 110, 111, 112]⟩, ⟨#[120, 32, 121]⟩, ⟨#[34, 113, 34]⟩, ⟨#[40]⟩, ⟨#[41]⟩, ⟨#[108, 111, 110, 103, 45, 119, 111, 114, 100, 45, 104, 101, 114, 101]⟩] 10 hm hb hne hc (World.grownBy.refl _ _) rfl (by decide) (by decide)
  simp only [List.map_cons, List.map_nil] at hp
  have HP := Lib.hid hp
  have HB := Lib.hid hb
  have HNE := Lib.hid hne
  clear hp hb hne hc
  go_enter Tryz.func130, Tryz.ntmps130
  go_wp2_with fail
  refine HP.out.mono ?_
  clear HP
  rintro e w1 ⟨s, hs, rfl, hc1, hg1⟩
  have hs41 : s.size ≤ 41 := by
    simp only [List.mem_cons, List.not_mem_nil, or_false] at hs
    rcases hs with rfl | rfl | rfl | rfl | rfl | rfl | rfl | rfl | rfl | rfl <;> decide
  have HC1 := Lib.hid hc1
  have HG1 := Lib.hid hg1
  clear hs hc1 hg1
  go_wp2_with fail
  refine (l01Once_any 25 p A n c w1 hm (by decide) (by decide) (HB.out.grown HNE.out HG1.out) HNE.out HC1.out).mono ?_
  rintro e w2 ⟨⟨v, ⟨x, rfl⟩, rfl⟩, hc2, hg2⟩
  have HC2 := Lib.hid hc2
  have HG2 := Lib.hid (gB_tr HG1.out hg2)
  clear hc2 hg2 HC1 HG1
  cases x
  · go_wp2
    go_ret
    exact ⟨⟨_, ⟨s, rfl, hs41⟩, rfl⟩, HC2.out, HG2.out⟩
  · have hp := pickText_at [⟨#[]⟩, ⟨#[32, 97]⟩, ⟨#[97, 32]⟩, ⟨#[10]⟩, ⟨#[102, 111, 114, 116, 121, 45, 115, 105, 103, 110, 115, 45, 102, 111, 114, 116, 121, 45, 115, 105, 103, 110, 115, 45, 102, 111, 114, 116, 121, 45, 115, 105, 103, 110, 115, 45, 52, 48, 45, 115]⟩, ⟨#[102, 111, 114, 116, 121, 45, 115, 105, 103, 110, 115, 45, 102, 111, 114, 116, 121, 45, 115, 105, 103, 110, 115, 45, 102, 111, 114, 116, 121, 45, 115, 105, 103, 110, 115, 45, 52, 49, 45, 115, 105]⟩] 6 hm HB.out HNE.out HC2.out HG2.out rfl (by decide) (by decide)
    simp only [List.map_cons, List.map_nil] at hp
    have HP := Lib.hid hp
    clear hp
    go_wp2_with fail
    refine HP.out.mono ?_
    clear HP
    rintro e w3 ⟨s', hs', rfl, hc3, hg3⟩
    have hs41' : s'.size ≤ 41 := by
      simp only [List.mem_cons, List.not_mem_nil, or_false] at hs'
      rcases hs' with rfl | rfl | rfl | rfl | rfl | rfl <;> decide
    have HC3 := Lib.hid hc3
    have HG3 := Lib.hid hg3
    clear hc3 hg3 hs'
    go_wp2
    go_ret
    exact ⟨⟨_, ⟨s', rfl, hs41'⟩, rfl⟩, HC3.out, HG3.out⟩

theorem Tw.once {w0 : World} {rb tb p : Nat} {A : Option Addr} {n c : Nat} {r t : Tk} {W : World} (hm : n ≤ 1048576) (h : Tw w0 rb tb p A n c r t W) (m : Nat) (hm1 : 1 ≤ m) (hm2 : m ≤ 256) :
    Calls Tryz.prog 48 #[.pointer (some ⟨p, 0, none⟩), .int .i64 m] W fun e w' => ∃ x : Bool, e = .returned (.bool x) ∧ Tw w0 rb tb p A n c r t w' := by
  refine (l01Once_any m p A n c W hm hm1 hm2 h.1.bytes h.1.ne h.1.cur).mono ?_
  rintro e w' ⟨⟨v, ⟨x, rfl⟩, rfl⟩, hc, hg⟩
  exact ⟨x, rfl, h.1.go hc hg, h.2.go hc hg⟩
theorem Tw.text {w0 : World} {rb tb p : Nat} {A : Option Addr} {n c : Nat} {r t : Tk} {W : World} (hm : n ≤ 1048576) (h : Tw w0 rb tb p A n c r t W) :
    Calls Tryz.prog 130 #[.pointer (some ⟨p, 0, none⟩)] W fun e w' => ∃ s : ByteArray, e = .returned (.string s) ∧ s.size ≤ 41 ∧ Tw w0 rb tb p A n c r t w' := by
  refine (l01DrawText_any p A n c W hm h.1.bytes h.1.ne h.1.cur).mono ?_
  rintro e w' ⟨⟨v, ⟨s, rfl, hs⟩, rfl⟩, hc, hg⟩
  exact ⟨s, rfl, hs, h.1.go hc hg, h.2.go hc hg⟩

set_option maxHeartbeats 2000000 in
set_option maxRecDepth 100000 in
theorem l01DrawLoose_any (p : Nat) (A : Option Addr) (n c : Nat) (w : World) (hm : n ≤ 1048576) (hb : BS w A n) (hne : ∀ b, A.map (·.block) = some b → b ≠ p) (hAlt : ∀ b, A.map (·.block) = some b → b < w.heap.size) (hc : Cur w p A n c) :
    Calls Tryz.prog 96 #[.pointer (some ⟨p, 0, none⟩)] w (Drawn w p A n c fun v => ∃ t : Tk, v = .agg #[.int .i64 t.k, .string t.s, .int .i64 t.d, .int .i64 t.o] ∧ t.s.size ≤ 41) := by
  have hst0 : St w w.heap.size p A n c ⟨0, ByteArray.empty, 0, 0⟩ (w.alloc (.cells #[.int .i64 0, .string ByteArray.empty, .int .i64 0, .int .i64 0] 38)) :=
    ⟨BlkL.new w _ [_, _, _, _], hc.alloc _, hb.alloc _, hne, gB_alloc (World.grownBy.refl _ _) _, Nat.le_refl _, hc.lt⟩
  have HS0 := Lib.hid hst0
  clear hst0 hb hc hne
  go_enter Tryz.func96, Tryz.ntmps96
  go_wp2_with fail
  refine (l01DrawToken_any p A n c _ hm HS0.out.bytes HS0.out.ne (fun b hb => Nat.lt_of_lt_of_le (hAlt b hb) (by simp)) HS0.out.cur).mono ?_
  rintro e w1 ⟨⟨v, ⟨t, rfl, ht40⟩, rfl⟩, hc1, hg1⟩
  have hst1 := HS0.out.go hc1 hg1
  have ht41 : t.s.size ≤ 41 := by omega
  have htw : Tw w w.heap.size w1.heap.size p A n c ⟨0, ByteArray.empty, 0, 0⟩ t (w1.alloc (.cells #[.int .i64 t.k, .string t.s, .int .i64 t.d, .int .i64 t.o] 38)) := ⟨hst1.alloc _, hst1.new t⟩
  have hz1 : w.heap.size < w1.heap.size := hst1.tok.lt
  have hz2 : w.heap.size ≠ w1.heap.size := by omega
  have hz3 : w1.heap.size ≠ w.heap.size := by omega
  have HP := Lib.hid (htw.once hm 6 (by decide) (by decide))
  clear hst1 hc1 hg1 HS0 htw ht40
  go_wp2_with fail
  refine HP.out.mono ?_
  clear HP
  rintro e w2 ⟨x, rfl, htw2⟩
  cases x
  · obtain ⟨⟨c0, c1, c2, c3⟩, ⟨f0, f1, f2, f3⟩, ⟨d0, d1, d2, d3⟩, ⟨g0, g1, g2, g3⟩⟩ := htw2.cells
    have HT := Lib.hid htw2
    clear htw2
    go_wp2
    obtain ⟨w9, hw9, k1, k2, e0, e1, e2, e3⟩ := HT.out.1.fin t hAlt
    try simp only at hw9 e0 e1 e2 e3
    rw [← hw9]
    refine bodyPost_ret (v := .agg #[.int .i64 (t : Tk).k, .string (t : Tk).s, .int .i64 (t : Tk).d, .int .i64 (t : Tk).o]) (by simp [results, Tryz.results96, go_sem, e0, e1, e2, e3]) rfl ?_
    exact ⟨⟨_, ⟨t, rfl, by first | exact hs41 | exact ht41⟩, rfl⟩, k1, k2⟩
  · have HP := Lib.hid (htw2.below hm 4 (by decide) (by decide))
    clear htw2
    go_wp2_with fail
    refine HP.out.mono ?_
    clear HP
    rintro e w3 ⟨x, hx, rfl, htw3⟩
    have hx' : x = 0 ∨ x = 1 ∨ x = 2 ∨ x = 3 := by omega
    clear hx
    rcases hx' with rfl | rfl | rfl | rfl
    · have hp := htw3.pick hm [-1, 0, 1, 2, 3, 4, 5] 7 rfl (by decide) (by decide)
      simp only [nums, List.map_cons, List.map_nil] at hp
      have HPK := Lib.hid hp
      clear hp htw3
      go_wp2_with fail
      refine HPK.out.mono ?_
      clear HPK
      rintro e w4 ⟨y, hy, rfl, htw4⟩
      obtain ⟨⟨c0, c1, c2, c3⟩, ⟨f0, f1, f2, f3⟩, ⟨d0, d1, d2, d3⟩, ⟨g0, g1, g2, g3⟩⟩ := htw4.cells
      have HT := Lib.hid htw4
      clear htw4 hy
      go_wp2
      obtain ⟨w9, hw9, k1, k2, e0, e1, e2, e3⟩ := (HT.out.set (t' := ⟨y, t.s, t.d, t.o⟩) 0 (.int .i64 y) hz2 rfl hAlt).1.fin ⟨y, t.s, t.d, t.o⟩ hAlt
      try simp only at hw9 e0 e1 e2 e3
      rw [← hw9]
      refine bodyPost_ret (v := .agg #[.int .i64 (⟨y, t.s, t.d, t.o⟩ : Tk).k, .string (⟨y, t.s, t.d, t.o⟩ : Tk).s, .int .i64 (⟨y, t.s, t.d, t.o⟩ : Tk).d, .int .i64 (⟨y, t.s, t.d, t.o⟩ : Tk).o]) (by simp [results, Tryz.results96, go_sem, e0, e1, e2, e3]) rfl ?_
      exact ⟨⟨_, ⟨⟨y, t.s, t.d, t.o⟩, rfl, by first | exact hs41 | exact ht41⟩, rfl⟩, k1, k2⟩
    · have HP := Lib.hid (htw3.text hm)
      clear htw3
      go_wp2_with fail
      refine HP.out.mono ?_
      clear HP
      rintro e w4 ⟨s, rfl, hs41, htw4⟩
      obtain ⟨⟨c0, c1, c2, c3⟩, ⟨f0, f1, f2, f3⟩, ⟨d0, d1, d2, d3⟩, ⟨g0, g1, g2, g3⟩⟩ := htw4.cells
      have HT := Lib.hid htw4
      clear htw4
      go_wp2
      obtain ⟨w9, hw9, k1, k2, e0, e1, e2, e3⟩ := (HT.out.set (t' := ⟨t.k, s, t.d, t.o⟩) 1 (.string s) hz2 rfl hAlt).1.fin ⟨t.k, s, t.d, t.o⟩ hAlt
      try simp only at hw9 e0 e1 e2 e3
      rw [← hw9]
      refine bodyPost_ret (v := .agg #[.int .i64 (⟨t.k, s, t.d, t.o⟩ : Tk).k, .string (⟨t.k, s, t.d, t.o⟩ : Tk).s, .int .i64 (⟨t.k, s, t.d, t.o⟩ : Tk).d, .int .i64 (⟨t.k, s, t.d, t.o⟩ : Tk).o]) (by simp [results, Tryz.results96, go_sem, e0, e1, e2, e3]) rfl ?_
      exact ⟨⟨_, ⟨⟨t.k, s, t.d, t.o⟩, rfl, by first | exact hs41 | exact ht41⟩, rfl⟩, k1, k2⟩
    · have hp := htw3.pick hm [-1, 0, 1, 9, 10] 5 rfl (by decide) (by decide)
      simp only [nums, List.map_cons, List.map_nil] at hp
      have HPK := Lib.hid hp
      clear hp htw3
      go_wp2_with fail
      refine HPK.out.mono ?_
      clear HPK
      rintro e w4 ⟨y, hy, rfl, htw4⟩
      obtain ⟨⟨c0, c1, c2, c3⟩, ⟨f0, f1, f2, f3⟩, ⟨d0, d1, d2, d3⟩, ⟨g0, g1, g2, g3⟩⟩ := htw4.cells
      have HT := Lib.hid htw4
      clear htw4 hy
      go_wp2
      obtain ⟨w9, hw9, k1, k2, e0, e1, e2, e3⟩ := (HT.out.set (t' := ⟨t.k, t.s, y, t.o⟩) 2 (.int .i64 y) hz2 rfl hAlt).1.fin ⟨t.k, t.s, y, t.o⟩ hAlt
      try simp only at hw9 e0 e1 e2 e3
      rw [← hw9]
      refine bodyPost_ret (v := .agg #[.int .i64 (⟨t.k, t.s, y, t.o⟩ : Tk).k, .string (⟨t.k, t.s, y, t.o⟩ : Tk).s, .int .i64 (⟨t.k, t.s, y, t.o⟩ : Tk).d, .int .i64 (⟨t.k, t.s, y, t.o⟩ : Tk).o]) (by simp [results, Tryz.results96, go_sem, e0, e1, e2, e3]) rfl ?_
      exact ⟨⟨_, ⟨⟨t.k, t.s, y, t.o⟩, rfl, by first | exact hs41 | exact ht41⟩, rfl⟩, k1, k2⟩
    · have hp := htw3.pick hm [-10, -9, 9, 10, 1] 5 rfl (by decide) (by decide)
      simp only [nums, List.map_cons, List.map_nil] at hp
      have HPK := Lib.hid hp
      clear hp htw3
      go_wp2_with fail
      refine HPK.out.mono ?_
      clear HPK
      rintro e w4 ⟨y, hy, rfl, htw4⟩
      obtain ⟨⟨c0, c1, c2, c3⟩, ⟨f0, f1, f2, f3⟩, ⟨d0, d1, d2, d3⟩, ⟨g0, g1, g2, g3⟩⟩ := htw4.cells
      have HT := Lib.hid htw4
      clear htw4 hy
      go_wp2
      obtain ⟨w9, hw9, k1, k2, e0, e1, e2, e3⟩ := (HT.out.set (t' := ⟨t.k, t.s, t.d, y⟩) 3 (.int .i64 y) hz2 rfl hAlt).1.fin ⟨t.k, t.s, t.d, y⟩ hAlt
      try simp only at hw9 e0 e1 e2 e3
      rw [← hw9]
      refine bodyPost_ret (v := .agg #[.int .i64 (⟨t.k, t.s, t.d, y⟩ : Tk).k, .string (⟨t.k, t.s, t.d, y⟩ : Tk).s, .int .i64 (⟨t.k, t.s, t.d, y⟩ : Tk).d, .int .i64 (⟨t.k, t.s, t.d, y⟩ : Tk).o]) (by simp [results, Tryz.results96, go_sem, e0, e1, e2, e3]) rfl ?_
      exact ⟨⟨_, ⟨⟨t.k, t.s, t.d, y⟩, rfl, by first | exact hs41 | exact ht41⟩, rfl⟩, k1, k2⟩
end Go.Proofs.YthjkgbcomjiejadGreatDoor
namespace Go.Proofs.YthjkgbcomjiejadGreatDoor
open Go.RowKit
set_option linter.unusedVariables false

/-- what a drawn list is. -/
def LsPost (w : World) (p : Nat) (A : Option Addr) (n c : Nat) (e : Ending) (w' : World) : Prop :=
  ∃ A' c' l, e = .returned (.slice A' l.length c') ∧ l.length ≤ 500 ∧ (∀ b, A'.map (·.block) = some b → w.heap.size ≤ b ∧ b < w'.heap.size) ∧ TS w' A' l ∧ (∀ t, t ∈ l → t.s.size ≤ 41) ∧ Cur w' p A n c ∧ w.grownBy w' (some p) ∧ l.length ≤ c'
theorem own_cap {w : World} {base z n m c : Nat} {e : TypeId} {A : Option Addr} {xs : List Value} (h : w.ownsRow base e z (.slice A n c) m xs) : m ≤ c := by
  rcases h.2 with ⟨h0, h1⟩ | ⟨g, cap, cur, h0, _, _, h1, _⟩
  · omega
  · injection h0 with _ _ h0; omega
theorem Dr.ls {w : World} {p : Nat} {A : Option Addr} {n c : Nat} {v : Value} {l : List Tk} {wr : World} (h : Dr w p A n c v l wr) (hl : l.length ≤ 500) : LsPost w p A n c (.returned v) wr := by
  obtain ⟨_, A', c', rfl, hb, hts⟩ := toks_of_own h.own
  exact ⟨A', c', l, rfl, hl, hb, hts, h.short, h.cur, h.grown, own_cap h.own⟩
theorem TS.tail {w : World} {g : Nat} {l : List Tk} (h : TS w (some ⟨g, 0, none⟩) l) : TS w (some ⟨g, 4, none⟩) l.tail := by
  intro i t ht
  have ht' : l[i + 1]? = some t := by rw [← ht]; cases l <;> simp
  obtain ⟨hb, hc⟩ := h.get ht'
  refine ⟨g, 4, rfl, hb, ?_⟩
  rw [show 4 + i * 4 = 0 + (i + 1) * 4 by omega]
  exact hc
def lenOfV : Value → Nat
  | .slice _ n _ => n
  | _ => 0

set_option maxHeartbeats 2000000 in
set_option maxRecDepth 100000 in
theorem l02DrawLoose_any (p : Nat) (A : Option Addr) (n c : Nat) (w : World) (hm : n ≤ 1048576) (hb : BS w A n) (hne : ∀ b, A.map (·.block) = some b → b ≠ p) (hAlt : ∀ b, A.map (·.block) = some b → b < w.heap.size) (hc : Cur w p A n c) :
    Calls Tryz.prog 51 #[.pointer (some ⟨p, 0, none⟩), .slice A n c] w (LsPost w p A n c) := by
  have hp := hc.lt
  have HB := Lib.hid hb
  have HNE := Lib.hid hne
  have HAL := Lib.hid hAlt
  have HC := Lib.hid hc
  clear hb hne hAlt hc
  obtain ⟨i0, hi, hz0, hz1, hz2⟩ := info_parts infoTok
  go_enter Tryz.func51, Tryz.ntmps51
  go_wp2_with fail
  refine (l01Size_any A n c 60 w hm (by decide) (by decide)).mono ?_
  rintro e w0 ⟨⟨x, rfl, hx1, hx2⟩, rfl⟩
  go_wp2_with fail
  refine (l01Below_any x p A n c w hm hx1 (by omega) HB.out HNE.out HC.out).mono ?_
  rintro e w1 ⟨⟨v1, ⟨y, rfl, hy⟩, rfl⟩, hc1, hg1⟩
  have HC1 := Lib.hid hc1
  have HG1 := Lib.hid hg1
  have hz1' := hg1.size
  clear hc1 hg1
  go_wp2_with fail
  refine (l02DrawStream_any y p A n c w1 hm (by omega) (HB.out.grown HNE.out HG1.out) HNE.out (fun b hb => Nat.lt_of_lt_of_le (HAL.out b hb) hz1') HC1.out).mono ?_
  rintro e w2 ⟨v, l, rfl, hll, hdr⟩
  have hD : Dr w p A n c v l w2 := ⟨Joins.ownsRow_le hdr.own hz1', hdr.short, hdr.cur, gB_tr HG1.out hdr.grown⟩
  have HD := Lib.hid hD
  have hl72 : l.length ≤ 72 := by omega
  obtain ⟨_, AA, cA, rfl, _, _⟩ := toks_of_own hD.own
  have hz4 := hD.grown.size
  clear hdr hD hll HC1 HG1
  go_wp2_with fail
  refine (l01Once_any 12 p A n c w2 hm (by decide) (by decide) (HD.out.bs HB.out HNE.out) HNE.out HD.out.cur).mono ?_
  rintro e w3 ⟨⟨v3, ⟨x3, rfl⟩, rfl⟩, hc3, hg3⟩
  have HD3 := Lib.hid (HD.out.go hp hc3 hg3)
  clear hc3 hg3 HD
  cases x3
  · go_wp2
    go_ret
    exact HD3.out.ls (by omega)
  · go_wp2_with fail
    refine (l01Below_any 4 p A n c w3 hm (by decide) (by decide) (HD3.out.bs HB.out HNE.out) HNE.out HD3.out.cur).mono ?_
    rintro e w4 ⟨⟨v4, ⟨x4, rfl, hx4⟩, rfl⟩, hc4, hg4⟩
    have HD4 := Lib.hid (HD3.out.go hp hc4 hg4)
    have hz5 := HD4.out.grown.size
    clear hc4 hg4 HD3
    have hx4' : x4 = 0 ∨ x4 = 1 ∨ x4 = 2 ∨ x4 = 3 := by omega
    clear hx4
    rcases hx4' with rfl | rfl | rfl | rfl
    · go_wp2_with fail
      refine (l01DrawLoose_any p A n c w4 hm (HD4.out.bs HB.out HNE.out) HNE.out (fun b hb => Nat.lt_of_lt_of_le (HAL.out b hb) hz5) HD4.out.cur).mono ?_
      rintro e w5 ⟨⟨v5, ⟨t, rfl, ht41⟩, rfl⟩, hc5, hg5⟩
      have HD5 := Lib.hid (HD4.out.go hp hc5 hg5)
      have hz6 := HD5.out.grown.size
      clear hc5 hg5 HD4
      go_wp2_with (at_builtin; refine wpList_append_own _ rfl _ _ 29 rfl w.heap.size 38 i0 (.agg #[.int .i64 0, .string ByteArray.empty, .int .i64 0, .int .i64 0]) 4 40 Tryz.underlying29 hi hz0 hz1 hz2 rfl (by decide) _ l.length _ rfl (HD5.out.own.alloc _) ⟨w5.heap.size, 0, none⟩ 1 1 [.int .i64 t.k, .string t.s, .int .i64 t.d, .int .i64 t.o] rfl rfl (cell_four_at w5 _ rfl _ _ _ _ _) (by simp [Value.oneCell']) (by simp only [maxLen]; omega) (by omega) (by simp; omega) ?_)
      intro v' w6 hown6 hgrow6 _
      have HD6 := Lib.hid (Dr.app (t := t) hp HD5.out ht41 hown6 hgrow6)
      clear hown6 hgrow6
      go_wp2
      go_ret
      exact HD6.out.ls (by rw [List.length_append]; show l.length + 1 ≤ 500; omega)
    · by_cases hl0 : 0 < l.length
      · have hown := HD4.out.own
        obtain ⟨g, cap, hv⟩ := Joins.ownsRow_form hown hl0
        injection hv with hv1 hv2 hv3
        subst hv1
        have hts := (toks_of_own hown)
        obtain ⟨_, A2, c2, hv', hbl, hts⟩ := hts
        injection hv' with hv1' hv2' hv3'
        subst hv1'
        have HTS := Lib.hid hts
        have HBL := Lib.hid hbl
        clear hv2 hv3 hv2' hv3' hts hbl hown
        by_cases hc1 : cA = 1
        · subst hc1
          have hle : l.length ≤ 1 := by
            rcases HD4.out.own.2 with ⟨h, _⟩ | ⟨g', c', cur, h, _, _, h1, _⟩
            · cases h
            · injection h with _ _ h; omega
          go_wp2
          go_ret
          exact ⟨some ⟨g, 0, none⟩, 0, [], rfl, by simp, fun b hb => HBL.out b hb, TS.nil _ _, fun t ht => by simp at ht, HD4.out.cur, HD4.out.grown, Nat.le_refl _⟩
        · go_wp2
          go_ret
          refine ⟨some ⟨g, 4, none⟩, cA - 1, l.tail, ?_, by rw [List.length_tail]; omega, fun b hb => HBL.out b (by simpa using hb), HTS.out.tail, fun t ht => HD4.out.short t (List.mem_of_mem_tail ht), HD4.out.cur, HD4.out.grown, by rw [List.length_tail]; have := own_cap HD4.out.own; omega⟩
          rw [List.length_tail]
          rfl
      · go_wp2
        go_ret
        exact HD4.out.ls (by omega)
    · go_wp2_with fail
      go_loopw [5] (fun v wr => ∃ l : List Tk, l.length ≤ 402 ∧ lenOfV v = l.length ∧ (∃ B d, v = .slice B l.length d) ∧ Dr w p A n c v l wr) (fun v _ => 402 - lenOfV v)
      case atStart => exact ⟨l, by omega, rfl, ⟨_, _, rfl⟩, HD4.out⟩
      case round =>
        clear HD4 hl72
        obtain ⟨l, hl4, hlen, ⟨B, d, rfl⟩, hdr⟩ := hrel
        have HD := Lib.hid hdr
        have hgs := hdr.grown.size
        clear hdr hlen
        go_wp2_with fail
        refine (l01Below_any 3 p A n c wr hm (by decide) (by decide) (HD.out.bs HB.out HNE.out) HNE.out HD.out.cur).mono ?_
        rintro e w7 ⟨⟨v7, ⟨x7, rfl, hx7⟩, rfl⟩, hc7, hg7⟩
        have HD7 := Lib.hid (HD.out.go hp hc7 hg7)
        have hz7 := HD7.out.grown.size
        clear hc7 hg7 HD
        by_cases hlt : l.length < 399 + x7
        · go_wp2_with (at_builtin; refine wpList_append_own _ rfl _ _ 29 rfl w.heap.size 38 i0 (.agg #[.int .i64 0, .string ByteArray.empty, .int .i64 0, .int .i64 0]) 4 40 Tryz.underlying29 hi hz0 hz1 hz2 rfl (by decide) _ l.length _ rfl (HD7.out.own.alloc _) ⟨w7.heap.size, 0, none⟩ 1 1 [.int .i64 0, .string ⟨#[122]⟩, .int .i64 0, .int .i64 0] rfl rfl (cell_four_at w7 _ rfl _ _ _ _ _) (by simp [Value.oneCell']) (by simp only [maxLen]; omega) (by omega) (by simp; omega) ?_)
          intro v' w8 hown8 hgrow8 _
          have HD8 := Lib.hid (Dr.app (t := ⟨0, ⟨#[122]⟩, 0, 0⟩) hp HD7.out (by decide) hown8 hgrow8)
          clear hown8 hgrow8
          go_wp2
          obtain ⟨hl8, B8, d8, rfl, _, _⟩ := toks_of_own HD8.out.own
          go_roundw
          case rel => exact ⟨l ++ [⟨0, ⟨#[122]⟩, 0, 0⟩], by rw [List.length_append]; show l.length + 1 ≤ 402; omega, rfl, ⟨_, _, rfl⟩, HD8.out⟩
          case measure => simp [lenOfV] <;> omega
        · go_wp2
          go_ret
          exact HD7.out.ls (by omega)
    · go_wp2_with fail
      refine (l01Below_any 2 p A n c w4 hm (by decide) (by decide) (HD4.out.bs HB.out HNE.out) HNE.out HD4.out.cur).mono ?_
      rintro e w5 ⟨⟨v5, ⟨x5, rfl, hx5⟩, rfl⟩, hc5, hg5⟩
      have HD5 := Lib.hid (HD4.out.go hp hc5 hg5)
      have hz6 := HD5.out.grown.size
      clear hc5 hg5 HD4
      go_wp2_with fail
      go_loopw [5, 7] (fun v kv wr => ∃ (k : Nat) (l : List Tk), k ≤ 12 + x5 ∧ kv = .int .i64 k ∧ l.length ≤ 72 + k ∧ Dr w p A n c v l wr) (fun _ kv _ => 12 + x5 - (intOf kv).toNat)
      case atStart => exact ⟨0, l, Nat.zero_le _, rfl, by omega, HD5.out⟩
      case round =>
        clear HD5 hl72
        obtain ⟨k, l, hkq, rfl, hll, hdr⟩ := hrel
        have HD := Lib.hid hdr
        have hgs := hdr.grown.size
        clear hdr
        by_cases hlt2 : k < 12 + x5
        · go_wp2_with (at_builtin; refine wpList_append_own _ rfl _ _ 29 rfl w.heap.size 38 i0 (.agg #[.int .i64 0, .string ByteArray.empty, .int .i64 0, .int .i64 0]) 4 40 Tryz.underlying29 hi hz0 hz1 hz2 rfl (by decide) u5 l.length _ rfl (HD.out.own.alloc _) ⟨wr.heap.size, 0, none⟩ 1 1 [.int .i64 2, .string ⟨#[]⟩, .int .i64 0, .int .i64 0] rfl rfl (cell_four_at wr _ rfl _ _ _ _ _) (by simp [Value.oneCell']) (by simp only [maxLen]; omega) (by omega) (by simp; omega) ?_)
          intro v' w8 hown8 hgrow8 _
          have HD8 := Lib.hid (Dr.app (t := ⟨2, ⟨#[]⟩, 0, 0⟩) hp HD.out (by decide) hown8 hgrow8)
          clear hown8 hgrow8
          go_wp2
          go_roundw
          case rel => exact ⟨k + 1, l ++ [⟨2, ⟨#[]⟩, 0, 0⟩], by omega, by go_num, by rw [List.length_append]; exact Nat.succ_le_succ hll, HD8.out⟩
          case measure => simp [intOf] <;> omega
        · go_wp2_with fail
          go_loopw [5, 8] (fun v kv wr => ∃ (k : Nat) (l : List Tk), k ≤ 12 + x5 ∧ kv = .int .i64 k ∧ l.length ≤ 85 + k ∧ Dr w p A n c v l wr) (fun _ kv _ => 12 + x5 - (intOf kv).toNat)
          case atStart => exact ⟨0, l, Nat.zero_le _, rfl, by omega, HD.out⟩
          case round =>
            clear HD hgs hll
            obtain ⟨k, l, hkq, rfl, hll, hdr⟩ := hrel
            have HD := Lib.hid hdr
            have hgs := hdr.grown.size
            clear hdr
            by_cases hlt2 : k < 12 + x5
            · go_wp2_with (at_builtin; refine wpList_append_own _ rfl _ _ 29 rfl w.heap.size 38 i0 (.agg #[.int .i64 0, .string ByteArray.empty, .int .i64 0, .int .i64 0]) 4 40 Tryz.underlying29 hi hz0 hz1 hz2 rfl (by decide) u5 l.length _ rfl (HD.out.own.alloc _) ⟨wr.heap.size, 0, none⟩ 1 1 [.int .i64 3, .string ⟨#[]⟩, .int .i64 0, .int .i64 0] rfl rfl (cell_four_at wr _ rfl _ _ _ _ _) (by simp [Value.oneCell']) (by simp only [maxLen]; omega) (by omega) (by simp; omega) ?_)
              intro v' w8 hown8 hgrow8 _
              have HD8 := Lib.hid (Dr.app (t := ⟨3, ⟨#[]⟩, 0, 0⟩) hp HD.out (by decide) hown8 hgrow8)
              clear hown8 hgrow8
              go_wp2
              go_roundw
              case rel => exact ⟨k + 1, l ++ [⟨3, ⟨#[]⟩, 0, 0⟩], by omega, by go_num, by rw [List.length_append]; exact Nat.succ_le_succ hll, HD8.out⟩
              case measure => simp [intOf] <;> omega
            · go_wp2
              go_ret
              exact HD.out.ls (by omega)
end Go.Proofs.YthjkgbcomjiejadGreatDoor
