/-
  The program's printer: its methods.
-/
import Derived.Test.YthjkgbcomjiejadGreatDoorPam
import Derived.Test.YthjkgbcomjiejadGreatDoorFlt
import Derived.Test.YthjkgbcomjiejadGreatDoorSl
import Derived.Test.YthjkgbcomjiejadGreatDoorBwd
import Derived.Test.YthjkgbcomjiejadGreatDoorLev
import Derived.Deep.RegionHeld3
import Derived.Deep.RegionWith
namespace Go.Proofs.YthjkgbcomjiejadGreatDoor
open Go.RowKit
set_option linter.unusedVariables false

/-- the fields of the program's printer. -/
def pcs (W : Int) (s : Pr) (vW vM : Value) : List Value := [.complex .f64 (fN s.ln) (fN s.col), .int .i64 s.pend, vW, .int .i64 W, vM]
def PA (w : World) (B p : Nat) (W : Int) (s : Pr) (vW vM : Value) : Prop := PM w B p 100 144 (pcs W s vW vM) vW vM s.out s.ms

theorem conv_fN {n : Nat} (h : n < 2 ^ 53) (w : World) : (convert 149 3 (.float .f64 (fN n))).run Tryz.prog w = .ok (.int .i64 (n : Int)) w :=
  run_convert_float_int w _ _ _ _ _ _ (by rw [Tryz.underlying149]; rfl) Tryz.underlying3 (int_fN h)
theorem cadd_fN {a b c d : Nat} (h1 : a + c < 2 ^ 53) (h2 : b + d < 2 ^ 53) (w : World) : (binOp .add 95 (.complex .f64 (fN a) (fN b)) (.complex .f64 (fN c) (fN d))).run Tryz.prog w = .ok (.complex .f64 (fN (a + c)) (fN (b + d))) w :=
  run_complex_sum w .add (.inl rfl) _ _ _ _ _ _ _ _ (by simp [cSumBits, add_fN h1, add_fN h2])
theorem fadd_fN {a b : Nat} (h1 : a + b < 2 ^ 53) (w : World) : (binOp .add 149 (.float .f64 (fN a)) (.float .f64 (fN b))).run Tryz.prog w = .ok (.float .f64 (fN (a + b))) w :=
  run_float_arith w .add _ _ _ _ _ (add_fN h1)

set_option maxHeartbeats 400000 in
theorem column_any (w : World) (p n m : Nat) (hn : n ≤ 1000000) (h : w.cell? ⟨p, 0, none⟩ = some (.complex .f64 (fN m) (fN n))) :
    Calls Tryz.prog 193 #[.pointer (some ⟨p, 0, none⟩)] w fun e w' => e = .returned (.int .i64 n) ∧ Below w.heap.size w w' := by
  have hc := conv_fN (n := n) (by omega)
  go_enter Tryz.func193, Tryz.ntmps193
  go_wp2
  go_ret
  exact ⟨rfl, Below.refl _ _⟩

set_option maxHeartbeats 400000 in
theorem reach_any (w : World) (p n m q : Nat) (hn : n ≤ 1000000) (hq : q ≤ 1000000) (h : w.cell? ⟨p, 0, none⟩ = some (.complex .f64 (fN m) (fN n))) (h1 : w.cell? ⟨p, 1, none⟩ = some (.int .i64 q)) :
    Calls Tryz.prog 171 #[.pointer (some ⟨p, 0, none⟩)] w fun e w' => e = .returned (.int .i64 (n + q)) ∧ Below w.heap.size w w' := by
  have r0 := Bw.rd h
  have r1 := Bw.rd h1
  go_enter Tryz.func171, Tryz.ntmps171
  go_wp2
  refine wp_region_class (Bw w) (by kernel_rfl) (by kernel_rfl) (Bw.start w) (fun hne => ?_)
  repeat (go_big_quiet_step (fail))
  refine wpQuiet_step (fun K hK => ?_)
  go_simp
  refine ⟨.int .i64 n, fun x => calls_class x (Bw.keep w) (column_any _ p n m hn (r0 x)), hK _ ?_⟩
  clear hK K
  repeat (go_big_quiet_step (fail))
  refine wpQuiet_nil ?_
  rintro w3 ⟨x, rfl⟩
  have hx := x.ok
  generalize x.W = w3 at *
  go_wp2
  go_ret
  exact ⟨rfl, hx⟩

set_option maxHeartbeats 400000 in
theorem hasRoom_any (w : World) (p n m q : Nat) (W z : Int) (hn : n ≤ 1000000) (hq : q ≤ 1000000) (hW0 : 0 ≤ W) (hW1 : W ≤ 1000) (h : w.cell? ⟨p, 0, none⟩ = some (.complex .f64 (fN m) (fN n))) (h1 : w.cell? ⟨p, 1, none⟩ = some (.int .i64 q)) (h3 : w.cell? ⟨p, 3, none⟩ = some (.int .i64 W)) :
    Calls Tryz.prog 172 #[.pointer (some ⟨p, 0, none⟩), .int .i64 z] w fun e w' => e = .returned (.bool (decide (z ≤ W - n - q))) ∧ Below w.heap.size w w' := by
  have r0 := Bw.rd h
  have r1 := Bw.rd h1
  have r3 := Bw.rd h3
  go_enter Tryz.func172, Tryz.ntmps172
  go_wp2
  refine wp_region_class (Bw w) (by kernel_rfl) (by kernel_rfl) (Bw.start w) (fun hne => ?_)
  repeat (go_big_quiet_step (fail))
  refine wpQuiet_step (fun K hK => ?_)
  go_simp
  refine ⟨.int .i64 (n + q), fun x => calls_class x (Bw.keep w) (reach_any _ p n m q hn hq (r0 x) (r1 x)), hK _ ?_⟩
  clear hK K
  repeat (go_big_quiet_step (fail))
  refine wpQuiet_nil ?_
  rintro w3 ⟨x, rfl⟩
  have hx := x.ok
  generalize x.W = w3 at *
  go_wp2
  go_ret
  refine ⟨?_, hx⟩
  rw [show W - (n : Int) - q = W - (n + q) by omega]
  rfl

set_option maxHeartbeats 400000 in
theorem top_any (w : World) (p g n c : Nat) (x y : Nat) (hn0 : 0 < n) (hn : n ≤ 1000) (h4 : w.cell? ⟨p, 4, none⟩ = some (.slice (some ⟨g, 0, none⟩) n c)) (hx : w.cell? ⟨g, (n - 1) * 2, none⟩ = some (.int .i64 x)) (hy : w.cell? ⟨g, (n - 1) * 2 + 1, none⟩ = some (.int .i64 y)) :
    Calls Tryz.prog 145 #[.pointer (some ⟨p, 0, none⟩)] w fun e w' => e = .returned (.agg #[.int .i64 x, .int .i64 y]) ∧ Below w.heap.size w w' := by
  obtain ⟨k, rfl⟩ : ∃ k, n = k + 1 := ⟨n - 1, by omega⟩
  rw [Nat.add_sub_cancel] at hx hy
  have hp := World.block_lt_of_cell? _ _ h4
  have hg := World.block_lt_of_cell? _ _ hx
  simp only at hp hg
  go_enter Tryz.func145, Tryz.ntmps145
  go_wp2
  go_region
  go_wp2
  refine bodyPost_ret (v := .agg #[.int .i64 x, .int .i64 y]) (by simp [results, Tryz.results145, go_sem]) rfl ?_
  exact ⟨rfl, ((Below.refl _ _).alloc (Nat.le_refl _) _).drew⟩

/-- a printer of modest size. -/
structure Pr.Sm (s : Pr) : Prop where
  ln : s.ln ≤ 100000
  col : s.col ≤ 100000
  pend : s.pend ≤ 100000
  ne : s.ms ≠ []
  len : s.ms.length ≤ 1000
  top : s.top.2 ≤ 100000
  kind : s.top.1 ≤ 2
  out : s.out.length ≤ 100000000
theorem PA.cells {w : World} {B p : Nat} {W : Int} {s : Pr} {vW vM : Value} (h : PA w B p W s vW vM) : w.cell? ⟨p, 0, none⟩ = some (.complex .f64 (fN s.ln) (fN s.col)) ∧ w.cell? ⟨p, 1, none⟩ = some (.int .i64 s.pend) ∧ w.cell? ⟨p, 2, none⟩ = some vW ∧ w.cell? ⟨p, 3, none⟩ = some (.int .i64 W) ∧ w.cell? ⟨p, 4, none⟩ = some vM ∧ p < w.heap.size :=
  ⟨(h.blk.cell 0).trans rfl, (h.blk.cell 1).trans rfl, (h.blk.cell 2).trans rfl, (h.blk.cell 3).trans rfl, (h.blk.cell 4).trans rfl, h.blk.lt⟩
theorem PA.cells' {w : World} {B p : Nat} {W : Int} {s : Pr} {vW vM vW' vM' : Value} {out : List UInt8} {ms : List (Nat × Nat)} (h : PM w B p 100 144 (pcs W s vW vM) vW' vM' out ms) : w.cell? ⟨p, 0, none⟩ = some (.complex .f64 (fN s.ln) (fN s.col)) ∧ w.cell? ⟨p, 1, none⟩ = some (.int .i64 s.pend) ∧ w.cell? ⟨p, 2, none⟩ = some vW ∧ w.cell? ⟨p, 3, none⟩ = some (.int .i64 W) ∧ w.cell? ⟨p, 4, none⟩ = some vM ∧ p < w.heap.size :=
  ⟨(h.blk.cell 0).trans rfl, (h.blk.cell 1).trans rfl, (h.blk.cell 2).trans rfl, (h.blk.cell 3).trans rfl, (h.blk.cell 4).trans rfl, h.blk.lt⟩
theorem PM.frz {w : World} {B p : Nat} {tp tm : TypeId} {cs : List Value} {vW vM : Value} {out : List UInt8} {ms : List (Nat × Nat)} (h : PM w B p tp tm cs vW vM out ms) (i : Nat) : w.frozen? ⟨p, i, none⟩ = false := h.blk.frozen i
/-- behind a byte that was laid ahead and appended. -/
theorem PM.byte {w w3 : World} {B p : Nat} {tp tm : TypeId} {cs : List Value} {vW vM v' : Value} {out : List UInt8} {ms : List (Nat × Nat)} {o : Obj} {b : UInt8} (h : PM w B p tp tm cs vW vM out ms) (hg : (w.alloc o).grownBy w3 vW.ownBlock) (ho : w3.ownsRow B 5 1 v' (out.length + 1) (Lib.byteCells out ++ [.int .u8 b.toNat])) : PM w3 B p tp tm cs v' vM (out ++ [b]) ms :=
  (h.alloc o).put_out hg (by rw [List.length_append, ← bytes_snoc]; exact ho)
theorem PA.frozen {w : World} {B p : Nat} {W : Int} {s : Pr} {vW vM : Value} (h : PA w B p W s vW vM) (i : Nat) : w.frozen? ⟨p, i, none⟩ = false := h.blk.frozen i
theorem PA.last {w : World} {B p : Nat} {W : Int} {s : Pr} {vW vM : Value} (h : PA w B p W s vW vM) (hn : s.ms ≠ []) : ∃ g c, vM = .slice (some ⟨g, 0, none⟩) s.ms.length c ∧ g < w.heap.size ∧ 0 < s.ms.length ∧
    w.cell? ⟨g, (s.ms.length - 1) * 2, none⟩ = some (.int .i64 s.top.1) ∧ w.cell? ⟨g, (s.ms.length - 1) * 2 + 1, none⟩ = some (.int .i64 s.top.2) :=
  PM.last h hn (by unfold Pr.top; rw [List.getLast?_eq_some_getLast hn]; rfl)
theorem PA.top {w : World} {B p : Nat} {W : Int} {s : Pr} {vW vM : Value} (h : PA w B p W s vW vM) (hs : s.Sm) :
    Calls Tryz.prog 145 #[.pointer (some ⟨p, 0, none⟩)] w fun e w' => e = .returned (.agg #[.int .i64 s.top.1, .int .i64 s.top.2]) ∧ Below w.heap.size w w' := by
  obtain ⟨g, c, rfl, hg, h0, hx, hy⟩ := h.last hs.ne
  exact top_any w p g _ c _ _ h0 hs.len h.cells.2.2.2.2.1 hx hy
theorem PA.room {w : World} {B p : Nat} {W z : Int} {s : Pr} {vW vM : Value} (h : PA w B p W s vW vM) (hs : s.Sm) (hW0 : 0 ≤ W) (hW1 : W ≤ 1000) :
    Calls Tryz.prog 172 #[.pointer (some ⟨p, 0, none⟩), .int .i64 z] w fun e w' => e = .returned (.bool (s.room W z)) ∧ Below w.heap.size w w' :=
  hasRoom_any w p _ _ _ W z (by have := hs.col; omega) (by have := hs.pend; omega) hW0 hW1 h.cells.1 h.cells.2.1 h.cells.2.2.2.1
theorem PA.reach {w : World} {B p : Nat} {W : Int} {s : Pr} {vW vM : Value} (h : PA w B p W s vW vM) (hs : s.Sm) :
    Calls Tryz.prog 171 #[.pointer (some ⟨p, 0, none⟩)] w fun e w' => e = .returned (.int .i64 (s.col + s.pend)) ∧ Below w.heap.size w w' :=
  reach_any w p _ _ _ (by have := hs.col; omega) (by have := hs.pend; omega) h.cells.1 h.cells.2.1
theorem mk_kind (a b : Int) (w : World) : (Instr.field 144 (.agg #[.int .i64 a, .int .i64 b]) 0).run Tryz.prog w = .ok (.int .i64 a) w := by kernel_rfl
theorem mk_col (a b : Int) (w : World) : (Instr.field 144 (.agg #[.int .i64 a, .int .i64 b]) 1).run Tryz.prog w = .ok (.int .i64 b) w := by kernel_rfl
theorem st_complex (a : Addr) (x y : Nat) (w : World) : (store a (.complex .f64 x y)).run Tryz.prog w = stored Tryz.prog w a (.complex .f64 x y) .plain := run_store Tryz.prog w a _ _ rfl
theorem infoByte : (Tryz.prog.info? 5).map (fun i => (i.zero, i.size, i.bytes)) = some (some (.int .u8 0), 1, 1) := by kernel_rfl

set_option maxHeartbeats 400000 in
set_option maxRecDepth 100000 in
theorem stays_any {w : World} {B p : Nat} {W z : Int} {s : Pr} {vW vM : Value} (h : PA w B p W s vW vM) (hs : s.Sm) (hW0 : 0 ≤ W) (hW1 : W ≤ 1000) :
    Calls Tryz.prog 143 #[.pointer (some ⟨p, 0, none⟩), .int .i64 z] w fun e w' => e = .returned (.bool (s.stays W z)) ∧ Below w.heap.size w w' := by
  have H := Lib.hid h
  have HS := Lib.hid hs
  have hk : s.top.1 = 0 ∨ s.top.1 = 1 ∨ s.top.1 = 2 := by have := hs.kind; omega
  have hfd := mk_kind
  clear h hs
  rcases hk with hk | hk | hk
  all_goals
    go_enter Tryz.func143, Tryz.ntmps143
    go_wp2_with fail
    refine (H.out.top HS.out).mono ?_
    rintro e w1 ⟨rfl, hb1⟩
    rw [hk]
    have HB1 := Lib.hid hb1
    clear hb1
    have HK := Lib.hid hk
    clear hk
  · go_wp2
    go_ret
    exact ⟨by simp [Pr.stays, HK.out], HB1.out⟩
  · go_wp2
    go_ret
    exact ⟨by simp [Pr.stays, HK.out], HB1.out⟩
  · go_wp2_with fail
    refine (PA.room (z := z) (PM.below H.out HB1.out) HS.out hW0 hW1).mono ?_
    rintro e w2 ⟨rfl, hb2⟩
    have HB2 := Lib.hid (HB1.out.trans (hb2.mono HB1.out.size))
    clear hb2
    go_wp2
    go_ret
    exact ⟨by simp [Pr.stays, HK.out], HB2.out⟩

/-- what a method of the printer leaves. -/
def PPost (B p : Nat) (W : Int) (w : World) (v : Value) (s : Pr) (e : Ending) (w' : World) : Prop := e = .returned v ∧ Chg B w w' ∧ ∃ vW vM, PA w' B p W s vW vM

theorem PA.brk {w : World} {B p : Nat} {W o x : Int} {s : Pr} {vW vM v' : Value} (h : PM w B p 100 144 (pcs W s vW vM) v' vM (s.out ++ [10]) s.ms) (hx : (((s.top.2 : Int) + o).toNat : Int) = x) :
    PA (((w.setCell ⟨p, 2, none⟩ v').setCell ⟨p, 0, none⟩ (.complex .f64 (fN (s.ln + 1)) 0)).setCell ⟨p, 1, none⟩ (.int .i64 x)) B p W (s.brk o) v' vM ∧ Chg B w (((w.setCell ⟨p, 2, none⟩ v').setCell ⟨p, 0, none⟩ (.complex .f64 (fN (s.ln + 1)) 0)).setCell ⟨p, 1, none⟩ (.int .i64 x)) := by
  subst hx
  refine ⟨?_, ((h.chg_set 2 _).trans ((h.set 2 _).chg_set 0 _)).trans (((h.set 2 _).set 0 _).chg_set 1 _)⟩
  have := ((h.set 2 v').set 0 (.complex .f64 (fN (s.ln + 1)) 0)).set 1 (.int .i64 ((((s.top.2 : Int) + o).toNat : Nat) : Int))
  unfold PA pcs
  rw [show (s.brk o).col = 0 from rfl, fN_zero]
  exact this

set_option maxHeartbeats 1000000 in
set_option maxRecDepth 100000 in
theorem newLine_any {w : World} {B p : Nat} {W o : Int} {s : Pr} {vW vM : Value} (h : PA w B p W s vW vM) (hs : s.Sm) (hB : B ≤ w.heap.size) (ho : -9 ≤ o) (ho1 : o ≤ 9) :
    Calls Tryz.prog 144 #[.pointer (some ⟨p, 0, none⟩), .int .i64 (s.top.2 + o)] w (PPost B p W w (.tuple #[]) (s.brk o)) := by
  obtain ⟨i0, hi, hz0, hz1, hz2⟩ := info_parts infoByte
  obtain ⟨c0, c1, c2, c3, c4, hp⟩ := h.cells
  have H := Lib.hid h
  have HS := Lib.hid hs
  have hl := hs.ln
  have hout := hs.out
  clear h hs
  have hadd := fadd_fN (a := s.ln) (b := 1) (by omega)
  rw [fN_one] at hadd
  have hst := st_complex
  go_enter Tryz.func144, Tryz.ntmps144
  go_wp2_with (at_builtin; refine wpList_append_own_at _ rfl _ _ 22 rfl B 5 i0 (.int .u8 0) 1 1 Tryz.underlying22 hi hz0 hz1 hz2 rfl (by decide) vW _ _ rfl (PM.alloc H.out _).own ⟨w.heap.size, 0, none⟩ 1 1 [.int .u8 10] rfl rfl (cell_one_new _ _ _) (by simp [Value.oneCell']) (by simp only [maxLen]; omega) (by omega) (by simp; omega) ?_)
  intro v' w3 hown3 hgrow3 _ _
  obtain ⟨A3, n3, rfl, _⟩ := own_slice1 hown3
  have hq := PM.byte (b := 10) H.out hgrow3 hown3
  have HC3 := Lib.hid (PM.chg_out (PM.alloc H.out _) hgrow3)
  obtain ⟨d0, d1, d2, d3, d4, hp3⟩ := PA.cells' hq
  have d5 := PM.frz hq
  have HQ := Lib.hid hq
  clear hq hgrow3 hown3 c0 c1 c2 c3 c4
  by_cases hpos : 0 < (s.top.2 : Int) + o
  · go_wp2
    obtain ⟨r1, r2⟩ := PA.brk (o := o) HQ.out (x := (s.top.2 : Int) + o) (by omega)
    refine bodyPost_end (results_none rfl _ _ _) rfl ?_
    exact ⟨rfl, ((Chg.refl B w).alloc _).trans (HC3.out.trans r2), _, _, r1⟩
  · go_wp2
    obtain ⟨r1, r2⟩ := PA.brk (o := o) HQ.out (x := 0) (by omega)
    refine bodyPost_end (results_none rfl _ _ _) rfl ?_
    exact ⟨rfl, ((Chg.refl B w).alloc _).trans (HC3.out.trans r2), _, _, r1⟩

/-- the printer with i of its pending blanks written. -/
def Pr.bl (s : Pr) (i : Nat) : Pr := { s with out := s.out ++ List.replicate i 32 }
theorem PA.out2 {w : World} {B p : Nat} {W : Int} {s : Pr} {vW vM v' : Value} {out' : List UInt8} (h : PM w B p 100 144 (pcs W s vW vM) v' vM out' s.ms) :
    PA (w.setCell ⟨p, 2, none⟩ v') B p W { s with out := out' } v' vM ∧ Chg B w (w.setCell ⟨p, 2, none⟩ v') := ⟨h.set 2 v', h.chg_set 2 v'⟩
theorem PM.text {w w3 : World} {B p : Nat} {tp tm : TypeId} {cs : List Value} {vW vM v' : Value} {out : List UInt8} {ms : List (Nat × Nat)} {x : ByteArray} (h : PM w B p tp tm cs vW vM out ms) (hg : w.grownBy w3 vW.ownBlock) (ho : w3.ownsRow B 5 1 v' (out.length + x.size) (Lib.byteCells out ++ Lib.strCells x)) : PM w3 B p tp tm cs v' vM (out ++ x.data.toList) ms :=
  h.put_out hg (by rw [List.length_append, Array.length_toList, ← bytes_str]; exact ho)
theorem PA.fin {w : World} {B p : Nat} {W : Int} {s : Pr} {n : Nat} {vW vM : Value} (h : PA w B p W s vW vM) :
    PA ((w.setCell ⟨p, 0, none⟩ (.complex .f64 (fN s.ln) (fN n))).setCell ⟨p, 1, none⟩ (.int .i64 0)) B p W { s with col := n, pend := 0 } vW vM ∧ Chg B w ((w.setCell ⟨p, 0, none⟩ (.complex .f64 (fN s.ln) (fN n))).setCell ⟨p, 1, none⟩ (.int .i64 0)) :=
  ⟨(PM.set h 0 _).set 1 _, (PM.chg_set h 0 _).trans ((PM.set h 0 _).chg_set 1 _)⟩

set_option maxHeartbeats 1000000 in
set_option maxRecDepth 100000 in
theorem write_any {w : World} {B p : Nat} {W : Int} {s : Pr} {vW vM : Value} {x : ByteArray} (h : PA w B p W s vW vM) (hs : s.Sm) (hB : B ≤ w.heap.size) (hx : x.size ≤ 40) :
    Calls Tryz.prog 141 #[.pointer (some ⟨p, 0, none⟩), .string x] w (PPost B p W w (.tuple #[]) (s.text x.data.toList)) := by
  obtain ⟨i0, hi, hz0, hz1, hz2⟩ := info_parts infoByte
  obtain ⟨c0, c1, c2, c3, c4, hp⟩ := h.cells
  have H := Lib.hid h
  have HS := Lib.hid hs
  have hcol := hs.col
  have hpend := hs.pend
  have hout := hs.out
  clear h hs
  have hadd := cadd_fN (a := s.ln) (b := s.col) (c := 0) (d := s.pend + x.size) (by have := HS.out.ln; omega) (by omega)
  rw [fN_zero, Nat.add_zero, show fN (s.pend + x.size) = floatOfInt .f64 ((s.pend : Int) + x.size) from by simp [fN, floatOfInt]] at hadd
  have hst := st_complex
  go_enter Tryz.func141, Tryz.ntmps141
  go_wp2
  clear c0 c1 c2 c3 c4
  go_loopw [8] (fun i wr => ∃ k : Nat, k ≤ s.pend ∧ i = .int .i64 k ∧ (∃ v, PA wr B p W (s.bl k) v vM) ∧ Chg B w wr) (fun i _ => s.pend - (intOf i).toNat)
  case atStart => exact ⟨0, Nat.zero_le _, rfl, ⟨vW, by unfold Pr.bl; rw [List.replicate_zero, List.append_nil]; exact H.out⟩, Chg.refl _ _⟩
  case round =>
    obtain ⟨k, hk, rfl, ⟨v, hv⟩, hch⟩ := hrel
    obtain ⟨c0, c1, c2, c3, c4, hpr⟩ := hv.cells
    have HV := Lib.hid hv
    have HC := Lib.hid hch
    have hz := hch.size
    have hol : (s.bl k).out.length ≤ 100200000 := by simp [Pr.bl]; omega
    clear hv hch
    by_cases hlt : k < s.pend
    · go_wp2_with (at_builtin; refine wpList_append_own_at _ rfl _ _ 22 rfl B 5 i0 (.int .u8 0) 1 1 Tryz.underlying22 hi hz0 hz1 hz2 rfl (by decide) v _ _ rfl (PM.alloc HV.out _).own ⟨wr.heap.size, 0, none⟩ 1 1 [.int .u8 32] rfl rfl (cell_one_new _ _ _) (by simp [Value.oneCell']) (by simp only [maxLen]; omega) (by omega) (by simp; omega) ?_)
      intro v' w3 hown3 hgrow3 _ _
      obtain ⟨A3, n3, rfl, _⟩ := own_slice1 hown3
      have hq := PM.byte (b := 32) HV.out hgrow3 hown3
      have HC3 := Lib.hid (PM.chg_out (PM.alloc HV.out _) hgrow3)
      obtain ⟨d0, d1, d2, d3, d4, hp3⟩ := PA.cells' hq
      have d5 := PM.frz hq
      have HQ := Lib.hid hq
      clear hq hgrow3 hown3 c0 c1 c2 c3 c4
      go_wp2
      obtain ⟨r1, r2⟩ := PA.out2 HQ.out
      go_roundw
      case rel => exact ⟨k + 1, by omega, by go_num, ⟨_, by rw [show s.bl (k + 1) = { s.bl k with out := (s.bl k).out ++ [32] } from by unfold Pr.bl; rw [List.replicate_succ', ← List.append_assoc]]; exact r1⟩, HC.out.trans (((Chg.refl B wr).alloc _).trans (HC3.out.trans r2))⟩
      case measure => simp [intOf] <;> omega
    · have hkn : k = s.pend := by omega
      subst hkn
      go_wp2_with (at_builtin; refine Lib.wpList_append_own_string _ rfl _ _ 22 9 rfl B 5 i0 Tryz.underlying22 Tryz.underlying9 hi hz0 hz1 hz2 v _ _ rfl HV.out.own x rfl (by simp only [maxLen]; omega) (by omega) (by omega) ?_)
      intro v' w3 hown3 hgrow3 _
      obtain ⟨A3, n3, rfl, _⟩ := own_slice1 hown3
      have hq := PM.text HV.out hgrow3 hown3
      have HC3 := Lib.hid (PM.chg_out HV.out hgrow3)
      obtain ⟨d0, d1, d2, d3, d4, hp3⟩ := PA.cells' hq
      have d5 := PM.frz hq
      have HQ := Lib.hid hq
      clear hq hgrow3 hown3 c0 c1 c2 c3 c4
      go_wp2
      obtain ⟨r1, r2⟩ := PA.out2 HQ.out
      have HC4 := Lib.hid (HC.out.trans (HC3.out.trans r2))
      clear r2 HC HC3 HQ HV d0 d1 d2 d3 d4 d5 hp3
      generalize w3.setCell ⟨p, 2, none⟩ (Value.slice A3 ((s.bl s.pend).out.length + x.size) n3) = w4 at *
      obtain ⟨x0, x1, _, _, _, hp4⟩ := r1.cells
      have d0 : w4.cell? ⟨p, 0, none⟩ = some (.complex .f64 (fN s.ln) (fN s.col)) := x0
      have d1 : w4.cell? ⟨p, 1, none⟩ = some (.int .i64 s.pend) := x1
      clear x0 x1
      have d5 := PM.frz r1
      have HR := Lib.hid r1
      clear r1
      go_region
      go_wp2
      obtain ⟨q1, q2⟩ := PA.fin (n := s.col + (s.pend + x.size)) HR.out
      refine bodyPost_end (results_none rfl _ _ _) rfl ?_
      refine ⟨rfl, (HC4.out.trans q2).drew, .slice A3 ((s.bl s.pend).out.length + x.size) n3, vM, PM.drew ?_⟩
      rw [show s.text x.data.toList = ⟨s.ln, s.col + (s.pend + x.size), 0, s.ms, s.out ++ List.replicate s.pend 32 ++ x.data.toList⟩ from by unfold Pr.text; rw [Array.length_toList, Nat.add_assoc]; rfl]
      exact q1
end Go.Proofs.YthjkgbcomjiejadGreatDoor
