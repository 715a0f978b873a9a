/-
  The program's printer: a block is opened, a token is put.
-/
import Derived.Test.YthjkgbcomjiejadGreatDoorPri
import Derived.Deep.RegionLaw
import Derived.Deep.AppendLies
namespace Go.Proofs.YthjkgbcomjiejadGreatDoor
open Go.RowKit
set_option linter.unusedVariables false

set_option maxHeartbeats 400000 in
theorem column_eq (w : World) (p n m : Nat) (hn : n ≤ 1000000) (h : w.cell? ⟨p, 0, none⟩ = some (.complex .f64 (fN m) (fN n))) :
    Calls Tryz.prog 193 #[.pointer (some ⟨p, 0, none⟩)] w fun e w' => e = .returned (.int .i64 n) ∧ w' = w := by
  have hc := conv_fN (n := n) (by omega)
  go_enter Tryz.func193, Tryz.ntmps193
  go_wp2
  go_ret
  exact ⟨rfl, rfl⟩
set_option maxHeartbeats 400000 in
theorem reach_eq (w : World) (p n m q : Nat) (hn : n ≤ 1000000) (hq : q ≤ 1000000) (h : w.cell? ⟨p, 0, none⟩ = some (.complex .f64 (fN m) (fN n))) (h1 : w.cell? ⟨p, 1, none⟩ = some (.int .i64 q)) :
    Calls Tryz.prog 171 #[.pointer (some ⟨p, 0, none⟩)] w fun e w' => e = .returned (.int .i64 (n + q)) ∧ w' = w.drew := by
  have x1 : IntKind.i64.wrap ((n : Int) + q) = n + q := IntWalk.i64_in _ (by omega)
  go_enter Tryz.func171, Tryz.ntmps171
  go_wp2
  first
    | go_region_with (first | ((with_reducible refine (column_eq _ p n m hn ?_).mono ?_); exact h; rintro e w2 ⟨rfl, rfl⟩))
    | fail
  all_goals
    go_wp2
    go_ret
    exact ⟨rfl, rfl⟩
set_option maxHeartbeats 400000 in
theorem hasRoom_eq (w : World) (p n m q : Nat) (W z : Int) (hn : n ≤ 1000000) (hq : q ≤ 1000000) (hW0 : 0 ≤ W) (hW1 : W ≤ 1000) (h : w.cell? ⟨p, 0, none⟩ = some (.complex .f64 (fN m) (fN n))) (h1 : w.cell? ⟨p, 1, none⟩ = some (.int .i64 q)) (h3 : w.cell? ⟨p, 3, none⟩ = some (.int .i64 W)) :
    Calls Tryz.prog 172 #[.pointer (some ⟨p, 0, none⟩), .int .i64 z] w fun e w' => e = .returned (.bool (decide (z ≤ W - n - q))) ∧ w' = w.drew.drew := by
  have x1 : IntKind.i64.wrap (W - ((n : Int) + q)) = W - (n + q) := IntWalk.i64_in _ (by omega)
  go_enter Tryz.func172, Tryz.ntmps172
  go_wp2
  first
    | go_region_with (first | ((with_reducible refine (reach_eq _ p n m q hn hq ?_ ?_).mono ?_); exact h; exact h1; rintro e w2 ⟨rfl, rfl⟩))
    | fail
  all_goals
    go_wp2
    go_ret
    rw [show W - (n : Int) - q = W - (n + q) by omega]
    exact ⟨rfl, rfl⟩
/-- one frame and one world behind a piece of code. -/
def At (A : Act) (V : World) : Exit → Act → World → Prop
  | .normal, a, w => a = A ∧ w = V
  | _, _, _ => False
theorem wp_at {P : Program} {c : Code} {Q : Exit → Act → World → Prop} {a : Act} {w : World} {A : Act} {V : World} (h : c.wp P (At A V) a w) (k : Q .normal A V) : c.wp P Q a w :=
  Code.wp_mono (fun e a w q => by cases e <;> first | exact (q.1 ▸ q.2 ▸ k) | exact q.elim) h
theorem Bw.a1 (w : World) (o : Obj) : Bw w (w.alloc o).drew := ((Below.refl _ _).alloc (Nat.le_refl _) o).drew
theorem Bw.a2 (w : World) (o o' : Obj) : Bw w ((w.alloc o).alloc o').drew := (((Below.refl _ _).alloc (Nat.le_refl _) o).alloc (by simp) o').drew
theorem Bw.a3 (w : World) (o o' : Obj) : Bw w ((w.alloc o).drew.alloc o') := ((Bw.a1 w o).alloc (by show w.heap.size ≤ (w.alloc o).heap.size; simp) o')

theorem infoMark : (Tryz.prog.info? 144).map (fun i => (i.zero, i.size, i.bytes)) = some (some (.agg #[.int .i64 0, .int .i64 0]), 2, 16) := by kernel_rfl

/-- a mark is laid on the stack, at a step of a region that draws. -/
theorem step_mark {ops : Array Oper} {o : Oper} {a : Act} {K : Act → World → Prop} {Q : Exit → Act → World → Prop} {E : Prop} (hgd : o.guard = none) (s x : Operand)
    (ho : o.op = .call { callee := .builtin .append, args := #[s, x], argTypes := #[98, 98] }) {w0 w : World} {B p : Nat} {cs : List Value} {vW vM : Value} {out : List UInt8} {ms : List (Nat × Nat)} (m : Nat × Nat)
    (hP : PM w0 B p 100 144 cs vW vM out ms) (hB : B ≤ w0.heap.size) (hl : ms.length ≤ 1000) (hw : w = w0.alloc (.cells #[.int .i64 m.1, .int .i64 m.2] 144)) (hs : a.eval s = vM) (hx : a.eval x = .slice (some ⟨w0.heap.size, 0, none⟩) 1 1)
    (h : ∀ g cap w', PM w' B p 100 144 cs vW (.slice (some ⟨g, 0, none⟩) (ms.length + 1) cap) out (ms ++ [m]) → Chg B w0 w' → K (a.put o.dst (.slice (some ⟨g, 0, none⟩) (ms.length + 1) cap)) w') :
    if Region.wanted o (yielded ops a.tmps) = true then Oper.wp Tryz.prog o a w K Q else E := by
  subst hw
  obtain ⟨i0, hi, hz0, hz1, hz2⟩ := info_parts infoMark
  refine step_append_lies _ hgd s x 98 ho B 144 i0 (.agg #[.int .i64 0, .int .i64 0]) 2 16 Tryz.underlying98 hi hz0 hz1 hz2 rfl (by decide) vM ms.length (mf ms) hs (hP.alloc _).mks ⟨w0.heap.size, 0, none⟩ 1 1 [.int .i64 m.1, .int .i64 m.2] hx rfl ?_ (by simp [Value.oneCell']) (by decide) (by simp only [maxLen]; omega) (by omega) (by simp; omega) _ rfl ?_
  · intro j u hj
    have hN := BlkL.new w0 144 [.int .i64 m.1, .int .i64 m.2]
    have ha : (⟨w0.heap.size, 0, none⟩ : Addr).add j = ⟨w0.heap.size, j, none⟩ := by unfold Addr.add; by_cases h0 : j = 0 <;> simp [h0]
    rw [ha]
    exact (hN.cell j).trans hj
  · intro g cap w' hown hg _ _
    refine h g cap w' ?_ (((Chg.refl B w0).alloc _).trans ((hP.alloc _).chg_ms hg))
    refine (hP.alloc _).put_ms hg ?_
    rw [List.length_append, mf_append]
    exact hown
theorem PA.push {w : World} {B p : Nat} {W : Int} {s : Pr} {vW vM v' : Value} {ms' : List (Nat × Nat)} (h : PM w B p 100 144 (pcs W s vW vM) vW v' s.out ms') :
    PA (w.setCell ⟨p, 4, none⟩ v') B p W { s with ms := ms' } vW v' ∧ Chg B w (w.setCell ⟨p, 4, none⟩ v') := ⟨h.set 4 v', h.chg_set 4 v'⟩
set_option maxHeartbeats 400000 in
theorem top_eq (w : World) (p g n c : Nat) (x y : Nat) (hn0 : 0 < n) (hn : n ≤ 1000) (h4 : w.cell? ⟨p, 4, none⟩ = some (.slice (some ⟨g, 0, none⟩) n c)) (hx : w.cell? ⟨g, (n - 1) * 2, none⟩ = some (.int .i64 x)) (hy : w.cell? ⟨g, (n - 1) * 2 + 1, none⟩ = some (.int .i64 y)) :
    Calls Tryz.prog 145 #[.pointer (some ⟨p, 0, none⟩)] w fun e w' => e = .returned (.agg #[.int .i64 x, .int .i64 y]) ∧ w' = (w.alloc (.cells #[.int .i64 x, .int .i64 y] 144)).drew := by
  obtain ⟨k, rfl⟩ : ∃ k, n = k + 1 := ⟨n - 1, by omega⟩
  rw [Nat.add_sub_cancel] at hx hy
  have hp := World.block_lt_of_cell? _ _ h4
  have hg := World.block_lt_of_cell? _ _ hx
  simp only at hp hg
  go_enter Tryz.func145, Tryz.ntmps145
  go_wp2
  go_region
  go_wp2
  refine bodyPost_ret (v := .agg #[.int .i64 x, .int .i64 y]) (by simp [results, Tryz.results145, go_sem]) rfl ?_
  exact ⟨rfl, rfl⟩
theorem PA.top_eq {w : World} {B p : Nat} {W : Int} {s : Pr} {vW vM : Value} (h : PA w B p W s vW vM) (hs : s.Sm) :
    Calls Tryz.prog 145 #[.pointer (some ⟨p, 0, none⟩)] w fun e w' => e = .returned (.agg #[.int .i64 s.top.1, .int .i64 s.top.2]) ∧ w' = (w.alloc (.cells #[.int .i64 s.top.1, .int .i64 s.top.2] 144)).drew := by
  obtain ⟨g, c, rfl, hg, h0, hx, hy⟩ := h.last hs.ne
  exact Go.Proofs.YthjkgbcomjiejadGreatDoor.top_eq w p g _ c _ _ h0 hs.len h.cells.2.2.2.2.1 hx hy

set_option maxHeartbeats 4000000 in
set_option maxRecDepth 100000 in
theorem open_any {w : World} {B p : Nat} {W z : Int} {s : Pr} {t : Tk} {vW vM : Value} (h : PA w B p W s vW vM) (hs : s.Sm) (hB : B ≤ w.heap.size) (hW0 : 0 ≤ W) (hW1 : W ≤ 1000) (ho : 0 ≤ t.o) (ho1 : t.o ≤ 9) :
    Calls Tryz.prog 142 #[.pointer (some ⟨p, 0, none⟩), .agg #[.int .i64 t.k, .string t.s, .int .i64 t.d, .int .i64 t.o], .int .i64 z] w (PPost B p W w (.tuple #[]) (s.open W t z)) := by
  obtain ⟨i0, hi, hz0, hz1, hz2⟩ := info_parts infoMark
  have H := Lib.hid h
  have HS := Lib.hid hs
  have hmc := mk_col
  obtain ⟨c0, c1, c2, c3, c4, hp⟩ := h.cells
  have hcol := hs.col
  have hpend := hs.pend
  have hout := hs.out
  have x1 : IntKind.i64.wrap ((s.col : Int) + s.pend + t.o) = s.col + s.pend + t.o := IntWalk.i64_in _ (by omega)
  have HR := Lib.hid (show ∀ W, Bw w W → Calls Tryz.prog 171 #[.pointer (some ⟨p, 0, none⟩)] W fun e w' => e = .returned (.int .i64 (s.col + s.pend)) ∧ w' = W.drew from
    fun W hW => reach_eq W p s.col s.ln s.pend (by omega) (by omega) ((PM.below H.out hW).blk.cell 0) ((PM.below H.out hW).blk.cell 1))
  clear h hs
  go_enter Tryz.func142, Tryz.ntmps142
  go_wp2
  refine wp_at (A := ⟨#[.pointer (some ⟨p, 0, none⟩), .agg #[.int .i64 t.k, .string t.s, .int .i64 t.d, .int .i64 t.o], .int .i64 z, undef, .pointer (some ⟨w.heap.size, 0, none⟩), undef, .pointer (some ⟨w.heap.size + 1, 0, none⟩), .pointer (some ⟨p, 0, none⟩), .pointer (some ⟨p, 0, none⟩), .pointer (some ⟨p, 0, none⟩), .int .i64 (s.col + s.pend), .pointer (some ⟨w.heap.size, 3, none⟩), .int .i64 t.o, .int .i64 (s.col + s.pend + t.o), .agg #[.int .i64 2, .int .i64 (s.col + s.pend + t.o)], undef, undef, undef, undef, undef, undef, undef, undef, undef, undef, undef, undef, undef, undef, undef, undef, undef, undef, undef, undef, undef, undef, undef], []⟩) (V := ((w.alloc (.cells #[.int .i64 t.k, .string t.s, .int .i64 t.d, .int .i64 t.o] 38)).alloc (.cells #[.int .i64 2, .int .i64 (s.col + s.pend + t.o)] 144)).drew.drew) ?h ?k
  case h =>
    go_region_with (first | ((with_reducible refine (HR.out _ ?_).mono ?_); (first | exact Bw.a1 _ _ | exact Bw.a2 _ _ _ | exact Bw.a3 _ _ _); rintro e w2 ⟨rfl, rfl⟩))
    all_goals exact ⟨rfl, rfl⟩
  case k =>
    have hbw : Bw w ((w.alloc (.cells #[.int .i64 t.k, .string t.s, .int .i64 t.d, .int .i64 t.o] 38)).alloc (.cells #[.int .i64 2, .int .i64 (s.col + s.pend + t.o)] 144)).drew.drew := Below.drew (Bw.a2 _ _ _)
    have hsz : ((w.alloc (.cells #[.int .i64 t.k, .string t.s, .int .i64 t.d, .int .i64 t.o] 38)).alloc (.cells #[.int .i64 2, .int .i64 (s.col + s.pend + t.o)] 144)).drew.drew.heap.size = w.heap.size + 2 := by show ((w.alloc _).alloc _).heap.size = _; simp
    clear HR c0 c1 c2 c3 c4
    have hm0 : (((w.alloc (.cells #[.int .i64 t.k, .string t.s, .int .i64 t.d, .int .i64 t.o] 38)).alloc (.cells #[.int .i64 2, .int .i64 (s.col + s.pend + t.o)] 144)).drew.drew).heap[w.heap.size + 1]? = some (.cells #[.int .i64 2, .int .i64 (s.col + s.pend + t.o)] 144 (0, 0)) := by
      have := BlkL.new (w.alloc (.cells #[.int .i64 t.k, .string t.s, .int .i64 t.d, .int .i64 t.o] 38)) 144 [.int .i64 2, .int .i64 (s.col + s.pend + t.o)]
      rw [World.size_alloc] at this
      exact this
    have hd0 : (((w.alloc (.cells #[.int .i64 t.k, .string t.s, .int .i64 t.d, .int .i64 t.o] 38)).alloc (.cells #[.int .i64 2, .int .i64 (s.col + s.pend + t.o)] 144)).drew.drew).cell? ⟨w.heap.size, 2, none⟩ = some (.int .i64 t.d) := by
      have := (BlkL.new w 38 [.int .i64 t.k, .string t.s, .int .i64 t.d, .int .i64 t.o]).alloc (.cells #[.int .i64 2, .int .i64 (s.col + s.pend + t.o)] 144)
      exact (this.cell 2).trans rfl
    generalize ((w.alloc (.cells #[.int .i64 t.k, .string t.s, .int .i64 t.d, .int .i64 t.o] 38)).alloc (.cells #[.int .i64 2, .int .i64 (s.col + s.pend + t.o)] 144)).drew.drew = w1 at *
    have hm1 : BlkL w1 (w.heap.size + 1) 144 [.int .i64 2, .int .i64 (s.col + s.pend + t.o)] := hm0
    have HM1 := Lib.hid hm1
    have H1 := Lib.hid (PM.below H.out hbw)
    have HBW := Lib.hid hbw
    obtain ⟨c0, c1, c2, c3, c4, hp1⟩ := PA.cells H1.out
    clear hm0 hm1 hbw
    have e0 : w1.cell? ⟨w.heap.size + 1, 0, none⟩ = some (.int .i64 2) := (HM1.out.cell 0).trans rfl
    have e1 : w1.cell? ⟨w.heap.size + 1, 1, none⟩ = some (.int .i64 (s.col + s.pend + t.o)) := (HM1.out.cell 1).trans rfl
    have ef := HM1.out.frozen
    have hlen := HS.out.len
    have hpe : p ≠ w.heap.size + 1 := by omega
    have hep : w.heap.size + 1 ≠ p := by omega
    obtain ⟨cc, hcc⟩ : ∃ cc : Nat, (s.col : Int) + s.pend + t.o = cc := ⟨((s.col : Int) + s.pend + t.o).toNat, by omega⟩
    dsimp only
    cases hroom : s.room W z
    · by_cases ht : t.d = 1
      · have bt : (t.d == 1) = true := by rw [ht]; rfl
        have HO := Lib.hid (show s.open W t z = { s with ms := s.ms ++ [(1, cc)] } from by unfold Pr.open; rw [hroom, hcc]; simp [ht])
        clear ht
        go_wp2_with fail
        refine (hasRoom_eq _ p s.col s.ln s.pend W z (by omega) (by omega) hW0 hW1 c0 c1 c3).mono ?_
        rintro e w2 ⟨rfl, rfl⟩
        rw [show decide (z ≤ W - s.col - s.pend) = false from hroom]
        go_wp2
        have HB2 := Lib.hid (show Bw w (w1.setCell ⟨w.heap.size + 1, 0, none⟩ (.int .i64 1)).drew.drew from Below.drew (Below.drew (Below.setCell (p := ⟨w.heap.size + 1, 0, none⟩) HBW.out (by show w.heap.size ≤ w.heap.size + 1; omega) _)))
        have hm2 := HM1.out.set 0 (.int .i64 1)
        have m0 : (w1.setCell ⟨w.heap.size + 1, 0, none⟩ (.int .i64 1)).drew.drew.cell? ⟨w.heap.size + 1, 0, none⟩ = some (.int .i64 1) := (hm2.cell 0).trans rfl
        have m1 : (w1.setCell ⟨w.heap.size + 1, 0, none⟩ (.int .i64 1)).drew.drew.cell? ⟨w.heap.size + 1, 1, none⟩ = some (.int .i64 cc) := (hm2.cell 1).trans (by rw [← hcc]; rfl)
        have m2 : w.heap.size + 1 < (w1.setCell ⟨w.heap.size + 1, 0, none⟩ (.int .i64 1)).drew.drew.heap.size := hm2.lt
        clear hm2
        generalize (w1.setCell ⟨w.heap.size + 1, 0, none⟩ (.int .i64 1)).drew.drew = w2 at *
        have H2 := Lib.hid (PM.below H.out HB2.out)
        have d4 := (PA.cells H2.out).2.2.2.2.1
        have d6 := (PA.cells H2.out).2.2.2.2.2
        have hz2 : B ≤ w2.drew.heap.size := Nat.le_trans hB HB2.out.size
        clear c0 c1 c2 c3 c4 e0 e1 ef hsz hd0 hp1
        go_region_law (refine step_mark rfl _ _ rfl (w0 := w2.drew) (1, cc) (PM.drew H2.out) hz2 hlen rfl rfl rfl ?_; intro g cap w5 hq hc; have q4 := (PA.cells' hq).2.2.2.2.1; have q6 := (PA.cells' hq).2.2.2.2.2; have qf := PM.frz hq; have HQ := Lib.hid hq; have HC := Lib.hid hc; clear hq hc)
        all_goals
          obtain ⟨r1, r2⟩ := PA.push HQ.out
          refine bodyPost_end (results_none rfl _ _ _) rfl ?_
          rw [HO.out]
          exact ⟨rfl, (Chg.of_below HB2.out).trans ((Chg.drew (Chg.refl B w2)).trans (HC.out.trans r2)), _, _, r1⟩
      · have bt : (t.d == 1) = false := by simpa using ht
        have HO := Lib.hid (show s.open W t z = { s with ms := s.ms ++ [(2, cc)] } from by unfold Pr.open; rw [hroom, hcc]; simp [ht])
        clear ht
        go_wp2_with fail
        refine (hasRoom_eq _ p s.col s.ln s.pend W z (by omega) (by omega) hW0 hW1 c0 c1 c3).mono ?_
        rintro e w2 ⟨rfl, rfl⟩
        rw [show decide (z ≤ W - s.col - s.pend) = false from hroom]
        go_wp2
        have HB2 := Lib.hid (show Bw w w1.drew.drew from Below.drew (Below.drew HBW.out))
        have m0 : w1.drew.drew.cell? ⟨w.heap.size + 1, 0, none⟩ = some (.int .i64 2) := e0
        have m1 : w1.drew.drew.cell? ⟨w.heap.size + 1, 1, none⟩ = some (.int .i64 cc) := e1.trans (by rw [hcc])
        have m2 : w.heap.size + 1 < w1.drew.drew.heap.size := HM1.out.lt
        generalize w1.drew.drew = w2 at *
        have H2 := Lib.hid (PM.below H.out HB2.out)
        have d4 := (PA.cells H2.out).2.2.2.2.1
        have d6 := (PA.cells H2.out).2.2.2.2.2
        have hz2 : B ≤ w2.drew.heap.size := Nat.le_trans hB HB2.out.size
        clear c0 c1 c2 c3 c4 e0 e1 ef hsz hd0 hp1
        go_region_law (refine step_mark rfl _ _ rfl (w0 := w2.drew) (2, cc) (PM.drew H2.out) hz2 hlen rfl rfl rfl ?_; intro g cap w5 hq hc; have q4 := (PA.cells' hq).2.2.2.2.1; have q6 := (PA.cells' hq).2.2.2.2.2; have qf := PM.frz hq; have HQ := Lib.hid hq; have HC := Lib.hid hc; clear hq hc)
        all_goals
          obtain ⟨r1, r2⟩ := PA.push HQ.out
          refine bodyPost_end (results_none rfl _ _ _) rfl ?_
          rw [HO.out]
          exact ⟨rfl, (Chg.of_below HB2.out).trans ((Chg.drew (Chg.refl B w2)).trans (HC.out.trans r2)), _, _, r1⟩
    · have HO := Lib.hid (show s.open W t z = { s with ms := s.ms ++ [(0, s.top.2)] } from by unfold Pr.open; rw [hroom]; rfl)
      have H1D := Lib.hid (PM.drew (PM.drew H1.out))
      go_wp2_with fail
      refine (hasRoom_eq _ p s.col s.ln s.pend W z (by omega) (by omega) hW0 hW1 c0 c1 c3).mono ?_
      rintro e w2 ⟨rfl, rfl⟩
      rw [show decide (z ≤ W - s.col - s.pend) = true from hroom]
      go_wp2_with fail
      refine (PA.top_eq H1D.out HS.out).mono ?_
      rintro e w2 ⟨rfl, rfl⟩
      go_wp2
      have hm2 := ((HM1.out.set 0 (.int .i64 0)).set 1 (.int .i64 s.top.2)).alloc (.cells #[.int .i64 s.top.1, .int .i64 s.top.2] 144)
      have hl : w.heap.size ≤ w.heap.size + 1 := by omega
      have HB2 := Lib.hid (show Bw w (((w1.setCell ⟨w.heap.size + 1, 0, none⟩ (.int .i64 0)).setCell ⟨w.heap.size + 1, 1, none⟩ (.int .i64 s.top.2)).alloc (.cells #[.int .i64 s.top.1, .int .i64 s.top.2] 144)).drew.drew.drew from Below.drew (Below.drew (Below.drew (Below.alloc (Below.setCell (p := ⟨w.heap.size + 1, 1, none⟩) (Below.setCell (p := ⟨w.heap.size + 1, 0, none⟩) HBW.out hl _) hl _) (by simp [World.setCell]; omega) _))))
      have m0 : (((w1.setCell ⟨w.heap.size + 1, 0, none⟩ (.int .i64 0)).setCell ⟨w.heap.size + 1, 1, none⟩ (.int .i64 s.top.2)).alloc (.cells #[.int .i64 s.top.1, .int .i64 s.top.2] 144)).drew.drew.drew.cell? ⟨w.heap.size + 1, 0, none⟩ = some (.int .i64 0) := (hm2.cell 0).trans rfl
      have m1 : (((w1.setCell ⟨w.heap.size + 1, 0, none⟩ (.int .i64 0)).setCell ⟨w.heap.size + 1, 1, none⟩ (.int .i64 s.top.2)).alloc (.cells #[.int .i64 s.top.1, .int .i64 s.top.2] 144)).drew.drew.drew.cell? ⟨w.heap.size + 1, 1, none⟩ = some (.int .i64 s.top.2) := (hm2.cell 1).trans rfl
      have m2 : w.heap.size + 1 < (((w1.setCell ⟨w.heap.size + 1, 0, none⟩ (.int .i64 0)).setCell ⟨w.heap.size + 1, 1, none⟩ (.int .i64 s.top.2)).alloc (.cells #[.int .i64 s.top.1, .int .i64 s.top.2] 144)).drew.drew.drew.heap.size := hm2.lt
      clear hm2
      generalize (((w1.setCell ⟨w.heap.size + 1, 0, none⟩ (.int .i64 0)).setCell ⟨w.heap.size + 1, 1, none⟩ (.int .i64 s.top.2)).alloc (.cells #[.int .i64 s.top.1, .int .i64 s.top.2] 144)).drew.drew.drew = w2 at *
      have H2 := Lib.hid (PM.below H.out HB2.out)
      have d4 := (PA.cells H2.out).2.2.2.2.1
      have d6 := (PA.cells H2.out).2.2.2.2.2
      have hz2 : B ≤ w2.drew.heap.size := Nat.le_trans hB HB2.out.size
      clear c0 c1 c2 c3 c4 e0 e1 ef hsz hd0 hp1
      go_region_law (refine step_mark rfl _ _ rfl (w0 := w2.drew) (0, s.top.2) (PM.drew H2.out) hz2 hlen rfl rfl rfl ?_; intro g cap w5 hq hc; have q4 := (PA.cells' hq).2.2.2.2.1; have q6 := (PA.cells' hq).2.2.2.2.2; have qf := PM.frz hq; have HQ := Lib.hid hq; have HC := Lib.hid hc; clear hq hc)
      all_goals
        obtain ⟨r1, r2⟩ := PA.push HQ.out
        refine bodyPost_end (results_none rfl _ _ _) rfl ?_
        rw [HO.out]
        exact ⟨rfl, (Chg.of_below HB2.out).trans ((Chg.drew (Chg.refl B w2)).trans (HC.out.trans r2)), _, _, r1⟩
end Go.Proofs.YthjkgbcomjiejadGreatDoor
