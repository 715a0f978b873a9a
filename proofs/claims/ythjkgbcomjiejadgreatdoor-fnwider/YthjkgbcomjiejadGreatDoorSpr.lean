/-
  The model's printer: a token is put.
-/
import Derived.Test.YthjkgbcomjiejadGreatDoorPro
namespace Go.Proofs.YthjkgbcomjiejadGreatDoor
open Go.RowKit
set_option linter.unusedVariables false

/-- the fields of the model's printer. -/
def qcs (W : Int) (s : Pr) (vW vM : Value) : List Value := [.int .i64 W, .int .i64 s.col, .int .i64 s.pend, vM, vW]
def QA (w : World) (B p : Nat) (W : Int) (s : Pr) (vW vM : Value) : Prop := PM w B p 186 248 (qcs W s vW vM) vW vM s.out s.ms
theorem QA.cells' {w : World} {B p : Nat} {W : Int} {s : Pr} {vW vM vW' vM' : Value} {out : List UInt8} {ms : List (Nat × Nat)} (h : PM w B p 186 248 (qcs W s vW vM) vW' vM' out ms) : w.cell? ⟨p, 0, none⟩ = some (.int .i64 W) ∧ w.cell? ⟨p, 1, none⟩ = some (.int .i64 s.col) ∧ w.cell? ⟨p, 2, none⟩ = some (.int .i64 s.pend) ∧ w.cell? ⟨p, 3, none⟩ = some vM ∧ w.cell? ⟨p, 4, none⟩ = some vW ∧ p < w.heap.size :=
  ⟨(h.blk.cell 0).trans rfl, (h.blk.cell 1).trans rfl, (h.blk.cell 2).trans rfl, (h.blk.cell 3).trans rfl, (h.blk.cell 4).trans rfl, h.blk.lt⟩
theorem QA.cells {w : World} {B p : Nat} {W : Int} {s : Pr} {vW vM : Value} (h : QA w B p W s vW vM) : w.cell? ⟨p, 0, none⟩ = some (.int .i64 W) ∧ w.cell? ⟨p, 1, none⟩ = some (.int .i64 s.col) ∧ w.cell? ⟨p, 2, none⟩ = some (.int .i64 s.pend) ∧ w.cell? ⟨p, 3, none⟩ = some vM ∧ w.cell? ⟨p, 4, none⟩ = some vW ∧ p < w.heap.size := QA.cells' h
theorem QA.last {w : World} {B p : Nat} {W : Int} {s : Pr} {vW vM : Value} (h : QA w B p W s vW vM) (hn : s.ms ≠ []) : ∃ g c, vM = .slice (some ⟨g, 0, none⟩) s.ms.length c ∧ g < w.heap.size ∧ 0 < s.ms.length ∧
    w.cell? ⟨g, (s.ms.length - 1) * 2, none⟩ = some (.int .i64 s.top.1) ∧ w.cell? ⟨g, (s.ms.length - 1) * 2 + 1, none⟩ = some (.int .i64 s.top.2) :=
  PM.last h hn (by unfold Pr.top; rw [List.getLast?_eq_some_getLast hn]; rfl)

set_option maxHeartbeats 400000 in
theorem sRoom_any {w : World} {B p : Nat} {W z : Int} {s : Pr} {vW vM : Value} (h : QA w B p W s vW vM) (hs : s.Sm) (hW0 : 0 ≤ W) (hW1 : W ≤ 1000) :
    Calls Tryz.prog 194 #[.pointer (some ⟨p, 0, none⟩), .int .i64 z] w fun e w' => e = .returned (.bool (s.room W z)) ∧ w' = w.drew := by
  obtain ⟨c0, c1, c2, c3, c4, hp⟩ := h.cells
  have hcol := hs.col
  have hpend := hs.pend
  clear h hs
  go_enter Tryz.func194, Tryz.ntmps194
  go_wp2
  go_region
  go_wp2
  go_ret
  exact ⟨rfl, rfl⟩

theorem QA.nl {w : World} {B p : Nat} {W : Int} {s : Pr} {vW vM v' : Value} (h : PM w B p 186 248 (qcs W s vW vM) v' vM (s.out ++ [10]) s.ms) :
    QA ((w.setCell ⟨p, 4, none⟩ v').setCell ⟨p, 1, none⟩ (.int .i64 0)) B p W { s with ln := s.ln + 1, col := 0, out := s.out ++ [10] } v' vM ∧ Chg B w ((w.setCell ⟨p, 4, none⟩ v').setCell ⟨p, 1, none⟩ (.int .i64 0)) :=
  ⟨(h.set 4 v').set 1 (.int .i64 0), (h.chg_set 4 _).trans ((h.set 4 _).chg_set 1 _)⟩
theorem QA.pend {w : World} {B p n : Nat} {W : Int} {s : Pr} {vW vM : Value} (h : QA w B p W s vW vM) :
    QA (w.setCell ⟨p, 2, none⟩ (.int .i64 n)) B p W { s with pend := n } vW vM ∧ Chg B w (w.setCell ⟨p, 2, none⟩ (.int .i64 n)) := ⟨PM.set h 2 _, PM.chg_set h 2 _⟩
theorem QA.pend2 {w : World} {B p : Nat} {x : Int} {W : Int} {s : Pr} {vW vM : Value} (h : QA w B p W s vW vM) :
    QA ((w.setCell ⟨p, 2, none⟩ (.int .i64 x)).setCell ⟨p, 2, none⟩ (.int .i64 0)) B p W { s with pend := 0 } vW vM ∧ Chg B w ((w.setCell ⟨p, 2, none⟩ (.int .i64 x)).setCell ⟨p, 2, none⟩ (.int .i64 0)) :=
  ⟨(PM.set h 2 (.int .i64 x)).set 2 (.int .i64 0), (PM.chg_set h 2 _).trans ((PM.set h 2 _).chg_set 2 _)⟩

set_option maxHeartbeats 1000000 in
set_option maxRecDepth 100000 in
theorem sBreak_any {w : World} {B p : Nat} {W o : Int} {s : Pr} {vW vM : Value} (h : QA w B p W s vW vM) (hs : s.Sm) (hB : B ≤ w.heap.size) (ho : -9 ≤ o) (ho1 : o ≤ 9) :
    Calls Tryz.prog 195 #[.pointer (some ⟨p, 0, none⟩), .int .i64 o] w fun e w' => e = .returned (.tuple #[]) ∧ Chg B w w' ∧ ∃ vW vM, QA w' B p W (s.brk o) vW vM := by
  obtain ⟨i0, hi, hz0, hz1, hz2⟩ := info_parts infoByte
  obtain ⟨c0, c1, c2, c3, c4, hp⟩ := h.cells
  have H := Lib.hid h
  have HS := Lib.hid hs
  have hout := hs.out
  clear h hs
  go_enter Tryz.func195, Tryz.ntmps195
  go_wp2_with (at_builtin; refine wpList_append_own_at _ rfl _ _ 22 rfl B 5 i0 (.int .u8 0) 1 1 Tryz.underlying22 hi hz0 hz1 hz2 rfl (by decide) vW _ _ rfl (PM.alloc H.out _).own ⟨w.heap.size, 0, none⟩ 1 1 [.int .u8 10] rfl rfl (cell_one_new _ _ _) (by simp [Value.oneCell']) (by simp only [maxLen]; omega) (by omega) (by simp; omega) ?_)
  intro v' w3 hown3 hgrow3 _ _
  obtain ⟨A3, n3, rfl, _⟩ := own_slice1 hown3
  have hq := PM.byte (b := 10) H.out hgrow3 hown3
  have HC3 := Lib.hid (PM.chg_out (PM.alloc H.out _) hgrow3)
  obtain ⟨d0, d1, d2, d3, d4, hp3⟩ := QA.cells' hq
  have d5 := PM.frz hq
  have HQ := Lib.hid hq
  clear hq hgrow3 hown3 c0 c1 c2 c3 c4
  go_wp2
  obtain ⟨r1, r2⟩ := QA.nl HQ.out
  have HC4 := Lib.hid (((Chg.refl B w).alloc _).trans (HC3.out.trans r2))
  clear r2 HC3 HQ d0 d1 d2 d3 d4 d5 hp3
  generalize (w3.setCell ⟨p, 4, none⟩ (Value.slice A3 (s.out.length + 1) n3)).setCell ⟨p, 1, none⟩ (.int .i64 0) = w4 at *
  obtain ⟨g, c, rfl, hg, h0, hx, hy⟩ := QA.last r1 HS.out.ne
  obtain ⟨d0, d1, d2, d3, d4, hp4⟩ := r1.cells
  have d5 := PM.frz r1
  have hlen := HS.out.len
  have htop := HS.out.top
  have HR := Lib.hid r1
  obtain ⟨n, hn⟩ : ∃ n, s.ms.length = n + 1 := ⟨s.ms.length - 1, by simp only at h0; omega⟩
  simp only [hn, Nat.add_sub_cancel] at hx hy d3 hlen
  change w4.cell? _ = some (.int .i64 s.top.1) at hx
  change w4.cell? _ = some (.int .i64 s.top.2) at hy
  clear r1 hn h0
  have HSB := Lib.hid (show ∀ x : Nat, x = ((s.top.2 : Int) + o).toNat → { ({ s with ln := s.ln + 1, col := 0, out := s.out ++ [10] } : Pr) with pend := x } = s.brk o from fun x hx => by subst hx; rfl)
  by_cases hpos : (s.top.2 : Int) + o < 0
  · go_region
    go_wp2
    obtain ⟨r1, r2⟩ := QA.pend2 (x := (s.top.2 : Int) + o) HR.out
    refine bodyPost_end (results_none rfl _ _ _) rfl ?_
    exact ⟨rfl, (HC4.out.trans r2).drew, _, _, PM.drew (HSB.out 0 (by omega) ▸ r1)⟩
  · obtain ⟨x, hx'⟩ : ∃ x : Nat, (s.top.2 : Int) + o = x := ⟨((s.top.2 : Int) + o).toNat, by omega⟩
    go_region
    go_wp2
    obtain ⟨r1, r2⟩ := QA.pend (n := x) HR.out
    refine bodyPost_end (results_none rfl _ _ _) rfl ?_
    exact ⟨rfl, (HC4.out.trans r2).drew, _, _, PM.drew (HSB.out x (by omega) ▸ r1)⟩
end Go.Proofs.YthjkgbcomjiejadGreatDoor
