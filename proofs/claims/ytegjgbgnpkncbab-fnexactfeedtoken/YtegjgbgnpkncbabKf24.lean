/-
  The laws' helpers over engines.
-/
import Derived.Test.YtegjgbgnpkncbabKf22
import Derived.Test.YtegjgbgnpkncbabKf23
namespace Go.Proofs.Ytegjgbgnpkncbab
open Go.RowKit
set_option linter.unusedVariables false

def ecs (e : En) (vm vi : Value) : List Value := [.int .i64 e.W, .int .i64 e.col, .int .i64 e.pend, vm, vi, .int .i64 e.tot, .int .i64 e.lev]
/-- an engine that can be read. -/
def EngR (w : World) (v : Value) (e : En) : Prop := ∃ A c A2 c2, v = ev e A c A2 c2 ∧ MS w A e.ms ∧ HS w A2 e.it
/-- an engine in memory of its own, from B on. -/
def EngO (w : World) (B : Nat) (v : Value) (e : En) : Prop :=
  ∃ A c A2 c2, v = ev e A c A2 c2 ∧ OR fm 121 w B (.slice A e.ms.length c) e.ms ∧ OR fh 80 w B (.slice A2 e.it.length c2) e.it
theorem EngR.below {w w' : World} {v : Value} {e : En} (h : EngR w v e) (hb : Below w.heap.size w w') : EngR w' v e := by
  obtain ⟨A, c, A2, c2, hv, h1, h2⟩ := h
  exact ⟨A, c, A2, c2, hv, RS.below h1 hb, RS.below h2 hb⟩
theorem EngO.below {w w' : World} {B : Nat} {v : Value} {e : En} (h : EngO w B v e) (hb : Below w.heap.size w w') : EngO w' B v e := by
  obtain ⟨A, c, A2, c2, hv, h1, h2⟩ := h
  exact ⟨A, c, A2, c2, hv, h1.below hb, h2.below hb⟩
theorem EngO.lowB {w : World} {B C : Nat} {v : Value} {e : En} (h : EngO w B v e) (hc : C ≤ B) : EngO w C v e := by
  obtain ⟨A, c, A2, c2, hv, h1, h2⟩ := h
  exact ⟨A, c, A2, c2, hv, h1.lowB hc, h2.lowB hc⟩
theorem EngO.r {w : World} {B : Nat} {v : Value} {e : En} (h : EngO w B v e) : EngR w v e := by
  obtain ⟨A, c, A2, c2, hv, h1, h2⟩ := h
  exact ⟨A, c, A2, c2, hv, h1.rs fm_len, h2.rs fh_len⟩
def szE (left : Int) (e : En) : Int := if left < (e.ms.length : Int) then -1 else szB (left - e.ms.length) (tks e.it)
theorem szB_cases (left : Int) (l : List Tk) : szB left l = -1 ∧ left < bulk l ∨ szB left l = left - bulk l ∧ (bulk l : Int) ≤ left := by
  unfold szB; split
  · exact .inl ⟨rfl, by omega⟩
  · exact .inr ⟨rfl, by omega⟩
theorem szE_cases (left : Int) (e : En) : szE left e = -1 ∨ szE left e = left - e.ms.length - bulk (tks e.it) ∧ (e.ms.length : Int) + bulk (tks e.it) ≤ left := by
  unfold szE; split
  · exact .inl rfl
  · rcases szB_cases (left - e.ms.length) (tks e.it) with ⟨h, _⟩ | ⟨h, h2⟩
    · exact .inl h
    · exact .inr ⟨h, by omega⟩
set_option maxHeartbeats 400000 in
set_option maxRecDepth 100000 in
theorem szEngine_any (e : En) (A : Option Addr) (c : Nat) (A2 : Option Addr) (c2 : Nat) (left : Int) (w : World) (h0 : 0 ≤ left) (h1 : left ≤ 1048576) (hm : e.ms.length ≤ maxLen) (hi : e.it.length ≤ maxLen) (hf : Fits (tks e.it)) (hs : HS w A2 e.it) :
    Calls Try.prog 23 #[.agg #[.int .i64 e.W, .int .i64 e.col, .int .i64 e.pend, .slice A e.ms.length c, .slice A2 e.it.length c2, .int .i64 e.tot, .int .i64 e.lev], .int .i64 left] w fun r w' => r = .returned (.int .i64 (szE left e)) ∧ Below w.heap.size w w' := by
  have hf2 := hf
  go_enter Try.func23, Try.ntmps23
  go_wp2_with fail
  have hN := BlkL.new w 39 (ecs e (.slice A e.ms.length c) (.slice A2 e.it.length c2))
  have hB0 := (Below.refl w.heap.size w).alloc (Nat.le_refl _) (.cells (ecs e (.slice A e.ms.length c) (.slice A2 e.it.length c2)).toArray 39)
  refine (szMarkS_any A _ c left _ hm h0 h1).mono ?_
  rintro r w1 ⟨rfl, hb1⟩
  have HB1 := Lib.hid (hB0.trans (hb1.mono hB0.size))
  have hN1 := hN.below hb1 hN.lt
  clear hN hB0 hb1
  have q4 : w1.cell? ⟨w.heap.size, 4, none⟩ = some (.slice A2 e.it.length c2) := (hN1.cell 4).trans rfl
  have ql := hN1.lt
  clear hN1
  by_cases hl : left < (e.ms.length : Int)
  · have hI := Lib.hid (show szE left e = -1 from if_pos hl)
    rw [show szM left e.ms.length = -1 from if_pos hl]
    go_wp2
    go_ret
    rw [hI.out]
    exact ⟨rfl, HB1.out⟩
  · have hI := Lib.hid (show szE left e = szB (left - e.ms.length) (tks e.it) from if_neg hl)
    rw [show szM left e.ms.length = left - e.ms.length from if_neg hl]
    have hd : decide (left - (e.ms.length : Int) < 0) = false := by simp; omega
    go_wp2_with fail
    refine (szHeldS_any A2 e.it _ c2 (left - e.ms.length) w1 rfl hi (by omega) (by omega) (RS.below hs HB1.out) hf2).mono ?_
    rintro r w2 ⟨rfl, hb2⟩
    have HB2 := Lib.hid (HB1.out.trans (hb2.mono HB1.out.size))
    clear hb2
    rcases szB_cases (left - e.ms.length) (tks e.it) with ⟨h, _⟩ | ⟨h, h2⟩
    · rw [h] at hI
      rw [h]
      go_wp2
      go_ret
      rw [hI.out]
      exact ⟨rfl, HB2.out⟩
    · rw [h] at hI
      rw [h]
      have hd : decide (left - (e.ms.length : Int) - (bulk (tks e.it) : Int) < 0) = false := by simp; omega
      go_wp2
      go_ret
      rw [hI.out]
      exact ⟨rfl, HB2.out⟩
set_option maxHeartbeats 400000 in
set_option maxRecDepth 100000 in
theorem toEngine_any (e : En) (A : Option Addr) (c : Nat) (A2 : Option Addr) (c2 : Nat) (w : World) (hm : e.ms.length ≤ 1048576) (hi : e.it.length ≤ 1048576) (h1 : MS w A e.ms) (h2 : HS w A2 e.it) :
    Calls Try.prog 26 #[.agg #[.int .i64 e.W, .int .i64 e.col, .int .i64 e.pend, .slice A e.ms.length c, .slice A2 e.it.length c2, .int .i64 e.tot, .int .i64 e.lev]] w fun r w' => ∃ v, r = .returned v ∧ EngO w' w.heap.size v e ∧ Below w.heap.size w w' := by
  have H1 := Lib.hid h1
  have H2 := Lib.hid h2
  clear h1 h2
  go_enter Try.func26, Try.ntmps26
  go_wp2_with fail
  have hX0 := BlkL.new w 39 (ecs e (.slice A e.ms.length c) (.slice A2 e.it.length c2))
  have hX1 := (hX0.alloc (.cells (ecs ⟨0, 0, 0, [], [], 0, 0⟩ (.slice none 0 0) (.slice none 0 0)).toArray 47)).alloc (.cells (ecs ⟨e.W, e.col, e.pend, [], [], 0, 0⟩ (.slice none 0 0) (.slice none 0 0)).toArray 47)
  have hY0 := BlkL.new (w.alloc (.cells (ecs e (.slice A e.ms.length c) (.slice A2 e.it.length c2)).toArray 39)) 47 (ecs ⟨0, 0, 0, [], [], 0, 0⟩ (.slice none 0 0) (.slice none 0 0))
  have hY1 := hY0.alloc (.cells (ecs ⟨e.W, e.col, e.pend, [], [], 0, 0⟩ (.slice none 0 0) (.slice none 0 0)).toArray 47)
  have hZ1 := BlkL.new ((w.alloc (.cells (ecs e (.slice A e.ms.length c) (.slice A2 e.it.length c2)).toArray 39)).alloc (.cells (ecs ⟨0, 0, 0, [], [], 0, 0⟩ (.slice none 0 0) (.slice none 0 0)).toArray 47)) 47 (ecs ⟨e.W, e.col, e.pend, [], [], 0, 0⟩ (.slice none 0 0) (.slice none 0 0))
  have hB1 := (((Below.refl w.heap.size w).alloc (Nat.le_refl _) (.cells (ecs e (.slice A e.ms.length c) (.slice A2 e.it.length c2)).toArray 39)).alloc (by simp) (.cells (ecs ⟨0, 0, 0, [], [], 0, 0⟩ (.slice none 0 0) (.slice none 0 0)).toArray 47)).alloc (by simp; omega) (.cells (ecs ⟨e.W, e.col, e.pend, [], [], 0, 0⟩ (.slice none 0 0) (.slice none 0 0)).toArray 47)
  rw [show (w.alloc (.cells (ecs e (.slice A e.ms.length c) (.slice A2 e.it.length c2)).toArray 39)).heap.size = w.heap.size + 1 by simp] at hY1
  rw [show ((w.alloc (.cells (ecs e (.slice A e.ms.length c) (.slice A2 e.it.length c2)).toArray 39)).alloc (.cells (ecs ⟨0, 0, 0, [], [], 0, 0⟩ (.slice none 0 0) (.slice none 0 0)).toArray 47)).heap.size = w.heap.size + 1 + 1 by simp] at hZ1
  clear hX0 hY0
  change Calls _ _ _ (((w.alloc (.cells (ecs e (.slice A e.ms.length c) (.slice A2 e.it.length c2)).toArray 39)).alloc (.cells (ecs ⟨0, 0, 0, [], [], 0, 0⟩ (.slice none 0 0) (.slice none 0 0)).toArray 47)).alloc (.cells (ecs ⟨e.W, e.col, e.pend, [], [], 0, 0⟩ (.slice none 0 0) (.slice none 0 0)).toArray 47)) _
  generalize ((w.alloc (.cells (ecs e (.slice A e.ms.length c) (.slice A2 e.it.length c2)).toArray 39)).alloc (.cells (ecs ⟨0, 0, 0, [], [], 0, 0⟩ (.slice none 0 0) (.slice none 0 0)).toArray 47)).alloc (.cells (ecs ⟨e.W, e.col, e.pend, [], [], 0, 0⟩ (.slice none 0 0) (.slice none 0 0)).toArray 47) = w1 at *
  refine (toMarkS_any A e.ms _ c w1 rfl hm (RS.below H1.out hB1)).mono ?_
  rintro r w2 ⟨rfl, hbm, hb2⟩
  have HB2 := Lib.hid (hB1.trans (hb2.mono hB1.size))
  have hX2 := hX1.below hb2 hX1.lt
  have hY2 := hY1.below hb2 hY1.lt
  have hZ2 := hZ1.below hb2 hZ1.lt
  have hlz : w.heap.size + 1 + 1 < w1.heap.size := hZ1.lt
  have hl2 := hb2.size
  clear hX1 hY1 hZ1 hb2 hB1
  generalize w1.heap.size = gm at *
  have x4 : w2.cell? ⟨w.heap.size, 4, none⟩ = some (.slice A2 e.it.length c2) := (hX2.cell 4).trans rfl
  have xl := hX2.lt
  have yl := hY2.lt
  have zl := hZ2.lt
  have z3 : w2.cell? ⟨w.heap.size + 1 + 1, 3, none⟩ = some (.slice none 0 0) := (hZ2.cell 3).trans rfl
  have zf := hZ2.frozen
  have HX := Lib.hid hX2
  have HY := Lib.hid hY2
  have HZ := Lib.hid hZ2
  have HM := Lib.hid hbm
  clear hX2 hY2 hZ2 hbm
  go_wp2_with fail
  have hb3 := HB2.out.setCell (p := ⟨w.heap.size + 1 + 1, 3, none⟩) (by show w.heap.size ≤ w.heap.size + 1 + 1; omega) (.slice (some ⟨gm, 0, none⟩) e.ms.length e.ms.length)
  have hX3 := HX.out.far (p := ⟨w.heap.size + 1 + 1, 3, none⟩) (by show w.heap.size ≠ w.heap.size + 1 + 1; omega) (.slice (some ⟨gm, 0, none⟩) e.ms.length e.ms.length)
  have hY3 := HY.out.far (p := ⟨w.heap.size + 1 + 1, 3, none⟩) (by show w.heap.size + 1 ≠ w.heap.size + 1 + 1; omega) (.slice (some ⟨gm, 0, none⟩) e.ms.length e.ms.length)
  have hM3 := HM.out.far (p := ⟨w.heap.size + 1 + 1, 3, none⟩) (by show gm ≠ w.heap.size + 1 + 1; omega) (.slice (some ⟨gm, 0, none⟩) e.ms.length e.ms.length)
  have hZ3 := HZ.out.set 3 (.slice (some ⟨gm, 0, none⟩) e.ms.length e.ms.length)
  generalize w2.setCell ⟨w.heap.size + 1 + 1, 3, none⟩ (.slice (some ⟨gm, 0, none⟩) e.ms.length e.ms.length) = w3 at *
  refine (toHeldS_any A2 e.it _ c2 w3 rfl hi (RS.below H2.out hb3)).mono ?_
  rintro r w4 ⟨rfl, hbh, hb4⟩
  have HB4 := Lib.hid (hb3.trans (hb4.mono hb3.size))
  have hX4 := hX3.below hb4 hX3.lt
  have hY4 := hY3.below hb4 hY3.lt
  have hZ4 := hZ3.below hb4 hZ3.lt
  have hM4 := hM3.below hb4 hM3.lt
  have hlm : gm < w3.heap.size := hM3.lt
  clear hX3 hY3 hZ3 hM3 hb4 hb3 x4 xl yl zl z3 zf HX HY HZ HM HB2
  generalize w3.heap.size = gi at *
  have x5 : w4.cell? ⟨w.heap.size, 5, none⟩ = some (.int .i64 e.tot) := (hX4.cell 5).trans rfl
  have x6 : w4.cell? ⟨w.heap.size, 6, none⟩ = some (.int .i64 e.lev) := (hX4.cell 6).trans rfl
  have z0 : w4.cell? ⟨w.heap.size + 1 + 1, 0, none⟩ = some (.int .i64 e.W) := (hZ4.cell 0).trans rfl
  have z1 : w4.cell? ⟨w.heap.size + 1 + 1, 1, none⟩ = some (.int .i64 e.col) := (hZ4.cell 1).trans rfl
  have z2 : w4.cell? ⟨w.heap.size + 1 + 1, 2, none⟩ = some (.int .i64 e.pend) := (hZ4.cell 2).trans rfl
  have z3 : w4.cell? ⟨w.heap.size + 1 + 1, 3, none⟩ = some (.slice (some ⟨gm, 0, none⟩) e.ms.length e.ms.length) := (hZ4.cell 3).trans rfl
  have z4 : w4.cell? ⟨w.heap.size + 1 + 1, 4, none⟩ = some (.slice none 0 0) := (hZ4.cell 4).trans rfl
  have z5 : w4.cell? ⟨w.heap.size + 1 + 1, 5, none⟩ = some (.int .i64 0) := (hZ4.cell 5).trans rfl
  have z6 : w4.cell? ⟨w.heap.size + 1 + 1, 6, none⟩ = some (.int .i64 0) := (hZ4.cell 6).trans rfl
  have y0 : w4.cell? ⟨w.heap.size + 1, 0, none⟩ = some (.int .i64 0) := (hY4.cell 0).trans rfl
  have y1 : w4.cell? ⟨w.heap.size + 1, 1, none⟩ = some (.int .i64 0) := (hY4.cell 1).trans rfl
  have y2 : w4.cell? ⟨w.heap.size + 1, 2, none⟩ = some (.int .i64 0) := (hY4.cell 2).trans rfl
  have y3 : w4.cell? ⟨w.heap.size + 1, 3, none⟩ = some (.slice none 0 0) := (hY4.cell 3).trans rfl
  have y4 : w4.cell? ⟨w.heap.size + 1, 4, none⟩ = some (.slice none 0 0) := (hY4.cell 4).trans rfl
  have y5 : w4.cell? ⟨w.heap.size + 1, 5, none⟩ = some (.int .i64 0) := (hY4.cell 5).trans rfl
  have y6 : w4.cell? ⟨w.heap.size + 1, 6, none⟩ = some (.int .i64 0) := (hY4.cell 6).trans rfl
  have zf := hZ4.frozen
  have yf := hY4.frozen
  have xl := hX4.lt
  have yl := hY4.lt
  have zl := hZ4.lt
  have HY := Lib.hid hY4
  have HM := Lib.hid hM4
  have HH := Lib.hid hbh
  clear hX4 hY4 hZ4 hM4 hbh
  go_wp2
  have hb5 := below_setN (B := w.heap.size) (a := w) (g := w.heap.size + 1) (by omega) (ecs e (.slice (some ⟨gm, 0, none⟩) e.ms.length e.ms.length) (.slice (some ⟨gi, 0, none⟩) e.it.length e.it.length)) _ 0 (below_setN (g := w.heap.size + 1 + 1) (by omega) [.slice (some ⟨gi, 0, none⟩) e.it.length e.it.length, .int .i64 e.tot, .int .i64 e.lev] _ 4 HB4.out)
  have hY5 := BlkL.setN (ecs e (.slice (some ⟨gm, 0, none⟩) e.ms.length e.ms.length) (.slice (some ⟨gi, 0, none⟩) e.it.length e.it.length)) _ _ 0 (BlkL.farN (g' := w.heap.size + 1 + 1) (by omega) [.slice (some ⟨gi, 0, none⟩) e.it.length e.it.length, .int .i64 e.tot, .int .i64 e.lev] _ 4 HY.out)
  have hM5 := BlkL.farN (g' := w.heap.size + 1) (by omega) (ecs e (.slice (some ⟨gm, 0, none⟩) e.ms.length e.ms.length) (.slice (some ⟨gi, 0, none⟩) e.it.length e.it.length)) _ 0 (BlkL.farN (g' := w.heap.size + 1 + 1) (by omega) [.slice (some ⟨gi, 0, none⟩) e.it.length e.it.length, .int .i64 e.tot, .int .i64 e.lev] _ 4 HM.out)
  have hH5 := BlkL.farN (g' := w.heap.size + 1) (by omega) (ecs e (.slice (some ⟨gm, 0, none⟩) e.ms.length e.ms.length) (.slice (some ⟨gi, 0, none⟩) e.it.length e.it.length)) _ 0 (BlkL.farN (g' := w.heap.size + 1 + 1) (by omega) [.slice (some ⟨gi, 0, none⟩) e.it.length e.it.length, .int .i64 e.tot, .int .i64 e.lev] _ 4 HH.out)
  change bodyPost _ _ _ _ _ (World.setN (World.setN w4 (w.heap.size + 1 + 1) 4 [.slice (some ⟨gi, 0, none⟩) e.it.length e.it.length, .int .i64 e.tot, .int .i64 e.lev]) (w.heap.size + 1) 0 (ecs e (.slice (some ⟨gm, 0, none⟩) e.ms.length e.ms.length) (.slice (some ⟨gi, 0, none⟩) e.it.length e.it.length)))
  generalize World.setN (World.setN w4 (w.heap.size + 1 + 1) 4 [.slice (some ⟨gi, 0, none⟩) e.it.length e.it.length, .int .i64 e.tot, .int .i64 e.lev]) (w.heap.size + 1) 0 (ecs e (.slice (some ⟨gm, 0, none⟩) e.ms.length e.ms.length) (.slice (some ⟨gi, 0, none⟩) e.it.length e.it.length)) = w5 at *
  have k0 : w5.cell? ⟨w.heap.size + 1, 0, none⟩ = some (.int .i64 e.W) := (hY5.cell 0).trans rfl
  have k1 : w5.cell? ⟨w.heap.size + 1, 1, none⟩ = some (.int .i64 e.col) := (hY5.cell 1).trans rfl
  have k2 : w5.cell? ⟨w.heap.size + 1, 2, none⟩ = some (.int .i64 e.pend) := (hY5.cell 2).trans rfl
  have k3 : w5.cell? ⟨w.heap.size + 1, 3, none⟩ = some (.slice (some ⟨gm, 0, none⟩) e.ms.length e.ms.length) := (hY5.cell 3).trans rfl
  have k4 : w5.cell? ⟨w.heap.size + 1, 4, none⟩ = some (.slice (some ⟨gi, 0, none⟩) e.it.length e.it.length) := (hY5.cell 4).trans rfl
  have k5 : w5.cell? ⟨w.heap.size + 1, 5, none⟩ = some (.int .i64 e.tot) := (hY5.cell 5).trans rfl
  have k6 : w5.cell? ⟨w.heap.size + 1, 6, none⟩ = some (.int .i64 e.lev) := (hY5.cell 6).trans rfl
  refine bodyPost_ret (v := ev e (some ⟨gm, 0, none⟩) e.ms.length (some ⟨gi, 0, none⟩) e.it.length) (by simp [results, Try.results26, go_sem, k0, k1, k2, k3, k4, k5, k6, ev]) rfl ⟨_, rfl, ?_, hb5⟩
  exact ⟨_, _, _, _, rfl, .of_blk (by omega) rfl hM5, .of_blk (by omega) rfl hH5⟩
end Go.Proofs.Ytegjgbgnpkncbab
