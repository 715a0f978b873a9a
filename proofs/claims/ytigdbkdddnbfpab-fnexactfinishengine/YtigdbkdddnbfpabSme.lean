/-
  sameEngine: an engine in new memory.
-/
import Derived.Test.YtigdbkdddnbfpabPrh
namespace Go.Proofs.Ytigdbkdddnbfpab
open Go.RowKit
set_option linter.unusedVariables false
set_option maxHeartbeats 1000000 in
set_option maxRecDepth 100000 in
theorem sameEngine_any (e : En) (A : Option Addr) (c : Nat) (A2 : Option Addr) (c2 : Nat) (w : World) (hm : e.ms.length ≤ 2097152) (hi : e.it.length ≤ 2097152) (h1 : MS w A e.ms) (h2 : HS w A2 e.it) :
    Calls Try.prog 37 #[.agg #[.int .i64 e.W, .int .i64 e.col, .int .i64 e.pend, .slice A e.ms.length c, .slice A2 e.it.length c2, .int .i64 e.tot, .int .i64 e.lev]] w fun r w' => ∃ v, r = .returned v ∧ EngO w' w.heap.size v e ∧ Below w.heap.size w w' := by
  have H1 := Lib.hid h1
  have H2 := Lib.hid h2
  clear h1 h2
  go_enter Try.func37, Try.ntmps37
  go_wp2_with fail
  have hX0 := BlkL.new w 33 (ecs e (.slice A e.ms.length c) (.slice A2 e.it.length c2))
  have hX1 := hX0.alloc (.cells (ecs ⟨0, 0, 0, [], [], 0, 0⟩ (.slice none 0 0) (.slice none 0 0)).toArray 33)
  have hY1 := BlkL.new (w.alloc (.cells (ecs e (.slice A e.ms.length c) (.slice A2 e.it.length c2)).toArray 33)) 33 (ecs ⟨0, 0, 0, [], [], 0, 0⟩ (.slice none 0 0) (.slice none 0 0))
  rw [show (w.alloc (.cells (ecs e (.slice A e.ms.length c) (.slice A2 e.it.length c2)).toArray 33)).heap.size = w.heap.size + 1 by simp] at hY1
  have hB1 := ((Below.refl w.heap.size w).alloc (Nat.le_refl _) (.cells (ecs e (.slice A e.ms.length c) (.slice A2 e.it.length c2)).toArray 33)).alloc (by simp) (.cells (ecs ⟨0, 0, 0, [], [], 0, 0⟩ (.slice none 0 0) (.slice none 0 0)).toArray 33)
  change Calls _ _ _ ((w.alloc (.cells (ecs e (.slice A e.ms.length c) (.slice A2 e.it.length c2)).toArray 33)).alloc (.cells (ecs ⟨0, 0, 0, [], [], 0, 0⟩ (.slice none 0 0) (.slice none 0 0)).toArray 33)) _
  generalize (w.alloc (.cells (ecs e (.slice A e.ms.length c) (.slice A2 e.it.length c2)).toArray 33)).alloc (.cells (ecs ⟨0, 0, 0, [], [], 0, 0⟩ (.slice none 0 0) (.slice none 0 0)).toArray 33) = w1 at *
  clear hX0
  refine (cloneM_any A e.ms _ c w1 rfl hm (RS.below H1.out hB1)).mono ?_
  rintro r w2 ⟨vM, rfl, hM2, hb2⟩
  obtain ⟨AM, cM, rfl⟩ := own_form hM2
  have HM2 := Lib.hid (own_low hM2 hB1.size)
  have hX2 := hX1.below hb2 hX1.lt
  have hY2 := hY1.below hb2 hY1.lt
  have HB2 := Lib.hid (hB1.trans (hb2.mono hB1.size))
  clear hM2 hb2 hX1 hY1 hB1
  have x3 : w2.cell? ⟨w.heap.size, 3, none⟩ = some (.slice A e.ms.length c) := (hX2.cell 3).trans rfl
  have x4 : w2.cell? ⟨w.heap.size, 4, none⟩ = some (.slice A2 e.it.length c2) := (hX2.cell 4).trans rfl
  have xf := hX2.frozen
  have xl := hX2.lt
  have HX2 := Lib.hid hX2
  have HY2 := Lib.hid hY2
  clear hX2 hY2
  go_wp2_with fail
  have hnM : (Value.slice AM e.ms.length cM).ownBlock ≠ some w.heap.size := own_blk HM2.out HX2.out (by decide)
  have hX3 := HX2.out.set 3 (.slice AM e.ms.length cM)
  have hY3 := HY2.out.far (p := ⟨w.heap.size, 3, none⟩) (by show w.heap.size + 1 ≠ w.heap.size; omega) (.slice AM e.ms.length cM)
  have hM3 := ownsRow_setCell_other (a := ⟨w.heap.size, 3, none⟩) HM2.out hnM (.slice AM e.ms.length cM)
  have hB3 := HB2.out.setCell (p := ⟨w.heap.size, 3, none⟩) (Nat.le_refl _) (.slice AM e.ms.length cM)
  clear x3 x4 xf xl HX2 HY2 HM2 HB2 hnM
  generalize w2.setCell ⟨w.heap.size, 3, none⟩ (.slice AM e.ms.length cM) = w3 at *
  refine (cloneH_any A2 e.it _ c2 w3 rfl hi (RS.below H2.out hB3)).mono ?_
  rintro r w4 ⟨vI, rfl, hI4, hb4⟩
  obtain ⟨AI, cI, rfl⟩ := own_form hI4
  have HI4 := Lib.hid (own_low hI4 hB3.size)
  have HM4 := Lib.hid (own_keep hM3 hb4)
  have hX4 := hX3.below hb4 hX3.lt
  have hY4 := hY3.below hb4 hY3.lt
  have HB4 := Lib.hid (hB3.trans (hb4.mono hB3.size))
  clear hI4 hb4 hX3 hY3 hM3 hB3
  have x0 : w4.cell? ⟨w.heap.size, 0, none⟩ = some (.int .i64 e.W) := (hX4.cell 0).trans rfl
  have x1 : w4.cell? ⟨w.heap.size, 1, none⟩ = some (.int .i64 e.col) := (hX4.cell 1).trans rfl
  have x2 : w4.cell? ⟨w.heap.size, 2, none⟩ = some (.int .i64 e.pend) := (hX4.cell 2).trans rfl
  have x3 : w4.cell? ⟨w.heap.size, 3, none⟩ = some (.slice AM e.ms.length cM) := (hX4.cell 3).trans rfl
  have x4 : w4.cell? ⟨w.heap.size, 4, none⟩ = some (.slice A2 e.it.length c2) := (hX4.cell 4).trans rfl
  have x5 : w4.cell? ⟨w.heap.size, 5, none⟩ = some (.int .i64 e.tot) := (hX4.cell 5).trans rfl
  have x6 : w4.cell? ⟨w.heap.size, 6, none⟩ = some (.int .i64 e.lev) := (hX4.cell 6).trans rfl
  have y0 : w4.cell? ⟨w.heap.size + 1, 0, none⟩ = some (.int .i64 0) := (hY4.cell 0).trans rfl
  have y1 : w4.cell? ⟨w.heap.size + 1, 1, none⟩ = some (.int .i64 0) := (hY4.cell 1).trans rfl
  have y2 : w4.cell? ⟨w.heap.size + 1, 2, none⟩ = some (.int .i64 0) := (hY4.cell 2).trans rfl
  have y3 : w4.cell? ⟨w.heap.size + 1, 3, none⟩ = some (.slice none 0 0) := (hY4.cell 3).trans rfl
  have y4 : w4.cell? ⟨w.heap.size + 1, 4, none⟩ = some (.slice none 0 0) := (hY4.cell 4).trans rfl
  have y5 : w4.cell? ⟨w.heap.size + 1, 5, none⟩ = some (.int .i64 0) := (hY4.cell 5).trans rfl
  have y6 : w4.cell? ⟨w.heap.size + 1, 6, none⟩ = some (.int .i64 0) := (hY4.cell 6).trans rfl
  have xf := hX4.frozen
  have yf := hY4.frozen
  have xl := hX4.lt
  have yl := hY4.lt
  have HX4 := Lib.hid hX4
  have HY4 := Lib.hid hY4
  clear hX4 hY4
  go_wp2
  have hnM : (Value.slice AM e.ms.length cM).ownBlock ≠ some w.heap.size := own_blk HM4.out HX4.out (by decide)
  have hnM' : (Value.slice AM e.ms.length cM).ownBlock ≠ some (w.heap.size + 1) := own_blk HM4.out HY4.out (by decide)
  have hnI : (Value.slice AI e.it.length cI).ownBlock ≠ some w.heap.size := own_blk HI4.out HX4.out (by decide)
  have hnI' : (Value.slice AI e.it.length cI).ownBlock ≠ some (w.heap.size + 1) := own_blk HI4.out HY4.out (by decide)
  have hb5 := below_setN (B := w.heap.size) (a := w) (g := w.heap.size + 1) (by omega) (ecs e (.slice AM e.ms.length cM) (.slice AI e.it.length cI)) _ 0 (HB4.out.setCell (p := ⟨w.heap.size, 4, none⟩) (Nat.le_refl _) (.slice AI e.it.length cI))
  have hY5 := BlkL.setN (ecs e (.slice AM e.ms.length cM) (.slice AI e.it.length cI)) _ _ 0 (HY4.out.far (p := ⟨w.heap.size, 4, none⟩) (by show w.heap.size + 1 ≠ w.heap.size; omega) (.slice AI e.it.length cI))
  have hM5 := own_setN hnM' (ecs e (.slice AM e.ms.length cM) (.slice AI e.it.length cI)) _ 0 (ownsRow_setCell_other (a := ⟨w.heap.size, 4, none⟩) HM4.out hnM (.slice AI e.it.length cI))
  have hI5 := own_setN hnI' (ecs e (.slice AM e.ms.length cM) (.slice AI e.it.length cI)) _ 0 (ownsRow_setCell_other (a := ⟨w.heap.size, 4, none⟩) HI4.out hnI (.slice AI e.it.length cI))
  clear x0 x1 x2 x3 x4 x5 x6 y0 y1 y2 y3 y4 y5 y6 xf yf xl yl
  change bodyPost _ _ _ _ _ (World.setN (w4.setCell ⟨w.heap.size, 4, none⟩ (.slice AI e.it.length cI)) (w.heap.size + 1) 0 (ecs e (.slice AM e.ms.length cM) (.slice AI e.it.length cI)))
  generalize World.setN (w4.setCell ⟨w.heap.size, 4, none⟩ (.slice AI e.it.length cI)) (w.heap.size + 1) 0 (ecs e (.slice AM e.ms.length cM) (.slice AI e.it.length cI)) = w5 at *
  have k0 : w5.cell? ⟨w.heap.size + 1, 0, none⟩ = some (.int .i64 e.W) := (hY5.cell 0).trans rfl
  have k1 : w5.cell? ⟨w.heap.size + 1, 1, none⟩ = some (.int .i64 e.col) := (hY5.cell 1).trans rfl
  have k2 : w5.cell? ⟨w.heap.size + 1, 2, none⟩ = some (.int .i64 e.pend) := (hY5.cell 2).trans rfl
  have k3 : w5.cell? ⟨w.heap.size + 1, 3, none⟩ = some (.slice AM e.ms.length cM) := (hY5.cell 3).trans rfl
  have k4 : w5.cell? ⟨w.heap.size + 1, 4, none⟩ = some (.slice AI e.it.length cI) := (hY5.cell 4).trans rfl
  have k5 : w5.cell? ⟨w.heap.size + 1, 5, none⟩ = some (.int .i64 e.tot) := (hY5.cell 5).trans rfl
  have k6 : w5.cell? ⟨w.heap.size + 1, 6, none⟩ = some (.int .i64 e.lev) := (hY5.cell 6).trans rfl
  refine bodyPost_ret (v := ev e AM cM AI cI) (by simp [results, Try.results37, go_sem, k0, k1, k2, k3, k4, k5, k6, ev]) rfl ⟨_, rfl, ?_, hb5⟩
  exact ⟨_, _, _, _, rfl, OR.of_own fm_len rfl hM5, OR.of_own fh_len rfl hI5⟩
end Go.Proofs.Ytigdbkdddnbfpab
