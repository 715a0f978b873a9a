/-
  The law FnExactNewEngine returns true at every argument: NewEngine answers as its model does and its answer owns its memory.
  Conditions: none beyond the row's own; whatever the arguments.
-/
import Derived.Test.YtnppemiophggfaaAen
namespace Go.Proofs.Ytnppemiophggfaa.fnExactNewEngine
open Go.ChangeShapes Go.WideShapes Go.ChangeAt Go.RowKit Go.Joins
set_option linter.unusedVariables false

set_option maxHeartbeats 4000000 in
set_option maxRecDepth 100000 in
theorem law (W : Int) (w : World) :
    Calls Try.prog 3 #[.int .i64 W] w fun e w' => e = .returned (.bool true) ∧ Below w.heap.size w w' := by
  have bm := newE_ms W
  have bi := newE_it W
  have hbb : (inB W 1 200 == inB W 1 200) = true := by simp
  go_enter Try.func3, Try.ntmps3
  have HBw := Lib.hid (Below.refl w.heap.size w)
  go_wp2_with fail
  refine (sNewEngine_any W _).mono ?_
  rintro r w1 ⟨v, rfl, ho, hb⟩
  have szw1 := hb.size
  have HBw := Lib.hid (HBw.out.trans (hb.mono HBw.out.size))
  clear hb
  obtain ⟨u0, u1, u2, uS, un, uc, uT, um, ud, u5, u6, rfl⟩ := EngO.shape ho
  have HU := Lib.hid (EngO.r ho)
  clear ho
  have HBu := Lib.hid (Below.refl w1.heap.size w1)
  go_wp2_with fail
  have bxu := BlkL.new w1 25 [.int .i64 u0, .int .i64 u1, .int .i64 u2, .slice uS un uc, .slice uT um ud, .int .i64 u5, .int .i64 u6]
  have HBw := Lib.hid (HBw.out.alloc (by have := HBw.out.size; omega) (.cells #[.int .i64 u0, .int .i64 u1, .int .i64 u2, .slice uS un uc, .slice uT um ud, .int .i64 u5, .int .i64 u6] 25))
  have HBu := Lib.hid (HBu.out.alloc (by have := HBu.out.size; omega) (.cells #[.int .i64 u0, .int .i64 u1, .int .i64 u2, .slice uS un uc, .slice uT um ud, .int .i64 u5, .int .i64 u6] 25))
  have hzw2 : (w1.alloc (.cells #[.int .i64 u0, .int .i64 u1, .int .i64 u2, .slice uS un uc, .slice uT um ud, .int .i64 u5, .int .i64 u6] 25)).heap.size = w1.heap.size + 1 := by simp
  generalize w1.alloc (.cells #[.int .i64 u0, .int .i64 u1, .int .i64 u2, .slice uS un uc, .slice uT um ud, .int .i64 u5, .int .i64 u6] 25) = w2 at *
  have lew := HBw.out.size
  have leu := HBu.out.size
  refine (NewEngine_any W _).mono ?_
  rintro r w3 ⟨v, rfl, ho, hb⟩
  have szw3 := hb.size
  have bxu := bxu.below hb bxu.lt
  have HBw := Lib.hid (HBw.out.trans (hb.mono HBw.out.size))
  have HBu := Lib.hid (HBu.out.trans (hb.mono HBu.out.size))
  clear hb
  obtain ⟨g0, g1, g2, gS, gn, gc, gT, gm, gd, g5, g6, rfl⟩ := EngO.shape ho
  have HG := Lib.hid ho
  clear ho
  have HBg := Lib.hid (Below.refl w3.heap.size w3)
  have qu0 : w3.cell? ⟨w1.heap.size, 0, none⟩ = some (.int .i64 u0) := (bxu.cell 0).trans rfl
  have qu1 : w3.cell? ⟨w1.heap.size, 1, none⟩ = some (.int .i64 u1) := (bxu.cell 1).trans rfl
  have qu2 : w3.cell? ⟨w1.heap.size, 2, none⟩ = some (.int .i64 u2) := (bxu.cell 2).trans rfl
  have qu3 : w3.cell? ⟨w1.heap.size, 3, none⟩ = some (.slice uS un uc) := (bxu.cell 3).trans rfl
  have qu4 : w3.cell? ⟨w1.heap.size, 4, none⟩ = some (.slice uT um ud) := (bxu.cell 4).trans rfl
  have qu5 : w3.cell? ⟨w1.heap.size, 5, none⟩ = some (.int .i64 u5) := (bxu.cell 5).trans rfl
  have qu6 : w3.cell? ⟨w1.heap.size, 6, none⟩ = some (.int .i64 u6) := (bxu.cell 6).trans rfl
  have qlu := bxu.lt
  have HXu := Lib.hid bxu
  clear bxu
  go_wp2_with fail
  have bxu := HXu.out
  clear qu0 qu1 qu2 qu3 qu4 qu5 qu6 qlu HXu
  have bxg := BlkL.new w3 25 [.int .i64 g0, .int .i64 g1, .int .i64 g2, .slice gS gn gc, .slice gT gm gd, .int .i64 g5, .int .i64 g6]
  have bxu := bxu.alloc (.cells #[.int .i64 g0, .int .i64 g1, .int .i64 g2, .slice gS gn gc, .slice gT gm gd, .int .i64 g5, .int .i64 g6] 25)
  have HBw := Lib.hid (HBw.out.alloc (by have := HBw.out.size; omega) (.cells #[.int .i64 g0, .int .i64 g1, .int .i64 g2, .slice gS gn gc, .slice gT gm gd, .int .i64 g5, .int .i64 g6] 25))
  have HBu := Lib.hid (HBu.out.alloc (by have := HBu.out.size; omega) (.cells #[.int .i64 g0, .int .i64 g1, .int .i64 g2, .slice gS gn gc, .slice gT gm gd, .int .i64 g5, .int .i64 g6] 25))
  have HBg := Lib.hid (HBg.out.alloc (by have := HBg.out.size; omega) (.cells #[.int .i64 g0, .int .i64 g1, .int .i64 g2, .slice gS gn gc, .slice gT gm gd, .int .i64 g5, .int .i64 g6] 25))
  have hzw4 : (w3.alloc (.cells #[.int .i64 g0, .int .i64 g1, .int .i64 g2, .slice gS gn gc, .slice gT gm gd, .int .i64 g5, .int .i64 g6] 25)).heap.size = w3.heap.size + 1 := by simp
  generalize w3.alloc (.cells #[.int .i64 g0, .int .i64 g1, .int .i64 g2, .slice gS gn gc, .slice gT gm gd, .int .i64 g5, .int .i64 g6] 25) = w4 at *
  refine (eqEngine_same (newE W) (.agg #[.int .i64 g0, .int .i64 g1, .int .i64 g2, .slice gS gn gc, .slice gT gm gd, .int .i64 g5, .int .i64 g6]) (.agg #[.int .i64 u0, .int .i64 u1, .int .i64 u2, .slice uS un uc, .slice uT um ud, .int .i64 u5, .int .i64 u6]) _ bm bi ((EngO.r HG.out).below HBg.out) (HU.out.below HBu.out)).mono ?_
  rintro r w5 ⟨rfl, hb⟩
  have szw5 := hb.size
  have bxu := bxu.below hb bxu.lt
  have bxg := bxg.below hb bxg.lt
  have HBw := Lib.hid (HBw.out.trans (hb.mono HBw.out.size))
  have HBu := Lib.hid (HBu.out.trans (hb.mono HBu.out.size))
  have HBg := Lib.hid (HBg.out.trans (hb.mono HBg.out.size))
  clear hb
  have qu0 : w5.cell? ⟨w1.heap.size, 0, none⟩ = some (.int .i64 u0) := (bxu.cell 0).trans rfl
  have qu1 : w5.cell? ⟨w1.heap.size, 1, none⟩ = some (.int .i64 u1) := (bxu.cell 1).trans rfl
  have qu2 : w5.cell? ⟨w1.heap.size, 2, none⟩ = some (.int .i64 u2) := (bxu.cell 2).trans rfl
  have qu3 : w5.cell? ⟨w1.heap.size, 3, none⟩ = some (.slice uS un uc) := (bxu.cell 3).trans rfl
  have qu4 : w5.cell? ⟨w1.heap.size, 4, none⟩ = some (.slice uT um ud) := (bxu.cell 4).trans rfl
  have qu5 : w5.cell? ⟨w1.heap.size, 5, none⟩ = some (.int .i64 u5) := (bxu.cell 5).trans rfl
  have qu6 : w5.cell? ⟨w1.heap.size, 6, none⟩ = some (.int .i64 u6) := (bxu.cell 6).trans rfl
  have qlu := bxu.lt
  have HXu := Lib.hid bxu
  clear bxu
  have qg0 : w5.cell? ⟨w3.heap.size, 0, none⟩ = some (.int .i64 g0) := (bxg.cell 0).trans rfl
  have qg1 : w5.cell? ⟨w3.heap.size, 1, none⟩ = some (.int .i64 g1) := (bxg.cell 1).trans rfl
  have qg2 : w5.cell? ⟨w3.heap.size, 2, none⟩ = some (.int .i64 g2) := (bxg.cell 2).trans rfl
  have qg3 : w5.cell? ⟨w3.heap.size, 3, none⟩ = some (.slice gS gn gc) := (bxg.cell 3).trans rfl
  have qg4 : w5.cell? ⟨w3.heap.size, 4, none⟩ = some (.slice gT gm gd) := (bxg.cell 4).trans rfl
  have qg5 : w5.cell? ⟨w3.heap.size, 5, none⟩ = some (.int .i64 g5) := (bxg.cell 5).trans rfl
  have qg6 : w5.cell? ⟨w3.heap.size, 6, none⟩ = some (.int .i64 g6) := (bxg.cell 6).trans rfl
  have qlg := bxg.lt
  have HXg := Lib.hid bxg
  clear bxg
  go_wp2_with fail
  have bxu := HXu.out
  clear qu0 qu1 qu2 qu3 qu4 qu5 qu6 qlu HXu
  have bxg := HXg.out
  clear qg0 qg1 qg2 qg3 qg4 qg5 qg6 qlg HXg
  refine (markEngine_any (newE W) (.agg #[.int .i64 g0, .int .i64 g1, .int .i64 g2, .slice gS gn gc, .slice gT gm gd, .int .i64 g5, .int .i64 g6]) w2.heap.size 1 _ (by omega) bm bi (by omega) (by omega) (EngO.below HG.out HBg.out)).mono ?_
  rintro r w6 ⟨rfl, ho, hb, ht⟩
  have szw6 := hb.size
  have bxu : BlkL w6 w1.heap.size 25 _ := (ht _ _ _ _ bxu (by decide) (by decide)).trans bxu
  have bxg : BlkL w6 w3.heap.size 25 _ := (ht _ _ _ _ bxg (by decide) (by decide)).trans bxg
  have HBw := Lib.hid (HBw.out.trans (hb.mono (by omega)))
  have HBu := Lib.hid (HBu.out.trans (hb.mono (by omega)))
  clear hb ht
  have HM := Lib.hid (EngO.r ho)
  clear ho HG
  have HBm := Lib.hid (Below.refl w6.heap.size w6)
  have hd0 : decide ((1 : Int) + 2 * ((newE W).ms.length : Int) + 7 * ((newE W).it.length : Int) < 0) = false := by simp; omega
  have qu0 : w6.cell? ⟨w1.heap.size, 0, none⟩ = some (.int .i64 u0) := (bxu.cell 0).trans rfl
  have qu1 : w6.cell? ⟨w1.heap.size, 1, none⟩ = some (.int .i64 u1) := (bxu.cell 1).trans rfl
  have qu2 : w6.cell? ⟨w1.heap.size, 2, none⟩ = some (.int .i64 u2) := (bxu.cell 2).trans rfl
  have qu3 : w6.cell? ⟨w1.heap.size, 3, none⟩ = some (.slice uS un uc) := (bxu.cell 3).trans rfl
  have qu4 : w6.cell? ⟨w1.heap.size, 4, none⟩ = some (.slice uT um ud) := (bxu.cell 4).trans rfl
  have qu5 : w6.cell? ⟨w1.heap.size, 5, none⟩ = some (.int .i64 u5) := (bxu.cell 5).trans rfl
  have qu6 : w6.cell? ⟨w1.heap.size, 6, none⟩ = some (.int .i64 u6) := (bxu.cell 6).trans rfl
  have qlu := bxu.lt
  have HXu := Lib.hid bxu
  clear bxu
  have qg0 : w6.cell? ⟨w3.heap.size, 0, none⟩ = some (.int .i64 g0) := (bxg.cell 0).trans rfl
  have qg1 : w6.cell? ⟨w3.heap.size, 1, none⟩ = some (.int .i64 g1) := (bxg.cell 1).trans rfl
  have qg2 : w6.cell? ⟨w3.heap.size, 2, none⟩ = some (.int .i64 g2) := (bxg.cell 2).trans rfl
  have qg3 : w6.cell? ⟨w3.heap.size, 3, none⟩ = some (.slice gS gn gc) := (bxg.cell 3).trans rfl
  have qg4 : w6.cell? ⟨w3.heap.size, 4, none⟩ = some (.slice gT gm gd) := (bxg.cell 4).trans rfl
  have qg5 : w6.cell? ⟨w3.heap.size, 5, none⟩ = some (.int .i64 g5) := (bxg.cell 5).trans rfl
  have qg6 : w6.cell? ⟨w3.heap.size, 6, none⟩ = some (.int .i64 g6) := (bxg.cell 6).trans rfl
  have qlg := bxg.lt
  have HXg := Lib.hid bxg
  clear bxg
  go_wp2_with fail
  have bxu := HXu.out
  clear qu0 qu1 qu2 qu3 qu4 qu5 qu6 qlu HXu
  have bxg := HXg.out
  clear qg0 qg1 qg2 qg3 qg4 qg5 qg6 qlg HXg
  refine (heldEngine_any (newE W) (.agg #[.int .i64 g0, .int .i64 g1, .int .i64 g2, .slice gS gn gc, .slice gT gm gd, .int .i64 g5, .int .i64 g6]) 1 _ bm bi (by omega) (by omega) (HM.out.below HBm.out)).mono ?_
  rintro r w7 ⟨rfl, hb⟩
  have szw7 := hb.size
  have bxu := bxu.below hb bxu.lt
  have bxg := bxg.below hb bxg.lt
  have HBw := Lib.hid (HBw.out.trans (hb.mono HBw.out.size))
  have HBu := Lib.hid (HBu.out.trans (hb.mono HBu.out.size))
  have HBm := Lib.hid (HBm.out.trans (hb.mono HBm.out.size))
  clear hb
  have qu0 : w7.cell? ⟨w1.heap.size, 0, none⟩ = some (.int .i64 u0) := (bxu.cell 0).trans rfl
  have qu1 : w7.cell? ⟨w1.heap.size, 1, none⟩ = some (.int .i64 u1) := (bxu.cell 1).trans rfl
  have qu2 : w7.cell? ⟨w1.heap.size, 2, none⟩ = some (.int .i64 u2) := (bxu.cell 2).trans rfl
  have qu3 : w7.cell? ⟨w1.heap.size, 3, none⟩ = some (.slice uS un uc) := (bxu.cell 3).trans rfl
  have qu4 : w7.cell? ⟨w1.heap.size, 4, none⟩ = some (.slice uT um ud) := (bxu.cell 4).trans rfl
  have qu5 : w7.cell? ⟨w1.heap.size, 5, none⟩ = some (.int .i64 u5) := (bxu.cell 5).trans rfl
  have qu6 : w7.cell? ⟨w1.heap.size, 6, none⟩ = some (.int .i64 u6) := (bxu.cell 6).trans rfl
  have qlu := bxu.lt
  have HXu := Lib.hid bxu
  clear bxu
  have qg0 : w7.cell? ⟨w3.heap.size, 0, none⟩ = some (.int .i64 g0) := (bxg.cell 0).trans rfl
  have qg1 : w7.cell? ⟨w3.heap.size, 1, none⟩ = some (.int .i64 g1) := (bxg.cell 1).trans rfl
  have qg2 : w7.cell? ⟨w3.heap.size, 2, none⟩ = some (.int .i64 g2) := (bxg.cell 2).trans rfl
  have qg3 : w7.cell? ⟨w3.heap.size, 3, none⟩ = some (.slice gS gn gc) := (bxg.cell 3).trans rfl
  have qg4 : w7.cell? ⟨w3.heap.size, 4, none⟩ = some (.slice gT gm gd) := (bxg.cell 4).trans rfl
  have qg5 : w7.cell? ⟨w3.heap.size, 5, none⟩ = some (.int .i64 g5) := (bxg.cell 5).trans rfl
  have qg6 : w7.cell? ⟨w3.heap.size, 6, none⟩ = some (.int .i64 g6) := (bxg.cell 6).trans rfl
  have qlg := bxg.lt
  have HXg := Lib.hid bxg
  clear bxg
  go_wp2_with fail
  have bxu := HXu.out
  clear qu0 qu1 qu2 qu3 qu4 qu5 qu6 qlu HXu
  have bxg := HXg.out
  clear qg0 qg1 qg2 qg3 qg4 qg5 qg6 qlg HXg
  refine (NewEngine_any W _).mono ?_
  rintro r w8 ⟨v, rfl, ho, hb⟩
  have szw8 := hb.size
  have bxu := bxu.below hb bxu.lt
  have bxg := bxg.below hb bxg.lt
  have HBw := Lib.hid (HBw.out.trans (hb.mono HBw.out.size))
  have HBu := Lib.hid (HBu.out.trans (hb.mono HBu.out.size))
  have HBm := Lib.hid (HBm.out.trans (hb.mono HBm.out.size))
  clear hb
  obtain ⟨h0, h1, h2, hS, hn, hc, hT, hm, hd, h5, h6, rfl⟩ := EngO.shape ho
  have HH := Lib.hid ho
  clear ho
  have HBh := Lib.hid (Below.refl w8.heap.size w8)
  have qu0 : w8.cell? ⟨w1.heap.size, 0, none⟩ = some (.int .i64 u0) := (bxu.cell 0).trans rfl
  have qu1 : w8.cell? ⟨w1.heap.size, 1, none⟩ = some (.int .i64 u1) := (bxu.cell 1).trans rfl
  have qu2 : w8.cell? ⟨w1.heap.size, 2, none⟩ = some (.int .i64 u2) := (bxu.cell 2).trans rfl
  have qu3 : w8.cell? ⟨w1.heap.size, 3, none⟩ = some (.slice uS un uc) := (bxu.cell 3).trans rfl
  have qu4 : w8.cell? ⟨w1.heap.size, 4, none⟩ = some (.slice uT um ud) := (bxu.cell 4).trans rfl
  have qu5 : w8.cell? ⟨w1.heap.size, 5, none⟩ = some (.int .i64 u5) := (bxu.cell 5).trans rfl
  have qu6 : w8.cell? ⟨w1.heap.size, 6, none⟩ = some (.int .i64 u6) := (bxu.cell 6).trans rfl
  have qlu := bxu.lt
  have HXu := Lib.hid bxu
  clear bxu
  have qg0 : w8.cell? ⟨w3.heap.size, 0, none⟩ = some (.int .i64 g0) := (bxg.cell 0).trans rfl
  have qg1 : w8.cell? ⟨w3.heap.size, 1, none⟩ = some (.int .i64 g1) := (bxg.cell 1).trans rfl
  have qg2 : w8.cell? ⟨w3.heap.size, 2, none⟩ = some (.int .i64 g2) := (bxg.cell 2).trans rfl
  have qg3 : w8.cell? ⟨w3.heap.size, 3, none⟩ = some (.slice gS gn gc) := (bxg.cell 3).trans rfl
  have qg4 : w8.cell? ⟨w3.heap.size, 4, none⟩ = some (.slice gT gm gd) := (bxg.cell 4).trans rfl
  have qg5 : w8.cell? ⟨w3.heap.size, 5, none⟩ = some (.int .i64 g5) := (bxg.cell 5).trans rfl
  have qg6 : w8.cell? ⟨w3.heap.size, 6, none⟩ = some (.int .i64 g6) := (bxg.cell 6).trans rfl
  have qlg := bxg.lt
  have HXg := Lib.hid bxg
  clear bxg
  go_wp2_with fail
  have bxu := HXu.out
  clear qu0 qu1 qu2 qu3 qu4 qu5 qu6 qlu HXu
  have bxg := HXg.out
  clear qg0 qg1 qg2 qg3 qg4 qg5 qg6 qlg HXg
  have bxh := BlkL.new w8 25 [.int .i64 h0, .int .i64 h1, .int .i64 h2, .slice hS hn hc, .slice hT hm hd, .int .i64 h5, .int .i64 h6]
  have bxu := bxu.alloc (.cells #[.int .i64 h0, .int .i64 h1, .int .i64 h2, .slice hS hn hc, .slice hT hm hd, .int .i64 h5, .int .i64 h6] 25)
  have bxg := bxg.alloc (.cells #[.int .i64 h0, .int .i64 h1, .int .i64 h2, .slice hS hn hc, .slice hT hm hd, .int .i64 h5, .int .i64 h6] 25)
  have HBw := Lib.hid (HBw.out.alloc (by have := HBw.out.size; omega) (.cells #[.int .i64 h0, .int .i64 h1, .int .i64 h2, .slice hS hn hc, .slice hT hm hd, .int .i64 h5, .int .i64 h6] 25))
  have HBu := Lib.hid (HBu.out.alloc (by have := HBu.out.size; omega) (.cells #[.int .i64 h0, .int .i64 h1, .int .i64 h2, .slice hS hn hc, .slice hT hm hd, .int .i64 h5, .int .i64 h6] 25))
  have HBm := Lib.hid (HBm.out.alloc (by have := HBm.out.size; omega) (.cells #[.int .i64 h0, .int .i64 h1, .int .i64 h2, .slice hS hn hc, .slice hT hm hd, .int .i64 h5, .int .i64 h6] 25))
  have HBh := Lib.hid (HBh.out.alloc (by have := HBh.out.size; omega) (.cells #[.int .i64 h0, .int .i64 h1, .int .i64 h2, .slice hS hn hc, .slice hT hm hd, .int .i64 h5, .int .i64 h6] 25))
  have hzw9 : (w8.alloc (.cells #[.int .i64 h0, .int .i64 h1, .int .i64 h2, .slice hS hn hc, .slice hT hm hd, .int .i64 h5, .int .i64 h6] 25)).heap.size = w8.heap.size + 1 := by simp
  generalize w8.alloc (.cells #[.int .i64 h0, .int .i64 h1, .int .i64 h2, .slice hS hn hc, .slice hT hm hd, .int .i64 h5, .int .i64 h6] 25) = w9 at *
  refine (eqEngine_same (newE W) (.agg #[.int .i64 h0, .int .i64 h1, .int .i64 h2, .slice hS hn hc, .slice hT hm hd, .int .i64 h5, .int .i64 h6]) (.agg #[.int .i64 u0, .int .i64 u1, .int .i64 u2, .slice uS un uc, .slice uT um ud, .int .i64 u5, .int .i64 u6]) _ bm bi ((EngO.r HH.out).below HBh.out) (HU.out.below HBu.out)).mono ?_
  rintro r w10 ⟨rfl, hb⟩
  have szw10 := hb.size
  have bxu := bxu.below hb bxu.lt
  have bxg := bxg.below hb bxg.lt
  have bxh := bxh.below hb bxh.lt
  have HBw := Lib.hid (HBw.out.trans (hb.mono HBw.out.size))
  have HBu := Lib.hid (HBu.out.trans (hb.mono HBu.out.size))
  have HBm := Lib.hid (HBm.out.trans (hb.mono HBm.out.size))
  have HBh := Lib.hid (HBh.out.trans (hb.mono HBh.out.size))
  clear hb
  have qu0 : w10.cell? ⟨w1.heap.size, 0, none⟩ = some (.int .i64 u0) := (bxu.cell 0).trans rfl
  have qu1 : w10.cell? ⟨w1.heap.size, 1, none⟩ = some (.int .i64 u1) := (bxu.cell 1).trans rfl
  have qu2 : w10.cell? ⟨w1.heap.size, 2, none⟩ = some (.int .i64 u2) := (bxu.cell 2).trans rfl
  have qu3 : w10.cell? ⟨w1.heap.size, 3, none⟩ = some (.slice uS un uc) := (bxu.cell 3).trans rfl
  have qu4 : w10.cell? ⟨w1.heap.size, 4, none⟩ = some (.slice uT um ud) := (bxu.cell 4).trans rfl
  have qu5 : w10.cell? ⟨w1.heap.size, 5, none⟩ = some (.int .i64 u5) := (bxu.cell 5).trans rfl
  have qu6 : w10.cell? ⟨w1.heap.size, 6, none⟩ = some (.int .i64 u6) := (bxu.cell 6).trans rfl
  have qlu := bxu.lt
  have HXu := Lib.hid bxu
  clear bxu
  have qg0 : w10.cell? ⟨w3.heap.size, 0, none⟩ = some (.int .i64 g0) := (bxg.cell 0).trans rfl
  have qg1 : w10.cell? ⟨w3.heap.size, 1, none⟩ = some (.int .i64 g1) := (bxg.cell 1).trans rfl
  have qg2 : w10.cell? ⟨w3.heap.size, 2, none⟩ = some (.int .i64 g2) := (bxg.cell 2).trans rfl
  have qg3 : w10.cell? ⟨w3.heap.size, 3, none⟩ = some (.slice gS gn gc) := (bxg.cell 3).trans rfl
  have qg4 : w10.cell? ⟨w3.heap.size, 4, none⟩ = some (.slice gT gm gd) := (bxg.cell 4).trans rfl
  have qg5 : w10.cell? ⟨w3.heap.size, 5, none⟩ = some (.int .i64 g5) := (bxg.cell 5).trans rfl
  have qg6 : w10.cell? ⟨w3.heap.size, 6, none⟩ = some (.int .i64 g6) := (bxg.cell 6).trans rfl
  have qlg := bxg.lt
  have HXg := Lib.hid bxg
  clear bxg
  have qh0 : w10.cell? ⟨w8.heap.size, 0, none⟩ = some (.int .i64 h0) := (bxh.cell 0).trans rfl
  have qh1 : w10.cell? ⟨w8.heap.size, 1, none⟩ = some (.int .i64 h1) := (bxh.cell 1).trans rfl
  have qh2 : w10.cell? ⟨w8.heap.size, 2, none⟩ = some (.int .i64 h2) := (bxh.cell 2).trans rfl
  have qh3 : w10.cell? ⟨w8.heap.size, 3, none⟩ = some (.slice hS hn hc) := (bxh.cell 3).trans rfl
  have qh4 : w10.cell? ⟨w8.heap.size, 4, none⟩ = some (.slice hT hm hd) := (bxh.cell 4).trans rfl
  have qh5 : w10.cell? ⟨w8.heap.size, 5, none⟩ = some (.int .i64 h5) := (bxh.cell 5).trans rfl
  have qh6 : w10.cell? ⟨w8.heap.size, 6, none⟩ = some (.int .i64 h6) := (bxh.cell 6).trans rfl
  have qlh := bxh.lt
  have HXh := Lib.hid bxh
  clear bxh
  go_wp2_with fail
  have bxu := HXu.out
  clear qu0 qu1 qu2 qu3 qu4 qu5 qu6 qlu HXu
  have bxg := HXg.out
  clear qg0 qg1 qg2 qg3 qg4 qg5 qg6 qlg HXg
  have bxh := HXh.out
  clear qh0 qh1 qh2 qh3 qh4 qh5 qh6 qlh HXh
  refine (heldEngine_any (newE W) (.agg #[.int .i64 g0, .int .i64 g1, .int .i64 g2, .slice gS gn gc, .slice gT gm gd, .int .i64 g5, .int .i64 g6]) 1 _ bm bi (by omega) (by omega) (HM.out.below HBm.out)).mono ?_
  rintro r w11 ⟨rfl, hb⟩
  have szw11 := hb.size
  have bxu := bxu.below hb bxu.lt
  have bxg := bxg.below hb bxg.lt
  have bxh := bxh.below hb bxh.lt
  have HBw := Lib.hid (HBw.out.trans (hb.mono HBw.out.size))
  have HBu := Lib.hid (HBu.out.trans (hb.mono HBu.out.size))
  have HBm := Lib.hid (HBm.out.trans (hb.mono HBm.out.size))
  have HBh := Lib.hid (HBh.out.trans (hb.mono HBh.out.size))
  clear hb
  have qu0 : w11.cell? ⟨w1.heap.size, 0, none⟩ = some (.int .i64 u0) := (bxu.cell 0).trans rfl
  have qu1 : w11.cell? ⟨w1.heap.size, 1, none⟩ = some (.int .i64 u1) := (bxu.cell 1).trans rfl
  have qu2 : w11.cell? ⟨w1.heap.size, 2, none⟩ = some (.int .i64 u2) := (bxu.cell 2).trans rfl
  have qu3 : w11.cell? ⟨w1.heap.size, 3, none⟩ = some (.slice uS un uc) := (bxu.cell 3).trans rfl
  have qu4 : w11.cell? ⟨w1.heap.size, 4, none⟩ = some (.slice uT um ud) := (bxu.cell 4).trans rfl
  have qu5 : w11.cell? ⟨w1.heap.size, 5, none⟩ = some (.int .i64 u5) := (bxu.cell 5).trans rfl
  have qu6 : w11.cell? ⟨w1.heap.size, 6, none⟩ = some (.int .i64 u6) := (bxu.cell 6).trans rfl
  have qlu := bxu.lt
  have HXu := Lib.hid bxu
  clear bxu
  have qg0 : w11.cell? ⟨w3.heap.size, 0, none⟩ = some (.int .i64 g0) := (bxg.cell 0).trans rfl
  have qg1 : w11.cell? ⟨w3.heap.size, 1, none⟩ = some (.int .i64 g1) := (bxg.cell 1).trans rfl
  have qg2 : w11.cell? ⟨w3.heap.size, 2, none⟩ = some (.int .i64 g2) := (bxg.cell 2).trans rfl
  have qg3 : w11.cell? ⟨w3.heap.size, 3, none⟩ = some (.slice gS gn gc) := (bxg.cell 3).trans rfl
  have qg4 : w11.cell? ⟨w3.heap.size, 4, none⟩ = some (.slice gT gm gd) := (bxg.cell 4).trans rfl
  have qg5 : w11.cell? ⟨w3.heap.size, 5, none⟩ = some (.int .i64 g5) := (bxg.cell 5).trans rfl
  have qg6 : w11.cell? ⟨w3.heap.size, 6, none⟩ = some (.int .i64 g6) := (bxg.cell 6).trans rfl
  have qlg := bxg.lt
  have HXg := Lib.hid bxg
  clear bxg
  have qh0 : w11.cell? ⟨w8.heap.size, 0, none⟩ = some (.int .i64 h0) := (bxh.cell 0).trans rfl
  have qh1 : w11.cell? ⟨w8.heap.size, 1, none⟩ = some (.int .i64 h1) := (bxh.cell 1).trans rfl
  have qh2 : w11.cell? ⟨w8.heap.size, 2, none⟩ = some (.int .i64 h2) := (bxh.cell 2).trans rfl
  have qh3 : w11.cell? ⟨w8.heap.size, 3, none⟩ = some (.slice hS hn hc) := (bxh.cell 3).trans rfl
  have qh4 : w11.cell? ⟨w8.heap.size, 4, none⟩ = some (.slice hT hm hd) := (bxh.cell 4).trans rfl
  have qh5 : w11.cell? ⟨w8.heap.size, 5, none⟩ = some (.int .i64 h5) := (bxh.cell 5).trans rfl
  have qh6 : w11.cell? ⟨w8.heap.size, 6, none⟩ = some (.int .i64 h6) := (bxh.cell 6).trans rfl
  have qlh := bxh.lt
  have HXh := Lib.hid bxh
  clear bxh
  go_wp2
  go_ret
  exact ⟨rfl, HBw.out⟩

set_option maxRecDepth 100000 in
theorem lifted (os : Os) (started : os.Started) (H : Type) (enc : TypeId × Value → H) :
    ReturnsInHanded {} Try.checked os 3 .any (Rows.fnExactNewEngineSpec.pre6 enc Try.prog Try.f3 Rows.fnExactNewEngineRow.domain false) (Rows.fnExactNewEngineSpec.post enc Try.prog Try.f3 false true false false) := by
  refine returnsInHanded_of_change (C := Try.checked) own started (by kernel_rfl) Try.func3
    (ChangeSpec.witness6 (enc := enc) (C := Try.checked) false ⟨#[], #[.int .i64 0], []⟩ 8 (by kernel_rfl) (by kernel_rfl) (by kernel_rfl) (by kernel_rfl)) ?_
  intro W base args ds gs before hval0 hW _ _
  have hval : ∀ (j : Nat) t v, Try.f3.params[j]? = some t → args[j]? = some v → Value.okWide Try.prog W .any base t v := hval0
  have hW' := hW
  obtain ⟨p, q, hA0, hV, rfl, _, _⟩ := hW
  have hA : DataW.TrodAll enc Try.prog W 0 (fun _ => true) true Try.f3.params.toList args.toList ds p := hA0
  rw [Try.params3] at hA hval
  obtain ⟨v0, vs0, d0, ds0, p0, q0, hargs0, rfl, rfl, h0, r0⟩ := trodAll_cons hA
  obtain ⟨rfl, rfl, rfl⟩ := trodAll_nil r0
  obtain rfl : args = #[v0] := by cases args; simp_all
  obtain ⟨rfl, rfl⟩ := trodVars_none hV
  have z0 := h0
  have lt0 : ∀ x ∈ p0, x.block < W.heap.size := by obtain ⟨m, hm⟩ := z0; exact DataW.trod_lt m _ _ _ hm
  obtain ⟨x0, rfl⟩ := okWide_int Try.underlying3 (hval 0 3 v0 rfl rfl)
  clear hA0 hval0
  refine (law x0 W ).mono fun e W' ⟨he, bel⟩ => ?_
  subst he
  exact ⟨_, rfl, _, _, _, [], _, [], hW', trodAll_mk1 (shut_bool Try.underlying4 _), (trodAll_cons_mk (Below.trod laidOut (by kernel_rfl) (of_decide_eq_true (by kernel_rfl)) z0 bel lt0) trodAll_mk0), rfl, bel.frame _, (fun h => by cases h)⟩

theorem over : Rows.fnExactNewEngineRow.holds Try.pinned (OpenSpec.ofChange Rows.fnExactNewEngineSpec) :=
  OpenClaim.holds_of_wide 3 Try.f3 rfl rfl rfl rfl rfl rfl rfl ⟨rfl, rfl, rfl, rfl, rfl⟩ rfl rfl rfl rfl rfl (by kernel_rfl) Try.func3 (by kernel_rfl)
    (of_decide_eq_true (by kernel_rfl)) (by unfold Func.isWrapper; first | (rw [if_pos (by decide +kernel)]; kernel_rfl) | (rw [if_neg (by decide +kernel)]; exact ⟨rfl, rfl⟩))
    (fun os started H enc _ => lifted os started H enc)

theorem proved : Rows.FnExactNewEngineSaid := over
#print axioms proved
end Go.Proofs.Ytnppemiophggfaa.fnExactNewEngine
