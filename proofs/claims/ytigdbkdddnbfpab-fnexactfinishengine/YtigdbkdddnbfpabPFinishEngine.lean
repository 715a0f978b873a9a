/-
  The law FnExactFinishEngine returns true at every argument: FinishEngine answers as its model does, writes into no argument, and its answer owns its memory.
  Conditions: none beyond the row's own; whatever the arguments.
-/
import Derived.Test.YtigdbkdddnbfpabFib
import Derived.Test.YtigdbkdddnbfpabAen
import Derived.Test.YtigdbkdddnbfpabChn
namespace Go.Proofs.Ytigdbkdddnbfpab.fnExactFinishEngine
open Go.ChangeShapes Go.WideShapes Go.ChangeAt Go.RowKit Go.Joins
set_option linter.unusedVariables false

set_option maxHeartbeats 4000000 in
set_option maxRecDepth 100000 in
theorem law (e : En) (A : Option Addr) (c : Nat) (A2 : Option Addr) (c2 : Nat) (w : World) (h1 : MS w A e.ms) (h2 : HS w A2 e.it) (lm : e.ms.length ≤ maxLen) (li : e.it.length ≤ maxLen) (hf : Fits (tks e.it)) :
    Calls Try.prog 4 #[ev e A c A2 c2] w fun e w' => e = .returned (.bool true) ∧ Below w.heap.size w w' := by
  have M1 := Lib.hid h1
  have I1 := Lib.hid h2
  have HF := Lib.hid hf
  clear h1 h2 hf
  unfold ev
  go_enter Try.func4, Try.ntmps4
  have HBw := Lib.hid (Below.refl w.heap.size w)
  go_wp2_with fail
  have bxa := BlkL.new w 25 [.int .i64 e.W, .int .i64 e.col, .int .i64 e.pend, .slice A e.ms.length c, .slice A2 e.it.length c2, .int .i64 e.tot, .int .i64 e.lev]
  have HBw := Lib.hid (HBw.out.alloc (by have := HBw.out.size; omega) (.cells #[.int .i64 e.W, .int .i64 e.col, .int .i64 e.pend, .slice A e.ms.length c, .slice A2 e.it.length c2, .int .i64 e.tot, .int .i64 e.lev] 25))
  have hzw1 : (w.alloc (.cells #[.int .i64 e.W, .int .i64 e.col, .int .i64 e.pend, .slice A e.ms.length c, .slice A2 e.it.length c2, .int .i64 e.tot, .int .i64 e.lev] 25)).heap.size = w.heap.size + 1 := by simp
  generalize w.alloc (.cells #[.int .i64 e.W, .int .i64 e.col, .int .i64 e.pend, .slice A e.ms.length c, .slice A2 e.it.length c2, .int .i64 e.tot, .int .i64 e.lev] 25) = w1 at *
  refine (szEngine_any e A c A2 c2 1048576 _ (by omega) (by omega) lm li HF.out (RS.below I1.out HBw.out)).mono ?_
  rintro r w2 ⟨rfl, hb⟩
  have szw2 := hb.size
  have bxa := bxa.below hb bxa.lt
  have HBw := Lib.hid (HBw.out.trans (hb.mono HBw.out.size))
  clear hb
  rcases szE_cases 1048576 e with hs | ⟨hs, hsl⟩
  · rw [hs]
    have qa0 : w2.cell? ⟨w.heap.size, 0, none⟩ = some (.int .i64 e.W) := (bxa.cell 0).trans rfl
    have qa1 : w2.cell? ⟨w.heap.size, 1, none⟩ = some (.int .i64 e.col) := (bxa.cell 1).trans rfl
    have qa2 : w2.cell? ⟨w.heap.size, 2, none⟩ = some (.int .i64 e.pend) := (bxa.cell 2).trans rfl
    have qa3 : w2.cell? ⟨w.heap.size, 3, none⟩ = some (.slice A e.ms.length c) := (bxa.cell 3).trans rfl
    have qa4 : w2.cell? ⟨w.heap.size, 4, none⟩ = some (.slice A2 e.it.length c2) := (bxa.cell 4).trans rfl
    have qa5 : w2.cell? ⟨w.heap.size, 5, none⟩ = some (.int .i64 e.tot) := (bxa.cell 5).trans rfl
    have qa6 : w2.cell? ⟨w.heap.size, 6, none⟩ = some (.int .i64 e.lev) := (bxa.cell 6).trans rfl
    have qla := bxa.lt
    have HXa := Lib.hid bxa
    clear bxa
    go_wp2
    go_ret
    exact ⟨rfl, HBw.out⟩
  have hbk : e.it.length ≤ bulk (tks e.it) := by unfold bulk; rw [tks_length]; omega
  have bm0 : e.ms.length ≤ 1048576 := by omega
  have bi0 : e.it.length ≤ 1048576 := by omega
  have bm : e.ms.length ≤ 2097152 := by omega
  have bi : e.it.length ≤ 2097152 := by omega
  rw [hs]
  have hdz : decide ((1048576 : Int) - e.ms.length - (bulk (tks e.it) : Int) < 0) = false := by simp; omega
  generalize hlft : (1048576 : Int) - e.ms.length - (bulk (tks e.it) : Int) = left at *
  clear hs hsl hbk hlft
  obtain ⟨fm1, fi1⟩ := finE_len e bm0 bi0
  have hss : ((finT e).toList == (finT e).toList) = true := by simp
  have hbb : ((finB e) == (finB e)) = true := by simp
  have qa0 : w2.cell? ⟨w.heap.size, 0, none⟩ = some (.int .i64 e.W) := (bxa.cell 0).trans rfl
  have qa1 : w2.cell? ⟨w.heap.size, 1, none⟩ = some (.int .i64 e.col) := (bxa.cell 1).trans rfl
  have qa2 : w2.cell? ⟨w.heap.size, 2, none⟩ = some (.int .i64 e.pend) := (bxa.cell 2).trans rfl
  have qa3 : w2.cell? ⟨w.heap.size, 3, none⟩ = some (.slice A e.ms.length c) := (bxa.cell 3).trans rfl
  have qa4 : w2.cell? ⟨w.heap.size, 4, none⟩ = some (.slice A2 e.it.length c2) := (bxa.cell 4).trans rfl
  have qa5 : w2.cell? ⟨w.heap.size, 5, none⟩ = some (.int .i64 e.tot) := (bxa.cell 5).trans rfl
  have qa6 : w2.cell? ⟨w.heap.size, 6, none⟩ = some (.int .i64 e.lev) := (bxa.cell 6).trans rfl
  have qla := bxa.lt
  have HXa := Lib.hid bxa
  clear bxa
  go_wp2_with fail
  have bxa := HXa.out
  clear qa0 qa1 qa2 qa3 qa4 qa5 qa6 qla HXa
  refine (toEngine_any e A c A2 c2 _ bm0 bi0 (RS.below M1.out HBw.out) (RS.below I1.out HBw.out)).mono ?_
  rintro r w3 ⟨v, rfl, ho, hb⟩
  have szw3 := hb.size
  have bxa := bxa.below hb bxa.lt
  have HBw := Lib.hid (HBw.out.trans (hb.mono HBw.out.size))
  clear hb
  obtain ⟨q0, q1, q2, qS, qn, qc, qT, qm, qd, q5, q6, rfl⟩ := EngO.shape ho
  have HEq := Lib.hid ho
  clear ho
  have HBq := Lib.hid (Below.refl w3.heap.size w3)
  have qa0 : w3.cell? ⟨w.heap.size, 0, none⟩ = some (.int .i64 e.W) := (bxa.cell 0).trans rfl
  have qa1 : w3.cell? ⟨w.heap.size, 1, none⟩ = some (.int .i64 e.col) := (bxa.cell 1).trans rfl
  have qa2 : w3.cell? ⟨w.heap.size, 2, none⟩ = some (.int .i64 e.pend) := (bxa.cell 2).trans rfl
  have qa3 : w3.cell? ⟨w.heap.size, 3, none⟩ = some (.slice A e.ms.length c) := (bxa.cell 3).trans rfl
  have qa4 : w3.cell? ⟨w.heap.size, 4, none⟩ = some (.slice A2 e.it.length c2) := (bxa.cell 4).trans rfl
  have qa5 : w3.cell? ⟨w.heap.size, 5, none⟩ = some (.int .i64 e.tot) := (bxa.cell 5).trans rfl
  have qa6 : w3.cell? ⟨w.heap.size, 6, none⟩ = some (.int .i64 e.lev) := (bxa.cell 6).trans rfl
  have qla := bxa.lt
  have HXa := Lib.hid bxa
  clear bxa
  go_wp2_with fail
  have bxa := HXa.out
  clear qa0 qa1 qa2 qa3 qa4 qa5 qa6 qla HXa
  refine (sFinishEngine_any e (.agg #[.int .i64 q0, .int .i64 q1, .int .i64 q2, .slice qS qn qc, .slice qT qm qd, .int .i64 q5, .int .i64 q6]) _ bm bi HF.out ((EngO.r HEq.out).below HBq.out)).mono ?_
  rintro r w4 ⟨v, rfl, ho, hb⟩
  have szw4 := hb.size
  have bxa := bxa.below hb bxa.lt
  have HBw := Lib.hid (HBw.out.trans (hb.mono HBw.out.size))
  have HBq := Lib.hid (HBq.out.trans (hb.mono HBq.out.size))
  clear hb
  obtain ⟨u0, u1, u2, uS, un, uc, uT, um, ud, u5, u6, rfl⟩ := EngR.shape ho
  have HU := Lib.hid ho
  clear ho
  have HBu := Lib.hid (Below.refl w4.heap.size w4)
  have qa0 : w4.cell? ⟨w.heap.size, 0, none⟩ = some (.int .i64 e.W) := (bxa.cell 0).trans rfl
  have qa1 : w4.cell? ⟨w.heap.size, 1, none⟩ = some (.int .i64 e.col) := (bxa.cell 1).trans rfl
  have qa2 : w4.cell? ⟨w.heap.size, 2, none⟩ = some (.int .i64 e.pend) := (bxa.cell 2).trans rfl
  have qa3 : w4.cell? ⟨w.heap.size, 3, none⟩ = some (.slice A e.ms.length c) := (bxa.cell 3).trans rfl
  have qa4 : w4.cell? ⟨w.heap.size, 4, none⟩ = some (.slice A2 e.it.length c2) := (bxa.cell 4).trans rfl
  have qa5 : w4.cell? ⟨w.heap.size, 5, none⟩ = some (.int .i64 e.tot) := (bxa.cell 5).trans rfl
  have qa6 : w4.cell? ⟨w.heap.size, 6, none⟩ = some (.int .i64 e.lev) := (bxa.cell 6).trans rfl
  have qla := bxa.lt
  have HXa := Lib.hid bxa
  clear bxa
  go_wp2_with fail
  have bxa := HXa.out
  clear qa0 qa1 qa2 qa3 qa4 qa5 qa6 qla HXa
  have bxu := BlkL.new w4 33 [.int .i64 u0, .int .i64 u1, .int .i64 u2, .slice uS un uc, .slice uT um ud, .int .i64 u5, .int .i64 u6]
  have bxa := bxa.alloc (.cells #[.int .i64 u0, .int .i64 u1, .int .i64 u2, .slice uS un uc, .slice uT um ud, .int .i64 u5, .int .i64 u6] 33)
  have HBw := Lib.hid (HBw.out.alloc (by have := HBw.out.size; omega) (.cells #[.int .i64 u0, .int .i64 u1, .int .i64 u2, .slice uS un uc, .slice uT um ud, .int .i64 u5, .int .i64 u6] 33))
  have HBq := Lib.hid (HBq.out.alloc (by have := HBq.out.size; omega) (.cells #[.int .i64 u0, .int .i64 u1, .int .i64 u2, .slice uS un uc, .slice uT um ud, .int .i64 u5, .int .i64 u6] 33))
  have HBu := Lib.hid (HBu.out.alloc (by have := HBu.out.size; omega) (.cells #[.int .i64 u0, .int .i64 u1, .int .i64 u2, .slice uS un uc, .slice uT um ud, .int .i64 u5, .int .i64 u6] 33))
  have hzw5 : (w4.alloc (.cells #[.int .i64 u0, .int .i64 u1, .int .i64 u2, .slice uS un uc, .slice uT um ud, .int .i64 u5, .int .i64 u6] 33)).heap.size = w4.heap.size + 1 := by simp
  generalize w4.alloc (.cells #[.int .i64 u0, .int .i64 u1, .int .i64 u2, .slice uS un uc, .slice uT um ud, .int .i64 u5, .int .i64 u6] 33) = w5 at *
  refine (toEngine_any e A c A2 c2 _ bm0 bi0 (RS.below M1.out HBw.out) (RS.below I1.out HBw.out)).mono ?_
  rintro r w6 ⟨v, rfl, ho, hb⟩
  have szw6 := hb.size
  have bxa := bxa.below hb bxa.lt
  have bxu := bxu.below hb bxu.lt
  have HBw := Lib.hid (HBw.out.trans (hb.mono HBw.out.size))
  have HBq := Lib.hid (HBq.out.trans (hb.mono HBq.out.size))
  have HBu := Lib.hid (HBu.out.trans (hb.mono HBu.out.size))
  clear hb
  obtain ⟨x0, x1, x2, xS, xn, xc, xT, xm, xd, x5, x6, rfl⟩ := EngO.shape ho
  have HEx := Lib.hid ho
  clear ho
  have HBx := Lib.hid (Below.refl w6.heap.size w6)
  have qa0 : w6.cell? ⟨w.heap.size, 0, none⟩ = some (.int .i64 e.W) := (bxa.cell 0).trans rfl
  have qa1 : w6.cell? ⟨w.heap.size, 1, none⟩ = some (.int .i64 e.col) := (bxa.cell 1).trans rfl
  have qa2 : w6.cell? ⟨w.heap.size, 2, none⟩ = some (.int .i64 e.pend) := (bxa.cell 2).trans rfl
  have qa3 : w6.cell? ⟨w.heap.size, 3, none⟩ = some (.slice A e.ms.length c) := (bxa.cell 3).trans rfl
  have qa4 : w6.cell? ⟨w.heap.size, 4, none⟩ = some (.slice A2 e.it.length c2) := (bxa.cell 4).trans rfl
  have qa5 : w6.cell? ⟨w.heap.size, 5, none⟩ = some (.int .i64 e.tot) := (bxa.cell 5).trans rfl
  have qa6 : w6.cell? ⟨w.heap.size, 6, none⟩ = some (.int .i64 e.lev) := (bxa.cell 6).trans rfl
  have qla := bxa.lt
  have HXa := Lib.hid bxa
  clear bxa
  have qu0 : w6.cell? ⟨w4.heap.size, 0, none⟩ = some (.int .i64 u0) := (bxu.cell 0).trans rfl
  have qu1 : w6.cell? ⟨w4.heap.size, 1, none⟩ = some (.int .i64 u1) := (bxu.cell 1).trans rfl
  have qu2 : w6.cell? ⟨w4.heap.size, 2, none⟩ = some (.int .i64 u2) := (bxu.cell 2).trans rfl
  have qu3 : w6.cell? ⟨w4.heap.size, 3, none⟩ = some (.slice uS un uc) := (bxu.cell 3).trans rfl
  have qu4 : w6.cell? ⟨w4.heap.size, 4, none⟩ = some (.slice uT um ud) := (bxu.cell 4).trans rfl
  have qu5 : w6.cell? ⟨w4.heap.size, 5, none⟩ = some (.int .i64 u5) := (bxu.cell 5).trans rfl
  have qu6 : w6.cell? ⟨w4.heap.size, 6, none⟩ = some (.int .i64 u6) := (bxu.cell 6).trans rfl
  have qlu := bxu.lt
  have HXu := Lib.hid bxu
  clear bxu
  go_wp2_with fail
  have bxa := HXa.out
  clear qa0 qa1 qa2 qa3 qa4 qa5 qa6 qla HXa
  have bxu := HXu.out
  clear qu0 qu1 qu2 qu3 qu4 qu5 qu6 qlu HXu
  have bxx := BlkL.new w6 33 [.int .i64 x0, .int .i64 x1, .int .i64 x2, .slice xS xn xc, .slice xT xm xd, .int .i64 x5, .int .i64 x6]
  have bxa := bxa.alloc (.cells #[.int .i64 x0, .int .i64 x1, .int .i64 x2, .slice xS xn xc, .slice xT xm xd, .int .i64 x5, .int .i64 x6] 33)
  have bxu := bxu.alloc (.cells #[.int .i64 x0, .int .i64 x1, .int .i64 x2, .slice xS xn xc, .slice xT xm xd, .int .i64 x5, .int .i64 x6] 33)
  have HBw := Lib.hid (HBw.out.alloc (by have := HBw.out.size; omega) (.cells #[.int .i64 x0, .int .i64 x1, .int .i64 x2, .slice xS xn xc, .slice xT xm xd, .int .i64 x5, .int .i64 x6] 33))
  have HBq := Lib.hid (HBq.out.alloc (by have := HBq.out.size; omega) (.cells #[.int .i64 x0, .int .i64 x1, .int .i64 x2, .slice xS xn xc, .slice xT xm xd, .int .i64 x5, .int .i64 x6] 33))
  have HBu := Lib.hid (HBu.out.alloc (by have := HBu.out.size; omega) (.cells #[.int .i64 x0, .int .i64 x1, .int .i64 x2, .slice xS xn xc, .slice xT xm xd, .int .i64 x5, .int .i64 x6] 33))
  have HBx := Lib.hid (HBx.out.alloc (by have := HBx.out.size; omega) (.cells #[.int .i64 x0, .int .i64 x1, .int .i64 x2, .slice xS xn xc, .slice xT xm xd, .int .i64 x5, .int .i64 x6] 33))
  have hzw7 : (w6.alloc (.cells #[.int .i64 x0, .int .i64 x1, .int .i64 x2, .slice xS xn xc, .slice xT xm xd, .int .i64 x5, .int .i64 x6] 33)).heap.size = w6.heap.size + 1 := by simp
  generalize w6.alloc (.cells #[.int .i64 x0, .int .i64 x1, .int .i64 x2, .slice xS xn xc, .slice xT xm xd, .int .i64 x5, .int .i64 x6] 33) = w7 at *
  refine (FinishEngine_any e (.agg #[.int .i64 x0, .int .i64 x1, .int .i64 x2, .slice xS xn xc, .slice xT xm xd, .int .i64 x5, .int .i64 x6]) _ bm bi HF.out ((EngO.r HEx.out).below HBx.out)).mono ?_
  rintro r w8 ⟨v, rfl, ho, hb⟩
  have szw8 := hb.size
  have bxa := bxa.below hb bxa.lt
  have bxu := bxu.below hb bxu.lt
  have bxx := bxx.below hb bxx.lt
  have HBw := Lib.hid (HBw.out.trans (hb.mono HBw.out.size))
  have HBq := Lib.hid (HBq.out.trans (hb.mono HBq.out.size))
  have HBu := Lib.hid (HBu.out.trans (hb.mono HBu.out.size))
  have HBx := Lib.hid (HBx.out.trans (hb.mono HBx.out.size))
  clear hb
  obtain ⟨g0, g1, g2, gS, gn, gc, gT, gm, gd, g5, g6, rfl⟩ := EngO.shape ho
  have HG := Lib.hid ho
  clear ho
  have HBg := Lib.hid (Below.refl w8.heap.size w8)
  have qa0 : w8.cell? ⟨w.heap.size, 0, none⟩ = some (.int .i64 e.W) := (bxa.cell 0).trans rfl
  have qa1 : w8.cell? ⟨w.heap.size, 1, none⟩ = some (.int .i64 e.col) := (bxa.cell 1).trans rfl
  have qa2 : w8.cell? ⟨w.heap.size, 2, none⟩ = some (.int .i64 e.pend) := (bxa.cell 2).trans rfl
  have qa3 : w8.cell? ⟨w.heap.size, 3, none⟩ = some (.slice A e.ms.length c) := (bxa.cell 3).trans rfl
  have qa4 : w8.cell? ⟨w.heap.size, 4, none⟩ = some (.slice A2 e.it.length c2) := (bxa.cell 4).trans rfl
  have qa5 : w8.cell? ⟨w.heap.size, 5, none⟩ = some (.int .i64 e.tot) := (bxa.cell 5).trans rfl
  have qa6 : w8.cell? ⟨w.heap.size, 6, none⟩ = some (.int .i64 e.lev) := (bxa.cell 6).trans rfl
  have qla := bxa.lt
  have HXa := Lib.hid bxa
  clear bxa
  have qu0 : w8.cell? ⟨w4.heap.size, 0, none⟩ = some (.int .i64 u0) := (bxu.cell 0).trans rfl
  have qu1 : w8.cell? ⟨w4.heap.size, 1, none⟩ = some (.int .i64 u1) := (bxu.cell 1).trans rfl
  have qu2 : w8.cell? ⟨w4.heap.size, 2, none⟩ = some (.int .i64 u2) := (bxu.cell 2).trans rfl
  have qu3 : w8.cell? ⟨w4.heap.size, 3, none⟩ = some (.slice uS un uc) := (bxu.cell 3).trans rfl
  have qu4 : w8.cell? ⟨w4.heap.size, 4, none⟩ = some (.slice uT um ud) := (bxu.cell 4).trans rfl
  have qu5 : w8.cell? ⟨w4.heap.size, 5, none⟩ = some (.int .i64 u5) := (bxu.cell 5).trans rfl
  have qu6 : w8.cell? ⟨w4.heap.size, 6, none⟩ = some (.int .i64 u6) := (bxu.cell 6).trans rfl
  have qlu := bxu.lt
  have HXu := Lib.hid bxu
  clear bxu
  have qx0 : w8.cell? ⟨w6.heap.size, 0, none⟩ = some (.int .i64 x0) := (bxx.cell 0).trans rfl
  have qx1 : w8.cell? ⟨w6.heap.size, 1, none⟩ = some (.int .i64 x1) := (bxx.cell 1).trans rfl
  have qx2 : w8.cell? ⟨w6.heap.size, 2, none⟩ = some (.int .i64 x2) := (bxx.cell 2).trans rfl
  have qx3 : w8.cell? ⟨w6.heap.size, 3, none⟩ = some (.slice xS xn xc) := (bxx.cell 3).trans rfl
  have qx4 : w8.cell? ⟨w6.heap.size, 4, none⟩ = some (.slice xT xm xd) := (bxx.cell 4).trans rfl
  have qx5 : w8.cell? ⟨w6.heap.size, 5, none⟩ = some (.int .i64 x5) := (bxx.cell 5).trans rfl
  have qx6 : w8.cell? ⟨w6.heap.size, 6, none⟩ = some (.int .i64 x6) := (bxx.cell 6).trans rfl
  have qlx := bxx.lt
  have HXx := Lib.hid bxx
  clear bxx
  go_wp2_with fail
  have bxa := HXa.out
  clear qa0 qa1 qa2 qa3 qa4 qa5 qa6 qla HXa
  have bxu := HXu.out
  clear qu0 qu1 qu2 qu3 qu4 qu5 qu6 qlu HXu
  have bxx := HXx.out
  clear qx0 qx1 qx2 qx3 qx4 qx5 qx6 qlx HXx
  have bxg := BlkL.new w8 33 [.int .i64 g0, .int .i64 g1, .int .i64 g2, .slice gS gn gc, .slice gT gm gd, .int .i64 g5, .int .i64 g6]
  have bxa := bxa.alloc (.cells #[.int .i64 g0, .int .i64 g1, .int .i64 g2, .slice gS gn gc, .slice gT gm gd, .int .i64 g5, .int .i64 g6] 33)
  have bxu := bxu.alloc (.cells #[.int .i64 g0, .int .i64 g1, .int .i64 g2, .slice gS gn gc, .slice gT gm gd, .int .i64 g5, .int .i64 g6] 33)
  have bxx := bxx.alloc (.cells #[.int .i64 g0, .int .i64 g1, .int .i64 g2, .slice gS gn gc, .slice gT gm gd, .int .i64 g5, .int .i64 g6] 33)
  have HBw := Lib.hid (HBw.out.alloc (by have := HBw.out.size; omega) (.cells #[.int .i64 g0, .int .i64 g1, .int .i64 g2, .slice gS gn gc, .slice gT gm gd, .int .i64 g5, .int .i64 g6] 33))
  have HBq := Lib.hid (HBq.out.alloc (by have := HBq.out.size; omega) (.cells #[.int .i64 g0, .int .i64 g1, .int .i64 g2, .slice gS gn gc, .slice gT gm gd, .int .i64 g5, .int .i64 g6] 33))
  have HBu := Lib.hid (HBu.out.alloc (by have := HBu.out.size; omega) (.cells #[.int .i64 g0, .int .i64 g1, .int .i64 g2, .slice gS gn gc, .slice gT gm gd, .int .i64 g5, .int .i64 g6] 33))
  have HBx := Lib.hid (HBx.out.alloc (by have := HBx.out.size; omega) (.cells #[.int .i64 g0, .int .i64 g1, .int .i64 g2, .slice gS gn gc, .slice gT gm gd, .int .i64 g5, .int .i64 g6] 33))
  have HBg := Lib.hid (HBg.out.alloc (by have := HBg.out.size; omega) (.cells #[.int .i64 g0, .int .i64 g1, .int .i64 g2, .slice gS gn gc, .slice gT gm gd, .int .i64 g5, .int .i64 g6] 33))
  have hzw9 : (w8.alloc (.cells #[.int .i64 g0, .int .i64 g1, .int .i64 g2, .slice gS gn gc, .slice gT gm gd, .int .i64 g5, .int .i64 g6] 33)).heap.size = w8.heap.size + 1 := by simp
  generalize w8.alloc (.cells #[.int .i64 g0, .int .i64 g1, .int .i64 g2, .slice gS gn gc, .slice gT gm gd, .int .i64 g5, .int .i64 g6] 33) = w9 at *
  refine (eqEngine_same (finE e) (.agg #[.int .i64 g0, .int .i64 g1, .int .i64 g2, .slice gS gn gc, .slice gT gm gd, .int .i64 g5, .int .i64 g6]) (.agg #[.int .i64 u0, .int .i64 u1, .int .i64 u2, .slice uS un uc, .slice uT um ud, .int .i64 u5, .int .i64 u6]) _ fm1 fi1 ((EngO.r HG.out).below HBg.out) (HU.out.below HBu.out)).mono ?_
  rintro r w10 ⟨rfl, hb⟩
  have szw10 := hb.size
  have bxa := bxa.below hb bxa.lt
  have bxu := bxu.below hb bxu.lt
  have bxx := bxx.below hb bxx.lt
  have bxg := bxg.below hb bxg.lt
  have HBw := Lib.hid (HBw.out.trans (hb.mono HBw.out.size))
  have HBq := Lib.hid (HBq.out.trans (hb.mono HBq.out.size))
  have HBu := Lib.hid (HBu.out.trans (hb.mono HBu.out.size))
  have HBx := Lib.hid (HBx.out.trans (hb.mono HBx.out.size))
  have HBg := Lib.hid (HBg.out.trans (hb.mono HBg.out.size))
  clear hb
  have qa0 : w10.cell? ⟨w.heap.size, 0, none⟩ = some (.int .i64 e.W) := (bxa.cell 0).trans rfl
  have qa1 : w10.cell? ⟨w.heap.size, 1, none⟩ = some (.int .i64 e.col) := (bxa.cell 1).trans rfl
  have qa2 : w10.cell? ⟨w.heap.size, 2, none⟩ = some (.int .i64 e.pend) := (bxa.cell 2).trans rfl
  have qa3 : w10.cell? ⟨w.heap.size, 3, none⟩ = some (.slice A e.ms.length c) := (bxa.cell 3).trans rfl
  have qa4 : w10.cell? ⟨w.heap.size, 4, none⟩ = some (.slice A2 e.it.length c2) := (bxa.cell 4).trans rfl
  have qa5 : w10.cell? ⟨w.heap.size, 5, none⟩ = some (.int .i64 e.tot) := (bxa.cell 5).trans rfl
  have qa6 : w10.cell? ⟨w.heap.size, 6, none⟩ = some (.int .i64 e.lev) := (bxa.cell 6).trans rfl
  have qla := bxa.lt
  have HXa := Lib.hid bxa
  clear bxa
  have qu0 : w10.cell? ⟨w4.heap.size, 0, none⟩ = some (.int .i64 u0) := (bxu.cell 0).trans rfl
  have qu1 : w10.cell? ⟨w4.heap.size, 1, none⟩ = some (.int .i64 u1) := (bxu.cell 1).trans rfl
  have qu2 : w10.cell? ⟨w4.heap.size, 2, none⟩ = some (.int .i64 u2) := (bxu.cell 2).trans rfl
  have qu3 : w10.cell? ⟨w4.heap.size, 3, none⟩ = some (.slice uS un uc) := (bxu.cell 3).trans rfl
  have qu4 : w10.cell? ⟨w4.heap.size, 4, none⟩ = some (.slice uT um ud) := (bxu.cell 4).trans rfl
  have qu5 : w10.cell? ⟨w4.heap.size, 5, none⟩ = some (.int .i64 u5) := (bxu.cell 5).trans rfl
  have qu6 : w10.cell? ⟨w4.heap.size, 6, none⟩ = some (.int .i64 u6) := (bxu.cell 6).trans rfl
  have qlu := bxu.lt
  have HXu := Lib.hid bxu
  clear bxu
  have qx0 : w10.cell? ⟨w6.heap.size, 0, none⟩ = some (.int .i64 x0) := (bxx.cell 0).trans rfl
  have qx1 : w10.cell? ⟨w6.heap.size, 1, none⟩ = some (.int .i64 x1) := (bxx.cell 1).trans rfl
  have qx2 : w10.cell? ⟨w6.heap.size, 2, none⟩ = some (.int .i64 x2) := (bxx.cell 2).trans rfl
  have qx3 : w10.cell? ⟨w6.heap.size, 3, none⟩ = some (.slice xS xn xc) := (bxx.cell 3).trans rfl
  have qx4 : w10.cell? ⟨w6.heap.size, 4, none⟩ = some (.slice xT xm xd) := (bxx.cell 4).trans rfl
  have qx5 : w10.cell? ⟨w6.heap.size, 5, none⟩ = some (.int .i64 x5) := (bxx.cell 5).trans rfl
  have qx6 : w10.cell? ⟨w6.heap.size, 6, none⟩ = some (.int .i64 x6) := (bxx.cell 6).trans rfl
  have qlx := bxx.lt
  have HXx := Lib.hid bxx
  clear bxx
  have qg0 : w10.cell? ⟨w8.heap.size, 0, none⟩ = some (.int .i64 g0) := (bxg.cell 0).trans rfl
  have qg1 : w10.cell? ⟨w8.heap.size, 1, none⟩ = some (.int .i64 g1) := (bxg.cell 1).trans rfl
  have qg2 : w10.cell? ⟨w8.heap.size, 2, none⟩ = some (.int .i64 g2) := (bxg.cell 2).trans rfl
  have qg3 : w10.cell? ⟨w8.heap.size, 3, none⟩ = some (.slice gS gn gc) := (bxg.cell 3).trans rfl
  have qg4 : w10.cell? ⟨w8.heap.size, 4, none⟩ = some (.slice gT gm gd) := (bxg.cell 4).trans rfl
  have qg5 : w10.cell? ⟨w8.heap.size, 5, none⟩ = some (.int .i64 g5) := (bxg.cell 5).trans rfl
  have qg6 : w10.cell? ⟨w8.heap.size, 6, none⟩ = some (.int .i64 g6) := (bxg.cell 6).trans rfl
  have qlg := bxg.lt
  have HXg := Lib.hid bxg
  clear bxg
  go_wp2_with fail
  have bxa := HXa.out
  clear qa0 qa1 qa2 qa3 qa4 qa5 qa6 qla HXa
  have bxu := HXu.out
  clear qu0 qu1 qu2 qu3 qu4 qu5 qu6 qlu HXu
  have bxx := HXx.out
  clear qx0 qx1 qx2 qx3 qx4 qx5 qx6 qlx HXx
  have bxg := HXg.out
  clear qg0 qg1 qg2 qg3 qg4 qg5 qg6 qlg HXg
  have hne : Nonempty (Kept w10) := ⟨⟨w10, Below.refl _ _⟩⟩
  have px0 := Kept.rd (show w10.cell? ⟨w6.heap.size, 0, none⟩ = some (.int .i64 x0) from (bxx.cell 0).trans rfl)
  have px1 := Kept.rd (show w10.cell? ⟨w6.heap.size, 1, none⟩ = some (.int .i64 x1) from (bxx.cell 1).trans rfl)
  have px2 := Kept.rd (show w10.cell? ⟨w6.heap.size, 2, none⟩ = some (.int .i64 x2) from (bxx.cell 2).trans rfl)
  have px3 := Kept.rd (show w10.cell? ⟨w6.heap.size, 3, none⟩ = some (.slice xS xn xc) from (bxx.cell 3).trans rfl)
  have px4 := Kept.rd (show w10.cell? ⟨w6.heap.size, 4, none⟩ = some (.slice xT xm xd) from (bxx.cell 4).trans rfl)
  have px5 := Kept.rd (show w10.cell? ⟨w6.heap.size, 5, none⟩ = some (.int .i64 x5) from (bxx.cell 5).trans rfl)
  have px6 := Kept.rd (show w10.cell? ⟨w6.heap.size, 6, none⟩ = some (.int .i64 x6) from (bxx.cell 6).trans rfl)
  have pa0 := Kept.rd (show w10.cell? ⟨w.heap.size, 0, none⟩ = some (.int .i64 e.W) from (bxa.cell 0).trans rfl)
  have pa1 := Kept.rd (show w10.cell? ⟨w.heap.size, 1, none⟩ = some (.int .i64 e.col) from (bxa.cell 1).trans rfl)
  have pa2 := Kept.rd (show w10.cell? ⟨w.heap.size, 2, none⟩ = some (.int .i64 e.pend) from (bxa.cell 2).trans rfl)
  have pa3 := Kept.rd (show w10.cell? ⟨w.heap.size, 3, none⟩ = some (.slice A e.ms.length c) from (bxa.cell 3).trans rfl)
  have pa4 := Kept.rd (show w10.cell? ⟨w.heap.size, 4, none⟩ = some (.slice A2 e.it.length c2) from (bxa.cell 4).trans rfl)
  have pa5 := Kept.rd (show w10.cell? ⟨w.heap.size, 5, none⟩ = some (.int .i64 e.tot) from (bxa.cell 5).trans rfl)
  have pa6 := Kept.rd (show w10.cell? ⟨w.heap.size, 6, none⟩ = some (.int .i64 e.lev) from (bxa.cell 6).trans rfl)
  have HXa := Lib.hid bxa
  clear bxa
  have HXu := Lib.hid bxu
  clear bxu
  have HXx := Lib.hid bxx
  clear bxx
  have HXg := Lib.hid bxg
  clear bxg
  refine wp_region_chain [true, true, false, false, false] (fun w' => ∃ x : Kept w10, w' = x.W) (by kernel_rfl) (by kernel_rfl) (Kept.start w10) ?_
  simp only [Chain.pickM, List.map_cons, List.map_nil, Bool.not_true, Bool.not_false]
  repeat (go_big_quiet_step (fail))
  refine wpQuiet_nil ?_
  refine chain_step (fun K hK => ?_)
  unfold Chain.mov
  go_simp
  simp only [Chain.movUpon]
  clear px0 px1 px2 px3 px4 px5 px6
  clear pa0 pa1 pa2 pa3 pa4 pa5 pa6
  have bxa := HXa.out
  clear HXa
  have bxu := HXu.out
  clear HXu
  have bxx := HXx.out
  clear HXx
  have bxg := HXg.out
  clear HXg
  refine (toEngine_any e A c A2 c2 w10.drew bm0 bi0 (RS.below M1.out HBw.out.drew) (RS.below I1.out HBw.out.drew)).mono ?_
  rintro r w11 ⟨v, rfl, ho, hb0⟩
  have hb : Below w10.heap.size w10 w11 := (Below.refl _ w10).drew.trans (hb0.mono (Nat.le_refl _))
  have szw11 := hb.size
  have HK1 := Lib.hid hb
  have bxa := bxa.below hb bxa.lt
  have bxu := bxu.below hb bxu.lt
  have bxx := bxx.below hb bxx.lt
  have bxg := bxg.below hb bxg.lt
  have HBw := Lib.hid (HBw.out.trans (hb.mono HBw.out.size))
  have HBq := Lib.hid (HBq.out.trans (hb.mono HBq.out.size))
  have HBu := Lib.hid (HBu.out.trans (hb.mono HBu.out.size))
  have HBx := Lib.hid (HBx.out.trans (hb.mono HBx.out.size))
  have HBg := Lib.hid (HBg.out.trans (hb.mono HBg.out.size))
  clear hb hb0
  obtain ⟨y0, y1, y2, yS, yn, yc, yT, ym, yd, y5, y6, rfl⟩ := EngO.shape ho
  have HEy := Lib.hid ho
  clear ho
  refine ⟨_, rfl, hK _ _ ⟨Kept.mk' HK1.out, ?_⟩⟩
  clear hK K
  refine chain_step (fun K hK => ?_)
  unfold Chain.mov
  have HXa := Lib.hid bxa
  clear bxa
  have HXu := Lib.hid bxu
  clear bxu
  have HXx := Lib.hid bxx
  clear bxx
  have HXg := Lib.hid bxg
  clear bxg
  go_simp
  simp only [Chain.movUpon]
  have bxa := HXa.out
  clear HXa
  have bxu := HXu.out
  clear HXu
  have bxx := HXx.out
  clear HXx
  have bxg := HXg.out
  clear HXg
  refine (eqEngine_same e (.agg #[.int .i64 x0, .int .i64 x1, .int .i64 x2, .slice xS xn xc, .slice xT xm xd, .int .i64 x5, .int .i64 x6]) (.agg #[.int .i64 y0, .int .i64 y1, .int .i64 y2, .slice yS yn yc, .slice yT ym yd, .int .i64 y5, .int .i64 y6]) w11 bm bi ((EngO.r HEx.out).below HBx.out) (EngO.r HEy.out)).mono ?_
  rintro r w12 ⟨rfl, hb⟩
  have szw12 := hb.size
  have HK2 := Lib.hid (HK1.out.trans (hb.mono HK1.out.size))
  have bxa := bxa.below hb bxa.lt
  have bxu := bxu.below hb bxu.lt
  have bxx := bxx.below hb bxx.lt
  have bxg := bxg.below hb bxg.lt
  have HBw := Lib.hid (HBw.out.trans (hb.mono HBw.out.size))
  have HBq := Lib.hid (HBq.out.trans (hb.mono HBq.out.size))
  have HBu := Lib.hid (HBu.out.trans (hb.mono HBu.out.size))
  have HBx := Lib.hid (HBx.out.trans (hb.mono HBx.out.size))
  have HBg := Lib.hid (HBg.out.trans (hb.mono HBg.out.size))
  clear hb HEy
  refine ⟨_, rfl, hK _ _ ⟨Kept.mk' HK2.out, ?_⟩⟩
  clear hK K hne HK1 HK2
  unfold Chain.chainW
  have qa0 : w12.cell? ⟨w.heap.size, 0, none⟩ = some (.int .i64 e.W) := (bxa.cell 0).trans rfl
  have qa1 : w12.cell? ⟨w.heap.size, 1, none⟩ = some (.int .i64 e.col) := (bxa.cell 1).trans rfl
  have qa2 : w12.cell? ⟨w.heap.size, 2, none⟩ = some (.int .i64 e.pend) := (bxa.cell 2).trans rfl
  have qa3 : w12.cell? ⟨w.heap.size, 3, none⟩ = some (.slice A e.ms.length c) := (bxa.cell 3).trans rfl
  have qa4 : w12.cell? ⟨w.heap.size, 4, none⟩ = some (.slice A2 e.it.length c2) := (bxa.cell 4).trans rfl
  have qa5 : w12.cell? ⟨w.heap.size, 5, none⟩ = some (.int .i64 e.tot) := (bxa.cell 5).trans rfl
  have qa6 : w12.cell? ⟨w.heap.size, 6, none⟩ = some (.int .i64 e.lev) := (bxa.cell 6).trans rfl
  have qla := bxa.lt
  have HXa := Lib.hid bxa
  clear bxa
  have qu0 : w12.cell? ⟨w4.heap.size, 0, none⟩ = some (.int .i64 u0) := (bxu.cell 0).trans rfl
  have qu1 : w12.cell? ⟨w4.heap.size, 1, none⟩ = some (.int .i64 u1) := (bxu.cell 1).trans rfl
  have qu2 : w12.cell? ⟨w4.heap.size, 2, none⟩ = some (.int .i64 u2) := (bxu.cell 2).trans rfl
  have qu3 : w12.cell? ⟨w4.heap.size, 3, none⟩ = some (.slice uS un uc) := (bxu.cell 3).trans rfl
  have qu4 : w12.cell? ⟨w4.heap.size, 4, none⟩ = some (.slice uT um ud) := (bxu.cell 4).trans rfl
  have qu5 : w12.cell? ⟨w4.heap.size, 5, none⟩ = some (.int .i64 u5) := (bxu.cell 5).trans rfl
  have qu6 : w12.cell? ⟨w4.heap.size, 6, none⟩ = some (.int .i64 u6) := (bxu.cell 6).trans rfl
  have qlu := bxu.lt
  have HXu := Lib.hid bxu
  clear bxu
  have qx0 : w12.cell? ⟨w6.heap.size, 0, none⟩ = some (.int .i64 x0) := (bxx.cell 0).trans rfl
  have qx1 : w12.cell? ⟨w6.heap.size, 1, none⟩ = some (.int .i64 x1) := (bxx.cell 1).trans rfl
  have qx2 : w12.cell? ⟨w6.heap.size, 2, none⟩ = some (.int .i64 x2) := (bxx.cell 2).trans rfl
  have qx3 : w12.cell? ⟨w6.heap.size, 3, none⟩ = some (.slice xS xn xc) := (bxx.cell 3).trans rfl
  have qx4 : w12.cell? ⟨w6.heap.size, 4, none⟩ = some (.slice xT xm xd) := (bxx.cell 4).trans rfl
  have qx5 : w12.cell? ⟨w6.heap.size, 5, none⟩ = some (.int .i64 x5) := (bxx.cell 5).trans rfl
  have qx6 : w12.cell? ⟨w6.heap.size, 6, none⟩ = some (.int .i64 x6) := (bxx.cell 6).trans rfl
  have qlx := bxx.lt
  have HXx := Lib.hid bxx
  clear bxx
  have qg0 : w12.cell? ⟨w8.heap.size, 0, none⟩ = some (.int .i64 g0) := (bxg.cell 0).trans rfl
  have qg1 : w12.cell? ⟨w8.heap.size, 1, none⟩ = some (.int .i64 g1) := (bxg.cell 1).trans rfl
  have qg2 : w12.cell? ⟨w8.heap.size, 2, none⟩ = some (.int .i64 g2) := (bxg.cell 2).trans rfl
  have qg3 : w12.cell? ⟨w8.heap.size, 3, none⟩ = some (.slice gS gn gc) := (bxg.cell 3).trans rfl
  have qg4 : w12.cell? ⟨w8.heap.size, 4, none⟩ = some (.slice gT gm gd) := (bxg.cell 4).trans rfl
  have qg5 : w12.cell? ⟨w8.heap.size, 5, none⟩ = some (.int .i64 g5) := (bxg.cell 5).trans rfl
  have qg6 : w12.cell? ⟨w8.heap.size, 6, none⟩ = some (.int .i64 g6) := (bxg.cell 6).trans rfl
  have qlg := bxg.lt
  have HXg := Lib.hid bxg
  clear bxg
  go_wp2_with fail
  have bxa := HXa.out
  clear qa0 qa1 qa2 qa3 qa4 qa5 qa6 qla HXa
  have bxu := HXu.out
  clear qu0 qu1 qu2 qu3 qu4 qu5 qu6 qlu HXu
  have bxx := HXx.out
  clear qx0 qx1 qx2 qx3 qx4 qx5 qx6 qlx HXx
  have bxg := HXg.out
  clear qg0 qg1 qg2 qg3 qg4 qg5 qg6 qlg HXg
  refine (markEngine_far e (.agg #[.int .i64 x0, .int .i64 x1, .int .i64 x2, .slice xS xn xc, .slice xT xm xd, .int .i64 x5, .int .i64 x6]) w5.heap.size 1 w6 _ (by omega) bm bi (by omega) (by omega) HEx.out HBx.out).mono ?_
  rintro r w13 ⟨rfl, hgp⟩
  have szw13 := hgp.1.size
  have bxa := hgp.blk bxa (by omega)
  have bxu := hgp.blk bxu (by omega)
  have bxx := hgp.blk bxx (by omega)
  have bxg := hgp.blk bxg (by omega)
  have HG := Lib.hid (hgp.eng (EngO.below HG.out HBg.out) (by omega))
  have HBw := Lib.hid (HBw.out.trans (hgp.1.mono (by have := HBw.out.size; omega)))
  have HBq := Lib.hid (HBq.out.trans (hgp.1.mono (by have := HBq.out.size; omega)))
  have HBu := Lib.hid (HBu.out.trans (hgp.1.mono (by have := HBu.out.size; omega)))
  clear hgp HBx HBg HEx
  have HBg := Lib.hid (Below.refl w13.heap.size w13)
  have hd1 : decide ((1 : Int) + 2 * (e.ms.length : Int) + 7 * (e.it.length : Int) < 0) = false := by simp; omega
  have qa0 : w13.cell? ⟨w.heap.size, 0, none⟩ = some (.int .i64 e.W) := (bxa.cell 0).trans rfl
  have qa1 : w13.cell? ⟨w.heap.size, 1, none⟩ = some (.int .i64 e.col) := (bxa.cell 1).trans rfl
  have qa2 : w13.cell? ⟨w.heap.size, 2, none⟩ = some (.int .i64 e.pend) := (bxa.cell 2).trans rfl
  have qa3 : w13.cell? ⟨w.heap.size, 3, none⟩ = some (.slice A e.ms.length c) := (bxa.cell 3).trans rfl
  have qa4 : w13.cell? ⟨w.heap.size, 4, none⟩ = some (.slice A2 e.it.length c2) := (bxa.cell 4).trans rfl
  have qa5 : w13.cell? ⟨w.heap.size, 5, none⟩ = some (.int .i64 e.tot) := (bxa.cell 5).trans rfl
  have qa6 : w13.cell? ⟨w.heap.size, 6, none⟩ = some (.int .i64 e.lev) := (bxa.cell 6).trans rfl
  have qla := bxa.lt
  have HXa := Lib.hid bxa
  clear bxa
  have qu0 : w13.cell? ⟨w4.heap.size, 0, none⟩ = some (.int .i64 u0) := (bxu.cell 0).trans rfl
  have qu1 : w13.cell? ⟨w4.heap.size, 1, none⟩ = some (.int .i64 u1) := (bxu.cell 1).trans rfl
  have qu2 : w13.cell? ⟨w4.heap.size, 2, none⟩ = some (.int .i64 u2) := (bxu.cell 2).trans rfl
  have qu3 : w13.cell? ⟨w4.heap.size, 3, none⟩ = some (.slice uS un uc) := (bxu.cell 3).trans rfl
  have qu4 : w13.cell? ⟨w4.heap.size, 4, none⟩ = some (.slice uT um ud) := (bxu.cell 4).trans rfl
  have qu5 : w13.cell? ⟨w4.heap.size, 5, none⟩ = some (.int .i64 u5) := (bxu.cell 5).trans rfl
  have qu6 : w13.cell? ⟨w4.heap.size, 6, none⟩ = some (.int .i64 u6) := (bxu.cell 6).trans rfl
  have qlu := bxu.lt
  have HXu := Lib.hid bxu
  clear bxu
  have qx0 : w13.cell? ⟨w6.heap.size, 0, none⟩ = some (.int .i64 x0) := (bxx.cell 0).trans rfl
  have qx1 : w13.cell? ⟨w6.heap.size, 1, none⟩ = some (.int .i64 x1) := (bxx.cell 1).trans rfl
  have qx2 : w13.cell? ⟨w6.heap.size, 2, none⟩ = some (.int .i64 x2) := (bxx.cell 2).trans rfl
  have qx3 : w13.cell? ⟨w6.heap.size, 3, none⟩ = some (.slice xS xn xc) := (bxx.cell 3).trans rfl
  have qx4 : w13.cell? ⟨w6.heap.size, 4, none⟩ = some (.slice xT xm xd) := (bxx.cell 4).trans rfl
  have qx5 : w13.cell? ⟨w6.heap.size, 5, none⟩ = some (.int .i64 x5) := (bxx.cell 5).trans rfl
  have qx6 : w13.cell? ⟨w6.heap.size, 6, none⟩ = some (.int .i64 x6) := (bxx.cell 6).trans rfl
  have qlx := bxx.lt
  have HXx := Lib.hid bxx
  clear bxx
  have qg0 : w13.cell? ⟨w8.heap.size, 0, none⟩ = some (.int .i64 g0) := (bxg.cell 0).trans rfl
  have qg1 : w13.cell? ⟨w8.heap.size, 1, none⟩ = some (.int .i64 g1) := (bxg.cell 1).trans rfl
  have qg2 : w13.cell? ⟨w8.heap.size, 2, none⟩ = some (.int .i64 g2) := (bxg.cell 2).trans rfl
  have qg3 : w13.cell? ⟨w8.heap.size, 3, none⟩ = some (.slice gS gn gc) := (bxg.cell 3).trans rfl
  have qg4 : w13.cell? ⟨w8.heap.size, 4, none⟩ = some (.slice gT gm gd) := (bxg.cell 4).trans rfl
  have qg5 : w13.cell? ⟨w8.heap.size, 5, none⟩ = some (.int .i64 g5) := (bxg.cell 5).trans rfl
  have qg6 : w13.cell? ⟨w8.heap.size, 6, none⟩ = some (.int .i64 g6) := (bxg.cell 6).trans rfl
  have qlg := bxg.lt
  have HXg := Lib.hid bxg
  clear bxg
  go_wp2_with fail
  have bxa := HXa.out
  clear qa0 qa1 qa2 qa3 qa4 qa5 qa6 qla HXa
  have bxu := HXu.out
  clear qu0 qu1 qu2 qu3 qu4 qu5 qu6 qlu HXu
  have bxx := HXx.out
  clear qx0 qx1 qx2 qx3 qx4 qx5 qx6 qlx HXx
  have bxg := HXg.out
  clear qg0 qg1 qg2 qg3 qg4 qg5 qg6 qlg HXg
  refine (eqEngine_same (finE e) (.agg #[.int .i64 g0, .int .i64 g1, .int .i64 g2, .slice gS gn gc, .slice gT gm gd, .int .i64 g5, .int .i64 g6]) (.agg #[.int .i64 u0, .int .i64 u1, .int .i64 u2, .slice uS un uc, .slice uT um ud, .int .i64 u5, .int .i64 u6]) _ fm1 fi1 ((EngO.r HG.out).below HBg.out) (HU.out.below HBu.out)).mono ?_
  rintro r w14 ⟨rfl, hb⟩
  have szw14 := hb.size
  have bxa := bxa.below hb bxa.lt
  have bxu := bxu.below hb bxu.lt
  have bxx := bxx.below hb bxx.lt
  have bxg := bxg.below hb bxg.lt
  have HBw := Lib.hid (HBw.out.trans (hb.mono HBw.out.size))
  have HBq := Lib.hid (HBq.out.trans (hb.mono HBq.out.size))
  have HBu := Lib.hid (HBu.out.trans (hb.mono HBu.out.size))
  have HBg := Lib.hid (HBg.out.trans (hb.mono HBg.out.size))
  clear hb
  have qa0 : w14.cell? ⟨w.heap.size, 0, none⟩ = some (.int .i64 e.W) := (bxa.cell 0).trans rfl
  have qa1 : w14.cell? ⟨w.heap.size, 1, none⟩ = some (.int .i64 e.col) := (bxa.cell 1).trans rfl
  have qa2 : w14.cell? ⟨w.heap.size, 2, none⟩ = some (.int .i64 e.pend) := (bxa.cell 2).trans rfl
  have qa3 : w14.cell? ⟨w.heap.size, 3, none⟩ = some (.slice A e.ms.length c) := (bxa.cell 3).trans rfl
  have qa4 : w14.cell? ⟨w.heap.size, 4, none⟩ = some (.slice A2 e.it.length c2) := (bxa.cell 4).trans rfl
  have qa5 : w14.cell? ⟨w.heap.size, 5, none⟩ = some (.int .i64 e.tot) := (bxa.cell 5).trans rfl
  have qa6 : w14.cell? ⟨w.heap.size, 6, none⟩ = some (.int .i64 e.lev) := (bxa.cell 6).trans rfl
  have qla := bxa.lt
  have HXa := Lib.hid bxa
  clear bxa
  have qu0 : w14.cell? ⟨w4.heap.size, 0, none⟩ = some (.int .i64 u0) := (bxu.cell 0).trans rfl
  have qu1 : w14.cell? ⟨w4.heap.size, 1, none⟩ = some (.int .i64 u1) := (bxu.cell 1).trans rfl
  have qu2 : w14.cell? ⟨w4.heap.size, 2, none⟩ = some (.int .i64 u2) := (bxu.cell 2).trans rfl
  have qu3 : w14.cell? ⟨w4.heap.size, 3, none⟩ = some (.slice uS un uc) := (bxu.cell 3).trans rfl
  have qu4 : w14.cell? ⟨w4.heap.size, 4, none⟩ = some (.slice uT um ud) := (bxu.cell 4).trans rfl
  have qu5 : w14.cell? ⟨w4.heap.size, 5, none⟩ = some (.int .i64 u5) := (bxu.cell 5).trans rfl
  have qu6 : w14.cell? ⟨w4.heap.size, 6, none⟩ = some (.int .i64 u6) := (bxu.cell 6).trans rfl
  have qlu := bxu.lt
  have HXu := Lib.hid bxu
  clear bxu
  have qx0 : w14.cell? ⟨w6.heap.size, 0, none⟩ = some (.int .i64 x0) := (bxx.cell 0).trans rfl
  have qx1 : w14.cell? ⟨w6.heap.size, 1, none⟩ = some (.int .i64 x1) := (bxx.cell 1).trans rfl
  have qx2 : w14.cell? ⟨w6.heap.size, 2, none⟩ = some (.int .i64 x2) := (bxx.cell 2).trans rfl
  have qx3 : w14.cell? ⟨w6.heap.size, 3, none⟩ = some (.slice xS xn xc) := (bxx.cell 3).trans rfl
  have qx4 : w14.cell? ⟨w6.heap.size, 4, none⟩ = some (.slice xT xm xd) := (bxx.cell 4).trans rfl
  have qx5 : w14.cell? ⟨w6.heap.size, 5, none⟩ = some (.int .i64 x5) := (bxx.cell 5).trans rfl
  have qx6 : w14.cell? ⟨w6.heap.size, 6, none⟩ = some (.int .i64 x6) := (bxx.cell 6).trans rfl
  have qlx := bxx.lt
  have HXx := Lib.hid bxx
  clear bxx
  have qg0 : w14.cell? ⟨w8.heap.size, 0, none⟩ = some (.int .i64 g0) := (bxg.cell 0).trans rfl
  have qg1 : w14.cell? ⟨w8.heap.size, 1, none⟩ = some (.int .i64 g1) := (bxg.cell 1).trans rfl
  have qg2 : w14.cell? ⟨w8.heap.size, 2, none⟩ = some (.int .i64 g2) := (bxg.cell 2).trans rfl
  have qg3 : w14.cell? ⟨w8.heap.size, 3, none⟩ = some (.slice gS gn gc) := (bxg.cell 3).trans rfl
  have qg4 : w14.cell? ⟨w8.heap.size, 4, none⟩ = some (.slice gT gm gd) := (bxg.cell 4).trans rfl
  have qg5 : w14.cell? ⟨w8.heap.size, 5, none⟩ = some (.int .i64 g5) := (bxg.cell 5).trans rfl
  have qg6 : w14.cell? ⟨w8.heap.size, 6, none⟩ = some (.int .i64 g6) := (bxg.cell 6).trans rfl
  have qlg := bxg.lt
  have HXg := Lib.hid bxg
  clear bxg
  go_wp2_with fail
  have bxa := HXa.out
  clear qa0 qa1 qa2 qa3 qa4 qa5 qa6 qla HXa
  have bxu := HXu.out
  clear qu0 qu1 qu2 qu3 qu4 qu5 qu6 qlu HXu
  have bxx := HXx.out
  clear qx0 qx1 qx2 qx3 qx4 qx5 qx6 qlx HXx
  have bxg := HXg.out
  clear qg0 qg1 qg2 qg3 qg4 qg5 qg6 qlg HXg
  refine (markEngine_any (finE e) (.agg #[.int .i64 g0, .int .i64 g1, .int .i64 g2, .slice gS gn gc, .slice gT gm gd, .int .i64 g5, .int .i64 g6]) w7.heap.size 1 _ (by omega) fm1 fi1 (by omega) (by omega) (EngO.below HG.out HBg.out)).mono ?_
  rintro r w15 ⟨rfl, ho, hb, ht⟩
  have szw15 := hb.size
  have bxa : BlkL w15 w.heap.size 25 _ := (ht _ _ _ _ bxa (by decide) (by decide)).trans bxa
  have bxu : BlkL w15 w4.heap.size 33 _ := (ht _ _ _ _ bxu (by decide) (by decide)).trans bxu
  have bxx : BlkL w15 w6.heap.size 33 _ := (ht _ _ _ _ bxx (by decide) (by decide)).trans bxx
  have bxg : BlkL w15 w8.heap.size 33 _ := (ht _ _ _ _ bxg (by decide) (by decide)).trans bxg
  have HBw := Lib.hid (HBw.out.trans (hb.mono (by omega)))
  have HBq := Lib.hid (HBq.out.trans (hb.mono (by omega)))
  have HBu := Lib.hid (HBu.out.trans (hb.mono (by omega)))
  clear hb ht
  have HM := Lib.hid (EngO.r ho)
  clear ho HG
  have HBm := Lib.hid (Below.refl w15.heap.size w15)
  have hd0 : decide ((1 : Int) + 2 * (((finE e)).ms.length : Int) + 7 * (((finE e)).it.length : Int) < 0) = false := by simp; omega
  have qa0 : w15.cell? ⟨w.heap.size, 0, none⟩ = some (.int .i64 e.W) := (bxa.cell 0).trans rfl
  have qa1 : w15.cell? ⟨w.heap.size, 1, none⟩ = some (.int .i64 e.col) := (bxa.cell 1).trans rfl
  have qa2 : w15.cell? ⟨w.heap.size, 2, none⟩ = some (.int .i64 e.pend) := (bxa.cell 2).trans rfl
  have qa3 : w15.cell? ⟨w.heap.size, 3, none⟩ = some (.slice A e.ms.length c) := (bxa.cell 3).trans rfl
  have qa4 : w15.cell? ⟨w.heap.size, 4, none⟩ = some (.slice A2 e.it.length c2) := (bxa.cell 4).trans rfl
  have qa5 : w15.cell? ⟨w.heap.size, 5, none⟩ = some (.int .i64 e.tot) := (bxa.cell 5).trans rfl
  have qa6 : w15.cell? ⟨w.heap.size, 6, none⟩ = some (.int .i64 e.lev) := (bxa.cell 6).trans rfl
  have qla := bxa.lt
  have HXa := Lib.hid bxa
  clear bxa
  have qu0 : w15.cell? ⟨w4.heap.size, 0, none⟩ = some (.int .i64 u0) := (bxu.cell 0).trans rfl
  have qu1 : w15.cell? ⟨w4.heap.size, 1, none⟩ = some (.int .i64 u1) := (bxu.cell 1).trans rfl
  have qu2 : w15.cell? ⟨w4.heap.size, 2, none⟩ = some (.int .i64 u2) := (bxu.cell 2).trans rfl
  have qu3 : w15.cell? ⟨w4.heap.size, 3, none⟩ = some (.slice uS un uc) := (bxu.cell 3).trans rfl
  have qu4 : w15.cell? ⟨w4.heap.size, 4, none⟩ = some (.slice uT um ud) := (bxu.cell 4).trans rfl
  have qu5 : w15.cell? ⟨w4.heap.size, 5, none⟩ = some (.int .i64 u5) := (bxu.cell 5).trans rfl
  have qu6 : w15.cell? ⟨w4.heap.size, 6, none⟩ = some (.int .i64 u6) := (bxu.cell 6).trans rfl
  have qlu := bxu.lt
  have HXu := Lib.hid bxu
  clear bxu
  have qx0 : w15.cell? ⟨w6.heap.size, 0, none⟩ = some (.int .i64 x0) := (bxx.cell 0).trans rfl
  have qx1 : w15.cell? ⟨w6.heap.size, 1, none⟩ = some (.int .i64 x1) := (bxx.cell 1).trans rfl
  have qx2 : w15.cell? ⟨w6.heap.size, 2, none⟩ = some (.int .i64 x2) := (bxx.cell 2).trans rfl
  have qx3 : w15.cell? ⟨w6.heap.size, 3, none⟩ = some (.slice xS xn xc) := (bxx.cell 3).trans rfl
  have qx4 : w15.cell? ⟨w6.heap.size, 4, none⟩ = some (.slice xT xm xd) := (bxx.cell 4).trans rfl
  have qx5 : w15.cell? ⟨w6.heap.size, 5, none⟩ = some (.int .i64 x5) := (bxx.cell 5).trans rfl
  have qx6 : w15.cell? ⟨w6.heap.size, 6, none⟩ = some (.int .i64 x6) := (bxx.cell 6).trans rfl
  have qlx := bxx.lt
  have HXx := Lib.hid bxx
  clear bxx
  have qg0 : w15.cell? ⟨w8.heap.size, 0, none⟩ = some (.int .i64 g0) := (bxg.cell 0).trans rfl
  have qg1 : w15.cell? ⟨w8.heap.size, 1, none⟩ = some (.int .i64 g1) := (bxg.cell 1).trans rfl
  have qg2 : w15.cell? ⟨w8.heap.size, 2, none⟩ = some (.int .i64 g2) := (bxg.cell 2).trans rfl
  have qg3 : w15.cell? ⟨w8.heap.size, 3, none⟩ = some (.slice gS gn gc) := (bxg.cell 3).trans rfl
  have qg4 : w15.cell? ⟨w8.heap.size, 4, none⟩ = some (.slice gT gm gd) := (bxg.cell 4).trans rfl
  have qg5 : w15.cell? ⟨w8.heap.size, 5, none⟩ = some (.int .i64 g5) := (bxg.cell 5).trans rfl
  have qg6 : w15.cell? ⟨w8.heap.size, 6, none⟩ = some (.int .i64 g6) := (bxg.cell 6).trans rfl
  have qlg := bxg.lt
  have HXg := Lib.hid bxg
  clear bxg
  go_wp2_with fail
  have bxa := HXa.out
  clear qa0 qa1 qa2 qa3 qa4 qa5 qa6 qla HXa
  have bxu := HXu.out
  clear qu0 qu1 qu2 qu3 qu4 qu5 qu6 qlu HXu
  have bxx := HXx.out
  clear qx0 qx1 qx2 qx3 qx4 qx5 qx6 qlx HXx
  have bxg := HXg.out
  clear qg0 qg1 qg2 qg3 qg4 qg5 qg6 qlg HXg
  refine (heldEngine_any (finE e) (.agg #[.int .i64 g0, .int .i64 g1, .int .i64 g2, .slice gS gn gc, .slice gT gm gd, .int .i64 g5, .int .i64 g6]) 1 _ fm1 fi1 (by omega) (by omega) (HM.out.below HBm.out)).mono ?_
  rintro r w16 ⟨rfl, hb⟩
  have szw16 := hb.size
  have bxa := bxa.below hb bxa.lt
  have bxu := bxu.below hb bxu.lt
  have bxx := bxx.below hb bxx.lt
  have bxg := bxg.below hb bxg.lt
  have HBw := Lib.hid (HBw.out.trans (hb.mono HBw.out.size))
  have HBq := Lib.hid (HBq.out.trans (hb.mono HBq.out.size))
  have HBu := Lib.hid (HBu.out.trans (hb.mono HBu.out.size))
  have HBm := Lib.hid (HBm.out.trans (hb.mono HBm.out.size))
  clear hb
  have qa0 : w16.cell? ⟨w.heap.size, 0, none⟩ = some (.int .i64 e.W) := (bxa.cell 0).trans rfl
  have qa1 : w16.cell? ⟨w.heap.size, 1, none⟩ = some (.int .i64 e.col) := (bxa.cell 1).trans rfl
  have qa2 : w16.cell? ⟨w.heap.size, 2, none⟩ = some (.int .i64 e.pend) := (bxa.cell 2).trans rfl
  have qa3 : w16.cell? ⟨w.heap.size, 3, none⟩ = some (.slice A e.ms.length c) := (bxa.cell 3).trans rfl
  have qa4 : w16.cell? ⟨w.heap.size, 4, none⟩ = some (.slice A2 e.it.length c2) := (bxa.cell 4).trans rfl
  have qa5 : w16.cell? ⟨w.heap.size, 5, none⟩ = some (.int .i64 e.tot) := (bxa.cell 5).trans rfl
  have qa6 : w16.cell? ⟨w.heap.size, 6, none⟩ = some (.int .i64 e.lev) := (bxa.cell 6).trans rfl
  have qla := bxa.lt
  have HXa := Lib.hid bxa
  clear bxa
  have qu0 : w16.cell? ⟨w4.heap.size, 0, none⟩ = some (.int .i64 u0) := (bxu.cell 0).trans rfl
  have qu1 : w16.cell? ⟨w4.heap.size, 1, none⟩ = some (.int .i64 u1) := (bxu.cell 1).trans rfl
  have qu2 : w16.cell? ⟨w4.heap.size, 2, none⟩ = some (.int .i64 u2) := (bxu.cell 2).trans rfl
  have qu3 : w16.cell? ⟨w4.heap.size, 3, none⟩ = some (.slice uS un uc) := (bxu.cell 3).trans rfl
  have qu4 : w16.cell? ⟨w4.heap.size, 4, none⟩ = some (.slice uT um ud) := (bxu.cell 4).trans rfl
  have qu5 : w16.cell? ⟨w4.heap.size, 5, none⟩ = some (.int .i64 u5) := (bxu.cell 5).trans rfl
  have qu6 : w16.cell? ⟨w4.heap.size, 6, none⟩ = some (.int .i64 u6) := (bxu.cell 6).trans rfl
  have qlu := bxu.lt
  have HXu := Lib.hid bxu
  clear bxu
  have qx0 : w16.cell? ⟨w6.heap.size, 0, none⟩ = some (.int .i64 x0) := (bxx.cell 0).trans rfl
  have qx1 : w16.cell? ⟨w6.heap.size, 1, none⟩ = some (.int .i64 x1) := (bxx.cell 1).trans rfl
  have qx2 : w16.cell? ⟨w6.heap.size, 2, none⟩ = some (.int .i64 x2) := (bxx.cell 2).trans rfl
  have qx3 : w16.cell? ⟨w6.heap.size, 3, none⟩ = some (.slice xS xn xc) := (bxx.cell 3).trans rfl
  have qx4 : w16.cell? ⟨w6.heap.size, 4, none⟩ = some (.slice xT xm xd) := (bxx.cell 4).trans rfl
  have qx5 : w16.cell? ⟨w6.heap.size, 5, none⟩ = some (.int .i64 x5) := (bxx.cell 5).trans rfl
  have qx6 : w16.cell? ⟨w6.heap.size, 6, none⟩ = some (.int .i64 x6) := (bxx.cell 6).trans rfl
  have qlx := bxx.lt
  have HXx := Lib.hid bxx
  clear bxx
  have qg0 : w16.cell? ⟨w8.heap.size, 0, none⟩ = some (.int .i64 g0) := (bxg.cell 0).trans rfl
  have qg1 : w16.cell? ⟨w8.heap.size, 1, none⟩ = some (.int .i64 g1) := (bxg.cell 1).trans rfl
  have qg2 : w16.cell? ⟨w8.heap.size, 2, none⟩ = some (.int .i64 g2) := (bxg.cell 2).trans rfl
  have qg3 : w16.cell? ⟨w8.heap.size, 3, none⟩ = some (.slice gS gn gc) := (bxg.cell 3).trans rfl
  have qg4 : w16.cell? ⟨w8.heap.size, 4, none⟩ = some (.slice gT gm gd) := (bxg.cell 4).trans rfl
  have qg5 : w16.cell? ⟨w8.heap.size, 5, none⟩ = some (.int .i64 g5) := (bxg.cell 5).trans rfl
  have qg6 : w16.cell? ⟨w8.heap.size, 6, none⟩ = some (.int .i64 g6) := (bxg.cell 6).trans rfl
  have qlg := bxg.lt
  have HXg := Lib.hid bxg
  clear bxg
  go_wp2_with fail
  have bxa := HXa.out
  clear qa0 qa1 qa2 qa3 qa4 qa5 qa6 qla HXa
  have bxu := HXu.out
  clear qu0 qu1 qu2 qu3 qu4 qu5 qu6 qlu HXu
  have bxx := HXx.out
  clear qx0 qx1 qx2 qx3 qx4 qx5 qx6 qlx HXx
  have bxg := HXg.out
  clear qg0 qg1 qg2 qg3 qg4 qg5 qg6 qlg HXg
  refine (toEngine_any e A c A2 c2 _ bm0 bi0 (RS.below M1.out HBw.out) (RS.below I1.out HBw.out)).mono ?_
  rintro r w17 ⟨v, rfl, ho, hb⟩
  have szw17 := hb.size
  have bxa := bxa.below hb bxa.lt
  have bxu := bxu.below hb bxu.lt
  have bxx := bxx.below hb bxx.lt
  have bxg := bxg.below hb bxg.lt
  have HBw := Lib.hid (HBw.out.trans (hb.mono HBw.out.size))
  have HBq := Lib.hid (HBq.out.trans (hb.mono HBq.out.size))
  have HBu := Lib.hid (HBu.out.trans (hb.mono HBu.out.size))
  have HBm := Lib.hid (HBm.out.trans (hb.mono HBm.out.size))
  clear hb
  obtain ⟨z0, z1, z2, zS, zn, zc, zT, zm, zd, z5, z6, rfl⟩ := EngO.shape ho
  have HEz := Lib.hid ho
  clear ho
  have HBz := Lib.hid (Below.refl w17.heap.size w17)
  have qa0 : w17.cell? ⟨w.heap.size, 0, none⟩ = some (.int .i64 e.W) := (bxa.cell 0).trans rfl
  have qa1 : w17.cell? ⟨w.heap.size, 1, none⟩ = some (.int .i64 e.col) := (bxa.cell 1).trans rfl
  have qa2 : w17.cell? ⟨w.heap.size, 2, none⟩ = some (.int .i64 e.pend) := (bxa.cell 2).trans rfl
  have qa3 : w17.cell? ⟨w.heap.size, 3, none⟩ = some (.slice A e.ms.length c) := (bxa.cell 3).trans rfl
  have qa4 : w17.cell? ⟨w.heap.size, 4, none⟩ = some (.slice A2 e.it.length c2) := (bxa.cell 4).trans rfl
  have qa5 : w17.cell? ⟨w.heap.size, 5, none⟩ = some (.int .i64 e.tot) := (bxa.cell 5).trans rfl
  have qa6 : w17.cell? ⟨w.heap.size, 6, none⟩ = some (.int .i64 e.lev) := (bxa.cell 6).trans rfl
  have qla := bxa.lt
  have HXa := Lib.hid bxa
  clear bxa
  have qu0 : w17.cell? ⟨w4.heap.size, 0, none⟩ = some (.int .i64 u0) := (bxu.cell 0).trans rfl
  have qu1 : w17.cell? ⟨w4.heap.size, 1, none⟩ = some (.int .i64 u1) := (bxu.cell 1).trans rfl
  have qu2 : w17.cell? ⟨w4.heap.size, 2, none⟩ = some (.int .i64 u2) := (bxu.cell 2).trans rfl
  have qu3 : w17.cell? ⟨w4.heap.size, 3, none⟩ = some (.slice uS un uc) := (bxu.cell 3).trans rfl
  have qu4 : w17.cell? ⟨w4.heap.size, 4, none⟩ = some (.slice uT um ud) := (bxu.cell 4).trans rfl
  have qu5 : w17.cell? ⟨w4.heap.size, 5, none⟩ = some (.int .i64 u5) := (bxu.cell 5).trans rfl
  have qu6 : w17.cell? ⟨w4.heap.size, 6, none⟩ = some (.int .i64 u6) := (bxu.cell 6).trans rfl
  have qlu := bxu.lt
  have HXu := Lib.hid bxu
  clear bxu
  have qx0 : w17.cell? ⟨w6.heap.size, 0, none⟩ = some (.int .i64 x0) := (bxx.cell 0).trans rfl
  have qx1 : w17.cell? ⟨w6.heap.size, 1, none⟩ = some (.int .i64 x1) := (bxx.cell 1).trans rfl
  have qx2 : w17.cell? ⟨w6.heap.size, 2, none⟩ = some (.int .i64 x2) := (bxx.cell 2).trans rfl
  have qx3 : w17.cell? ⟨w6.heap.size, 3, none⟩ = some (.slice xS xn xc) := (bxx.cell 3).trans rfl
  have qx4 : w17.cell? ⟨w6.heap.size, 4, none⟩ = some (.slice xT xm xd) := (bxx.cell 4).trans rfl
  have qx5 : w17.cell? ⟨w6.heap.size, 5, none⟩ = some (.int .i64 x5) := (bxx.cell 5).trans rfl
  have qx6 : w17.cell? ⟨w6.heap.size, 6, none⟩ = some (.int .i64 x6) := (bxx.cell 6).trans rfl
  have qlx := bxx.lt
  have HXx := Lib.hid bxx
  clear bxx
  have qg0 : w17.cell? ⟨w8.heap.size, 0, none⟩ = some (.int .i64 g0) := (bxg.cell 0).trans rfl
  have qg1 : w17.cell? ⟨w8.heap.size, 1, none⟩ = some (.int .i64 g1) := (bxg.cell 1).trans rfl
  have qg2 : w17.cell? ⟨w8.heap.size, 2, none⟩ = some (.int .i64 g2) := (bxg.cell 2).trans rfl
  have qg3 : w17.cell? ⟨w8.heap.size, 3, none⟩ = some (.slice gS gn gc) := (bxg.cell 3).trans rfl
  have qg4 : w17.cell? ⟨w8.heap.size, 4, none⟩ = some (.slice gT gm gd) := (bxg.cell 4).trans rfl
  have qg5 : w17.cell? ⟨w8.heap.size, 5, none⟩ = some (.int .i64 g5) := (bxg.cell 5).trans rfl
  have qg6 : w17.cell? ⟨w8.heap.size, 6, none⟩ = some (.int .i64 g6) := (bxg.cell 6).trans rfl
  have qlg := bxg.lt
  have HXg := Lib.hid bxg
  clear bxg
  go_wp2_with fail
  have bxa := HXa.out
  clear qa0 qa1 qa2 qa3 qa4 qa5 qa6 qla HXa
  have bxu := HXu.out
  clear qu0 qu1 qu2 qu3 qu4 qu5 qu6 qlu HXu
  have bxx := HXx.out
  clear qx0 qx1 qx2 qx3 qx4 qx5 qx6 qlx HXx
  have bxg := HXg.out
  clear qg0 qg1 qg2 qg3 qg4 qg5 qg6 qlg HXg
  refine (FinishEngine_any e (.agg #[.int .i64 z0, .int .i64 z1, .int .i64 z2, .slice zS zn zc, .slice zT zm zd, .int .i64 z5, .int .i64 z6]) _ bm bi HF.out ((EngO.r HEz.out).below HBz.out)).mono ?_
  rintro r w18 ⟨v, rfl, ho, hb⟩
  have szw18 := hb.size
  have bxa := bxa.below hb bxa.lt
  have bxu := bxu.below hb bxu.lt
  have bxx := bxx.below hb bxx.lt
  have bxg := bxg.below hb bxg.lt
  have HBw := Lib.hid (HBw.out.trans (hb.mono HBw.out.size))
  have HBq := Lib.hid (HBq.out.trans (hb.mono HBq.out.size))
  have HBu := Lib.hid (HBu.out.trans (hb.mono HBu.out.size))
  have HBm := Lib.hid (HBm.out.trans (hb.mono HBm.out.size))
  have HBz := Lib.hid (HBz.out.trans (hb.mono HBz.out.size))
  clear hb
  obtain ⟨h0, h1, h2, hS, hn, hc, hT, hm, hd, h5, h6, rfl⟩ := EngO.shape ho
  have HH := Lib.hid ho
  clear ho
  have HBh := Lib.hid (Below.refl w18.heap.size w18)
  have qa0 : w18.cell? ⟨w.heap.size, 0, none⟩ = some (.int .i64 e.W) := (bxa.cell 0).trans rfl
  have qa1 : w18.cell? ⟨w.heap.size, 1, none⟩ = some (.int .i64 e.col) := (bxa.cell 1).trans rfl
  have qa2 : w18.cell? ⟨w.heap.size, 2, none⟩ = some (.int .i64 e.pend) := (bxa.cell 2).trans rfl
  have qa3 : w18.cell? ⟨w.heap.size, 3, none⟩ = some (.slice A e.ms.length c) := (bxa.cell 3).trans rfl
  have qa4 : w18.cell? ⟨w.heap.size, 4, none⟩ = some (.slice A2 e.it.length c2) := (bxa.cell 4).trans rfl
  have qa5 : w18.cell? ⟨w.heap.size, 5, none⟩ = some (.int .i64 e.tot) := (bxa.cell 5).trans rfl
  have qa6 : w18.cell? ⟨w.heap.size, 6, none⟩ = some (.int .i64 e.lev) := (bxa.cell 6).trans rfl
  have qla := bxa.lt
  have HXa := Lib.hid bxa
  clear bxa
  have qu0 : w18.cell? ⟨w4.heap.size, 0, none⟩ = some (.int .i64 u0) := (bxu.cell 0).trans rfl
  have qu1 : w18.cell? ⟨w4.heap.size, 1, none⟩ = some (.int .i64 u1) := (bxu.cell 1).trans rfl
  have qu2 : w18.cell? ⟨w4.heap.size, 2, none⟩ = some (.int .i64 u2) := (bxu.cell 2).trans rfl
  have qu3 : w18.cell? ⟨w4.heap.size, 3, none⟩ = some (.slice uS un uc) := (bxu.cell 3).trans rfl
  have qu4 : w18.cell? ⟨w4.heap.size, 4, none⟩ = some (.slice uT um ud) := (bxu.cell 4).trans rfl
  have qu5 : w18.cell? ⟨w4.heap.size, 5, none⟩ = some (.int .i64 u5) := (bxu.cell 5).trans rfl
  have qu6 : w18.cell? ⟨w4.heap.size, 6, none⟩ = some (.int .i64 u6) := (bxu.cell 6).trans rfl
  have qlu := bxu.lt
  have HXu := Lib.hid bxu
  clear bxu
  have qx0 : w18.cell? ⟨w6.heap.size, 0, none⟩ = some (.int .i64 x0) := (bxx.cell 0).trans rfl
  have qx1 : w18.cell? ⟨w6.heap.size, 1, none⟩ = some (.int .i64 x1) := (bxx.cell 1).trans rfl
  have qx2 : w18.cell? ⟨w6.heap.size, 2, none⟩ = some (.int .i64 x2) := (bxx.cell 2).trans rfl
  have qx3 : w18.cell? ⟨w6.heap.size, 3, none⟩ = some (.slice xS xn xc) := (bxx.cell 3).trans rfl
  have qx4 : w18.cell? ⟨w6.heap.size, 4, none⟩ = some (.slice xT xm xd) := (bxx.cell 4).trans rfl
  have qx5 : w18.cell? ⟨w6.heap.size, 5, none⟩ = some (.int .i64 x5) := (bxx.cell 5).trans rfl
  have qx6 : w18.cell? ⟨w6.heap.size, 6, none⟩ = some (.int .i64 x6) := (bxx.cell 6).trans rfl
  have qlx := bxx.lt
  have HXx := Lib.hid bxx
  clear bxx
  have qg0 : w18.cell? ⟨w8.heap.size, 0, none⟩ = some (.int .i64 g0) := (bxg.cell 0).trans rfl
  have qg1 : w18.cell? ⟨w8.heap.size, 1, none⟩ = some (.int .i64 g1) := (bxg.cell 1).trans rfl
  have qg2 : w18.cell? ⟨w8.heap.size, 2, none⟩ = some (.int .i64 g2) := (bxg.cell 2).trans rfl
  have qg3 : w18.cell? ⟨w8.heap.size, 3, none⟩ = some (.slice gS gn gc) := (bxg.cell 3).trans rfl
  have qg4 : w18.cell? ⟨w8.heap.size, 4, none⟩ = some (.slice gT gm gd) := (bxg.cell 4).trans rfl
  have qg5 : w18.cell? ⟨w8.heap.size, 5, none⟩ = some (.int .i64 g5) := (bxg.cell 5).trans rfl
  have qg6 : w18.cell? ⟨w8.heap.size, 6, none⟩ = some (.int .i64 g6) := (bxg.cell 6).trans rfl
  have qlg := bxg.lt
  have HXg := Lib.hid bxg
  clear bxg
  go_wp2_with fail
  have bxa := HXa.out
  clear qa0 qa1 qa2 qa3 qa4 qa5 qa6 qla HXa
  have bxu := HXu.out
  clear qu0 qu1 qu2 qu3 qu4 qu5 qu6 qlu HXu
  have bxx := HXx.out
  clear qx0 qx1 qx2 qx3 qx4 qx5 qx6 qlx HXx
  have bxg := HXg.out
  clear qg0 qg1 qg2 qg3 qg4 qg5 qg6 qlg HXg
  have bxh := BlkL.new w18 33 [.int .i64 h0, .int .i64 h1, .int .i64 h2, .slice hS hn hc, .slice hT hm hd, .int .i64 h5, .int .i64 h6]
  have bxa := bxa.alloc (.cells #[.int .i64 h0, .int .i64 h1, .int .i64 h2, .slice hS hn hc, .slice hT hm hd, .int .i64 h5, .int .i64 h6] 33)
  have bxu := bxu.alloc (.cells #[.int .i64 h0, .int .i64 h1, .int .i64 h2, .slice hS hn hc, .slice hT hm hd, .int .i64 h5, .int .i64 h6] 33)
  have bxx := bxx.alloc (.cells #[.int .i64 h0, .int .i64 h1, .int .i64 h2, .slice hS hn hc, .slice hT hm hd, .int .i64 h5, .int .i64 h6] 33)
  have bxg := bxg.alloc (.cells #[.int .i64 h0, .int .i64 h1, .int .i64 h2, .slice hS hn hc, .slice hT hm hd, .int .i64 h5, .int .i64 h6] 33)
  have HBw := Lib.hid (HBw.out.alloc (by have := HBw.out.size; omega) (.cells #[.int .i64 h0, .int .i64 h1, .int .i64 h2, .slice hS hn hc, .slice hT hm hd, .int .i64 h5, .int .i64 h6] 33))
  have HBq := Lib.hid (HBq.out.alloc (by have := HBq.out.size; omega) (.cells #[.int .i64 h0, .int .i64 h1, .int .i64 h2, .slice hS hn hc, .slice hT hm hd, .int .i64 h5, .int .i64 h6] 33))
  have HBu := Lib.hid (HBu.out.alloc (by have := HBu.out.size; omega) (.cells #[.int .i64 h0, .int .i64 h1, .int .i64 h2, .slice hS hn hc, .slice hT hm hd, .int .i64 h5, .int .i64 h6] 33))
  have HBm := Lib.hid (HBm.out.alloc (by have := HBm.out.size; omega) (.cells #[.int .i64 h0, .int .i64 h1, .int .i64 h2, .slice hS hn hc, .slice hT hm hd, .int .i64 h5, .int .i64 h6] 33))
  have HBz := Lib.hid (HBz.out.alloc (by have := HBz.out.size; omega) (.cells #[.int .i64 h0, .int .i64 h1, .int .i64 h2, .slice hS hn hc, .slice hT hm hd, .int .i64 h5, .int .i64 h6] 33))
  have HBh := Lib.hid (HBh.out.alloc (by have := HBh.out.size; omega) (.cells #[.int .i64 h0, .int .i64 h1, .int .i64 h2, .slice hS hn hc, .slice hT hm hd, .int .i64 h5, .int .i64 h6] 33))
  have hzw19 : (w18.alloc (.cells #[.int .i64 h0, .int .i64 h1, .int .i64 h2, .slice hS hn hc, .slice hT hm hd, .int .i64 h5, .int .i64 h6] 33)).heap.size = w18.heap.size + 1 := by simp
  generalize w18.alloc (.cells #[.int .i64 h0, .int .i64 h1, .int .i64 h2, .slice hS hn hc, .slice hT hm hd, .int .i64 h5, .int .i64 h6] 33) = w19 at *
  refine (eqEngine_same (finE e) (.agg #[.int .i64 h0, .int .i64 h1, .int .i64 h2, .slice hS hn hc, .slice hT hm hd, .int .i64 h5, .int .i64 h6]) (.agg #[.int .i64 u0, .int .i64 u1, .int .i64 u2, .slice uS un uc, .slice uT um ud, .int .i64 u5, .int .i64 u6]) _ fm1 fi1 ((EngO.r HH.out).below HBh.out) (HU.out.below HBu.out)).mono ?_
  rintro r w20 ⟨rfl, hb⟩
  have szw20 := hb.size
  have bxa := bxa.below hb bxa.lt
  have bxu := bxu.below hb bxu.lt
  have bxx := bxx.below hb bxx.lt
  have bxg := bxg.below hb bxg.lt
  have bxh := bxh.below hb bxh.lt
  have HBw := Lib.hid (HBw.out.trans (hb.mono HBw.out.size))
  have HBq := Lib.hid (HBq.out.trans (hb.mono HBq.out.size))
  have HBu := Lib.hid (HBu.out.trans (hb.mono HBu.out.size))
  have HBm := Lib.hid (HBm.out.trans (hb.mono HBm.out.size))
  have HBz := Lib.hid (HBz.out.trans (hb.mono HBz.out.size))
  have HBh := Lib.hid (HBh.out.trans (hb.mono HBh.out.size))
  clear hb
  have qa0 : w20.cell? ⟨w.heap.size, 0, none⟩ = some (.int .i64 e.W) := (bxa.cell 0).trans rfl
  have qa1 : w20.cell? ⟨w.heap.size, 1, none⟩ = some (.int .i64 e.col) := (bxa.cell 1).trans rfl
  have qa2 : w20.cell? ⟨w.heap.size, 2, none⟩ = some (.int .i64 e.pend) := (bxa.cell 2).trans rfl
  have qa3 : w20.cell? ⟨w.heap.size, 3, none⟩ = some (.slice A e.ms.length c) := (bxa.cell 3).trans rfl
  have qa4 : w20.cell? ⟨w.heap.size, 4, none⟩ = some (.slice A2 e.it.length c2) := (bxa.cell 4).trans rfl
  have qa5 : w20.cell? ⟨w.heap.size, 5, none⟩ = some (.int .i64 e.tot) := (bxa.cell 5).trans rfl
  have qa6 : w20.cell? ⟨w.heap.size, 6, none⟩ = some (.int .i64 e.lev) := (bxa.cell 6).trans rfl
  have qla := bxa.lt
  have HXa := Lib.hid bxa
  clear bxa
  have qu0 : w20.cell? ⟨w4.heap.size, 0, none⟩ = some (.int .i64 u0) := (bxu.cell 0).trans rfl
  have qu1 : w20.cell? ⟨w4.heap.size, 1, none⟩ = some (.int .i64 u1) := (bxu.cell 1).trans rfl
  have qu2 : w20.cell? ⟨w4.heap.size, 2, none⟩ = some (.int .i64 u2) := (bxu.cell 2).trans rfl
  have qu3 : w20.cell? ⟨w4.heap.size, 3, none⟩ = some (.slice uS un uc) := (bxu.cell 3).trans rfl
  have qu4 : w20.cell? ⟨w4.heap.size, 4, none⟩ = some (.slice uT um ud) := (bxu.cell 4).trans rfl
  have qu5 : w20.cell? ⟨w4.heap.size, 5, none⟩ = some (.int .i64 u5) := (bxu.cell 5).trans rfl
  have qu6 : w20.cell? ⟨w4.heap.size, 6, none⟩ = some (.int .i64 u6) := (bxu.cell 6).trans rfl
  have qlu := bxu.lt
  have HXu := Lib.hid bxu
  clear bxu
  have qx0 : w20.cell? ⟨w6.heap.size, 0, none⟩ = some (.int .i64 x0) := (bxx.cell 0).trans rfl
  have qx1 : w20.cell? ⟨w6.heap.size, 1, none⟩ = some (.int .i64 x1) := (bxx.cell 1).trans rfl
  have qx2 : w20.cell? ⟨w6.heap.size, 2, none⟩ = some (.int .i64 x2) := (bxx.cell 2).trans rfl
  have qx3 : w20.cell? ⟨w6.heap.size, 3, none⟩ = some (.slice xS xn xc) := (bxx.cell 3).trans rfl
  have qx4 : w20.cell? ⟨w6.heap.size, 4, none⟩ = some (.slice xT xm xd) := (bxx.cell 4).trans rfl
  have qx5 : w20.cell? ⟨w6.heap.size, 5, none⟩ = some (.int .i64 x5) := (bxx.cell 5).trans rfl
  have qx6 : w20.cell? ⟨w6.heap.size, 6, none⟩ = some (.int .i64 x6) := (bxx.cell 6).trans rfl
  have qlx := bxx.lt
  have HXx := Lib.hid bxx
  clear bxx
  have qg0 : w20.cell? ⟨w8.heap.size, 0, none⟩ = some (.int .i64 g0) := (bxg.cell 0).trans rfl
  have qg1 : w20.cell? ⟨w8.heap.size, 1, none⟩ = some (.int .i64 g1) := (bxg.cell 1).trans rfl
  have qg2 : w20.cell? ⟨w8.heap.size, 2, none⟩ = some (.int .i64 g2) := (bxg.cell 2).trans rfl
  have qg3 : w20.cell? ⟨w8.heap.size, 3, none⟩ = some (.slice gS gn gc) := (bxg.cell 3).trans rfl
  have qg4 : w20.cell? ⟨w8.heap.size, 4, none⟩ = some (.slice gT gm gd) := (bxg.cell 4).trans rfl
  have qg5 : w20.cell? ⟨w8.heap.size, 5, none⟩ = some (.int .i64 g5) := (bxg.cell 5).trans rfl
  have qg6 : w20.cell? ⟨w8.heap.size, 6, none⟩ = some (.int .i64 g6) := (bxg.cell 6).trans rfl
  have qlg := bxg.lt
  have HXg := Lib.hid bxg
  clear bxg
  have qh0 : w20.cell? ⟨w18.heap.size, 0, none⟩ = some (.int .i64 h0) := (bxh.cell 0).trans rfl
  have qh1 : w20.cell? ⟨w18.heap.size, 1, none⟩ = some (.int .i64 h1) := (bxh.cell 1).trans rfl
  have qh2 : w20.cell? ⟨w18.heap.size, 2, none⟩ = some (.int .i64 h2) := (bxh.cell 2).trans rfl
  have qh3 : w20.cell? ⟨w18.heap.size, 3, none⟩ = some (.slice hS hn hc) := (bxh.cell 3).trans rfl
  have qh4 : w20.cell? ⟨w18.heap.size, 4, none⟩ = some (.slice hT hm hd) := (bxh.cell 4).trans rfl
  have qh5 : w20.cell? ⟨w18.heap.size, 5, none⟩ = some (.int .i64 h5) := (bxh.cell 5).trans rfl
  have qh6 : w20.cell? ⟨w18.heap.size, 6, none⟩ = some (.int .i64 h6) := (bxh.cell 6).trans rfl
  have qlh := bxh.lt
  have HXh := Lib.hid bxh
  clear bxh
  go_wp2_with fail
  have bxa := HXa.out
  clear qa0 qa1 qa2 qa3 qa4 qa5 qa6 qla HXa
  have bxu := HXu.out
  clear qu0 qu1 qu2 qu3 qu4 qu5 qu6 qlu HXu
  have bxx := HXx.out
  clear qx0 qx1 qx2 qx3 qx4 qx5 qx6 qlx HXx
  have bxg := HXg.out
  clear qg0 qg1 qg2 qg3 qg4 qg5 qg6 qlg HXg
  have bxh := HXh.out
  clear qh0 qh1 qh2 qh3 qh4 qh5 qh6 qlh HXh
  refine (heldEngine_any (finE e) (.agg #[.int .i64 g0, .int .i64 g1, .int .i64 g2, .slice gS gn gc, .slice gT gm gd, .int .i64 g5, .int .i64 g6]) 1 _ fm1 fi1 (by omega) (by omega) (HM.out.below HBm.out)).mono ?_
  rintro r w21 ⟨rfl, hb⟩
  have szw21 := hb.size
  have bxa := bxa.below hb bxa.lt
  have bxu := bxu.below hb bxu.lt
  have bxx := bxx.below hb bxx.lt
  have bxg := bxg.below hb bxg.lt
  have bxh := bxh.below hb bxh.lt
  have HBw := Lib.hid (HBw.out.trans (hb.mono HBw.out.size))
  have HBq := Lib.hid (HBq.out.trans (hb.mono HBq.out.size))
  have HBu := Lib.hid (HBu.out.trans (hb.mono HBu.out.size))
  have HBm := Lib.hid (HBm.out.trans (hb.mono HBm.out.size))
  have HBz := Lib.hid (HBz.out.trans (hb.mono HBz.out.size))
  have HBh := Lib.hid (HBh.out.trans (hb.mono HBh.out.size))
  clear hb
  have qa0 : w21.cell? ⟨w.heap.size, 0, none⟩ = some (.int .i64 e.W) := (bxa.cell 0).trans rfl
  have qa1 : w21.cell? ⟨w.heap.size, 1, none⟩ = some (.int .i64 e.col) := (bxa.cell 1).trans rfl
  have qa2 : w21.cell? ⟨w.heap.size, 2, none⟩ = some (.int .i64 e.pend) := (bxa.cell 2).trans rfl
  have qa3 : w21.cell? ⟨w.heap.size, 3, none⟩ = some (.slice A e.ms.length c) := (bxa.cell 3).trans rfl
  have qa4 : w21.cell? ⟨w.heap.size, 4, none⟩ = some (.slice A2 e.it.length c2) := (bxa.cell 4).trans rfl
  have qa5 : w21.cell? ⟨w.heap.size, 5, none⟩ = some (.int .i64 e.tot) := (bxa.cell 5).trans rfl
  have qa6 : w21.cell? ⟨w.heap.size, 6, none⟩ = some (.int .i64 e.lev) := (bxa.cell 6).trans rfl
  have qla := bxa.lt
  have HXa := Lib.hid bxa
  clear bxa
  have qu0 : w21.cell? ⟨w4.heap.size, 0, none⟩ = some (.int .i64 u0) := (bxu.cell 0).trans rfl
  have qu1 : w21.cell? ⟨w4.heap.size, 1, none⟩ = some (.int .i64 u1) := (bxu.cell 1).trans rfl
  have qu2 : w21.cell? ⟨w4.heap.size, 2, none⟩ = some (.int .i64 u2) := (bxu.cell 2).trans rfl
  have qu3 : w21.cell? ⟨w4.heap.size, 3, none⟩ = some (.slice uS un uc) := (bxu.cell 3).trans rfl
  have qu4 : w21.cell? ⟨w4.heap.size, 4, none⟩ = some (.slice uT um ud) := (bxu.cell 4).trans rfl
  have qu5 : w21.cell? ⟨w4.heap.size, 5, none⟩ = some (.int .i64 u5) := (bxu.cell 5).trans rfl
  have qu6 : w21.cell? ⟨w4.heap.size, 6, none⟩ = some (.int .i64 u6) := (bxu.cell 6).trans rfl
  have qlu := bxu.lt
  have HXu := Lib.hid bxu
  clear bxu
  have qx0 : w21.cell? ⟨w6.heap.size, 0, none⟩ = some (.int .i64 x0) := (bxx.cell 0).trans rfl
  have qx1 : w21.cell? ⟨w6.heap.size, 1, none⟩ = some (.int .i64 x1) := (bxx.cell 1).trans rfl
  have qx2 : w21.cell? ⟨w6.heap.size, 2, none⟩ = some (.int .i64 x2) := (bxx.cell 2).trans rfl
  have qx3 : w21.cell? ⟨w6.heap.size, 3, none⟩ = some (.slice xS xn xc) := (bxx.cell 3).trans rfl
  have qx4 : w21.cell? ⟨w6.heap.size, 4, none⟩ = some (.slice xT xm xd) := (bxx.cell 4).trans rfl
  have qx5 : w21.cell? ⟨w6.heap.size, 5, none⟩ = some (.int .i64 x5) := (bxx.cell 5).trans rfl
  have qx6 : w21.cell? ⟨w6.heap.size, 6, none⟩ = some (.int .i64 x6) := (bxx.cell 6).trans rfl
  have qlx := bxx.lt
  have HXx := Lib.hid bxx
  clear bxx
  have qg0 : w21.cell? ⟨w8.heap.size, 0, none⟩ = some (.int .i64 g0) := (bxg.cell 0).trans rfl
  have qg1 : w21.cell? ⟨w8.heap.size, 1, none⟩ = some (.int .i64 g1) := (bxg.cell 1).trans rfl
  have qg2 : w21.cell? ⟨w8.heap.size, 2, none⟩ = some (.int .i64 g2) := (bxg.cell 2).trans rfl
  have qg3 : w21.cell? ⟨w8.heap.size, 3, none⟩ = some (.slice gS gn gc) := (bxg.cell 3).trans rfl
  have qg4 : w21.cell? ⟨w8.heap.size, 4, none⟩ = some (.slice gT gm gd) := (bxg.cell 4).trans rfl
  have qg5 : w21.cell? ⟨w8.heap.size, 5, none⟩ = some (.int .i64 g5) := (bxg.cell 5).trans rfl
  have qg6 : w21.cell? ⟨w8.heap.size, 6, none⟩ = some (.int .i64 g6) := (bxg.cell 6).trans rfl
  have qlg := bxg.lt
  have HXg := Lib.hid bxg
  clear bxg
  have qh0 : w21.cell? ⟨w18.heap.size, 0, none⟩ = some (.int .i64 h0) := (bxh.cell 0).trans rfl
  have qh1 : w21.cell? ⟨w18.heap.size, 1, none⟩ = some (.int .i64 h1) := (bxh.cell 1).trans rfl
  have qh2 : w21.cell? ⟨w18.heap.size, 2, none⟩ = some (.int .i64 h2) := (bxh.cell 2).trans rfl
  have qh3 : w21.cell? ⟨w18.heap.size, 3, none⟩ = some (.slice hS hn hc) := (bxh.cell 3).trans rfl
  have qh4 : w21.cell? ⟨w18.heap.size, 4, none⟩ = some (.slice hT hm hd) := (bxh.cell 4).trans rfl
  have qh5 : w21.cell? ⟨w18.heap.size, 5, none⟩ = some (.int .i64 h5) := (bxh.cell 5).trans rfl
  have qh6 : w21.cell? ⟨w18.heap.size, 6, none⟩ = some (.int .i64 h6) := (bxh.cell 6).trans rfl
  have qlh := bxh.lt
  have HXh := Lib.hid bxh
  clear bxh
  go_wp2
  go_ret
  exact ⟨rfl, HBw.out⟩

set_option maxRecDepth 100000 in
theorem lifted (os : Os) (started : os.Started) (H : Type) (enc : TypeId × Value → H) :
    ReturnsInHanded {} Try.checked os 4 .any (Rows.fnExactFinishEngineSpec.pre6 enc Try.prog Try.f4 Rows.fnExactFinishEngineRow.domain false) (Rows.fnExactFinishEngineSpec.post enc Try.prog Try.f4 false true false false) := by
  refine returnsInHanded_of_change (C := Try.checked) own started (by kernel_rfl) Try.func4
    (ChangeSpec.witness6 (enc := enc) (C := Try.checked) false ⟨#[], #[.agg #[.int .i64 0, .int .i64 0, .int .i64 0, .slice none 0 0, .slice none 0 0, .int .i64 0, .int .i64 0]], []⟩ 8 (by kernel_rfl) (by kernel_rfl) (by kernel_rfl) (by kernel_rfl)) ?_
  intro W base args ds gs before hval0 hW _ _
  have hval : ∀ (j : Nat) t v, Try.f4.params[j]? = some t → args[j]? = some v → Value.okWide Try.prog W .any base t v := hval0
  have hW' := hW
  obtain ⟨p, q, hA0, hV, rfl, _, _⟩ := hW
  have hA : DataW.TrodAll enc Try.prog W 0 (fun _ => true) true Try.f4.params.toList args.toList ds p := hA0
  rw [Try.params4] at hA hval
  obtain ⟨v0, vs0, d0, ds0, p0, q0, hargs0, rfl, rfl, h0, r0⟩ := trodAll_cons hA
  obtain ⟨rfl, rfl, rfl⟩ := trodAll_nil r0
  obtain rfl : args = #[v0] := by cases args; simp_all
  obtain ⟨rfl, rfl⟩ := trodVars_none hV
  have z0 := h0
  have lt0 : ∀ x ∈ p0, x.block < W.heap.size := by obtain ⟨m, hm⟩ := z0; exact DataW.trod_lt m _ _ _ hm
  obtain ⟨e0, A0, c0, B0, d0, rfl, hm0, hi0, lm0, li0, hf0⟩ := open_engine (hval 0 25 v0 rfl rfl) h0
  clear hA0 hval0
  refine (law e0 A0 c0 B0 d0 W hm0 hi0 lm0 li0 hf0).mono fun e W' ⟨he, bel⟩ => ?_
  subst he
  exact ⟨_, rfl, _, _, _, [], _, [], hW', trodAll_mk1 (shut_bool Try.underlying4 _), (trodAll_cons_mk (Below.trod laidOut (by kernel_rfl) (of_decide_eq_true (by kernel_rfl)) z0 bel lt0) trodAll_mk0), rfl, bel.frame _, (fun h => by cases h)⟩

theorem over : Rows.fnExactFinishEngineRow.holds Try.pinned (OpenSpec.ofChange Rows.fnExactFinishEngineSpec) :=
  OpenClaim.holds_of_wide 4 Try.f4 rfl rfl rfl rfl rfl rfl rfl ⟨rfl, rfl, rfl, rfl, rfl⟩ rfl rfl rfl rfl rfl (by kernel_rfl) Try.func4 (by kernel_rfl)
    (of_decide_eq_true (by kernel_rfl)) (by unfold Func.isWrapper; first | (rw [if_pos (by decide +kernel)]; kernel_rfl) | (rw [if_neg (by decide +kernel)]; exact ⟨rfl, rfl⟩))
    (fun os started H enc _ => lifted os started H enc)

theorem proved : Rows.FnExactFinishEngineSaid := over
#print axioms proved
end Go.Proofs.Ytigdbkdddnbfpab.fnExactFinishEngine
