/-
  The law FnExactEngineOk returns true at every argument: EngineOk answers as its model does and writes into no argument.
  Conditions: none beyond the row's own; whatever the arguments.
-/
import Derived.Test.YtnppemiophggfaaAen
import Derived.Test.YtnppemiophggfaaEnw
import Derived.Test.YtnppemiophggfaaChn
namespace Go.Proofs.Ytnppemiophggfaa.fnExactEngineOk
open Go.ChangeShapes Go.WideShapes Go.ChangeAt Go.RowKit Go.Joins
set_option linter.unusedVariables false

set_option maxHeartbeats 4000000 in
set_option maxRecDepth 100000 in
theorem law (e : En) (A : Option Addr) (c : Nat) (A2 : Option Addr) (c2 : Nat) (w : World) (h1 : MS w A e.ms) (h2 : HS w A2 e.it) (lm : e.ms.length ≤ maxLen) (li : e.it.length ≤ maxLen) (hf : Fits (tks e.it)) :
    Calls Try.prog 4 #[ev e A c A2 c2] w fun e w' => e = .returned (.bool true) ∧ Below w.heap.size w w' := by
  have M1 := Lib.hid h1
  have I1 := Lib.hid h2
  have HF := Lib.hid hf
  clear h1 h2 hf
  unfold ev
  go_enter Try.func4, Try.ntmps4
  have HBw := Lib.hid (Below.refl w.heap.size w)
  go_wp2_with fail
  have bxa := BlkL.new w 34 [.int .i64 e.W, .int .i64 e.col, .int .i64 e.pend, .slice A e.ms.length c, .slice A2 e.it.length c2, .int .i64 e.tot, .int .i64 e.lev]
  have HBw := Lib.hid (HBw.out.alloc (by have := HBw.out.size; omega) (.cells #[.int .i64 e.W, .int .i64 e.col, .int .i64 e.pend, .slice A e.ms.length c, .slice A2 e.it.length c2, .int .i64 e.tot, .int .i64 e.lev] 34))
  have hzw1 : (w.alloc (.cells #[.int .i64 e.W, .int .i64 e.col, .int .i64 e.pend, .slice A e.ms.length c, .slice A2 e.it.length c2, .int .i64 e.tot, .int .i64 e.lev] 34)).heap.size = w.heap.size + 1 := by simp
  generalize w.alloc (.cells #[.int .i64 e.W, .int .i64 e.col, .int .i64 e.pend, .slice A e.ms.length c, .slice A2 e.it.length c2, .int .i64 e.tot, .int .i64 e.lev] 34) = w1 at *
  refine (szEngine_any e A c A2 c2 1048576 _ (by omega) (by omega) lm li HF.out (RS.below I1.out HBw.out)).mono ?_
  rintro r w2 ⟨rfl, hb⟩
  have szw2 := hb.size
  have bxa := bxa.below hb bxa.lt
  have HBw := Lib.hid (HBw.out.trans (hb.mono HBw.out.size))
  clear hb
  rcases szE_cases 1048576 e with hs | ⟨hs, hsl⟩
  · rw [hs]
    have qa0 : w2.cell? ⟨w.heap.size, 0, none⟩ = some (.int .i64 e.W) := (bxa.cell 0).trans rfl
    have qa1 : w2.cell? ⟨w.heap.size, 1, none⟩ = some (.int .i64 e.col) := (bxa.cell 1).trans rfl
    have qa2 : w2.cell? ⟨w.heap.size, 2, none⟩ = some (.int .i64 e.pend) := (bxa.cell 2).trans rfl
    have qa3 : w2.cell? ⟨w.heap.size, 3, none⟩ = some (.slice A e.ms.length c) := (bxa.cell 3).trans rfl
    have qa4 : w2.cell? ⟨w.heap.size, 4, none⟩ = some (.slice A2 e.it.length c2) := (bxa.cell 4).trans rfl
    have qa5 : w2.cell? ⟨w.heap.size, 5, none⟩ = some (.int .i64 e.tot) := (bxa.cell 5).trans rfl
    have qa6 : w2.cell? ⟨w.heap.size, 6, none⟩ = some (.int .i64 e.lev) := (bxa.cell 6).trans rfl
    have qla := bxa.lt
    have HXa := Lib.hid bxa
    clear bxa
    go_wp2
    go_ret
    exact ⟨rfl, HBw.out⟩
  have hbk : e.it.length ≤ bulk (tks e.it) := by unfold bulk; rw [tks_length]; omega
  have bm0 : e.ms.length ≤ 1048576 := by omega
  have bi0 : e.it.length ≤ 1048576 := by omega
  have bm : e.ms.length ≤ 2097152 := by omega
  have bi : e.it.length ≤ 2097152 := by omega
  rw [hs]
  have hdz : decide ((1048576 : Int) - e.ms.length - (bulk (tks e.it) : Int) < 0) = false := by simp; omega
  generalize hlft : (1048576 : Int) - e.ms.length - (bulk (tks e.it) : Int) = left at *
  clear hs hsl hbk hlft
  have qa0 : w2.cell? ⟨w.heap.size, 0, none⟩ = some (.int .i64 e.W) := (bxa.cell 0).trans rfl
  have qa1 : w2.cell? ⟨w.heap.size, 1, none⟩ = some (.int .i64 e.col) := (bxa.cell 1).trans rfl
  have qa2 : w2.cell? ⟨w.heap.size, 2, none⟩ = some (.int .i64 e.pend) := (bxa.cell 2).trans rfl
  have qa3 : w2.cell? ⟨w.heap.size, 3, none⟩ = some (.slice A e.ms.length c) := (bxa.cell 3).trans rfl
  have qa4 : w2.cell? ⟨w.heap.size, 4, none⟩ = some (.slice A2 e.it.length c2) := (bxa.cell 4).trans rfl
  have qa5 : w2.cell? ⟨w.heap.size, 5, none⟩ = some (.int .i64 e.tot) := (bxa.cell 5).trans rfl
  have qa6 : w2.cell? ⟨w.heap.size, 6, none⟩ = some (.int .i64 e.lev) := (bxa.cell 6).trans rfl
  have qla := bxa.lt
  have HXa := Lib.hid bxa
  clear bxa
  go_wp2_with fail
  have bxa := HXa.out
  clear qa0 qa1 qa2 qa3 qa4 qa5 qa6 qla HXa
  refine (toEngine_any e A c A2 c2 _ bm0 bi0 (RS.below M1.out HBw.out) (RS.below I1.out HBw.out)).mono ?_
  rintro r w3 ⟨v, rfl, ho, hb⟩
  have szw3 := hb.size
  have bxa := bxa.below hb bxa.lt
  have HBw := Lib.hid (HBw.out.trans (hb.mono HBw.out.size))
  clear hb
  obtain ⟨m0, m1, m2, mS, mn, mc, mT, mm, md, m5, m6, rfl⟩ := EngO.shape ho
  have HEm := Lib.hid ho
  clear ho
  have HBm := Lib.hid (Below.refl w3.heap.size w3)
  have qa0 : w3.cell? ⟨w.heap.size, 0, none⟩ = some (.int .i64 e.W) := (bxa.cell 0).trans rfl
  have qa1 : w3.cell? ⟨w.heap.size, 1, none⟩ = some (.int .i64 e.col) := (bxa.cell 1).trans rfl
  have qa2 : w3.cell? ⟨w.heap.size, 2, none⟩ = some (.int .i64 e.pend) := (bxa.cell 2).trans rfl
  have qa3 : w3.cell? ⟨w.heap.size, 3, none⟩ = some (.slice A e.ms.length c) := (bxa.cell 3).trans rfl
  have qa4 : w3.cell? ⟨w.heap.size, 4, none⟩ = some (.slice A2 e.it.length c2) := (bxa.cell 4).trans rfl
  have qa5 : w3.cell? ⟨w.heap.size, 5, none⟩ = some (.int .i64 e.tot) := (bxa.cell 5).trans rfl
  have qa6 : w3.cell? ⟨w.heap.size, 6, none⟩ = some (.int .i64 e.lev) := (bxa.cell 6).trans rfl
  have qla := bxa.lt
  have HXa := Lib.hid bxa
  clear bxa
  go_wp2_with fail
  have bxa := HXa.out
  clear qa0 qa1 qa2 qa3 qa4 qa5 qa6 qla HXa
  refine (sEngineOk_any e (.agg #[.int .i64 m0, .int .i64 m1, .int .i64 m2, .slice mS mn mc, .slice mT mm md, .int .i64 m5, .int .i64 m6]) _ lm li HF.out ((EngO.r HEm.out).below HBm.out)).mono ?_
  rintro r w4 ⟨rfl, hb⟩
  have szw4 := hb.size
  have bxa := bxa.below hb bxa.lt
  have HBw := Lib.hid (HBw.out.trans (hb.mono HBw.out.size))
  have HBm := Lib.hid (HBm.out.trans (hb.mono HBm.out.size))
  clear hb
  have qa0 : w4.cell? ⟨w.heap.size, 0, none⟩ = some (.int .i64 e.W) := (bxa.cell 0).trans rfl
  have qa1 : w4.cell? ⟨w.heap.size, 1, none⟩ = some (.int .i64 e.col) := (bxa.cell 1).trans rfl
  have qa2 : w4.cell? ⟨w.heap.size, 2, none⟩ = some (.int .i64 e.pend) := (bxa.cell 2).trans rfl
  have qa3 : w4.cell? ⟨w.heap.size, 3, none⟩ = some (.slice A e.ms.length c) := (bxa.cell 3).trans rfl
  have qa4 : w4.cell? ⟨w.heap.size, 4, none⟩ = some (.slice A2 e.it.length c2) := (bxa.cell 4).trans rfl
  have qa5 : w4.cell? ⟨w.heap.size, 5, none⟩ = some (.int .i64 e.tot) := (bxa.cell 5).trans rfl
  have qa6 : w4.cell? ⟨w.heap.size, 6, none⟩ = some (.int .i64 e.lev) := (bxa.cell 6).trans rfl
  have qla := bxa.lt
  have HXa := Lib.hid bxa
  clear bxa
  go_wp2_with fail
  have bxa := HXa.out
  clear qa0 qa1 qa2 qa3 qa4 qa5 qa6 qla HXa
  refine (toEngine_any e A c A2 c2 _ bm0 bi0 (RS.below M1.out HBw.out) (RS.below I1.out HBw.out)).mono ?_
  rintro r w5 ⟨v, rfl, ho, hb⟩
  have szw5 := hb.size
  have bxa := bxa.below hb bxa.lt
  have HBw := Lib.hid (HBw.out.trans (hb.mono HBw.out.size))
  have HBm := Lib.hid (HBm.out.trans (hb.mono HBm.out.size))
  clear hb
  obtain ⟨x0, x1, x2, xS, xn, xc, xT, xm, xd, x5, x6, rfl⟩ := EngO.shape ho
  have HEx := Lib.hid ho
  clear ho
  have HBx := Lib.hid (Below.refl w5.heap.size w5)
  have qa0 : w5.cell? ⟨w.heap.size, 0, none⟩ = some (.int .i64 e.W) := (bxa.cell 0).trans rfl
  have qa1 : w5.cell? ⟨w.heap.size, 1, none⟩ = some (.int .i64 e.col) := (bxa.cell 1).trans rfl
  have qa2 : w5.cell? ⟨w.heap.size, 2, none⟩ = some (.int .i64 e.pend) := (bxa.cell 2).trans rfl
  have qa3 : w5.cell? ⟨w.heap.size, 3, none⟩ = some (.slice A e.ms.length c) := (bxa.cell 3).trans rfl
  have qa4 : w5.cell? ⟨w.heap.size, 4, none⟩ = some (.slice A2 e.it.length c2) := (bxa.cell 4).trans rfl
  have qa5 : w5.cell? ⟨w.heap.size, 5, none⟩ = some (.int .i64 e.tot) := (bxa.cell 5).trans rfl
  have qa6 : w5.cell? ⟨w.heap.size, 6, none⟩ = some (.int .i64 e.lev) := (bxa.cell 6).trans rfl
  have qla := bxa.lt
  have HXa := Lib.hid bxa
  clear bxa
  go_wp2_with fail
  have bxa := HXa.out
  clear qa0 qa1 qa2 qa3 qa4 qa5 qa6 qla HXa
  have bxx := BlkL.new w5 25 [.int .i64 x0, .int .i64 x1, .int .i64 x2, .slice xS xn xc, .slice xT xm xd, .int .i64 x5, .int .i64 x6]
  have bxa := bxa.alloc (.cells #[.int .i64 x0, .int .i64 x1, .int .i64 x2, .slice xS xn xc, .slice xT xm xd, .int .i64 x5, .int .i64 x6] 25)
  have HBw := Lib.hid (HBw.out.alloc (by have := HBw.out.size; omega) (.cells #[.int .i64 x0, .int .i64 x1, .int .i64 x2, .slice xS xn xc, .slice xT xm xd, .int .i64 x5, .int .i64 x6] 25))
  have HBm := Lib.hid (HBm.out.alloc (by have := HBm.out.size; omega) (.cells #[.int .i64 x0, .int .i64 x1, .int .i64 x2, .slice xS xn xc, .slice xT xm xd, .int .i64 x5, .int .i64 x6] 25))
  have HBx := Lib.hid (HBx.out.alloc (by have := HBx.out.size; omega) (.cells #[.int .i64 x0, .int .i64 x1, .int .i64 x2, .slice xS xn xc, .slice xT xm xd, .int .i64 x5, .int .i64 x6] 25))
  have hzw6 : (w5.alloc (.cells #[.int .i64 x0, .int .i64 x1, .int .i64 x2, .slice xS xn xc, .slice xT xm xd, .int .i64 x5, .int .i64 x6] 25)).heap.size = w5.heap.size + 1 := by simp
  generalize w5.alloc (.cells #[.int .i64 x0, .int .i64 x1, .int .i64 x2, .slice xS xn xc, .slice xT xm xd, .int .i64 x5, .int .i64 x6] 25) = w6 at *
  refine (EngineOk_any e (.agg #[.int .i64 x0, .int .i64 x1, .int .i64 x2, .slice xS xn xc, .slice xT xm xd, .int .i64 x5, .int .i64 x6]) _ lm li HF.out ((EngO.r HEx.out).below HBx.out)).mono ?_
  rintro r w7 ⟨rfl, hb⟩
  have szw7 := hb.size
  have bxa := bxa.below hb bxa.lt
  have bxx := bxx.below hb bxx.lt
  have HBw := Lib.hid (HBw.out.trans (hb.mono HBw.out.size))
  have HBm := Lib.hid (HBm.out.trans (hb.mono HBm.out.size))
  have HBx := Lib.hid (HBx.out.trans (hb.mono HBx.out.size))
  clear hb
  have qa0 : w7.cell? ⟨w.heap.size, 0, none⟩ = some (.int .i64 e.W) := (bxa.cell 0).trans rfl
  have qa1 : w7.cell? ⟨w.heap.size, 1, none⟩ = some (.int .i64 e.col) := (bxa.cell 1).trans rfl
  have qa2 : w7.cell? ⟨w.heap.size, 2, none⟩ = some (.int .i64 e.pend) := (bxa.cell 2).trans rfl
  have qa3 : w7.cell? ⟨w.heap.size, 3, none⟩ = some (.slice A e.ms.length c) := (bxa.cell 3).trans rfl
  have qa4 : w7.cell? ⟨w.heap.size, 4, none⟩ = some (.slice A2 e.it.length c2) := (bxa.cell 4).trans rfl
  have qa5 : w7.cell? ⟨w.heap.size, 5, none⟩ = some (.int .i64 e.tot) := (bxa.cell 5).trans rfl
  have qa6 : w7.cell? ⟨w.heap.size, 6, none⟩ = some (.int .i64 e.lev) := (bxa.cell 6).trans rfl
  have qla := bxa.lt
  have HXa := Lib.hid bxa
  clear bxa
  have qx0 : w7.cell? ⟨w5.heap.size, 0, none⟩ = some (.int .i64 x0) := (bxx.cell 0).trans rfl
  have qx1 : w7.cell? ⟨w5.heap.size, 1, none⟩ = some (.int .i64 x1) := (bxx.cell 1).trans rfl
  have qx2 : w7.cell? ⟨w5.heap.size, 2, none⟩ = some (.int .i64 x2) := (bxx.cell 2).trans rfl
  have qx3 : w7.cell? ⟨w5.heap.size, 3, none⟩ = some (.slice xS xn xc) := (bxx.cell 3).trans rfl
  have qx4 : w7.cell? ⟨w5.heap.size, 4, none⟩ = some (.slice xT xm xd) := (bxx.cell 4).trans rfl
  have qx5 : w7.cell? ⟨w5.heap.size, 5, none⟩ = some (.int .i64 x5) := (bxx.cell 5).trans rfl
  have qx6 : w7.cell? ⟨w5.heap.size, 6, none⟩ = some (.int .i64 x6) := (bxx.cell 6).trans rfl
  have qlx := bxx.lt
  have HXx := Lib.hid bxx
  clear bxx
  go_wp2_with fail
  have bxa := HXa.out
  clear qa0 qa1 qa2 qa3 qa4 qa5 qa6 qla HXa
  have bxx := HXx.out
  clear qx0 qx1 qx2 qx3 qx4 qx5 qx6 qlx HXx
  have hne : Nonempty (Kept w7) := ⟨⟨w7, Below.refl _ _⟩⟩
  have px0 := Kept.rd (show w7.cell? ⟨w5.heap.size, 0, none⟩ = some (.int .i64 x0) from (bxx.cell 0).trans rfl)
  have px1 := Kept.rd (show w7.cell? ⟨w5.heap.size, 1, none⟩ = some (.int .i64 x1) from (bxx.cell 1).trans rfl)
  have px2 := Kept.rd (show w7.cell? ⟨w5.heap.size, 2, none⟩ = some (.int .i64 x2) from (bxx.cell 2).trans rfl)
  have px3 := Kept.rd (show w7.cell? ⟨w5.heap.size, 3, none⟩ = some (.slice xS xn xc) from (bxx.cell 3).trans rfl)
  have px4 := Kept.rd (show w7.cell? ⟨w5.heap.size, 4, none⟩ = some (.slice xT xm xd) from (bxx.cell 4).trans rfl)
  have px5 := Kept.rd (show w7.cell? ⟨w5.heap.size, 5, none⟩ = some (.int .i64 x5) from (bxx.cell 5).trans rfl)
  have px6 := Kept.rd (show w7.cell? ⟨w5.heap.size, 6, none⟩ = some (.int .i64 x6) from (bxx.cell 6).trans rfl)
  have pa0 := Kept.rd (show w7.cell? ⟨w.heap.size, 0, none⟩ = some (.int .i64 e.W) from (bxa.cell 0).trans rfl)
  have pa1 := Kept.rd (show w7.cell? ⟨w.heap.size, 1, none⟩ = some (.int .i64 e.col) from (bxa.cell 1).trans rfl)
  have pa2 := Kept.rd (show w7.cell? ⟨w.heap.size, 2, none⟩ = some (.int .i64 e.pend) from (bxa.cell 2).trans rfl)
  have pa3 := Kept.rd (show w7.cell? ⟨w.heap.size, 3, none⟩ = some (.slice A e.ms.length c) from (bxa.cell 3).trans rfl)
  have pa4 := Kept.rd (show w7.cell? ⟨w.heap.size, 4, none⟩ = some (.slice A2 e.it.length c2) from (bxa.cell 4).trans rfl)
  have pa5 := Kept.rd (show w7.cell? ⟨w.heap.size, 5, none⟩ = some (.int .i64 e.tot) from (bxa.cell 5).trans rfl)
  have pa6 := Kept.rd (show w7.cell? ⟨w.heap.size, 6, none⟩ = some (.int .i64 e.lev) from (bxa.cell 6).trans rfl)
  have HXa := Lib.hid bxa
  clear bxa
  have HXx := Lib.hid bxx
  clear bxx
  refine wp_region_chain [true, true, false, false, false] (fun w' => ∃ x : Kept w7, w' = x.W) (by kernel_rfl) (by kernel_rfl) (Kept.start w7) ?_
  simp only [Chain.pickM, List.map_cons, List.map_nil, Bool.not_true, Bool.not_false]
  repeat (go_big_quiet_step (fail))
  refine wpQuiet_nil ?_
  refine chain_step (fun K hK => ?_)
  unfold Chain.mov
  go_simp
  simp only [Chain.movUpon]
  clear px0 px1 px2 px3 px4 px5 px6
  clear pa0 pa1 pa2 pa3 pa4 pa5 pa6
  have bxa := HXa.out
  clear HXa
  have bxx := HXx.out
  clear HXx
  refine (toEngine_any e A c A2 c2 w7.drew bm0 bi0 (RS.below M1.out HBw.out.drew) (RS.below I1.out HBw.out.drew)).mono ?_
  rintro r w8 ⟨v, rfl, ho, hb0⟩
  have hb : Below w7.heap.size w7 w8 := (Below.refl _ w7).drew.trans (hb0.mono (Nat.le_refl _))
  have szw8 := hb.size
  have HK1 := Lib.hid hb
  have bxa := bxa.below hb bxa.lt
  have bxx := bxx.below hb bxx.lt
  have HBw := Lib.hid (HBw.out.trans (hb.mono HBw.out.size))
  have HBm := Lib.hid (HBm.out.trans (hb.mono HBm.out.size))
  have HBx := Lib.hid (HBx.out.trans (hb.mono HBx.out.size))
  clear hb hb0
  obtain ⟨y0, y1, y2, yS, yn, yc, yT, ym, yd, y5, y6, rfl⟩ := EngO.shape ho
  have HEy := Lib.hid ho
  clear ho
  refine ⟨_, rfl, hK _ _ ⟨Kept.mk' HK1.out, ?_⟩⟩
  clear hK K
  refine chain_step (fun K hK => ?_)
  unfold Chain.mov
  have HXa := Lib.hid bxa
  clear bxa
  have HXx := Lib.hid bxx
  clear bxx
  go_simp
  simp only [Chain.movUpon]
  have bxa := HXa.out
  clear HXa
  have bxx := HXx.out
  clear HXx
  refine (eqEngine_same e (.agg #[.int .i64 x0, .int .i64 x1, .int .i64 x2, .slice xS xn xc, .slice xT xm xd, .int .i64 x5, .int .i64 x6]) (.agg #[.int .i64 y0, .int .i64 y1, .int .i64 y2, .slice yS yn yc, .slice yT ym yd, .int .i64 y5, .int .i64 y6]) w8 bm bi ((EngO.r HEx.out).below HBx.out) (EngO.r HEy.out)).mono ?_
  rintro r w9 ⟨rfl, hb⟩
  have szw9 := hb.size
  have HK2 := Lib.hid (HK1.out.trans (hb.mono HK1.out.size))
  have bxa := bxa.below hb bxa.lt
  have bxx := bxx.below hb bxx.lt
  have HBw := Lib.hid (HBw.out.trans (hb.mono HBw.out.size))
  have HBm := Lib.hid (HBm.out.trans (hb.mono HBm.out.size))
  have HBx := Lib.hid (HBx.out.trans (hb.mono HBx.out.size))
  clear hb HEy
  refine ⟨_, rfl, hK _ _ ⟨Kept.mk' HK2.out, ?_⟩⟩
  clear hK K hne HK1 HK2
  unfold Chain.chainW
  have qa0 : w9.cell? ⟨w.heap.size, 0, none⟩ = some (.int .i64 e.W) := (bxa.cell 0).trans rfl
  have qa1 : w9.cell? ⟨w.heap.size, 1, none⟩ = some (.int .i64 e.col) := (bxa.cell 1).trans rfl
  have qa2 : w9.cell? ⟨w.heap.size, 2, none⟩ = some (.int .i64 e.pend) := (bxa.cell 2).trans rfl
  have qa3 : w9.cell? ⟨w.heap.size, 3, none⟩ = some (.slice A e.ms.length c) := (bxa.cell 3).trans rfl
  have qa4 : w9.cell? ⟨w.heap.size, 4, none⟩ = some (.slice A2 e.it.length c2) := (bxa.cell 4).trans rfl
  have qa5 : w9.cell? ⟨w.heap.size, 5, none⟩ = some (.int .i64 e.tot) := (bxa.cell 5).trans rfl
  have qa6 : w9.cell? ⟨w.heap.size, 6, none⟩ = some (.int .i64 e.lev) := (bxa.cell 6).trans rfl
  have qla := bxa.lt
  have HXa := Lib.hid bxa
  clear bxa
  have qx0 : w9.cell? ⟨w5.heap.size, 0, none⟩ = some (.int .i64 x0) := (bxx.cell 0).trans rfl
  have qx1 : w9.cell? ⟨w5.heap.size, 1, none⟩ = some (.int .i64 x1) := (bxx.cell 1).trans rfl
  have qx2 : w9.cell? ⟨w5.heap.size, 2, none⟩ = some (.int .i64 x2) := (bxx.cell 2).trans rfl
  have qx3 : w9.cell? ⟨w5.heap.size, 3, none⟩ = some (.slice xS xn xc) := (bxx.cell 3).trans rfl
  have qx4 : w9.cell? ⟨w5.heap.size, 4, none⟩ = some (.slice xT xm xd) := (bxx.cell 4).trans rfl
  have qx5 : w9.cell? ⟨w5.heap.size, 5, none⟩ = some (.int .i64 x5) := (bxx.cell 5).trans rfl
  have qx6 : w9.cell? ⟨w5.heap.size, 6, none⟩ = some (.int .i64 x6) := (bxx.cell 6).trans rfl
  have qlx := bxx.lt
  have HXx := Lib.hid bxx
  clear bxx
  go_wp2
  go_ret
  exact ⟨rfl, HBw.out⟩

set_option maxRecDepth 100000 in
theorem lifted (os : Os) (started : os.Started) (H : Type) (enc : TypeId × Value → H) :
    ReturnsInHanded {} Try.checked os 4 .any (Rows.fnExactEngineOkSpec.pre6 enc Try.prog Try.f4 Rows.fnExactEngineOkRow.domain false) (Rows.fnExactEngineOkSpec.post enc Try.prog Try.f4 false true false false) := by
  refine returnsInHanded_of_change (C := Try.checked) own started (by kernel_rfl) Try.func4
    (ChangeSpec.witness6 (enc := enc) (C := Try.checked) false ⟨#[], #[.agg #[.int .i64 0, .int .i64 0, .int .i64 0, .slice none 0 0, .slice none 0 0, .int .i64 0, .int .i64 0]], []⟩ 8 (by kernel_rfl) (by kernel_rfl) (by kernel_rfl) (by kernel_rfl)) ?_
  intro W base args ds gs before hval0 hW _ _
  have hval : ∀ (j : Nat) t v, Try.f4.params[j]? = some t → args[j]? = some v → Value.okWide Try.prog W .any base t v := hval0
  have hW' := hW
  obtain ⟨p, q, hA0, hV, rfl, _, _⟩ := hW
  have hA : DataW.TrodAll enc Try.prog W 0 (fun _ => true) true Try.f4.params.toList args.toList ds p := hA0
  rw [Try.params4] at hA hval
  obtain ⟨v0, vs0, d0, ds0, p0, q0, hargs0, rfl, rfl, h0, r0⟩ := trodAll_cons hA
  obtain ⟨rfl, rfl, rfl⟩ := trodAll_nil r0
  obtain rfl : args = #[v0] := by cases args; simp_all
  obtain ⟨rfl, rfl⟩ := trodVars_none hV
  have z0 := h0
  have lt0 : ∀ x ∈ p0, x.block < W.heap.size := by obtain ⟨m, hm⟩ := z0; exact DataW.trod_lt m _ _ _ hm
  obtain ⟨e0, A0, c0, B0, d0, rfl, hm0, hi0, lm0, li0, hf0⟩ := open_engine (hval 0 34 v0 rfl rfl) h0
  clear hA0 hval0
  refine (law e0 A0 c0 B0 d0 W hm0 hi0 lm0 li0 hf0).mono fun e W' ⟨he, bel⟩ => ?_
  subst he
  exact ⟨_, rfl, _, _, _, [], _, [], hW', trodAll_mk1 (shut_bool Try.underlying4 _), (trodAll_cons_mk (Below.trod laidOut (by kernel_rfl) (of_decide_eq_true (by kernel_rfl)) z0 bel lt0) trodAll_mk0), rfl, bel.frame _, (fun h => by cases h)⟩

theorem over : Rows.fnExactEngineOkRow.holds Try.pinned (OpenSpec.ofChange Rows.fnExactEngineOkSpec) :=
  OpenClaim.holds_of_wide 4 Try.f4 rfl rfl rfl rfl rfl rfl rfl ⟨rfl, rfl, rfl, rfl, rfl⟩ rfl rfl rfl rfl rfl (by kernel_rfl) Try.func4 (by kernel_rfl)
    (of_decide_eq_true (by kernel_rfl)) (by unfold Func.isWrapper; first | (rw [if_pos (by decide +kernel)]; kernel_rfl) | (rw [if_neg (by decide +kernel)]; exact ⟨rfl, rfl⟩))
    (fun os started H enc _ => lifted os started H enc)

theorem proved : Rows.FnExactEngineOkSaid := over
#print axioms proved
end Go.Proofs.Ytnppemiophggfaa.fnExactEngineOk
