/-
  The law FnExactFeedToken returns true at every argument: FeedToken answers as its model does, writes into no argument, and its answer owns its memory.
  Conditions: none beyond the row's own; whatever the arguments.
-/
import Derived.Test.YtegjgbgnpkncbabKf49
import Derived.Test.YtegjgbgnpkncbabKf42
import Derived.Test.YtegjgbgnpkncbabKf31
namespace Go.Proofs.Ytegjgbgnpkncbab.fnExactFeedToken
open Go.ChangeShapes Go.WideShapes Go.ChangeAt Go.RowKit Go.Joins
set_option linter.unusedVariables false

set_option maxHeartbeats 4000000 in
set_option maxRecDepth 100000 in
theorem law (e : En) (A : Option Addr) (c : Nat) (A2 : Option Addr) (c2 : Nat) (t : Tk) (w : World) (h1 : MS w A e.ms) (h2 : HS w A2 e.it) (lm : e.ms.length ≤ maxLen) (li : e.it.length ≤ maxLen) (hf : Fits (tks e.it)) (hts : t.s.size ≤ maxLen) :
    Calls Try.prog 7 #[ev e A c A2 c2, (.agg #[.int .i64 t.k, .string t.s, .int .i64 t.d, .int .i64 t.o])] w fun e w' => e = .returned (.bool true) ∧ Below w.heap.size w w' := by
  have M1 := Lib.hid h1
  have I1 := Lib.hid h2
  have HF := Lib.hid hf
  clear h1 h2 hf
  unfold ev
  go_enter Try.func7, Try.ntmps7
  have HBw := Lib.hid (Below.refl w.heap.size w)
  go_wp2_with fail
  have bxa := BlkL.new w 39 [.int .i64 e.W, .int .i64 e.col, .int .i64 e.pend, .slice A e.ms.length c, .slice A2 e.it.length c2, .int .i64 e.tot, .int .i64 e.lev]
  have HBw := Lib.hid (HBw.out.alloc (by have := HBw.out.size; omega) (.cells #[.int .i64 e.W, .int .i64 e.col, .int .i64 e.pend, .slice A e.ms.length c, .slice A2 e.it.length c2, .int .i64 e.tot, .int .i64 e.lev] 39))
  have hzw1 : (w.alloc (.cells #[.int .i64 e.W, .int .i64 e.col, .int .i64 e.pend, .slice A e.ms.length c, .slice A2 e.it.length c2, .int .i64 e.tot, .int .i64 e.lev] 39)).heap.size = w.heap.size + 1 := by simp
  generalize w.alloc (.cells #[.int .i64 e.W, .int .i64 e.col, .int .i64 e.pend, .slice A e.ms.length c, .slice A2 e.it.length c2, .int .i64 e.tot, .int .i64 e.lev] 39) = w1 at *
  have bxt := BlkL.new w1 41 [.int .i64 t.k, .string t.s, .int .i64 t.d, .int .i64 t.o]
  have bxa := bxa.alloc (.cells #[.int .i64 t.k, .string t.s, .int .i64 t.d, .int .i64 t.o] 41)
  have HBw := Lib.hid (HBw.out.alloc (by have := HBw.out.size; omega) (.cells #[.int .i64 t.k, .string t.s, .int .i64 t.d, .int .i64 t.o] 41))
  have hzw2 : (w1.alloc (.cells #[.int .i64 t.k, .string t.s, .int .i64 t.d, .int .i64 t.o] 41)).heap.size = w1.heap.size + 1 := by simp
  generalize w1.alloc (.cells #[.int .i64 t.k, .string t.s, .int .i64 t.d, .int .i64 t.o] 41) = w2 at *
  rw [hzw1] at bxt
  refine (szEngine_any e A c A2 c2 1048576 _ (by omega) (by omega) lm li HF.out (RS.below I1.out HBw.out)).mono ?_
  rintro r w3 ⟨rfl, hb⟩
  have szw3 := hb.size
  have bxa := bxa.below hb bxa.lt
  have bxt := bxt.below hb bxt.lt
  have HBw := Lib.hid (HBw.out.trans (hb.mono HBw.out.size))
  clear hb
  rcases szE_cases 1048576 e with hs | ⟨hs, hsl⟩
  · rw [hs]
    have qa0 : w3.cell? ⟨w.heap.size, 0, none⟩ = some (.int .i64 e.W) := (bxa.cell 0).trans rfl
    have qa1 : w3.cell? ⟨w.heap.size, 1, none⟩ = some (.int .i64 e.col) := (bxa.cell 1).trans rfl
    have qa2 : w3.cell? ⟨w.heap.size, 2, none⟩ = some (.int .i64 e.pend) := (bxa.cell 2).trans rfl
    have qa3 : w3.cell? ⟨w.heap.size, 3, none⟩ = some (.slice A e.ms.length c) := (bxa.cell 3).trans rfl
    have qa4 : w3.cell? ⟨w.heap.size, 4, none⟩ = some (.slice A2 e.it.length c2) := (bxa.cell 4).trans rfl
    have qa5 : w3.cell? ⟨w.heap.size, 5, none⟩ = some (.int .i64 e.tot) := (bxa.cell 5).trans rfl
    have qa6 : w3.cell? ⟨w.heap.size, 6, none⟩ = some (.int .i64 e.lev) := (bxa.cell 6).trans rfl
    have qla := bxa.lt
    have HXa := Lib.hid bxa
    clear bxa
    have qt0 : w3.cell? ⟨(w.heap.size + 1), 0, none⟩ = some (.int .i64 t.k) := (bxt.cell 0).trans rfl
    have qt1 : w3.cell? ⟨(w.heap.size + 1), 1, none⟩ = some (.string t.s) := (bxt.cell 1).trans rfl
    have qt2 : w3.cell? ⟨(w.heap.size + 1), 2, none⟩ = some (.int .i64 t.d) := (bxt.cell 2).trans rfl
    have qt3 : w3.cell? ⟨(w.heap.size + 1), 3, none⟩ = some (.int .i64 t.o) := (bxt.cell 3).trans rfl
    have qlt := bxt.lt
    have HXt := Lib.hid bxt
    clear bxt
    go_wp2
    go_ret
    exact ⟨rfl, HBw.out⟩
  have hbk : e.it.length ≤ bulk (tks e.it) := by unfold bulk; rw [tks_length]; omega
  have bm0 : e.ms.length ≤ 1048576 := by omega
  have bi0 : e.it.length ≤ 1048576 := by omega
  have bm : e.ms.length ≤ 2097152 := by omega
  have bi : e.it.length ≤ 2097152 := by omega
  rw [hs]
  have hdz : decide ((1048576 : Int) - e.ms.length - (bulk (tks e.it) : Int) < 0) = false := by simp; omega
  generalize hlft : (1048576 : Int) - e.ms.length - (bulk (tks e.it) : Int) = left at *
  have hL0 : 0 ≤ left := by omega
  have hL1 : left ≤ 1048576 := by omega
  clear hs hsl hbk hlft
  have qa0 : w3.cell? ⟨w.heap.size, 0, none⟩ = some (.int .i64 e.W) := (bxa.cell 0).trans rfl
  have qa1 : w3.cell? ⟨w.heap.size, 1, none⟩ = some (.int .i64 e.col) := (bxa.cell 1).trans rfl
  have qa2 : w3.cell? ⟨w.heap.size, 2, none⟩ = some (.int .i64 e.pend) := (bxa.cell 2).trans rfl
  have qa3 : w3.cell? ⟨w.heap.size, 3, none⟩ = some (.slice A e.ms.length c) := (bxa.cell 3).trans rfl
  have qa4 : w3.cell? ⟨w.heap.size, 4, none⟩ = some (.slice A2 e.it.length c2) := (bxa.cell 4).trans rfl
  have qa5 : w3.cell? ⟨w.heap.size, 5, none⟩ = some (.int .i64 e.tot) := (bxa.cell 5).trans rfl
  have qa6 : w3.cell? ⟨w.heap.size, 6, none⟩ = some (.int .i64 e.lev) := (bxa.cell 6).trans rfl
  have qla := bxa.lt
  have HXa := Lib.hid bxa
  clear bxa
  have qt0 : w3.cell? ⟨(w.heap.size + 1), 0, none⟩ = some (.int .i64 t.k) := (bxt.cell 0).trans rfl
  have qt1 : w3.cell? ⟨(w.heap.size + 1), 1, none⟩ = some (.string t.s) := (bxt.cell 1).trans rfl
  have qt2 : w3.cell? ⟨(w.heap.size + 1), 2, none⟩ = some (.int .i64 t.d) := (bxt.cell 2).trans rfl
  have qt3 : w3.cell? ⟨(w.heap.size + 1), 3, none⟩ = some (.int .i64 t.o) := (bxt.cell 3).trans rfl
  have qlt := bxt.lt
  have HXt := Lib.hid bxt
  clear bxt
  go_wp2_with fail
  have bxa := HXa.out
  clear qa0 qa1 qa2 qa3 qa4 qa5 qa6 qla HXa
  have bxt := HXt.out
  clear qt0 qt1 qt2 qt3 qlt HXt
  refine (szToken_any t.k t.s t.d t.o left _ hts hL0 hL1).mono ?_
  rintro r w4 ⟨rfl, hb⟩
  have szw4 := hb.size
  have bxa := bxa.below hb bxa.lt
  have bxt := bxt.below hb bxt.lt
  have HBw := Lib.hid (HBw.out.trans (hb.mono HBw.out.size))
  clear hb
  by_cases hv : left < (t.s.size : Int)
  · rw [show szV left t.s.size = -1 from if_pos hv]
    have qa0 : w4.cell? ⟨w.heap.size, 0, none⟩ = some (.int .i64 e.W) := (bxa.cell 0).trans rfl
    have qa1 : w4.cell? ⟨w.heap.size, 1, none⟩ = some (.int .i64 e.col) := (bxa.cell 1).trans rfl
    have qa2 : w4.cell? ⟨w.heap.size, 2, none⟩ = some (.int .i64 e.pend) := (bxa.cell 2).trans rfl
    have qa3 : w4.cell? ⟨w.heap.size, 3, none⟩ = some (.slice A e.ms.length c) := (bxa.cell 3).trans rfl
    have qa4 : w4.cell? ⟨w.heap.size, 4, none⟩ = some (.slice A2 e.it.length c2) := (bxa.cell 4).trans rfl
    have qa5 : w4.cell? ⟨w.heap.size, 5, none⟩ = some (.int .i64 e.tot) := (bxa.cell 5).trans rfl
    have qa6 : w4.cell? ⟨w.heap.size, 6, none⟩ = some (.int .i64 e.lev) := (bxa.cell 6).trans rfl
    have qla := bxa.lt
    have HXa := Lib.hid bxa
    clear bxa
    have qt0 : w4.cell? ⟨(w.heap.size + 1), 0, none⟩ = some (.int .i64 t.k) := (bxt.cell 0).trans rfl
    have qt1 : w4.cell? ⟨(w.heap.size + 1), 1, none⟩ = some (.string t.s) := (bxt.cell 1).trans rfl
    have qt2 : w4.cell? ⟨(w.heap.size + 1), 2, none⟩ = some (.int .i64 t.d) := (bxt.cell 2).trans rfl
    have qt3 : w4.cell? ⟨(w.heap.size + 1), 3, none⟩ = some (.int .i64 t.o) := (bxt.cell 3).trans rfl
    have qlt := bxt.lt
    have HXt := Lib.hid bxt
    clear bxt
    go_wp2
    go_ret
    exact ⟨rfl, HBw.out⟩
  rw [show szV left t.s.size = left - t.s.size from if_neg hv]
  have hdz2 : decide (left - (t.s.size : Int) < 0) = false := by simp; omega
  clear hv hdz
  generalize left - (t.s.size : Int) = left2 at *
  obtain ⟨fm1, fi1⟩ := fedE_len e t bm0 bi0
  have hss : ((fedT e t).toList == (fedT e t).toList) = true := by simp
  have hbb : ((fedB e t) == (fedB e t)) = true := by simp
  have qa0 : w4.cell? ⟨w.heap.size, 0, none⟩ = some (.int .i64 e.W) := (bxa.cell 0).trans rfl
  have qa1 : w4.cell? ⟨w.heap.size, 1, none⟩ = some (.int .i64 e.col) := (bxa.cell 1).trans rfl
  have qa2 : w4.cell? ⟨w.heap.size, 2, none⟩ = some (.int .i64 e.pend) := (bxa.cell 2).trans rfl
  have qa3 : w4.cell? ⟨w.heap.size, 3, none⟩ = some (.slice A e.ms.length c) := (bxa.cell 3).trans rfl
  have qa4 : w4.cell? ⟨w.heap.size, 4, none⟩ = some (.slice A2 e.it.length c2) := (bxa.cell 4).trans rfl
  have qa5 : w4.cell? ⟨w.heap.size, 5, none⟩ = some (.int .i64 e.tot) := (bxa.cell 5).trans rfl
  have qa6 : w4.cell? ⟨w.heap.size, 6, none⟩ = some (.int .i64 e.lev) := (bxa.cell 6).trans rfl
  have qla := bxa.lt
  have HXa := Lib.hid bxa
  clear bxa
  have qt0 : w4.cell? ⟨(w.heap.size + 1), 0, none⟩ = some (.int .i64 t.k) := (bxt.cell 0).trans rfl
  have qt1 : w4.cell? ⟨(w.heap.size + 1), 1, none⟩ = some (.string t.s) := (bxt.cell 1).trans rfl
  have qt2 : w4.cell? ⟨(w.heap.size + 1), 2, none⟩ = some (.int .i64 t.d) := (bxt.cell 2).trans rfl
  have qt3 : w4.cell? ⟨(w.heap.size + 1), 3, none⟩ = some (.int .i64 t.o) := (bxt.cell 3).trans rfl
  have qlt := bxt.lt
  have HXt := Lib.hid bxt
  clear bxt
  go_wp2_with fail
  have bxa := HXa.out
  clear qa0 qa1 qa2 qa3 qa4 qa5 qa6 qla HXa
  have bxt := HXt.out
  clear qt0 qt1 qt2 qt3 qlt HXt
  go_cut [6, 7, 8] from 9 (fun s6 s7 s8 wc => ∃ (q : Nat) (o0 o1 o2 : Int) (oS : Option Addr) (on oc : Nat) (oT : Option Addr) (om od : Nat) (o5 o6 : Int), s6 = .pointer (some ⟨q, 0, none⟩) ∧ s7 = .string (fedT e t) ∧ s8 = .bool (fedB e t) ∧ BlkL wc q 47 [.int .i64 o0, .int .i64 o1, .int .i64 o2, .slice oS on oc, .slice oT om od, .int .i64 o5, .int .i64 o6] ∧ EngR wc (.agg #[.int .i64 o0, .int .i64 o1, .int .i64 o2, .slice oS on oc, .slice oT om od, .int .i64 o5, .int .i64 o6]) (fedE e t) ∧ Below w4.heap.size w4 wc ∧ w4.heap.size ≤ q)
  case first =>
    try clear hzw4
    have pa0 := Bw.rd (show w4.cell? ⟨w.heap.size, 0, none⟩ = some (.int .i64 e.W) from (bxa.cell 0).trans rfl)
    have pa1 := Bw.rd (show w4.cell? ⟨w.heap.size, 1, none⟩ = some (.int .i64 e.col) from (bxa.cell 1).trans rfl)
    have pa2 := Bw.rd (show w4.cell? ⟨w.heap.size, 2, none⟩ = some (.int .i64 e.pend) from (bxa.cell 2).trans rfl)
    have pa3 := Bw.rd (show w4.cell? ⟨w.heap.size, 3, none⟩ = some (.slice A e.ms.length c) from (bxa.cell 3).trans rfl)
    have pa4 := Bw.rd (show w4.cell? ⟨w.heap.size, 4, none⟩ = some (.slice A2 e.it.length c2) from (bxa.cell 4).trans rfl)
    have pa5 := Bw.rd (show w4.cell? ⟨w.heap.size, 5, none⟩ = some (.int .i64 e.tot) from (bxa.cell 5).trans rfl)
    have pa6 := Bw.rd (show w4.cell? ⟨w.heap.size, 6, none⟩ = some (.int .i64 e.lev) from (bxa.cell 6).trans rfl)
    have pt0 := Bw.rd (show w4.cell? ⟨(w.heap.size + 1), 0, none⟩ = some (.int .i64 t.k) from (bxt.cell 0).trans rfl)
    have pt1 := Bw.rd (show w4.cell? ⟨(w.heap.size + 1), 1, none⟩ = some (.string t.s) from (bxt.cell 1).trans rfl)
    have pt2 := Bw.rd (show w4.cell? ⟨(w.heap.size + 1), 2, none⟩ = some (.int .i64 t.d) from (bxt.cell 2).trans rfl)
    have pt3 := Bw.rd (show w4.cell? ⟨(w.heap.size + 1), 3, none⟩ = some (.int .i64 t.o) from (bxt.cell 3).trans rfl)
    have HXa := Lib.hid bxa
    clear bxa
    have HXt := Lib.hid bxt
    clear bxt
    have CT := Lib.hid (fun V => toToken_any t.k t.s t.d t.o V)
    have HC := Lib.hid (show Below w4.heap.size w4 w4.drew from (Below.refl _ w4).drew)
    have hne : Nonempty (Cl (Bw w4)) := ⟨⟨_, Bw.start w4⟩⟩
    refine wp_region_free [0, 1, 0, 3, 5, 6, 6, 6, 6, 13, 7, 9, 11] 5 9 _ rfl (fun w' => ∃ y : Cl (Bw w4), w' = y.W) (by kernel_rfl) (by kernel_rfl) ⟨⟨_, Bw.start w4⟩, rfl⟩ ?_
    simp only [Stage.stages, Stage.pickC, Nat.reduceBEq, Nat.reduceMul, Nat.reduceAdd, cond_true, cond_false, List.map_cons, List.map_nil]
    refine free_more ?_
    repeat (go_big_quiet_step (fail))
    clear pa0 pa1 pa2 pa3 pa4 pa5 pa6 pt0 pt1 pt2 pt3
    refine wpQuiet_nil ⟨fun K hK => ?_, fun K hK => ?_⟩
    · skip
      unfold Chain.mov
      go_simp
      simp only [Chain.movUpon]
      refine (toEngine_any e A c A2 c2 w4.drew bm0 bi0 (RS.below M1.out (HBw.out.trans (HC.out.mono HBw.out.size))) (RS.below I1.out (HBw.out.trans (HC.out.mono HBw.out.size)))).mono ?_
      rintro r z1 ⟨v, rfl, ho, hb⟩
      obtain ⟨y0, y1, y2, yS, yn, yc, yT, ym, yd, y5, y6, rfl⟩ := EngO.shape ho
      have HC := Lib.hid (HC.out.trans (hb.mono HC.out.size))
      have HE := Lib.hid (EngO.r ho)
      refine ⟨_, rfl, hK _ _ ⟨⟨⟨z1, HC.out⟩, rfl⟩, ?_⟩⟩
      clear hK K ho hb
      refine free_more ?_
      repeat (go_big_quiet_step (fail))
      refine wpQuiet_nil ⟨fun K hK => ?_, fun K hK => ?_⟩
      · skip
        unfold Chain.mov
        go_simp
        simp only [Chain.movUpon]
        refine (CT.out z1).mono ?_
        rintro r z2 ⟨rfl, hb⟩
        have HC := Lib.hid (HC.out.trans (hb.mono HC.out.size))
        have HE := Lib.hid (HE.out.below hb)
        refine ⟨_, rfl, hK _ _ ⟨⟨⟨z2, HC.out⟩, rfl⟩, ?_⟩⟩
        clear hK K hb
        refine free_more ?_
        repeat (go_big_quiet_step (fail))
        refine wpQuiet_nil ⟨fun K hK => ?_, fun K hK => ?_⟩
        · skip
          unfold Chain.mov
          go_simp
          simp only [Chain.movUpon]
          refine (sFeedToken_any e t _ z2 bm bi HF.out hts HE.out).mono ?_
          rintro r z3 ⟨v, rfl, ho, hb⟩
          obtain ⟨o0, o1, o2, oS, on, oc, oT, om, od, o5, o6, rfl⟩ := EngW.shape ho
          have HC := Lib.hid (HC.out.trans (hb.mono HC.out.size))
          have HE := Lib.hid (HE.out.below hb)
          have HV := Lib.hid ho
          refine ⟨_, rfl, hK _ _ ⟨⟨⟨z3, HC.out⟩, rfl⟩, ?_⟩⟩
          clear hK K ho hb
          refine free_held (by kernel_rfl) ?_
          repeat (go_big_quiet_step (fail))
          refine wpQuiet_nil ?_
          intro K hK
          unfold Chain.mov
          go_simp
          have hb : Below z3.heap.size z3 (z3.alloc (.cells #[.int .i64 0, .int .i64 0, .int .i64 0, .slice none 0 0, .slice none 0 0, .int .i64 0, .int .i64 0] 47)) := (Below.refl _ z3).alloc (Nat.le_refl _) (.cells #[.int .i64 0, .int .i64 0, .int .i64 0, .slice none 0 0, .slice none 0 0, .int .i64 0, .int .i64 0] 47)
          have hqk : w4.heap.size ≤ z3.heap.size := HC.out.size
          refine hK _ (z3.alloc (.cells #[.int .i64 0, .int .i64 0, .int .i64 0, .slice none 0 0, .slice none 0 0, .int .i64 0, .int .i64 0] 47)) ⟨⟨⟨_, HC.out.trans (hb.mono HC.out.size)⟩, rfl⟩, ?_⟩
          have HV0 := HV
          have HC := Lib.hid (HC.out.trans (hb.mono HC.out.size))
          have HE := Lib.hid (HE.out.below hb)
          have HV := Lib.hid (HV.out.below hb)
          have HQ := Lib.hid (show BlkL (z3.alloc (.cells #[.int .i64 0, .int .i64 0, .int .i64 0, .slice none 0 0, .slice none 0 0, .int .i64 0, .int .i64 0] 47)) z3.heap.size 47 [.int .i64 0, .int .i64 0, .int .i64 0, .slice none 0 0, .slice none 0 0, .int .i64 0, .int .i64 0] from BlkL.new z3 47 [.int .i64 0, .int .i64 0, .int .i64 0, .slice none 0 0, .slice none 0 0, .int .i64 0, .int .i64 0])
          have HAL := Lib.hid hb
          clear hK K hb
          generalize z3.alloc (.cells #[.int .i64 0, .int .i64 0, .int .i64 0, .slice none 0 0, .slice none 0 0, .int .i64 0, .int .i64 0] 47) = z4 at *
          refine door_more ?_
          intro K hK
          have k0 : z4.cell? ⟨z3.heap.size, 0, none⟩ = some (.int .i64 0) := (HQ.out.cell 0).trans rfl
          have k1 : z4.cell? ⟨z3.heap.size, 1, none⟩ = some (.int .i64 0) := (HQ.out.cell 1).trans rfl
          have k2 : z4.cell? ⟨z3.heap.size, 2, none⟩ = some (.int .i64 0) := (HQ.out.cell 2).trans rfl
          have k3 : z4.cell? ⟨z3.heap.size, 3, none⟩ = some (.slice none 0 0) := (HQ.out.cell 3).trans rfl
          have k4 : z4.cell? ⟨z3.heap.size, 4, none⟩ = some (.slice none 0 0) := (HQ.out.cell 4).trans rfl
          have k5 : z4.cell? ⟨z3.heap.size, 5, none⟩ = some (.int .i64 0) := (HQ.out.cell 5).trans rfl
          have k6 : z4.cell? ⟨z3.heap.size, 6, none⟩ = some (.int .i64 0) := (HQ.out.cell 6).trans rfl
          have kf := HQ.out.frozen
          have kl := HQ.out.lt
          unfold Chain.mov
          go_simp
          refine hK _ (World.setN z4 z3.heap.size 0 [.int .i64 o0, .int .i64 o1, .int .i64 o2, .slice oS on oc, .slice oT om od, .int .i64 o5, .int .i64 o6]) ⟨⟨⟨_, below_setN hqk [.int .i64 o0, .int .i64 o1, .int .i64 o2, .slice oS on oc, .slice oT om od, .int .i64 o5, .int .i64 o6] _ 0 HC.out⟩, rfl⟩, ?_⟩
          have HZ := Lib.hid (show BlkL (World.setN z4 z3.heap.size 0 [.int .i64 o0, .int .i64 o1, .int .i64 o2, .slice oS on oc, .slice oT om od, .int .i64 o5, .int .i64 o6]) z3.heap.size 47 [.int .i64 o0, .int .i64 o1, .int .i64 o2, .slice oS on oc, .slice oT om od, .int .i64 o5, .int .i64 o6] from BlkL.setN [.int .i64 o0, .int .i64 o1, .int .i64 o2, .slice oS on oc, .slice oT om od, .int .i64 o5, .int .i64 o6] _ _ 0 HQ.out)
          have HG := Lib.hid (show EngR (World.setN z4 z3.heap.size 0 [.int .i64 o0, .int .i64 o1, .int .i64 o2, .slice oS on oc, .slice oT om od, .int .i64 o5, .int .i64 o6]) (.agg #[.int .i64 o0, .int .i64 o1, .int .i64 o2, .slice oS on oc, .slice oT om od, .int .i64 o5, .int .i64 o6]) (fedE e t) from (EngW.r HV0.out).below (below_setN (Nat.le_refl _) [.int .i64 o0, .int .i64 o1, .int .i64 o2, .slice oS on oc, .slice oT om od, .int .i64 o5, .int .i64 o6] _ 0 HAL.out))
          have HC := Lib.hid (show Below w4.heap.size w4 (World.setN z4 z3.heap.size 0 [.int .i64 o0, .int .i64 o1, .int .i64 o2, .slice oS on oc, .slice oT om od, .int .i64 o5, .int .i64 o6]) from below_setN hqk [.int .i64 o0, .int .i64 o1, .int .i64 o2, .slice oS on oc, .slice oT om od, .int .i64 o5, .int .i64 o6] _ 0 HC.out)
          clear hK K k0 k1 k2 k3 k4 k5 k6 kf kl HQ HV
          generalize (World.setN z4 z3.heap.size 0 [.int .i64 o0, .int .i64 o1, .int .i64 o2, .slice oS on oc, .slice oT om od, .int .i64 o5, .int .i64 o6]) = z5 at *
          refine stage_more ?_
          repeat (go_big_quiet_step (fail))
          refine wpQuiet_nil ?_
          intro K hK
          unfold Chain.mov
          go_simp
          refine hK _ _ ⟨⟨⟨_, HC.out⟩, rfl⟩, ?_⟩
          clear hK K
          refine stage_last ?_
          repeat (go_big_quiet_step (fail))
          refine wpQuiet_nil ?_
          go_wp2
          go_meet
          case rel => exact ⟨z3.heap.size, o0, o1, o2, oS, on, oc, oT, om, od, o5, o6, rfl, rfl, rfl, HZ.out, HG.out, HC.out, hqk⟩
        · skip
          unfold Chain.mov
          go_simp
          have hb : Below z2.heap.size z2 (z2.alloc (.cells #[.int .i64 0, .int .i64 0, .int .i64 0, .slice none 0 0, .slice none 0 0, .int .i64 0, .int .i64 0] 47)) := (Below.refl _ z2).alloc (Nat.le_refl _) (.cells #[.int .i64 0, .int .i64 0, .int .i64 0, .slice none 0 0, .slice none 0 0, .int .i64 0, .int .i64 0] 47)
          have hqk : w4.heap.size ≤ z2.heap.size := HC.out.size
          refine hK _ (z2.alloc (.cells #[.int .i64 0, .int .i64 0, .int .i64 0, .slice none 0 0, .slice none 0 0, .int .i64 0, .int .i64 0] 47)) ⟨⟨⟨_, HC.out.trans (hb.mono HC.out.size)⟩, rfl⟩, ?_⟩
          have HC := Lib.hid (HC.out.trans (hb.mono HC.out.size))
          have HE := Lib.hid (HE.out.below hb)
          have HQ := Lib.hid (show BlkL (z2.alloc (.cells #[.int .i64 0, .int .i64 0, .int .i64 0, .slice none 0 0, .slice none 0 0, .int .i64 0, .int .i64 0] 47)) z2.heap.size 47 [.int .i64 0, .int .i64 0, .int .i64 0, .slice none 0 0, .slice none 0 0, .int .i64 0, .int .i64 0] from BlkL.new z2 47 [.int .i64 0, .int .i64 0, .int .i64 0, .slice none 0 0, .slice none 0 0, .int .i64 0, .int .i64 0])
          have HAL := Lib.hid hb
          clear hK K hb
          generalize z2.alloc (.cells #[.int .i64 0, .int .i64 0, .int .i64 0, .slice none 0 0, .slice none 0 0, .int .i64 0, .int .i64 0] 47) = z6 at *
          refine door_more ?_
          intro K hK
          unfold Chain.mov
          go_simp
          simp only [Chain.movUpon]
          have hqW : z2.heap.size < z6.heap.size := HQ.out.lt
          refine (sFeedToken_any e t _ z6 bm bi HF.out hts HE.out).mono ?_
          rintro r z7 ⟨v, rfl, ho, hb⟩
          obtain ⟨o0, o1, o2, oS, on, oc, oT, om, od, o5, o6, rfl⟩ := EngW.shape ho
          have HC := Lib.hid (HC.out.trans (hb.mono HC.out.size))
          have HE := Lib.hid (HE.out.below hb)
          have HQ := Lib.hid (HQ.out.below hb HQ.out.lt)
          have HV := Lib.hid ho
          have HQW := Lib.hid (show z2.heap.size < z6.heap.size from hqW)
          refine ⟨_, rfl, hK _ _ ⟨⟨⟨z7, HC.out⟩, rfl⟩, ?_⟩⟩
          clear hK K ho hb hqW
          refine stage_more ?_
          repeat (go_big_quiet_step (fail))
          refine wpQuiet_nil ?_
          intro K hK
          have k0 : z7.cell? ⟨z2.heap.size, 0, none⟩ = some (.int .i64 0) := (HQ.out.cell 0).trans rfl
          have k1 : z7.cell? ⟨z2.heap.size, 1, none⟩ = some (.int .i64 0) := (HQ.out.cell 1).trans rfl
          have k2 : z7.cell? ⟨z2.heap.size, 2, none⟩ = some (.int .i64 0) := (HQ.out.cell 2).trans rfl
          have k3 : z7.cell? ⟨z2.heap.size, 3, none⟩ = some (.slice none 0 0) := (HQ.out.cell 3).trans rfl
          have k4 : z7.cell? ⟨z2.heap.size, 4, none⟩ = some (.slice none 0 0) := (HQ.out.cell 4).trans rfl
          have k5 : z7.cell? ⟨z2.heap.size, 5, none⟩ = some (.int .i64 0) := (HQ.out.cell 5).trans rfl
          have k6 : z7.cell? ⟨z2.heap.size, 6, none⟩ = some (.int .i64 0) := (HQ.out.cell 6).trans rfl
          have kf := HQ.out.frozen
          have kl := HQ.out.lt
          unfold Chain.mov
          go_simp
          refine hK _ (World.setN z7 z2.heap.size 0 [.int .i64 o0, .int .i64 o1, .int .i64 o2, .slice oS on oc, .slice oT om od, .int .i64 o5, .int .i64 o6]) ⟨⟨⟨_, below_setN hqk [.int .i64 o0, .int .i64 o1, .int .i64 o2, .slice oS on oc, .slice oT om od, .int .i64 o5, .int .i64 o6] _ 0 HC.out⟩, rfl⟩, ?_⟩
          have HZ := Lib.hid (show BlkL (World.setN z7 z2.heap.size 0 [.int .i64 o0, .int .i64 o1, .int .i64 o2, .slice oS on oc, .slice oT om od, .int .i64 o5, .int .i64 o6]) z2.heap.size 47 [.int .i64 o0, .int .i64 o1, .int .i64 o2, .slice oS on oc, .slice oT om od, .int .i64 o5, .int .i64 o6] from BlkL.setN [.int .i64 o0, .int .i64 o1, .int .i64 o2, .slice oS on oc, .slice oT om od, .int .i64 o5, .int .i64 o6] _ _ 0 HQ.out)
          have HG := Lib.hid (show EngR (World.setN z7 z2.heap.size 0 [.int .i64 o0, .int .i64 o1, .int .i64 o2, .slice oS on oc, .slice oT om od, .int .i64 o5, .int .i64 o6]) (.agg #[.int .i64 o0, .int .i64 o1, .int .i64 o2, .slice oS on oc, .slice oT om od, .int .i64 o5, .int .i64 o6]) (fedE e t) from EngW.setN HV.out HQW.out [.int .i64 o0, .int .i64 o1, .int .i64 o2, .slice oS on oc, .slice oT om od, .int .i64 o5, .int .i64 o6] 0)
          have HC := Lib.hid (show Below w4.heap.size w4 (World.setN z7 z2.heap.size 0 [.int .i64 o0, .int .i64 o1, .int .i64 o2, .slice oS on oc, .slice oT om od, .int .i64 o5, .int .i64 o6]) from below_setN hqk [.int .i64 o0, .int .i64 o1, .int .i64 o2, .slice oS on oc, .slice oT om od, .int .i64 o5, .int .i64 o6] _ 0 HC.out)
          clear hK K k0 k1 k2 k3 k4 k5 k6 kf kl HQ HV
          generalize (World.setN z7 z2.heap.size 0 [.int .i64 o0, .int .i64 o1, .int .i64 o2, .slice oS on oc, .slice oT om od, .int .i64 o5, .int .i64 o6]) = z8 at *
          refine stage_more ?_
          repeat (go_big_quiet_step (fail))
          refine wpQuiet_nil ?_
          intro K hK
          unfold Chain.mov
          go_simp
          refine hK _ _ ⟨⟨⟨_, HC.out⟩, rfl⟩, ?_⟩
          clear hK K
          refine stage_last ?_
          repeat (go_big_quiet_step (fail))
          refine wpQuiet_nil ?_
          go_wp2
          go_meet
          case rel => exact ⟨z2.heap.size, o0, o1, o2, oS, on, oc, oT, om, od, o5, o6, rfl, rfl, rfl, HZ.out, HG.out, HC.out, hqk⟩
      · skip
        unfold Chain.mov
        go_simp
        have hb : Below z1.heap.size z1 (z1.alloc (.cells #[.int .i64 0, .int .i64 0, .int .i64 0, .slice none 0 0, .slice none 0 0, .int .i64 0, .int .i64 0] 47)) := (Below.refl _ z1).alloc (Nat.le_refl _) (.cells #[.int .i64 0, .int .i64 0, .int .i64 0, .slice none 0 0, .slice none 0 0, .int .i64 0, .int .i64 0] 47)
        have hqk : w4.heap.size ≤ z1.heap.size := HC.out.size
        refine hK _ (z1.alloc (.cells #[.int .i64 0, .int .i64 0, .int .i64 0, .slice none 0 0, .slice none 0 0, .int .i64 0, .int .i64 0] 47)) ⟨⟨⟨_, HC.out.trans (hb.mono HC.out.size)⟩, rfl⟩, ?_⟩
        have HC := Lib.hid (HC.out.trans (hb.mono HC.out.size))
        have HE := Lib.hid (HE.out.below hb)
        have HQ := Lib.hid (show BlkL (z1.alloc (.cells #[.int .i64 0, .int .i64 0, .int .i64 0, .slice none 0 0, .slice none 0 0, .int .i64 0, .int .i64 0] 47)) z1.heap.size 47 [.int .i64 0, .int .i64 0, .int .i64 0, .slice none 0 0, .slice none 0 0, .int .i64 0, .int .i64 0] from BlkL.new z1 47 [.int .i64 0, .int .i64 0, .int .i64 0, .slice none 0 0, .slice none 0 0, .int .i64 0, .int .i64 0])
        have HAL := Lib.hid hb
        clear hK K hb
        generalize z1.alloc (.cells #[.int .i64 0, .int .i64 0, .int .i64 0, .slice none 0 0, .slice none 0 0, .int .i64 0, .int .i64 0] 47) = z9 at *
        refine door_more ?_
        intro K hK
        unfold Chain.mov
        go_simp
        simp only [Chain.movUpon]
        have hqW : z1.heap.size < z9.heap.size := HQ.out.lt
        refine (CT.out z9).mono ?_
        rintro r z10 ⟨rfl, hb⟩
        have HC := Lib.hid (HC.out.trans (hb.mono HC.out.size))
        have HE := Lib.hid (HE.out.below hb)
        have HQ := Lib.hid (HQ.out.below hb HQ.out.lt)
        refine ⟨_, rfl, hK _ _ ⟨⟨⟨z10, HC.out⟩, rfl⟩, ?_⟩⟩
        clear hK K hb hqW
        refine stage_more ?_
        repeat (go_big_quiet_step (fail))
        refine wpQuiet_nil ?_
        intro K hK
        unfold Chain.mov
        go_simp
        simp only [Chain.movUpon]
        have hqW : z1.heap.size < z10.heap.size := HQ.out.lt
        refine (sFeedToken_any e t _ z10 bm bi HF.out hts HE.out).mono ?_
        rintro r z11 ⟨v, rfl, ho, hb⟩
        obtain ⟨o0, o1, o2, oS, on, oc, oT, om, od, o5, o6, rfl⟩ := EngW.shape ho
        have HC := Lib.hid (HC.out.trans (hb.mono HC.out.size))
        have HE := Lib.hid (HE.out.below hb)
        have HQ := Lib.hid (HQ.out.below hb HQ.out.lt)
        have HV := Lib.hid ho
        have HQW := Lib.hid (show z1.heap.size < z10.heap.size from hqW)
        refine ⟨_, rfl, hK _ _ ⟨⟨⟨z11, HC.out⟩, rfl⟩, ?_⟩⟩
        clear hK K ho hb hqW
        refine stage_more ?_
        repeat (go_big_quiet_step (fail))
        refine wpQuiet_nil ?_
        intro K hK
        have k0 : z11.cell? ⟨z1.heap.size, 0, none⟩ = some (.int .i64 0) := (HQ.out.cell 0).trans rfl
        have k1 : z11.cell? ⟨z1.heap.size, 1, none⟩ = some (.int .i64 0) := (HQ.out.cell 1).trans rfl
        have k2 : z11.cell? ⟨z1.heap.size, 2, none⟩ = some (.int .i64 0) := (HQ.out.cell 2).trans rfl
        have k3 : z11.cell? ⟨z1.heap.size, 3, none⟩ = some (.slice none 0 0) := (HQ.out.cell 3).trans rfl
        have k4 : z11.cell? ⟨z1.heap.size, 4, none⟩ = some (.slice none 0 0) := (HQ.out.cell 4).trans rfl
        have k5 : z11.cell? ⟨z1.heap.size, 5, none⟩ = some (.int .i64 0) := (HQ.out.cell 5).trans rfl
        have k6 : z11.cell? ⟨z1.heap.size, 6, none⟩ = some (.int .i64 0) := (HQ.out.cell 6).trans rfl
        have kf := HQ.out.frozen
        have kl := HQ.out.lt
        unfold Chain.mov
        go_simp
        refine hK _ (World.setN z11 z1.heap.size 0 [.int .i64 o0, .int .i64 o1, .int .i64 o2, .slice oS on oc, .slice oT om od, .int .i64 o5, .int .i64 o6]) ⟨⟨⟨_, below_setN hqk [.int .i64 o0, .int .i64 o1, .int .i64 o2, .slice oS on oc, .slice oT om od, .int .i64 o5, .int .i64 o6] _ 0 HC.out⟩, rfl⟩, ?_⟩
        have HZ := Lib.hid (show BlkL (World.setN z11 z1.heap.size 0 [.int .i64 o0, .int .i64 o1, .int .i64 o2, .slice oS on oc, .slice oT om od, .int .i64 o5, .int .i64 o6]) z1.heap.size 47 [.int .i64 o0, .int .i64 o1, .int .i64 o2, .slice oS on oc, .slice oT om od, .int .i64 o5, .int .i64 o6] from BlkL.setN [.int .i64 o0, .int .i64 o1, .int .i64 o2, .slice oS on oc, .slice oT om od, .int .i64 o5, .int .i64 o6] _ _ 0 HQ.out)
        have HG := Lib.hid (show EngR (World.setN z11 z1.heap.size 0 [.int .i64 o0, .int .i64 o1, .int .i64 o2, .slice oS on oc, .slice oT om od, .int .i64 o5, .int .i64 o6]) (.agg #[.int .i64 o0, .int .i64 o1, .int .i64 o2, .slice oS on oc, .slice oT om od, .int .i64 o5, .int .i64 o6]) (fedE e t) from EngW.setN HV.out HQW.out [.int .i64 o0, .int .i64 o1, .int .i64 o2, .slice oS on oc, .slice oT om od, .int .i64 o5, .int .i64 o6] 0)
        have HC := Lib.hid (show Below w4.heap.size w4 (World.setN z11 z1.heap.size 0 [.int .i64 o0, .int .i64 o1, .int .i64 o2, .slice oS on oc, .slice oT om od, .int .i64 o5, .int .i64 o6]) from below_setN hqk [.int .i64 o0, .int .i64 o1, .int .i64 o2, .slice oS on oc, .slice oT om od, .int .i64 o5, .int .i64 o6] _ 0 HC.out)
        clear hK K k0 k1 k2 k3 k4 k5 k6 kf kl HQ HV
        generalize (World.setN z11 z1.heap.size 0 [.int .i64 o0, .int .i64 o1, .int .i64 o2, .slice oS on oc, .slice oT om od, .int .i64 o5, .int .i64 o6]) = z12 at *
        refine stage_more ?_
        repeat (go_big_quiet_step (fail))
        refine wpQuiet_nil ?_
        intro K hK
        unfold Chain.mov
        go_simp
        refine hK _ _ ⟨⟨⟨_, HC.out⟩, rfl⟩, ?_⟩
        clear hK K
        refine stage_last ?_
        repeat (go_big_quiet_step (fail))
        refine wpQuiet_nil ?_
        go_wp2
        go_meet
        case rel => exact ⟨z1.heap.size, o0, o1, o2, oS, on, oc, oT, om, od, o5, o6, rfl, rfl, rfl, HZ.out, HG.out, HC.out, hqk⟩
    · skip
      unfold Chain.mov
      go_simp
      have hb : Below w4.drew.heap.size w4.drew (w4.drew.alloc (.cells #[.int .i64 0, .int .i64 0, .int .i64 0, .slice none 0 0, .slice none 0 0, .int .i64 0, .int .i64 0] 47)) := (Below.refl _ w4.drew).alloc (Nat.le_refl _) (.cells #[.int .i64 0, .int .i64 0, .int .i64 0, .slice none 0 0, .slice none 0 0, .int .i64 0, .int .i64 0] 47)
      have hqk : w4.heap.size ≤ w4.heap.size := HC.out.size
      refine hK _ (w4.drew.alloc (.cells #[.int .i64 0, .int .i64 0, .int .i64 0, .slice none 0 0, .slice none 0 0, .int .i64 0, .int .i64 0] 47)) ⟨⟨⟨_, HC.out.trans (hb.mono HC.out.size)⟩, rfl⟩, ?_⟩
      have HC := Lib.hid (HC.out.trans (hb.mono HC.out.size))
      have HQ := Lib.hid (show BlkL (w4.drew.alloc (.cells #[.int .i64 0, .int .i64 0, .int .i64 0, .slice none 0 0, .slice none 0 0, .int .i64 0, .int .i64 0] 47)) w4.heap.size 47 [.int .i64 0, .int .i64 0, .int .i64 0, .slice none 0 0, .slice none 0 0, .int .i64 0, .int .i64 0] from BlkL.new w4.drew 47 [.int .i64 0, .int .i64 0, .int .i64 0, .slice none 0 0, .slice none 0 0, .int .i64 0, .int .i64 0])
      have HAL := Lib.hid hb
      clear hK K hb
      generalize w4.drew.alloc (.cells #[.int .i64 0, .int .i64 0, .int .i64 0, .slice none 0 0, .slice none 0 0, .int .i64 0, .int .i64 0] 47) = z13 at *
      refine door_more ?_
      intro K hK
      unfold Chain.mov
      go_simp
      simp only [Chain.movUpon]
      have hqW : w4.heap.size < z13.heap.size := HQ.out.lt
      refine (toEngine_any e A c A2 c2 z13 bm0 bi0 (RS.below M1.out (HBw.out.trans (HC.out.mono HBw.out.size))) (RS.below I1.out (HBw.out.trans (HC.out.mono HBw.out.size)))).mono ?_
      rintro r z14 ⟨v, rfl, ho, hb⟩
      obtain ⟨y0, y1, y2, yS, yn, yc, yT, ym, yd, y5, y6, rfl⟩ := EngO.shape ho
      have HC := Lib.hid (HC.out.trans (hb.mono HC.out.size))
      have HQ := Lib.hid (HQ.out.below hb HQ.out.lt)
      have HE := Lib.hid (EngO.r ho)
      refine ⟨_, rfl, hK _ _ ⟨⟨⟨z14, HC.out⟩, rfl⟩, ?_⟩⟩
      clear hK K ho hb hqW
      refine stage_more ?_
      repeat (go_big_quiet_step (fail))
      refine wpQuiet_nil ?_
      intro K hK
      unfold Chain.mov
      go_simp
      simp only [Chain.movUpon]
      have hqW : w4.heap.size < z14.heap.size := HQ.out.lt
      refine (CT.out z14).mono ?_
      rintro r z15 ⟨rfl, hb⟩
      have HC := Lib.hid (HC.out.trans (hb.mono HC.out.size))
      have HE := Lib.hid (HE.out.below hb)
      have HQ := Lib.hid (HQ.out.below hb HQ.out.lt)
      refine ⟨_, rfl, hK _ _ ⟨⟨⟨z15, HC.out⟩, rfl⟩, ?_⟩⟩
      clear hK K hb hqW
      refine stage_more ?_
      repeat (go_big_quiet_step (fail))
      refine wpQuiet_nil ?_
      intro K hK
      unfold Chain.mov
      go_simp
      simp only [Chain.movUpon]
      have hqW : w4.heap.size < z15.heap.size := HQ.out.lt
      refine (sFeedToken_any e t _ z15 bm bi HF.out hts HE.out).mono ?_
      rintro r z16 ⟨v, rfl, ho, hb⟩
      obtain ⟨o0, o1, o2, oS, on, oc, oT, om, od, o5, o6, rfl⟩ := EngW.shape ho
      have HC := Lib.hid (HC.out.trans (hb.mono HC.out.size))
      have HE := Lib.hid (HE.out.below hb)
      have HQ := Lib.hid (HQ.out.below hb HQ.out.lt)
      have HV := Lib.hid ho
      have HQW := Lib.hid (show w4.heap.size < z15.heap.size from hqW)
      refine ⟨_, rfl, hK _ _ ⟨⟨⟨z16, HC.out⟩, rfl⟩, ?_⟩⟩
      clear hK K ho hb hqW
      refine stage_more ?_
      repeat (go_big_quiet_step (fail))
      refine wpQuiet_nil ?_
      intro K hK
      have k0 : z16.cell? ⟨w4.heap.size, 0, none⟩ = some (.int .i64 0) := (HQ.out.cell 0).trans rfl
      have k1 : z16.cell? ⟨w4.heap.size, 1, none⟩ = some (.int .i64 0) := (HQ.out.cell 1).trans rfl
      have k2 : z16.cell? ⟨w4.heap.size, 2, none⟩ = some (.int .i64 0) := (HQ.out.cell 2).trans rfl
      have k3 : z16.cell? ⟨w4.heap.size, 3, none⟩ = some (.slice none 0 0) := (HQ.out.cell 3).trans rfl
      have k4 : z16.cell? ⟨w4.heap.size, 4, none⟩ = some (.slice none 0 0) := (HQ.out.cell 4).trans rfl
      have k5 : z16.cell? ⟨w4.heap.size, 5, none⟩ = some (.int .i64 0) := (HQ.out.cell 5).trans rfl
      have k6 : z16.cell? ⟨w4.heap.size, 6, none⟩ = some (.int .i64 0) := (HQ.out.cell 6).trans rfl
      have kf := HQ.out.frozen
      have kl := HQ.out.lt
      unfold Chain.mov
      go_simp
      refine hK _ (World.setN z16 w4.heap.size 0 [.int .i64 o0, .int .i64 o1, .int .i64 o2, .slice oS on oc, .slice oT om od, .int .i64 o5, .int .i64 o6]) ⟨⟨⟨_, below_setN hqk [.int .i64 o0, .int .i64 o1, .int .i64 o2, .slice oS on oc, .slice oT om od, .int .i64 o5, .int .i64 o6] _ 0 HC.out⟩, rfl⟩, ?_⟩
      have HZ := Lib.hid (show BlkL (World.setN z16 w4.heap.size 0 [.int .i64 o0, .int .i64 o1, .int .i64 o2, .slice oS on oc, .slice oT om od, .int .i64 o5, .int .i64 o6]) w4.heap.size 47 [.int .i64 o0, .int .i64 o1, .int .i64 o2, .slice oS on oc, .slice oT om od, .int .i64 o5, .int .i64 o6] from BlkL.setN [.int .i64 o0, .int .i64 o1, .int .i64 o2, .slice oS on oc, .slice oT om od, .int .i64 o5, .int .i64 o6] _ _ 0 HQ.out)
      have HG := Lib.hid (show EngR (World.setN z16 w4.heap.size 0 [.int .i64 o0, .int .i64 o1, .int .i64 o2, .slice oS on oc, .slice oT om od, .int .i64 o5, .int .i64 o6]) (.agg #[.int .i64 o0, .int .i64 o1, .int .i64 o2, .slice oS on oc, .slice oT om od, .int .i64 o5, .int .i64 o6]) (fedE e t) from EngW.setN HV.out HQW.out [.int .i64 o0, .int .i64 o1, .int .i64 o2, .slice oS on oc, .slice oT om od, .int .i64 o5, .int .i64 o6] 0)
      have HC := Lib.hid (show Below w4.heap.size w4 (World.setN z16 w4.heap.size 0 [.int .i64 o0, .int .i64 o1, .int .i64 o2, .slice oS on oc, .slice oT om od, .int .i64 o5, .int .i64 o6]) from below_setN hqk [.int .i64 o0, .int .i64 o1, .int .i64 o2, .slice oS on oc, .slice oT om od, .int .i64 o5, .int .i64 o6] _ 0 HC.out)
      clear hK K k0 k1 k2 k3 k4 k5 k6 kf kl HQ HV
      generalize (World.setN z16 w4.heap.size 0 [.int .i64 o0, .int .i64 o1, .int .i64 o2, .slice oS on oc, .slice oT om od, .int .i64 o5, .int .i64 o6]) = z17 at *
      refine stage_more ?_
      repeat (go_big_quiet_step (fail))
      refine wpQuiet_nil ?_
      intro K hK
      unfold Chain.mov
      go_simp
      refine hK _ _ ⟨⟨⟨_, HC.out⟩, rfl⟩, ?_⟩
      clear hK K
      refine stage_last ?_
      repeat (go_big_quiet_step (fail))
      refine wpQuiet_nil ?_
      go_wp2
      go_meet
      case rel => exact ⟨w4.heap.size, o0, o1, o2, oS, on, oc, oT, om, od, o5, o6, rfl, rfl, rfl, HZ.out, HG.out, HC.out, hqk⟩
  case rest =>
    obtain ⟨adu, u0, u1, u2, uS, un, uc, uT, um, ud, u5, u6, rfl, rfl, rfl, hbk, heng, hb, hadu⟩ := hcut
    obtain ⟨w5, rfl⟩ : ∃ x, x = wc := ⟨_, rfl⟩
    have szw5 := hb.size
    have bxa := bxa.below hb bxa.lt
    have bxt := bxt.below hb bxt.lt
    have HBw := Lib.hid (HBw.out.trans (hb.mono HBw.out.size))
    have bxu := hbk
    have adlu := hbk.lt
    have HU := Lib.hid heng
    clear hb hbk heng
    have HBu := Lib.hid (Below.refl w5.heap.size w5)
    have qa0 : w5.cell? ⟨w.heap.size, 0, none⟩ = some (.int .i64 e.W) := (bxa.cell 0).trans rfl
    have qa1 : w5.cell? ⟨w.heap.size, 1, none⟩ = some (.int .i64 e.col) := (bxa.cell 1).trans rfl
    have qa2 : w5.cell? ⟨w.heap.size, 2, none⟩ = some (.int .i64 e.pend) := (bxa.cell 2).trans rfl
    have qa3 : w5.cell? ⟨w.heap.size, 3, none⟩ = some (.slice A e.ms.length c) := (bxa.cell 3).trans rfl
    have qa4 : w5.cell? ⟨w.heap.size, 4, none⟩ = some (.slice A2 e.it.length c2) := (bxa.cell 4).trans rfl
    have qa5 : w5.cell? ⟨w.heap.size, 5, none⟩ = some (.int .i64 e.tot) := (bxa.cell 5).trans rfl
    have qa6 : w5.cell? ⟨w.heap.size, 6, none⟩ = some (.int .i64 e.lev) := (bxa.cell 6).trans rfl
    have qla := bxa.lt
    have HXa := Lib.hid bxa
    clear bxa
    have qt0 : w5.cell? ⟨(w.heap.size + 1), 0, none⟩ = some (.int .i64 t.k) := (bxt.cell 0).trans rfl
    have qt1 : w5.cell? ⟨(w.heap.size + 1), 1, none⟩ = some (.string t.s) := (bxt.cell 1).trans rfl
    have qt2 : w5.cell? ⟨(w.heap.size + 1), 2, none⟩ = some (.int .i64 t.d) := (bxt.cell 2).trans rfl
    have qt3 : w5.cell? ⟨(w.heap.size + 1), 3, none⟩ = some (.int .i64 t.o) := (bxt.cell 3).trans rfl
    have qlt := bxt.lt
    have HXt := Lib.hid bxt
    clear bxt
    have qu0 : w5.cell? ⟨adu, 0, none⟩ = some (.int .i64 u0) := (bxu.cell 0).trans rfl
    have qu1 : w5.cell? ⟨adu, 1, none⟩ = some (.int .i64 u1) := (bxu.cell 1).trans rfl
    have qu2 : w5.cell? ⟨adu, 2, none⟩ = some (.int .i64 u2) := (bxu.cell 2).trans rfl
    have qu3 : w5.cell? ⟨adu, 3, none⟩ = some (.slice uS un uc) := (bxu.cell 3).trans rfl
    have qu4 : w5.cell? ⟨adu, 4, none⟩ = some (.slice uT um ud) := (bxu.cell 4).trans rfl
    have qu5 : w5.cell? ⟨adu, 5, none⟩ = some (.int .i64 u5) := (bxu.cell 5).trans rfl
    have qu6 : w5.cell? ⟨adu, 6, none⟩ = some (.int .i64 u6) := (bxu.cell 6).trans rfl
    have qlu := bxu.lt
    have HXu := Lib.hid bxu
    clear bxu
    go_wp2_with fail
    have bxa := HXa.out
    clear qa0 qa1 qa2 qa3 qa4 qa5 qa6 qla HXa
    have bxt := HXt.out
    clear qt0 qt1 qt2 qt3 qlt HXt
    have bxu := HXu.out
    clear qu0 qu1 qu2 qu3 qu4 qu5 qu6 qlu HXu
    refine (toEngine_any e A c A2 c2 _ bm0 bi0 (RS.below M1.out HBw.out) (RS.below I1.out HBw.out)).mono ?_
    rintro r w6 ⟨v, rfl, ho, hb⟩
    have szw6 := hb.size
    have bxa := bxa.below hb bxa.lt
    have bxt := bxt.below hb bxt.lt
    have bxu := bxu.below hb bxu.lt
    have HBw := Lib.hid (HBw.out.trans (hb.mono HBw.out.size))
    have HBu := Lib.hid (HBu.out.trans (hb.mono HBu.out.size))
    clear hb
    obtain ⟨x0, x1, x2, xS, xn, xc, xT, xm, xd, x5, x6, rfl⟩ := EngO.shape ho
    have HEx := Lib.hid ho
    clear ho
    have HBx := Lib.hid (Below.refl w6.heap.size w6)
    have qa0 : w6.cell? ⟨w.heap.size, 0, none⟩ = some (.int .i64 e.W) := (bxa.cell 0).trans rfl
    have qa1 : w6.cell? ⟨w.heap.size, 1, none⟩ = some (.int .i64 e.col) := (bxa.cell 1).trans rfl
    have qa2 : w6.cell? ⟨w.heap.size, 2, none⟩ = some (.int .i64 e.pend) := (bxa.cell 2).trans rfl
    have qa3 : w6.cell? ⟨w.heap.size, 3, none⟩ = some (.slice A e.ms.length c) := (bxa.cell 3).trans rfl
    have qa4 : w6.cell? ⟨w.heap.size, 4, none⟩ = some (.slice A2 e.it.length c2) := (bxa.cell 4).trans rfl
    have qa5 : w6.cell? ⟨w.heap.size, 5, none⟩ = some (.int .i64 e.tot) := (bxa.cell 5).trans rfl
    have qa6 : w6.cell? ⟨w.heap.size, 6, none⟩ = some (.int .i64 e.lev) := (bxa.cell 6).trans rfl
    have qla := bxa.lt
    have HXa := Lib.hid bxa
    clear bxa
    have qt0 : w6.cell? ⟨(w.heap.size + 1), 0, none⟩ = some (.int .i64 t.k) := (bxt.cell 0).trans rfl
    have qt1 : w6.cell? ⟨(w.heap.size + 1), 1, none⟩ = some (.string t.s) := (bxt.cell 1).trans rfl
    have qt2 : w6.cell? ⟨(w.heap.size + 1), 2, none⟩ = some (.int .i64 t.d) := (bxt.cell 2).trans rfl
    have qt3 : w6.cell? ⟨(w.heap.size + 1), 3, none⟩ = some (.int .i64 t.o) := (bxt.cell 3).trans rfl
    have qlt := bxt.lt
    have HXt := Lib.hid bxt
    clear bxt
    have qu0 : w6.cell? ⟨adu, 0, none⟩ = some (.int .i64 u0) := (bxu.cell 0).trans rfl
    have qu1 : w6.cell? ⟨adu, 1, none⟩ = some (.int .i64 u1) := (bxu.cell 1).trans rfl
    have qu2 : w6.cell? ⟨adu, 2, none⟩ = some (.int .i64 u2) := (bxu.cell 2).trans rfl
    have qu3 : w6.cell? ⟨adu, 3, none⟩ = some (.slice uS un uc) := (bxu.cell 3).trans rfl
    have qu4 : w6.cell? ⟨adu, 4, none⟩ = some (.slice uT um ud) := (bxu.cell 4).trans rfl
    have qu5 : w6.cell? ⟨adu, 5, none⟩ = some (.int .i64 u5) := (bxu.cell 5).trans rfl
    have qu6 : w6.cell? ⟨adu, 6, none⟩ = some (.int .i64 u6) := (bxu.cell 6).trans rfl
    have qlu := bxu.lt
    have HXu := Lib.hid bxu
    clear bxu
    go_wp2_with fail
    have bxa := HXa.out
    clear qa0 qa1 qa2 qa3 qa4 qa5 qa6 qla HXa
    have bxt := HXt.out
    clear qt0 qt1 qt2 qt3 qlt HXt
    have bxu := HXu.out
    clear qu0 qu1 qu2 qu3 qu4 qu5 qu6 qlu HXu
    have bxx := BlkL.new w6 47 [.int .i64 x0, .int .i64 x1, .int .i64 x2, .slice xS xn xc, .slice xT xm xd, .int .i64 x5, .int .i64 x6]
    have bxa := bxa.alloc (.cells #[.int .i64 x0, .int .i64 x1, .int .i64 x2, .slice xS xn xc, .slice xT xm xd, .int .i64 x5, .int .i64 x6] 47)
    have bxt := bxt.alloc (.cells #[.int .i64 x0, .int .i64 x1, .int .i64 x2, .slice xS xn xc, .slice xT xm xd, .int .i64 x5, .int .i64 x6] 47)
    have bxu := bxu.alloc (.cells #[.int .i64 x0, .int .i64 x1, .int .i64 x2, .slice xS xn xc, .slice xT xm xd, .int .i64 x5, .int .i64 x6] 47)
    have HBw := Lib.hid (HBw.out.alloc (by have := HBw.out.size; omega) (.cells #[.int .i64 x0, .int .i64 x1, .int .i64 x2, .slice xS xn xc, .slice xT xm xd, .int .i64 x5, .int .i64 x6] 47))
    have HBu := Lib.hid (HBu.out.alloc (by have := HBu.out.size; omega) (.cells #[.int .i64 x0, .int .i64 x1, .int .i64 x2, .slice xS xn xc, .slice xT xm xd, .int .i64 x5, .int .i64 x6] 47))
    have HBx := Lib.hid (HBx.out.alloc (by have := HBx.out.size; omega) (.cells #[.int .i64 x0, .int .i64 x1, .int .i64 x2, .slice xS xn xc, .slice xT xm xd, .int .i64 x5, .int .i64 x6] 47))
    have hzw7 : (w6.alloc (.cells #[.int .i64 x0, .int .i64 x1, .int .i64 x2, .slice xS xn xc, .slice xT xm xd, .int .i64 x5, .int .i64 x6] 47)).heap.size = w6.heap.size + 1 := by simp
    generalize w6.alloc (.cells #[.int .i64 x0, .int .i64 x1, .int .i64 x2, .slice xS xn xc, .slice xT xm xd, .int .i64 x5, .int .i64 x6] 47) = w7 at *
    go_cut [10, 11, 12] from 13 (fun s10 s11 s12 wc => ∃ (q : Nat) (o0 o1 o2 : Int) (oS : Option Addr) (on oc : Nat) (oT : Option Addr) (om od : Nat) (o5 o6 : Int), s10 = .pointer (some ⟨q, 0, none⟩) ∧ s11 = .string (fedT e t) ∧ s12 = .bool (fedB e t) ∧ BlkL wc q 47 [.int .i64 o0, .int .i64 o1, .int .i64 o2, .slice oS on oc, .slice oT om od, .int .i64 o5, .int .i64 o6] ∧ EngO wc w7.heap.size (.agg #[.int .i64 o0, .int .i64 o1, .int .i64 o2, .slice oS on oc, .slice oT om od, .int .i64 o5, .int .i64 o6]) (fedE e t) ∧ Below w7.heap.size w7 wc ∧ w7.heap.size ≤ q)
    case first =>
      try clear hzw7
      have px0 := Bw.rd (show w7.cell? ⟨w6.heap.size, 0, none⟩ = some (.int .i64 x0) from (bxx.cell 0).trans rfl)
      have px1 := Bw.rd (show w7.cell? ⟨w6.heap.size, 1, none⟩ = some (.int .i64 x1) from (bxx.cell 1).trans rfl)
      have px2 := Bw.rd (show w7.cell? ⟨w6.heap.size, 2, none⟩ = some (.int .i64 x2) from (bxx.cell 2).trans rfl)
      have px3 := Bw.rd (show w7.cell? ⟨w6.heap.size, 3, none⟩ = some (.slice xS xn xc) from (bxx.cell 3).trans rfl)
      have px4 := Bw.rd (show w7.cell? ⟨w6.heap.size, 4, none⟩ = some (.slice xT xm xd) from (bxx.cell 4).trans rfl)
      have px5 := Bw.rd (show w7.cell? ⟨w6.heap.size, 5, none⟩ = some (.int .i64 x5) from (bxx.cell 5).trans rfl)
      have px6 := Bw.rd (show w7.cell? ⟨w6.heap.size, 6, none⟩ = some (.int .i64 x6) from (bxx.cell 6).trans rfl)
      have pt0 := Bw.rd (show w7.cell? ⟨(w.heap.size + 1), 0, none⟩ = some (.int .i64 t.k) from (bxt.cell 0).trans rfl)
      have pt1 := Bw.rd (show w7.cell? ⟨(w.heap.size + 1), 1, none⟩ = some (.string t.s) from (bxt.cell 1).trans rfl)
      have pt2 := Bw.rd (show w7.cell? ⟨(w.heap.size + 1), 2, none⟩ = some (.int .i64 t.d) from (bxt.cell 2).trans rfl)
      have pt3 := Bw.rd (show w7.cell? ⟨(w.heap.size + 1), 3, none⟩ = some (.int .i64 t.o) from (bxt.cell 3).trans rfl)
      have HXa := Lib.hid bxa
      clear bxa
      have HXt := Lib.hid bxt
      clear bxt
      have HXu := Lib.hid bxu
      clear bxu
      have HXx := Lib.hid bxx
      clear bxx
      have CT := Lib.hid (fun V => toToken_any t.k t.s t.d t.o V)
      have HC := Lib.hid (show Below w7.heap.size w7 w7.drew from (Below.refl _ w7).drew)
      have HE := Lib.hid (show EngR w7.drew (.agg #[.int .i64 x0, .int .i64 x1, .int .i64 x2, .slice xS xn xc, .slice xT xm xd, .int .i64 x5, .int .i64 x6]) e from (EngO.r HEx.out).below (HBx.out.trans (HC.out.mono HBx.out.size)))
      have hne : Nonempty (Cl (Bw w7)) := ⟨⟨_, Bw.start w7⟩⟩
      refine wp_region_free [0, 0, 1, 3, 4, 4, 4, 4, 11, 5, 7, 9] 4 8 _ rfl (fun w' => ∃ y : Cl (Bw w7), w' = y.W) (by kernel_rfl) (by kernel_rfl) ⟨⟨_, Bw.start w7⟩, rfl⟩ ?_
      simp only [Stage.stages, Stage.pickC, Nat.reduceBEq, Nat.reduceMul, Nat.reduceAdd, cond_true, cond_false, List.map_cons, List.map_nil]
      refine free_more ?_
      repeat (go_big_quiet_step (fail))
      clear px0 px1 px2 px3 px4 px5 px6 pt0 pt1 pt2 pt3
      refine wpQuiet_nil ⟨fun K hK => ?_, fun K hK => ?_⟩
      · skip
        unfold Chain.mov
        go_simp
        simp only [Chain.movUpon]
        refine (CT.out w7.drew).mono ?_
        rintro r z18 ⟨rfl, hb⟩
        have HC := Lib.hid (HC.out.trans (hb.mono HC.out.size))
        have HE := Lib.hid (HE.out.below hb)
        refine ⟨_, rfl, hK _ _ ⟨⟨⟨z18, HC.out⟩, rfl⟩, ?_⟩⟩
        clear hK K hb
        refine free_more ?_
        repeat (go_big_quiet_step (fail))
        refine wpQuiet_nil ⟨fun K hK => ?_, fun K hK => ?_⟩
        · skip
          unfold Chain.mov
          go_simp
          simp only [Chain.movUpon]
          have hK0 : w7.heap.size ≤ z18.heap.size := HC.out.size
          refine (FeedToken_any e t _ z18 bm bi HF.out hts HE.out).mono ?_
          rintro r z19 ⟨v, rfl, ho, hb⟩
          obtain ⟨o0, o1, o2, oS, on, oc, oT, om, od, o5, o6, rfl⟩ := EngO.shape ho
          have HC := Lib.hid (HC.out.trans (hb.mono HC.out.size))
          have HE := Lib.hid (HE.out.below hb)
          have HV := Lib.hid (EngO.lowB ho hK0)
          clear hK0
          refine ⟨_, rfl, hK _ _ ⟨⟨⟨z19, HC.out⟩, rfl⟩, ?_⟩⟩
          clear hK K ho hb
          refine free_held (by kernel_rfl) ?_
          repeat (go_big_quiet_step (fail))
          refine wpQuiet_nil ?_
          intro K hK
          unfold Chain.mov
          go_simp
          have hb : Below z19.heap.size z19 (z19.alloc (.cells #[.int .i64 0, .int .i64 0, .int .i64 0, .slice none 0 0, .slice none 0 0, .int .i64 0, .int .i64 0] 47)) := (Below.refl _ z19).alloc (Nat.le_refl _) (.cells #[.int .i64 0, .int .i64 0, .int .i64 0, .slice none 0 0, .slice none 0 0, .int .i64 0, .int .i64 0] 47)
          have hqk : w7.heap.size ≤ z19.heap.size := HC.out.size
          refine hK _ (z19.alloc (.cells #[.int .i64 0, .int .i64 0, .int .i64 0, .slice none 0 0, .slice none 0 0, .int .i64 0, .int .i64 0] 47)) ⟨⟨⟨_, HC.out.trans (hb.mono HC.out.size)⟩, rfl⟩, ?_⟩
          have HC := Lib.hid (HC.out.trans (hb.mono HC.out.size))
          have HE := Lib.hid (HE.out.below hb)
          have HV := Lib.hid (HV.out.below hb)
          have HQ := Lib.hid (show BlkL (z19.alloc (.cells #[.int .i64 0, .int .i64 0, .int .i64 0, .slice none 0 0, .slice none 0 0, .int .i64 0, .int .i64 0] 47)) z19.heap.size 47 [.int .i64 0, .int .i64 0, .int .i64 0, .slice none 0 0, .slice none 0 0, .int .i64 0, .int .i64 0] from BlkL.new z19 47 [.int .i64 0, .int .i64 0, .int .i64 0, .slice none 0 0, .slice none 0 0, .int .i64 0, .int .i64 0])
          have HAL := Lib.hid hb
          clear hK K hb
          generalize z19.alloc (.cells #[.int .i64 0, .int .i64 0, .int .i64 0, .slice none 0 0, .slice none 0 0, .int .i64 0, .int .i64 0] 47) = z20 at *
          refine door_more ?_
          intro K hK
          have k0 : z20.cell? ⟨z19.heap.size, 0, none⟩ = some (.int .i64 0) := (HQ.out.cell 0).trans rfl
          have k1 : z20.cell? ⟨z19.heap.size, 1, none⟩ = some (.int .i64 0) := (HQ.out.cell 1).trans rfl
          have k2 : z20.cell? ⟨z19.heap.size, 2, none⟩ = some (.int .i64 0) := (HQ.out.cell 2).trans rfl
          have k3 : z20.cell? ⟨z19.heap.size, 3, none⟩ = some (.slice none 0 0) := (HQ.out.cell 3).trans rfl
          have k4 : z20.cell? ⟨z19.heap.size, 4, none⟩ = some (.slice none 0 0) := (HQ.out.cell 4).trans rfl
          have k5 : z20.cell? ⟨z19.heap.size, 5, none⟩ = some (.int .i64 0) := (HQ.out.cell 5).trans rfl
          have k6 : z20.cell? ⟨z19.heap.size, 6, none⟩ = some (.int .i64 0) := (HQ.out.cell 6).trans rfl
          have kf := HQ.out.frozen
          have kl := HQ.out.lt
          unfold Chain.mov
          go_simp
          refine hK _ (World.setN z20 z19.heap.size 0 [.int .i64 o0, .int .i64 o1, .int .i64 o2, .slice oS on oc, .slice oT om od, .int .i64 o5, .int .i64 o6]) ⟨⟨⟨_, below_setN hqk [.int .i64 o0, .int .i64 o1, .int .i64 o2, .slice oS on oc, .slice oT om od, .int .i64 o5, .int .i64 o6] _ 0 HC.out⟩, rfl⟩, ?_⟩
          have HZ := Lib.hid (show BlkL (World.setN z20 z19.heap.size 0 [.int .i64 o0, .int .i64 o1, .int .i64 o2, .slice oS on oc, .slice oT om od, .int .i64 o5, .int .i64 o6]) z19.heap.size 47 [.int .i64 o0, .int .i64 o1, .int .i64 o2, .slice oS on oc, .slice oT om od, .int .i64 o5, .int .i64 o6] from BlkL.setN [.int .i64 o0, .int .i64 o1, .int .i64 o2, .slice oS on oc, .slice oT om od, .int .i64 o5, .int .i64 o6] _ _ 0 HQ.out)
          have HG := Lib.hid (show EngO (World.setN z20 z19.heap.size 0 [.int .i64 o0, .int .i64 o1, .int .i64 o2, .slice oS on oc, .slice oT om od, .int .i64 o5, .int .i64 o6]) w7.heap.size (.agg #[.int .i64 o0, .int .i64 o1, .int .i64 o2, .slice oS on oc, .slice oT om od, .int .i64 o5, .int .i64 o6]) (fedE e t) from EngO.setN HQ.out (by decide) (by decide) [.int .i64 o0, .int .i64 o1, .int .i64 o2, .slice oS on oc, .slice oT om od, .int .i64 o5, .int .i64 o6] 0 HV.out)
          have HC := Lib.hid (show Below w7.heap.size w7 (World.setN z20 z19.heap.size 0 [.int .i64 o0, .int .i64 o1, .int .i64 o2, .slice oS on oc, .slice oT om od, .int .i64 o5, .int .i64 o6]) from below_setN hqk [.int .i64 o0, .int .i64 o1, .int .i64 o2, .slice oS on oc, .slice oT om od, .int .i64 o5, .int .i64 o6] _ 0 HC.out)
          clear hK K k0 k1 k2 k3 k4 k5 k6 kf kl HQ HV
          generalize (World.setN z20 z19.heap.size 0 [.int .i64 o0, .int .i64 o1, .int .i64 o2, .slice oS on oc, .slice oT om od, .int .i64 o5, .int .i64 o6]) = z21 at *
          refine stage_more ?_
          repeat (go_big_quiet_step (fail))
          refine wpQuiet_nil ?_
          intro K hK
          unfold Chain.mov
          go_simp
          refine hK _ _ ⟨⟨⟨_, HC.out⟩, rfl⟩, ?_⟩
          clear hK K
          refine stage_last ?_
          repeat (go_big_quiet_step (fail))
          refine wpQuiet_nil ?_
          go_wp2
          go_meet
          case rel => exact ⟨z19.heap.size, o0, o1, o2, oS, on, oc, oT, om, od, o5, o6, rfl, rfl, rfl, HZ.out, HG.out, HC.out, hqk⟩
        · skip
          unfold Chain.mov
          go_simp
          have hb : Below z18.heap.size z18 (z18.alloc (.cells #[.int .i64 0, .int .i64 0, .int .i64 0, .slice none 0 0, .slice none 0 0, .int .i64 0, .int .i64 0] 47)) := (Below.refl _ z18).alloc (Nat.le_refl _) (.cells #[.int .i64 0, .int .i64 0, .int .i64 0, .slice none 0 0, .slice none 0 0, .int .i64 0, .int .i64 0] 47)
          have hqk : w7.heap.size ≤ z18.heap.size := HC.out.size
          refine hK _ (z18.alloc (.cells #[.int .i64 0, .int .i64 0, .int .i64 0, .slice none 0 0, .slice none 0 0, .int .i64 0, .int .i64 0] 47)) ⟨⟨⟨_, HC.out.trans (hb.mono HC.out.size)⟩, rfl⟩, ?_⟩
          have HC := Lib.hid (HC.out.trans (hb.mono HC.out.size))
          have HE := Lib.hid (HE.out.below hb)
          have HQ := Lib.hid (show BlkL (z18.alloc (.cells #[.int .i64 0, .int .i64 0, .int .i64 0, .slice none 0 0, .slice none 0 0, .int .i64 0, .int .i64 0] 47)) z18.heap.size 47 [.int .i64 0, .int .i64 0, .int .i64 0, .slice none 0 0, .slice none 0 0, .int .i64 0, .int .i64 0] from BlkL.new z18 47 [.int .i64 0, .int .i64 0, .int .i64 0, .slice none 0 0, .slice none 0 0, .int .i64 0, .int .i64 0])
          have HAL := Lib.hid hb
          clear hK K hb
          generalize z18.alloc (.cells #[.int .i64 0, .int .i64 0, .int .i64 0, .slice none 0 0, .slice none 0 0, .int .i64 0, .int .i64 0] 47) = z22 at *
          refine door_more ?_
          intro K hK
          unfold Chain.mov
          go_simp
          simp only [Chain.movUpon]
          have hqW : z18.heap.size < z22.heap.size := HQ.out.lt
          have hK0 : w7.heap.size ≤ z22.heap.size := HC.out.size
          refine (FeedToken_any e t _ z22 bm bi HF.out hts HE.out).mono ?_
          rintro r z23 ⟨v, rfl, ho, hb⟩
          obtain ⟨o0, o1, o2, oS, on, oc, oT, om, od, o5, o6, rfl⟩ := EngO.shape ho
          have HC := Lib.hid (HC.out.trans (hb.mono HC.out.size))
          have HE := Lib.hid (HE.out.below hb)
          have HQ := Lib.hid (HQ.out.below hb HQ.out.lt)
          have HV := Lib.hid (EngO.lowB ho hK0)
          clear hK0
          refine ⟨_, rfl, hK _ _ ⟨⟨⟨z23, HC.out⟩, rfl⟩, ?_⟩⟩
          clear hK K ho hb hqW
          refine stage_more ?_
          repeat (go_big_quiet_step (fail))
          refine wpQuiet_nil ?_
          intro K hK
          have k0 : z23.cell? ⟨z18.heap.size, 0, none⟩ = some (.int .i64 0) := (HQ.out.cell 0).trans rfl
          have k1 : z23.cell? ⟨z18.heap.size, 1, none⟩ = some (.int .i64 0) := (HQ.out.cell 1).trans rfl
          have k2 : z23.cell? ⟨z18.heap.size, 2, none⟩ = some (.int .i64 0) := (HQ.out.cell 2).trans rfl
          have k3 : z23.cell? ⟨z18.heap.size, 3, none⟩ = some (.slice none 0 0) := (HQ.out.cell 3).trans rfl
          have k4 : z23.cell? ⟨z18.heap.size, 4, none⟩ = some (.slice none 0 0) := (HQ.out.cell 4).trans rfl
          have k5 : z23.cell? ⟨z18.heap.size, 5, none⟩ = some (.int .i64 0) := (HQ.out.cell 5).trans rfl
          have k6 : z23.cell? ⟨z18.heap.size, 6, none⟩ = some (.int .i64 0) := (HQ.out.cell 6).trans rfl
          have kf := HQ.out.frozen
          have kl := HQ.out.lt
          unfold Chain.mov
          go_simp
          refine hK _ (World.setN z23 z18.heap.size 0 [.int .i64 o0, .int .i64 o1, .int .i64 o2, .slice oS on oc, .slice oT om od, .int .i64 o5, .int .i64 o6]) ⟨⟨⟨_, below_setN hqk [.int .i64 o0, .int .i64 o1, .int .i64 o2, .slice oS on oc, .slice oT om od, .int .i64 o5, .int .i64 o6] _ 0 HC.out⟩, rfl⟩, ?_⟩
          have HZ := Lib.hid (show BlkL (World.setN z23 z18.heap.size 0 [.int .i64 o0, .int .i64 o1, .int .i64 o2, .slice oS on oc, .slice oT om od, .int .i64 o5, .int .i64 o6]) z18.heap.size 47 [.int .i64 o0, .int .i64 o1, .int .i64 o2, .slice oS on oc, .slice oT om od, .int .i64 o5, .int .i64 o6] from BlkL.setN [.int .i64 o0, .int .i64 o1, .int .i64 o2, .slice oS on oc, .slice oT om od, .int .i64 o5, .int .i64 o6] _ _ 0 HQ.out)
          have HG := Lib.hid (show EngO (World.setN z23 z18.heap.size 0 [.int .i64 o0, .int .i64 o1, .int .i64 o2, .slice oS on oc, .slice oT om od, .int .i64 o5, .int .i64 o6]) w7.heap.size (.agg #[.int .i64 o0, .int .i64 o1, .int .i64 o2, .slice oS on oc, .slice oT om od, .int .i64 o5, .int .i64 o6]) (fedE e t) from EngO.setN HQ.out (by decide) (by decide) [.int .i64 o0, .int .i64 o1, .int .i64 o2, .slice oS on oc, .slice oT om od, .int .i64 o5, .int .i64 o6] 0 HV.out)
          have HC := Lib.hid (show Below w7.heap.size w7 (World.setN z23 z18.heap.size 0 [.int .i64 o0, .int .i64 o1, .int .i64 o2, .slice oS on oc, .slice oT om od, .int .i64 o5, .int .i64 o6]) from below_setN hqk [.int .i64 o0, .int .i64 o1, .int .i64 o2, .slice oS on oc, .slice oT om od, .int .i64 o5, .int .i64 o6] _ 0 HC.out)
          clear hK K k0 k1 k2 k3 k4 k5 k6 kf kl HQ HV
          generalize (World.setN z23 z18.heap.size 0 [.int .i64 o0, .int .i64 o1, .int .i64 o2, .slice oS on oc, .slice oT om od, .int .i64 o5, .int .i64 o6]) = z24 at *
          refine stage_more ?_
          repeat (go_big_quiet_step (fail))
          refine wpQuiet_nil ?_
          intro K hK
          unfold Chain.mov
          go_simp
          refine hK _ _ ⟨⟨⟨_, HC.out⟩, rfl⟩, ?_⟩
          clear hK K
          refine stage_last ?_
          repeat (go_big_quiet_step (fail))
          refine wpQuiet_nil ?_
          go_wp2
          go_meet
          case rel => exact ⟨z18.heap.size, o0, o1, o2, oS, on, oc, oT, om, od, o5, o6, rfl, rfl, rfl, HZ.out, HG.out, HC.out, hqk⟩
      · skip
        unfold Chain.mov
        go_simp
        have hb : Below w7.drew.heap.size w7.drew (w7.drew.alloc (.cells #[.int .i64 0, .int .i64 0, .int .i64 0, .slice none 0 0, .slice none 0 0, .int .i64 0, .int .i64 0] 47)) := (Below.refl _ w7.drew).alloc (Nat.le_refl _) (.cells #[.int .i64 0, .int .i64 0, .int .i64 0, .slice none 0 0, .slice none 0 0, .int .i64 0, .int .i64 0] 47)
        have hqk : w7.heap.size ≤ w7.heap.size := HC.out.size
        refine hK _ (w7.drew.alloc (.cells #[.int .i64 0, .int .i64 0, .int .i64 0, .slice none 0 0, .slice none 0 0, .int .i64 0, .int .i64 0] 47)) ⟨⟨⟨_, HC.out.trans (hb.mono HC.out.size)⟩, rfl⟩, ?_⟩
        have HC := Lib.hid (HC.out.trans (hb.mono HC.out.size))
        have HE := Lib.hid (HE.out.below hb)
        have HQ := Lib.hid (show BlkL (w7.drew.alloc (.cells #[.int .i64 0, .int .i64 0, .int .i64 0, .slice none 0 0, .slice none 0 0, .int .i64 0, .int .i64 0] 47)) w7.heap.size 47 [.int .i64 0, .int .i64 0, .int .i64 0, .slice none 0 0, .slice none 0 0, .int .i64 0, .int .i64 0] from BlkL.new w7.drew 47 [.int .i64 0, .int .i64 0, .int .i64 0, .slice none 0 0, .slice none 0 0, .int .i64 0, .int .i64 0])
        have HAL := Lib.hid hb
        clear hK K hb
        generalize w7.drew.alloc (.cells #[.int .i64 0, .int .i64 0, .int .i64 0, .slice none 0 0, .slice none 0 0, .int .i64 0, .int .i64 0] 47) = z25 at *
        refine door_more ?_
        intro K hK
        unfold Chain.mov
        go_simp
        simp only [Chain.movUpon]
        have hqW : w7.heap.size < z25.heap.size := HQ.out.lt
        refine (CT.out z25).mono ?_
        rintro r z26 ⟨rfl, hb⟩
        have HC := Lib.hid (HC.out.trans (hb.mono HC.out.size))
        have HE := Lib.hid (HE.out.below hb)
        have HQ := Lib.hid (HQ.out.below hb HQ.out.lt)
        refine ⟨_, rfl, hK _ _ ⟨⟨⟨z26, HC.out⟩, rfl⟩, ?_⟩⟩
        clear hK K hb hqW
        refine stage_more ?_
        repeat (go_big_quiet_step (fail))
        refine wpQuiet_nil ?_
        intro K hK
        unfold Chain.mov
        go_simp
        simp only [Chain.movUpon]
        have hqW : w7.heap.size < z26.heap.size := HQ.out.lt
        have hK0 : w7.heap.size ≤ z26.heap.size := HC.out.size
        refine (FeedToken_any e t _ z26 bm bi HF.out hts HE.out).mono ?_
        rintro r z27 ⟨v, rfl, ho, hb⟩
        obtain ⟨o0, o1, o2, oS, on, oc, oT, om, od, o5, o6, rfl⟩ := EngO.shape ho
        have HC := Lib.hid (HC.out.trans (hb.mono HC.out.size))
        have HE := Lib.hid (HE.out.below hb)
        have HQ := Lib.hid (HQ.out.below hb HQ.out.lt)
        have HV := Lib.hid (EngO.lowB ho hK0)
        clear hK0
        refine ⟨_, rfl, hK _ _ ⟨⟨⟨z27, HC.out⟩, rfl⟩, ?_⟩⟩
        clear hK K ho hb hqW
        refine stage_more ?_
        repeat (go_big_quiet_step (fail))
        refine wpQuiet_nil ?_
        intro K hK
        have k0 : z27.cell? ⟨w7.heap.size, 0, none⟩ = some (.int .i64 0) := (HQ.out.cell 0).trans rfl
        have k1 : z27.cell? ⟨w7.heap.size, 1, none⟩ = some (.int .i64 0) := (HQ.out.cell 1).trans rfl
        have k2 : z27.cell? ⟨w7.heap.size, 2, none⟩ = some (.int .i64 0) := (HQ.out.cell 2).trans rfl
        have k3 : z27.cell? ⟨w7.heap.size, 3, none⟩ = some (.slice none 0 0) := (HQ.out.cell 3).trans rfl
        have k4 : z27.cell? ⟨w7.heap.size, 4, none⟩ = some (.slice none 0 0) := (HQ.out.cell 4).trans rfl
        have k5 : z27.cell? ⟨w7.heap.size, 5, none⟩ = some (.int .i64 0) := (HQ.out.cell 5).trans rfl
        have k6 : z27.cell? ⟨w7.heap.size, 6, none⟩ = some (.int .i64 0) := (HQ.out.cell 6).trans rfl
        have kf := HQ.out.frozen
        have kl := HQ.out.lt
        unfold Chain.mov
        go_simp
        refine hK _ (World.setN z27 w7.heap.size 0 [.int .i64 o0, .int .i64 o1, .int .i64 o2, .slice oS on oc, .slice oT om od, .int .i64 o5, .int .i64 o6]) ⟨⟨⟨_, below_setN hqk [.int .i64 o0, .int .i64 o1, .int .i64 o2, .slice oS on oc, .slice oT om od, .int .i64 o5, .int .i64 o6] _ 0 HC.out⟩, rfl⟩, ?_⟩
        have HZ := Lib.hid (show BlkL (World.setN z27 w7.heap.size 0 [.int .i64 o0, .int .i64 o1, .int .i64 o2, .slice oS on oc, .slice oT om od, .int .i64 o5, .int .i64 o6]) w7.heap.size 47 [.int .i64 o0, .int .i64 o1, .int .i64 o2, .slice oS on oc, .slice oT om od, .int .i64 o5, .int .i64 o6] from BlkL.setN [.int .i64 o0, .int .i64 o1, .int .i64 o2, .slice oS on oc, .slice oT om od, .int .i64 o5, .int .i64 o6] _ _ 0 HQ.out)
        have HG := Lib.hid (show EngO (World.setN z27 w7.heap.size 0 [.int .i64 o0, .int .i64 o1, .int .i64 o2, .slice oS on oc, .slice oT om od, .int .i64 o5, .int .i64 o6]) w7.heap.size (.agg #[.int .i64 o0, .int .i64 o1, .int .i64 o2, .slice oS on oc, .slice oT om od, .int .i64 o5, .int .i64 o6]) (fedE e t) from EngO.setN HQ.out (by decide) (by decide) [.int .i64 o0, .int .i64 o1, .int .i64 o2, .slice oS on oc, .slice oT om od, .int .i64 o5, .int .i64 o6] 0 HV.out)
        have HC := Lib.hid (show Below w7.heap.size w7 (World.setN z27 w7.heap.size 0 [.int .i64 o0, .int .i64 o1, .int .i64 o2, .slice oS on oc, .slice oT om od, .int .i64 o5, .int .i64 o6]) from below_setN hqk [.int .i64 o0, .int .i64 o1, .int .i64 o2, .slice oS on oc, .slice oT om od, .int .i64 o5, .int .i64 o6] _ 0 HC.out)
        clear hK K k0 k1 k2 k3 k4 k5 k6 kf kl HQ HV
        generalize (World.setN z27 w7.heap.size 0 [.int .i64 o0, .int .i64 o1, .int .i64 o2, .slice oS on oc, .slice oT om od, .int .i64 o5, .int .i64 o6]) = z28 at *
        refine stage_more ?_
        repeat (go_big_quiet_step (fail))
        refine wpQuiet_nil ?_
        intro K hK
        unfold Chain.mov
        go_simp
        refine hK _ _ ⟨⟨⟨_, HC.out⟩, rfl⟩, ?_⟩
        clear hK K
        refine stage_last ?_
        repeat (go_big_quiet_step (fail))
        refine wpQuiet_nil ?_
        go_wp2
        go_meet
        case rel => exact ⟨w7.heap.size, o0, o1, o2, oS, on, oc, oT, om, od, o5, o6, rfl, rfl, rfl, HZ.out, HG.out, HC.out, hqk⟩
    case rest =>
      obtain ⟨adg, g0, g1, g2, gS, gn, gc, gT, gm, gd, g5, g6, rfl, rfl, rfl, hbk, heng, hb, hadg⟩ := hcut
      obtain ⟨w8, rfl⟩ : ∃ x, x = wc := ⟨_, rfl⟩
      have szw8 := hb.size
      have bxa := bxa.below hb bxa.lt
      have bxt := bxt.below hb bxt.lt
      have bxu := bxu.below hb bxu.lt
      have bxx := bxx.below hb bxx.lt
      have HBw := Lib.hid (HBw.out.trans (hb.mono HBw.out.size))
      have HBu := Lib.hid (HBu.out.trans (hb.mono HBu.out.size))
      have HBx := Lib.hid (HBx.out.trans (hb.mono HBx.out.size))
      have bxg := hbk
      have adlg := hbk.lt
      have HG := Lib.hid heng
      clear hb hbk heng
      have HBg := Lib.hid (Below.refl w8.heap.size w8)
      have qa0 : w8.cell? ⟨w.heap.size, 0, none⟩ = some (.int .i64 e.W) := (bxa.cell 0).trans rfl
      have qa1 : w8.cell? ⟨w.heap.size, 1, none⟩ = some (.int .i64 e.col) := (bxa.cell 1).trans rfl
      have qa2 : w8.cell? ⟨w.heap.size, 2, none⟩ = some (.int .i64 e.pend) := (bxa.cell 2).trans rfl
      have qa3 : w8.cell? ⟨w.heap.size, 3, none⟩ = some (.slice A e.ms.length c) := (bxa.cell 3).trans rfl
      have qa4 : w8.cell? ⟨w.heap.size, 4, none⟩ = some (.slice A2 e.it.length c2) := (bxa.cell 4).trans rfl
      have qa5 : w8.cell? ⟨w.heap.size, 5, none⟩ = some (.int .i64 e.tot) := (bxa.cell 5).trans rfl
      have qa6 : w8.cell? ⟨w.heap.size, 6, none⟩ = some (.int .i64 e.lev) := (bxa.cell 6).trans rfl
      have qla := bxa.lt
      have HXa := Lib.hid bxa
      clear bxa
      have qt0 : w8.cell? ⟨(w.heap.size + 1), 0, none⟩ = some (.int .i64 t.k) := (bxt.cell 0).trans rfl
      have qt1 : w8.cell? ⟨(w.heap.size + 1), 1, none⟩ = some (.string t.s) := (bxt.cell 1).trans rfl
      have qt2 : w8.cell? ⟨(w.heap.size + 1), 2, none⟩ = some (.int .i64 t.d) := (bxt.cell 2).trans rfl
      have qt3 : w8.cell? ⟨(w.heap.size + 1), 3, none⟩ = some (.int .i64 t.o) := (bxt.cell 3).trans rfl
      have qlt := bxt.lt
      have HXt := Lib.hid bxt
      clear bxt
      have qu0 : w8.cell? ⟨adu, 0, none⟩ = some (.int .i64 u0) := (bxu.cell 0).trans rfl
      have qu1 : w8.cell? ⟨adu, 1, none⟩ = some (.int .i64 u1) := (bxu.cell 1).trans rfl
      have qu2 : w8.cell? ⟨adu, 2, none⟩ = some (.int .i64 u2) := (bxu.cell 2).trans rfl
      have qu3 : w8.cell? ⟨adu, 3, none⟩ = some (.slice uS un uc) := (bxu.cell 3).trans rfl
      have qu4 : w8.cell? ⟨adu, 4, none⟩ = some (.slice uT um ud) := (bxu.cell 4).trans rfl
      have qu5 : w8.cell? ⟨adu, 5, none⟩ = some (.int .i64 u5) := (bxu.cell 5).trans rfl
      have qu6 : w8.cell? ⟨adu, 6, none⟩ = some (.int .i64 u6) := (bxu.cell 6).trans rfl
      have qlu := bxu.lt
      have HXu := Lib.hid bxu
      clear bxu
      have qx0 : w8.cell? ⟨w6.heap.size, 0, none⟩ = some (.int .i64 x0) := (bxx.cell 0).trans rfl
      have qx1 : w8.cell? ⟨w6.heap.size, 1, none⟩ = some (.int .i64 x1) := (bxx.cell 1).trans rfl
      have qx2 : w8.cell? ⟨w6.heap.size, 2, none⟩ = some (.int .i64 x2) := (bxx.cell 2).trans rfl
      have qx3 : w8.cell? ⟨w6.heap.size, 3, none⟩ = some (.slice xS xn xc) := (bxx.cell 3).trans rfl
      have qx4 : w8.cell? ⟨w6.heap.size, 4, none⟩ = some (.slice xT xm xd) := (bxx.cell 4).trans rfl
      have qx5 : w8.cell? ⟨w6.heap.size, 5, none⟩ = some (.int .i64 x5) := (bxx.cell 5).trans rfl
      have qx6 : w8.cell? ⟨w6.heap.size, 6, none⟩ = some (.int .i64 x6) := (bxx.cell 6).trans rfl
      have qlx := bxx.lt
      have HXx := Lib.hid bxx
      clear bxx
      have qg0 : w8.cell? ⟨adg, 0, none⟩ = some (.int .i64 g0) := (bxg.cell 0).trans rfl
      have qg1 : w8.cell? ⟨adg, 1, none⟩ = some (.int .i64 g1) := (bxg.cell 1).trans rfl
      have qg2 : w8.cell? ⟨adg, 2, none⟩ = some (.int .i64 g2) := (bxg.cell 2).trans rfl
      have qg3 : w8.cell? ⟨adg, 3, none⟩ = some (.slice gS gn gc) := (bxg.cell 3).trans rfl
      have qg4 : w8.cell? ⟨adg, 4, none⟩ = some (.slice gT gm gd) := (bxg.cell 4).trans rfl
      have qg5 : w8.cell? ⟨adg, 5, none⟩ = some (.int .i64 g5) := (bxg.cell 5).trans rfl
      have qg6 : w8.cell? ⟨adg, 6, none⟩ = some (.int .i64 g6) := (bxg.cell 6).trans rfl
      have qlg := bxg.lt
      have HXg := Lib.hid bxg
      clear bxg
      go_wp2_with fail
      have bxa := HXa.out
      clear qa0 qa1 qa2 qa3 qa4 qa5 qa6 qla HXa
      have bxt := HXt.out
      clear qt0 qt1 qt2 qt3 qlt HXt
      have bxu := HXu.out
      clear qu0 qu1 qu2 qu3 qu4 qu5 qu6 qlu HXu
      have bxx := HXx.out
      clear qx0 qx1 qx2 qx3 qx4 qx5 qx6 qlx HXx
      have bxg := HXg.out
      clear qg0 qg1 qg2 qg3 qg4 qg5 qg6 qlg HXg
      refine (eqEngine_same (fedE e t) (.agg #[.int .i64 g0, .int .i64 g1, .int .i64 g2, .slice gS gn gc, .slice gT gm gd, .int .i64 g5, .int .i64 g6]) (.agg #[.int .i64 u0, .int .i64 u1, .int .i64 u2, .slice uS un uc, .slice uT um ud, .int .i64 u5, .int .i64 u6]) _ fm1 fi1 ((EngO.r HG.out).below HBg.out) (HU.out.below HBu.out)).mono ?_
      rintro r w9 ⟨rfl, hb⟩
      have szw9 := hb.size
      have bxa := bxa.below hb bxa.lt
      have bxt := bxt.below hb bxt.lt
      have bxu := bxu.below hb bxu.lt
      have bxx := bxx.below hb bxx.lt
      have bxg := bxg.below hb bxg.lt
      have HBw := Lib.hid (HBw.out.trans (hb.mono HBw.out.size))
      have HBu := Lib.hid (HBu.out.trans (hb.mono HBu.out.size))
      have HBx := Lib.hid (HBx.out.trans (hb.mono HBx.out.size))
      have HBg := Lib.hid (HBg.out.trans (hb.mono HBg.out.size))
      clear hb
      have qa0 : w9.cell? ⟨w.heap.size, 0, none⟩ = some (.int .i64 e.W) := (bxa.cell 0).trans rfl
      have qa1 : w9.cell? ⟨w.heap.size, 1, none⟩ = some (.int .i64 e.col) := (bxa.cell 1).trans rfl
      have qa2 : w9.cell? ⟨w.heap.size, 2, none⟩ = some (.int .i64 e.pend) := (bxa.cell 2).trans rfl
      have qa3 : w9.cell? ⟨w.heap.size, 3, none⟩ = some (.slice A e.ms.length c) := (bxa.cell 3).trans rfl
      have qa4 : w9.cell? ⟨w.heap.size, 4, none⟩ = some (.slice A2 e.it.length c2) := (bxa.cell 4).trans rfl
      have qa5 : w9.cell? ⟨w.heap.size, 5, none⟩ = some (.int .i64 e.tot) := (bxa.cell 5).trans rfl
      have qa6 : w9.cell? ⟨w.heap.size, 6, none⟩ = some (.int .i64 e.lev) := (bxa.cell 6).trans rfl
      have qla := bxa.lt
      have HXa := Lib.hid bxa
      clear bxa
      have qt0 : w9.cell? ⟨(w.heap.size + 1), 0, none⟩ = some (.int .i64 t.k) := (bxt.cell 0).trans rfl
      have qt1 : w9.cell? ⟨(w.heap.size + 1), 1, none⟩ = some (.string t.s) := (bxt.cell 1).trans rfl
      have qt2 : w9.cell? ⟨(w.heap.size + 1), 2, none⟩ = some (.int .i64 t.d) := (bxt.cell 2).trans rfl
      have qt3 : w9.cell? ⟨(w.heap.size + 1), 3, none⟩ = some (.int .i64 t.o) := (bxt.cell 3).trans rfl
      have qlt := bxt.lt
      have HXt := Lib.hid bxt
      clear bxt
      have qu0 : w9.cell? ⟨adu, 0, none⟩ = some (.int .i64 u0) := (bxu.cell 0).trans rfl
      have qu1 : w9.cell? ⟨adu, 1, none⟩ = some (.int .i64 u1) := (bxu.cell 1).trans rfl
      have qu2 : w9.cell? ⟨adu, 2, none⟩ = some (.int .i64 u2) := (bxu.cell 2).trans rfl
      have qu3 : w9.cell? ⟨adu, 3, none⟩ = some (.slice uS un uc) := (bxu.cell 3).trans rfl
      have qu4 : w9.cell? ⟨adu, 4, none⟩ = some (.slice uT um ud) := (bxu.cell 4).trans rfl
      have qu5 : w9.cell? ⟨adu, 5, none⟩ = some (.int .i64 u5) := (bxu.cell 5).trans rfl
      have qu6 : w9.cell? ⟨adu, 6, none⟩ = some (.int .i64 u6) := (bxu.cell 6).trans rfl
      have qlu := bxu.lt
      have HXu := Lib.hid bxu
      clear bxu
      have qx0 : w9.cell? ⟨w6.heap.size, 0, none⟩ = some (.int .i64 x0) := (bxx.cell 0).trans rfl
      have qx1 : w9.cell? ⟨w6.heap.size, 1, none⟩ = some (.int .i64 x1) := (bxx.cell 1).trans rfl
      have qx2 : w9.cell? ⟨w6.heap.size, 2, none⟩ = some (.int .i64 x2) := (bxx.cell 2).trans rfl
      have qx3 : w9.cell? ⟨w6.heap.size, 3, none⟩ = some (.slice xS xn xc) := (bxx.cell 3).trans rfl
      have qx4 : w9.cell? ⟨w6.heap.size, 4, none⟩ = some (.slice xT xm xd) := (bxx.cell 4).trans rfl
      have qx5 : w9.cell? ⟨w6.heap.size, 5, none⟩ = some (.int .i64 x5) := (bxx.cell 5).trans rfl
      have qx6 : w9.cell? ⟨w6.heap.size, 6, none⟩ = some (.int .i64 x6) := (bxx.cell 6).trans rfl
      have qlx := bxx.lt
      have HXx := Lib.hid bxx
      clear bxx
      have qg0 : w9.cell? ⟨adg, 0, none⟩ = some (.int .i64 g0) := (bxg.cell 0).trans rfl
      have qg1 : w9.cell? ⟨adg, 1, none⟩ = some (.int .i64 g1) := (bxg.cell 1).trans rfl
      have qg2 : w9.cell? ⟨adg, 2, none⟩ = some (.int .i64 g2) := (bxg.cell 2).trans rfl
      have qg3 : w9.cell? ⟨adg, 3, none⟩ = some (.slice gS gn gc) := (bxg.cell 3).trans rfl
      have qg4 : w9.cell? ⟨adg, 4, none⟩ = some (.slice gT gm gd) := (bxg.cell 4).trans rfl
      have qg5 : w9.cell? ⟨adg, 5, none⟩ = some (.int .i64 g5) := (bxg.cell 5).trans rfl
      have qg6 : w9.cell? ⟨adg, 6, none⟩ = some (.int .i64 g6) := (bxg.cell 6).trans rfl
      have qlg := bxg.lt
      have HXg := Lib.hid bxg
      clear bxg
      go_wp2_with fail
      have bxa := HXa.out
      clear qa0 qa1 qa2 qa3 qa4 qa5 qa6 qla HXa
      have bxt := HXt.out
      clear qt0 qt1 qt2 qt3 qlt HXt
      have bxu := HXu.out
      clear qu0 qu1 qu2 qu3 qu4 qu5 qu6 qlu HXu
      have bxx := HXx.out
      clear qx0 qx1 qx2 qx3 qx4 qx5 qx6 qlx HXx
      have bxg := HXg.out
      clear qg0 qg1 qg2 qg3 qg4 qg5 qg6 qlg HXg
      have hne : Nonempty (Kept w9) := ⟨⟨w9, Below.refl _ _⟩⟩
      have px0 := Kept.rd (show w9.cell? ⟨w6.heap.size, 0, none⟩ = some (.int .i64 x0) from (bxx.cell 0).trans rfl)
      have px1 := Kept.rd (show w9.cell? ⟨w6.heap.size, 1, none⟩ = some (.int .i64 x1) from (bxx.cell 1).trans rfl)
      have px2 := Kept.rd (show w9.cell? ⟨w6.heap.size, 2, none⟩ = some (.int .i64 x2) from (bxx.cell 2).trans rfl)
      have px3 := Kept.rd (show w9.cell? ⟨w6.heap.size, 3, none⟩ = some (.slice xS xn xc) from (bxx.cell 3).trans rfl)
      have px4 := Kept.rd (show w9.cell? ⟨w6.heap.size, 4, none⟩ = some (.slice xT xm xd) from (bxx.cell 4).trans rfl)
      have px5 := Kept.rd (show w9.cell? ⟨w6.heap.size, 5, none⟩ = some (.int .i64 x5) from (bxx.cell 5).trans rfl)
      have px6 := Kept.rd (show w9.cell? ⟨w6.heap.size, 6, none⟩ = some (.int .i64 x6) from (bxx.cell 6).trans rfl)
      have pa0 := Kept.rd (show w9.cell? ⟨w.heap.size, 0, none⟩ = some (.int .i64 e.W) from (bxa.cell 0).trans rfl)
      have pa1 := Kept.rd (show w9.cell? ⟨w.heap.size, 1, none⟩ = some (.int .i64 e.col) from (bxa.cell 1).trans rfl)
      have pa2 := Kept.rd (show w9.cell? ⟨w.heap.size, 2, none⟩ = some (.int .i64 e.pend) from (bxa.cell 2).trans rfl)
      have pa3 := Kept.rd (show w9.cell? ⟨w.heap.size, 3, none⟩ = some (.slice A e.ms.length c) from (bxa.cell 3).trans rfl)
      have pa4 := Kept.rd (show w9.cell? ⟨w.heap.size, 4, none⟩ = some (.slice A2 e.it.length c2) from (bxa.cell 4).trans rfl)
      have pa5 := Kept.rd (show w9.cell? ⟨w.heap.size, 5, none⟩ = some (.int .i64 e.tot) from (bxa.cell 5).trans rfl)
      have pa6 := Kept.rd (show w9.cell? ⟨w.heap.size, 6, none⟩ = some (.int .i64 e.lev) from (bxa.cell 6).trans rfl)
      have HXa := Lib.hid bxa
      clear bxa
      have HXt := Lib.hid bxt
      clear bxt
      have HXu := Lib.hid bxu
      clear bxu
      have HXx := Lib.hid bxx
      clear bxx
      have HXg := Lib.hid bxg
      clear bxg
      refine wp_region_chain [true, true, false, false, false] (fun w' => ∃ x : Kept w9, w' = x.W) (by kernel_rfl) (by kernel_rfl) (Kept.start w9) ?_
      simp only [Chain.pickM, List.map_cons, List.map_nil, Bool.not_true, Bool.not_false]
      repeat (go_big_quiet_step (fail))
      refine wpQuiet_nil ?_
      refine chain_step (fun K hK => ?_)
      unfold Chain.mov
      go_simp
      simp only [Chain.movUpon]
      clear px0 px1 px2 px3 px4 px5 px6
      clear pa0 pa1 pa2 pa3 pa4 pa5 pa6
      have bxa := HXa.out
      clear HXa
      have bxt := HXt.out
      clear HXt
      have bxu := HXu.out
      clear HXu
      have bxx := HXx.out
      clear HXx
      have bxg := HXg.out
      clear HXg
      refine (toEngine_any e A c A2 c2 w9.drew bm0 bi0 (RS.below M1.out HBw.out.drew) (RS.below I1.out HBw.out.drew)).mono ?_
      rintro r w10 ⟨v, rfl, ho, hb0⟩
      have hb : Below w9.heap.size w9 w10 := (Below.refl _ w9).drew.trans (hb0.mono (Nat.le_refl _))
      have szw10 := hb.size
      have HK1 := Lib.hid hb
      have bxa := bxa.below hb bxa.lt
      have bxt := bxt.below hb bxt.lt
      have bxu := bxu.below hb bxu.lt
      have bxx := bxx.below hb bxx.lt
      have bxg := bxg.below hb bxg.lt
      have HBw := Lib.hid (HBw.out.trans (hb.mono HBw.out.size))
      have HBu := Lib.hid (HBu.out.trans (hb.mono HBu.out.size))
      have HBx := Lib.hid (HBx.out.trans (hb.mono HBx.out.size))
      have HBg := Lib.hid (HBg.out.trans (hb.mono HBg.out.size))
      clear hb hb0
      obtain ⟨y0, y1, y2, yS, yn, yc, yT, ym, yd, y5, y6, rfl⟩ := EngO.shape ho
      have HEy := Lib.hid ho
      clear ho
      refine ⟨_, rfl, hK _ _ ⟨Kept.mk' HK1.out, ?_⟩⟩
      clear hK K
      refine chain_step (fun K hK => ?_)
      unfold Chain.mov
      have HXa := Lib.hid bxa
      clear bxa
      have HXt := Lib.hid bxt
      clear bxt
      have HXu := Lib.hid bxu
      clear bxu
      have HXx := Lib.hid bxx
      clear bxx
      have HXg := Lib.hid bxg
      clear bxg
      go_simp
      simp only [Chain.movUpon]
      have bxa := HXa.out
      clear HXa
      have bxt := HXt.out
      clear HXt
      have bxu := HXu.out
      clear HXu
      have bxx := HXx.out
      clear HXx
      have bxg := HXg.out
      clear HXg
      refine (eqEngine_same e (.agg #[.int .i64 x0, .int .i64 x1, .int .i64 x2, .slice xS xn xc, .slice xT xm xd, .int .i64 x5, .int .i64 x6]) (.agg #[.int .i64 y0, .int .i64 y1, .int .i64 y2, .slice yS yn yc, .slice yT ym yd, .int .i64 y5, .int .i64 y6]) w10 bm bi ((EngO.r HEx.out).below HBx.out) (EngO.r HEy.out)).mono ?_
      rintro r w11 ⟨rfl, hb⟩
      have szw11 := hb.size
      have HK2 := Lib.hid (HK1.out.trans (hb.mono HK1.out.size))
      have bxa := bxa.below hb bxa.lt
      have bxt := bxt.below hb bxt.lt
      have bxu := bxu.below hb bxu.lt
      have bxx := bxx.below hb bxx.lt
      have bxg := bxg.below hb bxg.lt
      have HBw := Lib.hid (HBw.out.trans (hb.mono HBw.out.size))
      have HBu := Lib.hid (HBu.out.trans (hb.mono HBu.out.size))
      have HBx := Lib.hid (HBx.out.trans (hb.mono HBx.out.size))
      have HBg := Lib.hid (HBg.out.trans (hb.mono HBg.out.size))
      clear hb HEy
      refine ⟨_, rfl, hK _ _ ⟨Kept.mk' HK2.out, ?_⟩⟩
      clear hK K hne HK1 HK2
      unfold Chain.chainW
      have qa0 : w11.cell? ⟨w.heap.size, 0, none⟩ = some (.int .i64 e.W) := (bxa.cell 0).trans rfl
      have qa1 : w11.cell? ⟨w.heap.size, 1, none⟩ = some (.int .i64 e.col) := (bxa.cell 1).trans rfl
      have qa2 : w11.cell? ⟨w.heap.size, 2, none⟩ = some (.int .i64 e.pend) := (bxa.cell 2).trans rfl
      have qa3 : w11.cell? ⟨w.heap.size, 3, none⟩ = some (.slice A e.ms.length c) := (bxa.cell 3).trans rfl
      have qa4 : w11.cell? ⟨w.heap.size, 4, none⟩ = some (.slice A2 e.it.length c2) := (bxa.cell 4).trans rfl
      have qa5 : w11.cell? ⟨w.heap.size, 5, none⟩ = some (.int .i64 e.tot) := (bxa.cell 5).trans rfl
      have qa6 : w11.cell? ⟨w.heap.size, 6, none⟩ = some (.int .i64 e.lev) := (bxa.cell 6).trans rfl
      have qla := bxa.lt
      have HXa := Lib.hid bxa
      clear bxa
      have qt0 : w11.cell? ⟨(w.heap.size + 1), 0, none⟩ = some (.int .i64 t.k) := (bxt.cell 0).trans rfl
      have qt1 : w11.cell? ⟨(w.heap.size + 1), 1, none⟩ = some (.string t.s) := (bxt.cell 1).trans rfl
      have qt2 : w11.cell? ⟨(w.heap.size + 1), 2, none⟩ = some (.int .i64 t.d) := (bxt.cell 2).trans rfl
      have qt3 : w11.cell? ⟨(w.heap.size + 1), 3, none⟩ = some (.int .i64 t.o) := (bxt.cell 3).trans rfl
      have qlt := bxt.lt
      have HXt := Lib.hid bxt
      clear bxt
      have qu0 : w11.cell? ⟨adu, 0, none⟩ = some (.int .i64 u0) := (bxu.cell 0).trans rfl
      have qu1 : w11.cell? ⟨adu, 1, none⟩ = some (.int .i64 u1) := (bxu.cell 1).trans rfl
      have qu2 : w11.cell? ⟨adu, 2, none⟩ = some (.int .i64 u2) := (bxu.cell 2).trans rfl
      have qu3 : w11.cell? ⟨adu, 3, none⟩ = some (.slice uS un uc) := (bxu.cell 3).trans rfl
      have qu4 : w11.cell? ⟨adu, 4, none⟩ = some (.slice uT um ud) := (bxu.cell 4).trans rfl
      have qu5 : w11.cell? ⟨adu, 5, none⟩ = some (.int .i64 u5) := (bxu.cell 5).trans rfl
      have qu6 : w11.cell? ⟨adu, 6, none⟩ = some (.int .i64 u6) := (bxu.cell 6).trans rfl
      have qlu := bxu.lt
      have HXu := Lib.hid bxu
      clear bxu
      have qx0 : w11.cell? ⟨w6.heap.size, 0, none⟩ = some (.int .i64 x0) := (bxx.cell 0).trans rfl
      have qx1 : w11.cell? ⟨w6.heap.size, 1, none⟩ = some (.int .i64 x1) := (bxx.cell 1).trans rfl
      have qx2 : w11.cell? ⟨w6.heap.size, 2, none⟩ = some (.int .i64 x2) := (bxx.cell 2).trans rfl
      have qx3 : w11.cell? ⟨w6.heap.size, 3, none⟩ = some (.slice xS xn xc) := (bxx.cell 3).trans rfl
      have qx4 : w11.cell? ⟨w6.heap.size, 4, none⟩ = some (.slice xT xm xd) := (bxx.cell 4).trans rfl
      have qx5 : w11.cell? ⟨w6.heap.size, 5, none⟩ = some (.int .i64 x5) := (bxx.cell 5).trans rfl
      have qx6 : w11.cell? ⟨w6.heap.size, 6, none⟩ = some (.int .i64 x6) := (bxx.cell 6).trans rfl
      have qlx := bxx.lt
      have HXx := Lib.hid bxx
      clear bxx
      have qg0 : w11.cell? ⟨adg, 0, none⟩ = some (.int .i64 g0) := (bxg.cell 0).trans rfl
      have qg1 : w11.cell? ⟨adg, 1, none⟩ = some (.int .i64 g1) := (bxg.cell 1).trans rfl
      have qg2 : w11.cell? ⟨adg, 2, none⟩ = some (.int .i64 g2) := (bxg.cell 2).trans rfl
      have qg3 : w11.cell? ⟨adg, 3, none⟩ = some (.slice gS gn gc) := (bxg.cell 3).trans rfl
      have qg4 : w11.cell? ⟨adg, 4, none⟩ = some (.slice gT gm gd) := (bxg.cell 4).trans rfl
      have qg5 : w11.cell? ⟨adg, 5, none⟩ = some (.int .i64 g5) := (bxg.cell 5).trans rfl
      have qg6 : w11.cell? ⟨adg, 6, none⟩ = some (.int .i64 g6) := (bxg.cell 6).trans rfl
      have qlg := bxg.lt
      have HXg := Lib.hid bxg
      clear bxg
      go_wp2_with fail
      have bxa := HXa.out
      clear qa0 qa1 qa2 qa3 qa4 qa5 qa6 qla HXa
      have bxt := HXt.out
      clear qt0 qt1 qt2 qt3 qlt HXt
      have bxu := HXu.out
      clear qu0 qu1 qu2 qu3 qu4 qu5 qu6 qlu HXu
      have bxx := HXx.out
      clear qx0 qx1 qx2 qx3 qx4 qx5 qx6 qlx HXx
      have bxg := HXg.out
      clear qg0 qg1 qg2 qg3 qg4 qg5 qg6 qlg HXg
      refine (markEngine_far e (.agg #[.int .i64 x0, .int .i64 x1, .int .i64 x2, .slice xS xn xc, .slice xT xm xd, .int .i64 x5, .int .i64 x6]) w5.heap.size 1 w6 _ (by omega) bm bi (by omega) (by omega) HEx.out HBx.out).mono ?_
      rintro r w12 ⟨rfl, hgp⟩
      have szw12 := hgp.1.size
      have bxa := hgp.blk bxa (by omega)
      have bxt := hgp.blk bxt (by omega)
      have bxu := hgp.blk bxu (by omega)
      have bxx := hgp.blk bxx (by omega)
      have bxg := hgp.blk bxg (by omega)
      have HG := Lib.hid (hgp.eng (EngO.below HG.out HBg.out) (by omega))
      have HBw := Lib.hid (HBw.out.trans (hgp.1.mono (by have := HBw.out.size; omega)))
      have HBu := Lib.hid (HBu.out.trans (hgp.1.mono (by have := HBu.out.size; omega)))
      clear hgp HBx HBg HEx
      have HBg := Lib.hid (Below.refl w12.heap.size w12)
      have hd1 : decide ((1 : Int) + 2 * (e.ms.length : Int) + 7 * (e.it.length : Int) < 0) = false := by simp; omega
      have qa0 : w12.cell? ⟨w.heap.size, 0, none⟩ = some (.int .i64 e.W) := (bxa.cell 0).trans rfl
      have qa1 : w12.cell? ⟨w.heap.size, 1, none⟩ = some (.int .i64 e.col) := (bxa.cell 1).trans rfl
      have qa2 : w12.cell? ⟨w.heap.size, 2, none⟩ = some (.int .i64 e.pend) := (bxa.cell 2).trans rfl
      have qa3 : w12.cell? ⟨w.heap.size, 3, none⟩ = some (.slice A e.ms.length c) := (bxa.cell 3).trans rfl
      have qa4 : w12.cell? ⟨w.heap.size, 4, none⟩ = some (.slice A2 e.it.length c2) := (bxa.cell 4).trans rfl
      have qa5 : w12.cell? ⟨w.heap.size, 5, none⟩ = some (.int .i64 e.tot) := (bxa.cell 5).trans rfl
      have qa6 : w12.cell? ⟨w.heap.size, 6, none⟩ = some (.int .i64 e.lev) := (bxa.cell 6).trans rfl
      have qla := bxa.lt
      have HXa := Lib.hid bxa
      clear bxa
      have qt0 : w12.cell? ⟨(w.heap.size + 1), 0, none⟩ = some (.int .i64 t.k) := (bxt.cell 0).trans rfl
      have qt1 : w12.cell? ⟨(w.heap.size + 1), 1, none⟩ = some (.string t.s) := (bxt.cell 1).trans rfl
      have qt2 : w12.cell? ⟨(w.heap.size + 1), 2, none⟩ = some (.int .i64 t.d) := (bxt.cell 2).trans rfl
      have qt3 : w12.cell? ⟨(w.heap.size + 1), 3, none⟩ = some (.int .i64 t.o) := (bxt.cell 3).trans rfl
      have qlt := bxt.lt
      have HXt := Lib.hid bxt
      clear bxt
      have qu0 : w12.cell? ⟨adu, 0, none⟩ = some (.int .i64 u0) := (bxu.cell 0).trans rfl
      have qu1 : w12.cell? ⟨adu, 1, none⟩ = some (.int .i64 u1) := (bxu.cell 1).trans rfl
      have qu2 : w12.cell? ⟨adu, 2, none⟩ = some (.int .i64 u2) := (bxu.cell 2).trans rfl
      have qu3 : w12.cell? ⟨adu, 3, none⟩ = some (.slice uS un uc) := (bxu.cell 3).trans rfl
      have qu4 : w12.cell? ⟨adu, 4, none⟩ = some (.slice uT um ud) := (bxu.cell 4).trans rfl
      have qu5 : w12.cell? ⟨adu, 5, none⟩ = some (.int .i64 u5) := (bxu.cell 5).trans rfl
      have qu6 : w12.cell? ⟨adu, 6, none⟩ = some (.int .i64 u6) := (bxu.cell 6).trans rfl
      have qlu := bxu.lt
      have HXu := Lib.hid bxu
      clear bxu
      have qx0 : w12.cell? ⟨w6.heap.size, 0, none⟩ = some (.int .i64 x0) := (bxx.cell 0).trans rfl
      have qx1 : w12.cell? ⟨w6.heap.size, 1, none⟩ = some (.int .i64 x1) := (bxx.cell 1).trans rfl
      have qx2 : w12.cell? ⟨w6.heap.size, 2, none⟩ = some (.int .i64 x2) := (bxx.cell 2).trans rfl
      have qx3 : w12.cell? ⟨w6.heap.size, 3, none⟩ = some (.slice xS xn xc) := (bxx.cell 3).trans rfl
      have qx4 : w12.cell? ⟨w6.heap.size, 4, none⟩ = some (.slice xT xm xd) := (bxx.cell 4).trans rfl
      have qx5 : w12.cell? ⟨w6.heap.size, 5, none⟩ = some (.int .i64 x5) := (bxx.cell 5).trans rfl
      have qx6 : w12.cell? ⟨w6.heap.size, 6, none⟩ = some (.int .i64 x6) := (bxx.cell 6).trans rfl
      have qlx := bxx.lt
      have HXx := Lib.hid bxx
      clear bxx
      have qg0 : w12.cell? ⟨adg, 0, none⟩ = some (.int .i64 g0) := (bxg.cell 0).trans rfl
      have qg1 : w12.cell? ⟨adg, 1, none⟩ = some (.int .i64 g1) := (bxg.cell 1).trans rfl
      have qg2 : w12.cell? ⟨adg, 2, none⟩ = some (.int .i64 g2) := (bxg.cell 2).trans rfl
      have qg3 : w12.cell? ⟨adg, 3, none⟩ = some (.slice gS gn gc) := (bxg.cell 3).trans rfl
      have qg4 : w12.cell? ⟨adg, 4, none⟩ = some (.slice gT gm gd) := (bxg.cell 4).trans rfl
      have qg5 : w12.cell? ⟨adg, 5, none⟩ = some (.int .i64 g5) := (bxg.cell 5).trans rfl
      have qg6 : w12.cell? ⟨adg, 6, none⟩ = some (.int .i64 g6) := (bxg.cell 6).trans rfl
      have qlg := bxg.lt
      have HXg := Lib.hid bxg
      clear bxg
      go_wp2_with fail
      have bxa := HXa.out
      clear qa0 qa1 qa2 qa3 qa4 qa5 qa6 qla HXa
      have bxt := HXt.out
      clear qt0 qt1 qt2 qt3 qlt HXt
      have bxu := HXu.out
      clear qu0 qu1 qu2 qu3 qu4 qu5 qu6 qlu HXu
      have bxx := HXx.out
      clear qx0 qx1 qx2 qx3 qx4 qx5 qx6 qlx HXx
      have bxg := HXg.out
      clear qg0 qg1 qg2 qg3 qg4 qg5 qg6 qlg HXg
      refine (eqEngine_same (fedE e t) (.agg #[.int .i64 g0, .int .i64 g1, .int .i64 g2, .slice gS gn gc, .slice gT gm gd, .int .i64 g5, .int .i64 g6]) (.agg #[.int .i64 u0, .int .i64 u1, .int .i64 u2, .slice uS un uc, .slice uT um ud, .int .i64 u5, .int .i64 u6]) _ fm1 fi1 ((EngO.r HG.out).below HBg.out) (HU.out.below HBu.out)).mono ?_
      rintro r w13 ⟨rfl, hb⟩
      have szw13 := hb.size
      have bxa := bxa.below hb bxa.lt
      have bxt := bxt.below hb bxt.lt
      have bxu := bxu.below hb bxu.lt
      have bxx := bxx.below hb bxx.lt
      have bxg := bxg.below hb bxg.lt
      have HBw := Lib.hid (HBw.out.trans (hb.mono HBw.out.size))
      have HBu := Lib.hid (HBu.out.trans (hb.mono HBu.out.size))
      have HBg := Lib.hid (HBg.out.trans (hb.mono HBg.out.size))
      clear hb
      have qa0 : w13.cell? ⟨w.heap.size, 0, none⟩ = some (.int .i64 e.W) := (bxa.cell 0).trans rfl
      have qa1 : w13.cell? ⟨w.heap.size, 1, none⟩ = some (.int .i64 e.col) := (bxa.cell 1).trans rfl
      have qa2 : w13.cell? ⟨w.heap.size, 2, none⟩ = some (.int .i64 e.pend) := (bxa.cell 2).trans rfl
      have qa3 : w13.cell? ⟨w.heap.size, 3, none⟩ = some (.slice A e.ms.length c) := (bxa.cell 3).trans rfl
      have qa4 : w13.cell? ⟨w.heap.size, 4, none⟩ = some (.slice A2 e.it.length c2) := (bxa.cell 4).trans rfl
      have qa5 : w13.cell? ⟨w.heap.size, 5, none⟩ = some (.int .i64 e.tot) := (bxa.cell 5).trans rfl
      have qa6 : w13.cell? ⟨w.heap.size, 6, none⟩ = some (.int .i64 e.lev) := (bxa.cell 6).trans rfl
      have qla := bxa.lt
      have HXa := Lib.hid bxa
      clear bxa
      have qt0 : w13.cell? ⟨(w.heap.size + 1), 0, none⟩ = some (.int .i64 t.k) := (bxt.cell 0).trans rfl
      have qt1 : w13.cell? ⟨(w.heap.size + 1), 1, none⟩ = some (.string t.s) := (bxt.cell 1).trans rfl
      have qt2 : w13.cell? ⟨(w.heap.size + 1), 2, none⟩ = some (.int .i64 t.d) := (bxt.cell 2).trans rfl
      have qt3 : w13.cell? ⟨(w.heap.size + 1), 3, none⟩ = some (.int .i64 t.o) := (bxt.cell 3).trans rfl
      have qlt := bxt.lt
      have HXt := Lib.hid bxt
      clear bxt
      have qu0 : w13.cell? ⟨adu, 0, none⟩ = some (.int .i64 u0) := (bxu.cell 0).trans rfl
      have qu1 : w13.cell? ⟨adu, 1, none⟩ = some (.int .i64 u1) := (bxu.cell 1).trans rfl
      have qu2 : w13.cell? ⟨adu, 2, none⟩ = some (.int .i64 u2) := (bxu.cell 2).trans rfl
      have qu3 : w13.cell? ⟨adu, 3, none⟩ = some (.slice uS un uc) := (bxu.cell 3).trans rfl
      have qu4 : w13.cell? ⟨adu, 4, none⟩ = some (.slice uT um ud) := (bxu.cell 4).trans rfl
      have qu5 : w13.cell? ⟨adu, 5, none⟩ = some (.int .i64 u5) := (bxu.cell 5).trans rfl
      have qu6 : w13.cell? ⟨adu, 6, none⟩ = some (.int .i64 u6) := (bxu.cell 6).trans rfl
      have qlu := bxu.lt
      have HXu := Lib.hid bxu
      clear bxu
      have qx0 : w13.cell? ⟨w6.heap.size, 0, none⟩ = some (.int .i64 x0) := (bxx.cell 0).trans rfl
      have qx1 : w13.cell? ⟨w6.heap.size, 1, none⟩ = some (.int .i64 x1) := (bxx.cell 1).trans rfl
      have qx2 : w13.cell? ⟨w6.heap.size, 2, none⟩ = some (.int .i64 x2) := (bxx.cell 2).trans rfl
      have qx3 : w13.cell? ⟨w6.heap.size, 3, none⟩ = some (.slice xS xn xc) := (bxx.cell 3).trans rfl
      have qx4 : w13.cell? ⟨w6.heap.size, 4, none⟩ = some (.slice xT xm xd) := (bxx.cell 4).trans rfl
      have qx5 : w13.cell? ⟨w6.heap.size, 5, none⟩ = some (.int .i64 x5) := (bxx.cell 5).trans rfl
      have qx6 : w13.cell? ⟨w6.heap.size, 6, none⟩ = some (.int .i64 x6) := (bxx.cell 6).trans rfl
      have qlx := bxx.lt
      have HXx := Lib.hid bxx
      clear bxx
      have qg0 : w13.cell? ⟨adg, 0, none⟩ = some (.int .i64 g0) := (bxg.cell 0).trans rfl
      have qg1 : w13.cell? ⟨adg, 1, none⟩ = some (.int .i64 g1) := (bxg.cell 1).trans rfl
      have qg2 : w13.cell? ⟨adg, 2, none⟩ = some (.int .i64 g2) := (bxg.cell 2).trans rfl
      have qg3 : w13.cell? ⟨adg, 3, none⟩ = some (.slice gS gn gc) := (bxg.cell 3).trans rfl
      have qg4 : w13.cell? ⟨adg, 4, none⟩ = some (.slice gT gm gd) := (bxg.cell 4).trans rfl
      have qg5 : w13.cell? ⟨adg, 5, none⟩ = some (.int .i64 g5) := (bxg.cell 5).trans rfl
      have qg6 : w13.cell? ⟨adg, 6, none⟩ = some (.int .i64 g6) := (bxg.cell 6).trans rfl
      have qlg := bxg.lt
      have HXg := Lib.hid bxg
      clear bxg
      go_wp2_with fail
      have bxa := HXa.out
      clear qa0 qa1 qa2 qa3 qa4 qa5 qa6 qla HXa
      have bxt := HXt.out
      clear qt0 qt1 qt2 qt3 qlt HXt
      have bxu := HXu.out
      clear qu0 qu1 qu2 qu3 qu4 qu5 qu6 qlu HXu
      have bxx := HXx.out
      clear qx0 qx1 qx2 qx3 qx4 qx5 qx6 qlx HXx
      have bxg := HXg.out
      clear qg0 qg1 qg2 qg3 qg4 qg5 qg6 qlg HXg
      refine (markEngine_any (fedE e t) (.agg #[.int .i64 g0, .int .i64 g1, .int .i64 g2, .slice gS gn gc, .slice gT gm gd, .int .i64 g5, .int .i64 g6]) w7.heap.size 1 _ (by omega) fm1 fi1 (by omega) (by omega) (EngO.below HG.out HBg.out)).mono ?_
      rintro r w14 ⟨rfl, ho, hb, ht⟩
      have szw14 := hb.size
      have bxa : BlkL w14 w.heap.size 39 _ := (ht _ _ _ _ bxa (by decide) (by decide)).trans bxa
      have bxt : BlkL w14 (w.heap.size + 1) 41 _ := (ht _ _ _ _ bxt (by decide) (by decide)).trans bxt
      have bxu : BlkL w14 adu 47 _ := (ht _ _ _ _ bxu (by decide) (by decide)).trans bxu
      have bxx : BlkL w14 w6.heap.size 47 _ := (ht _ _ _ _ bxx (by decide) (by decide)).trans bxx
      have bxg : BlkL w14 adg 47 _ := (ht _ _ _ _ bxg (by decide) (by decide)).trans bxg
      have HBw := Lib.hid (HBw.out.trans (hb.mono (by omega)))
      have HBu := Lib.hid (HBu.out.trans (hb.mono (by omega)))
      clear hb ht
      have HM := Lib.hid (EngO.r ho)
      clear ho HG
      have HBm := Lib.hid (Below.refl w14.heap.size w14)
      have hd0 : decide ((1 : Int) + 2 * (((fedE e t)).ms.length : Int) + 7 * (((fedE e t)).it.length : Int) < 0) = false := by simp; omega
      have qa0 : w14.cell? ⟨w.heap.size, 0, none⟩ = some (.int .i64 e.W) := (bxa.cell 0).trans rfl
      have qa1 : w14.cell? ⟨w.heap.size, 1, none⟩ = some (.int .i64 e.col) := (bxa.cell 1).trans rfl
      have qa2 : w14.cell? ⟨w.heap.size, 2, none⟩ = some (.int .i64 e.pend) := (bxa.cell 2).trans rfl
      have qa3 : w14.cell? ⟨w.heap.size, 3, none⟩ = some (.slice A e.ms.length c) := (bxa.cell 3).trans rfl
      have qa4 : w14.cell? ⟨w.heap.size, 4, none⟩ = some (.slice A2 e.it.length c2) := (bxa.cell 4).trans rfl
      have qa5 : w14.cell? ⟨w.heap.size, 5, none⟩ = some (.int .i64 e.tot) := (bxa.cell 5).trans rfl
      have qa6 : w14.cell? ⟨w.heap.size, 6, none⟩ = some (.int .i64 e.lev) := (bxa.cell 6).trans rfl
      have qla := bxa.lt
      have HXa := Lib.hid bxa
      clear bxa
      have qt0 : w14.cell? ⟨(w.heap.size + 1), 0, none⟩ = some (.int .i64 t.k) := (bxt.cell 0).trans rfl
      have qt1 : w14.cell? ⟨(w.heap.size + 1), 1, none⟩ = some (.string t.s) := (bxt.cell 1).trans rfl
      have qt2 : w14.cell? ⟨(w.heap.size + 1), 2, none⟩ = some (.int .i64 t.d) := (bxt.cell 2).trans rfl
      have qt3 : w14.cell? ⟨(w.heap.size + 1), 3, none⟩ = some (.int .i64 t.o) := (bxt.cell 3).trans rfl
      have qlt := bxt.lt
      have HXt := Lib.hid bxt
      clear bxt
      have qu0 : w14.cell? ⟨adu, 0, none⟩ = some (.int .i64 u0) := (bxu.cell 0).trans rfl
      have qu1 : w14.cell? ⟨adu, 1, none⟩ = some (.int .i64 u1) := (bxu.cell 1).trans rfl
      have qu2 : w14.cell? ⟨adu, 2, none⟩ = some (.int .i64 u2) := (bxu.cell 2).trans rfl
      have qu3 : w14.cell? ⟨adu, 3, none⟩ = some (.slice uS un uc) := (bxu.cell 3).trans rfl
      have qu4 : w14.cell? ⟨adu, 4, none⟩ = some (.slice uT um ud) := (bxu.cell 4).trans rfl
      have qu5 : w14.cell? ⟨adu, 5, none⟩ = some (.int .i64 u5) := (bxu.cell 5).trans rfl
      have qu6 : w14.cell? ⟨adu, 6, none⟩ = some (.int .i64 u6) := (bxu.cell 6).trans rfl
      have qlu := bxu.lt
      have HXu := Lib.hid bxu
      clear bxu
      have qx0 : w14.cell? ⟨w6.heap.size, 0, none⟩ = some (.int .i64 x0) := (bxx.cell 0).trans rfl
      have qx1 : w14.cell? ⟨w6.heap.size, 1, none⟩ = some (.int .i64 x1) := (bxx.cell 1).trans rfl
      have qx2 : w14.cell? ⟨w6.heap.size, 2, none⟩ = some (.int .i64 x2) := (bxx.cell 2).trans rfl
      have qx3 : w14.cell? ⟨w6.heap.size, 3, none⟩ = some (.slice xS xn xc) := (bxx.cell 3).trans rfl
      have qx4 : w14.cell? ⟨w6.heap.size, 4, none⟩ = some (.slice xT xm xd) := (bxx.cell 4).trans rfl
      have qx5 : w14.cell? ⟨w6.heap.size, 5, none⟩ = some (.int .i64 x5) := (bxx.cell 5).trans rfl
      have qx6 : w14.cell? ⟨w6.heap.size, 6, none⟩ = some (.int .i64 x6) := (bxx.cell 6).trans rfl
      have qlx := bxx.lt
      have HXx := Lib.hid bxx
      clear bxx
      have qg0 : w14.cell? ⟨adg, 0, none⟩ = some (.int .i64 g0) := (bxg.cell 0).trans rfl
      have qg1 : w14.cell? ⟨adg, 1, none⟩ = some (.int .i64 g1) := (bxg.cell 1).trans rfl
      have qg2 : w14.cell? ⟨adg, 2, none⟩ = some (.int .i64 g2) := (bxg.cell 2).trans rfl
      have qg3 : w14.cell? ⟨adg, 3, none⟩ = some (.slice gS gn gc) := (bxg.cell 3).trans rfl
      have qg4 : w14.cell? ⟨adg, 4, none⟩ = some (.slice gT gm gd) := (bxg.cell 4).trans rfl
      have qg5 : w14.cell? ⟨adg, 5, none⟩ = some (.int .i64 g5) := (bxg.cell 5).trans rfl
      have qg6 : w14.cell? ⟨adg, 6, none⟩ = some (.int .i64 g6) := (bxg.cell 6).trans rfl
      have qlg := bxg.lt
      have HXg := Lib.hid bxg
      clear bxg
      go_wp2_with fail
      have bxa := HXa.out
      clear qa0 qa1 qa2 qa3 qa4 qa5 qa6 qla HXa
      have bxt := HXt.out
      clear qt0 qt1 qt2 qt3 qlt HXt
      have bxu := HXu.out
      clear qu0 qu1 qu2 qu3 qu4 qu5 qu6 qlu HXu
      have bxx := HXx.out
      clear qx0 qx1 qx2 qx3 qx4 qx5 qx6 qlx HXx
      have bxg := HXg.out
      clear qg0 qg1 qg2 qg3 qg4 qg5 qg6 qlg HXg
      refine (heldEngine_any (fedE e t) (.agg #[.int .i64 g0, .int .i64 g1, .int .i64 g2, .slice gS gn gc, .slice gT gm gd, .int .i64 g5, .int .i64 g6]) 1 _ fm1 fi1 (by omega) (by omega) (HM.out.below HBm.out)).mono ?_
      rintro r w15 ⟨rfl, hb⟩
      have szw15 := hb.size
      have bxa := bxa.below hb bxa.lt
      have bxt := bxt.below hb bxt.lt
      have bxu := bxu.below hb bxu.lt
      have bxx := bxx.below hb bxx.lt
      have bxg := bxg.below hb bxg.lt
      have HBw := Lib.hid (HBw.out.trans (hb.mono HBw.out.size))
      have HBu := Lib.hid (HBu.out.trans (hb.mono HBu.out.size))
      have HBm := Lib.hid (HBm.out.trans (hb.mono HBm.out.size))
      clear hb
      have qa0 : w15.cell? ⟨w.heap.size, 0, none⟩ = some (.int .i64 e.W) := (bxa.cell 0).trans rfl
      have qa1 : w15.cell? ⟨w.heap.size, 1, none⟩ = some (.int .i64 e.col) := (bxa.cell 1).trans rfl
      have qa2 : w15.cell? ⟨w.heap.size, 2, none⟩ = some (.int .i64 e.pend) := (bxa.cell 2).trans rfl
      have qa3 : w15.cell? ⟨w.heap.size, 3, none⟩ = some (.slice A e.ms.length c) := (bxa.cell 3).trans rfl
      have qa4 : w15.cell? ⟨w.heap.size, 4, none⟩ = some (.slice A2 e.it.length c2) := (bxa.cell 4).trans rfl
      have qa5 : w15.cell? ⟨w.heap.size, 5, none⟩ = some (.int .i64 e.tot) := (bxa.cell 5).trans rfl
      have qa6 : w15.cell? ⟨w.heap.size, 6, none⟩ = some (.int .i64 e.lev) := (bxa.cell 6).trans rfl
      have qla := bxa.lt
      have HXa := Lib.hid bxa
      clear bxa
      have qt0 : w15.cell? ⟨(w.heap.size + 1), 0, none⟩ = some (.int .i64 t.k) := (bxt.cell 0).trans rfl
      have qt1 : w15.cell? ⟨(w.heap.size + 1), 1, none⟩ = some (.string t.s) := (bxt.cell 1).trans rfl
      have qt2 : w15.cell? ⟨(w.heap.size + 1), 2, none⟩ = some (.int .i64 t.d) := (bxt.cell 2).trans rfl
      have qt3 : w15.cell? ⟨(w.heap.size + 1), 3, none⟩ = some (.int .i64 t.o) := (bxt.cell 3).trans rfl
      have qlt := bxt.lt
      have HXt := Lib.hid bxt
      clear bxt
      have qu0 : w15.cell? ⟨adu, 0, none⟩ = some (.int .i64 u0) := (bxu.cell 0).trans rfl
      have qu1 : w15.cell? ⟨adu, 1, none⟩ = some (.int .i64 u1) := (bxu.cell 1).trans rfl
      have qu2 : w15.cell? ⟨adu, 2, none⟩ = some (.int .i64 u2) := (bxu.cell 2).trans rfl
      have qu3 : w15.cell? ⟨adu, 3, none⟩ = some (.slice uS un uc) := (bxu.cell 3).trans rfl
      have qu4 : w15.cell? ⟨adu, 4, none⟩ = some (.slice uT um ud) := (bxu.cell 4).trans rfl
      have qu5 : w15.cell? ⟨adu, 5, none⟩ = some (.int .i64 u5) := (bxu.cell 5).trans rfl
      have qu6 : w15.cell? ⟨adu, 6, none⟩ = some (.int .i64 u6) := (bxu.cell 6).trans rfl
      have qlu := bxu.lt
      have HXu := Lib.hid bxu
      clear bxu
      have qx0 : w15.cell? ⟨w6.heap.size, 0, none⟩ = some (.int .i64 x0) := (bxx.cell 0).trans rfl
      have qx1 : w15.cell? ⟨w6.heap.size, 1, none⟩ = some (.int .i64 x1) := (bxx.cell 1).trans rfl
      have qx2 : w15.cell? ⟨w6.heap.size, 2, none⟩ = some (.int .i64 x2) := (bxx.cell 2).trans rfl
      have qx3 : w15.cell? ⟨w6.heap.size, 3, none⟩ = some (.slice xS xn xc) := (bxx.cell 3).trans rfl
      have qx4 : w15.cell? ⟨w6.heap.size, 4, none⟩ = some (.slice xT xm xd) := (bxx.cell 4).trans rfl
      have qx5 : w15.cell? ⟨w6.heap.size, 5, none⟩ = some (.int .i64 x5) := (bxx.cell 5).trans rfl
      have qx6 : w15.cell? ⟨w6.heap.size, 6, none⟩ = some (.int .i64 x6) := (bxx.cell 6).trans rfl
      have qlx := bxx.lt
      have HXx := Lib.hid bxx
      clear bxx
      have qg0 : w15.cell? ⟨adg, 0, none⟩ = some (.int .i64 g0) := (bxg.cell 0).trans rfl
      have qg1 : w15.cell? ⟨adg, 1, none⟩ = some (.int .i64 g1) := (bxg.cell 1).trans rfl
      have qg2 : w15.cell? ⟨adg, 2, none⟩ = some (.int .i64 g2) := (bxg.cell 2).trans rfl
      have qg3 : w15.cell? ⟨adg, 3, none⟩ = some (.slice gS gn gc) := (bxg.cell 3).trans rfl
      have qg4 : w15.cell? ⟨adg, 4, none⟩ = some (.slice gT gm gd) := (bxg.cell 4).trans rfl
      have qg5 : w15.cell? ⟨adg, 5, none⟩ = some (.int .i64 g5) := (bxg.cell 5).trans rfl
      have qg6 : w15.cell? ⟨adg, 6, none⟩ = some (.int .i64 g6) := (bxg.cell 6).trans rfl
      have qlg := bxg.lt
      have HXg := Lib.hid bxg
      clear bxg
      go_wp2_with fail
      have bxa := HXa.out
      clear qa0 qa1 qa2 qa3 qa4 qa5 qa6 qla HXa
      have bxt := HXt.out
      clear qt0 qt1 qt2 qt3 qlt HXt
      have bxu := HXu.out
      clear qu0 qu1 qu2 qu3 qu4 qu5 qu6 qlu HXu
      have bxx := HXx.out
      clear qx0 qx1 qx2 qx3 qx4 qx5 qx6 qlx HXx
      have bxg := HXg.out
      clear qg0 qg1 qg2 qg3 qg4 qg5 qg6 qlg HXg
      go_cut [16, 17, 18] from 19 (fun s16 s17 s18 wc => ∃ (q : Nat) (o0 o1 o2 : Int) (oS : Option Addr) (on oc : Nat) (oT : Option Addr) (om od : Nat) (o5 o6 : Int), s16 = .pointer (some ⟨q, 0, none⟩) ∧ s17 = .string (fedT e t) ∧ s18 = .bool (fedB e t) ∧ BlkL wc q 47 [.int .i64 o0, .int .i64 o1, .int .i64 o2, .slice oS on oc, .slice oT om od, .int .i64 o5, .int .i64 o6] ∧ EngO wc w15.heap.size (.agg #[.int .i64 o0, .int .i64 o1, .int .i64 o2, .slice oS on oc, .slice oT om od, .int .i64 o5, .int .i64 o6]) (fedE e t) ∧ Below w15.heap.size w15 wc ∧ w15.heap.size ≤ q)
      case first =>
        try clear hzw15
        have pa0 := Bw.rd (show w15.cell? ⟨w.heap.size, 0, none⟩ = some (.int .i64 e.W) from (bxa.cell 0).trans rfl)
        have pa1 := Bw.rd (show w15.cell? ⟨w.heap.size, 1, none⟩ = some (.int .i64 e.col) from (bxa.cell 1).trans rfl)
        have pa2 := Bw.rd (show w15.cell? ⟨w.heap.size, 2, none⟩ = some (.int .i64 e.pend) from (bxa.cell 2).trans rfl)
        have pa3 := Bw.rd (show w15.cell? ⟨w.heap.size, 3, none⟩ = some (.slice A e.ms.length c) from (bxa.cell 3).trans rfl)
        have pa4 := Bw.rd (show w15.cell? ⟨w.heap.size, 4, none⟩ = some (.slice A2 e.it.length c2) from (bxa.cell 4).trans rfl)
        have pa5 := Bw.rd (show w15.cell? ⟨w.heap.size, 5, none⟩ = some (.int .i64 e.tot) from (bxa.cell 5).trans rfl)
        have pa6 := Bw.rd (show w15.cell? ⟨w.heap.size, 6, none⟩ = some (.int .i64 e.lev) from (bxa.cell 6).trans rfl)
        have pt0 := Bw.rd (show w15.cell? ⟨(w.heap.size + 1), 0, none⟩ = some (.int .i64 t.k) from (bxt.cell 0).trans rfl)
        have pt1 := Bw.rd (show w15.cell? ⟨(w.heap.size + 1), 1, none⟩ = some (.string t.s) from (bxt.cell 1).trans rfl)
        have pt2 := Bw.rd (show w15.cell? ⟨(w.heap.size + 1), 2, none⟩ = some (.int .i64 t.d) from (bxt.cell 2).trans rfl)
        have pt3 := Bw.rd (show w15.cell? ⟨(w.heap.size + 1), 3, none⟩ = some (.int .i64 t.o) from (bxt.cell 3).trans rfl)
        have HXa := Lib.hid bxa
        clear bxa
        have HXt := Lib.hid bxt
        clear bxt
        have HXu := Lib.hid bxu
        clear bxu
        have HXx := Lib.hid bxx
        clear bxx
        have HXg := Lib.hid bxg
        clear bxg
        have CT := Lib.hid (fun V => toToken_any t.k t.s t.d t.o V)
        have HC := Lib.hid (show Below w15.heap.size w15 w15.drew from (Below.refl _ w15).drew)
        have hne : Nonempty (Cl (Bw w15)) := ⟨⟨_, Bw.start w15⟩⟩
        refine wp_region_free [0, 1, 0, 3, 5, 6, 6, 6, 6, 13, 7, 9, 11] 5 9 _ rfl (fun w' => ∃ y : Cl (Bw w15), w' = y.W) (by kernel_rfl) (by kernel_rfl) ⟨⟨_, Bw.start w15⟩, rfl⟩ ?_
        simp only [Stage.stages, Stage.pickC, Nat.reduceBEq, Nat.reduceMul, Nat.reduceAdd, cond_true, cond_false, List.map_cons, List.map_nil]
        refine free_more ?_
        repeat (go_big_quiet_step (fail))
        clear pa0 pa1 pa2 pa3 pa4 pa5 pa6 pt0 pt1 pt2 pt3
        refine wpQuiet_nil ⟨fun K hK => ?_, fun K hK => ?_⟩
        · skip
          unfold Chain.mov
          go_simp
          simp only [Chain.movUpon]
          refine (toEngine_any e A c A2 c2 w15.drew bm0 bi0 (RS.below M1.out (HBw.out.trans (HC.out.mono HBw.out.size))) (RS.below I1.out (HBw.out.trans (HC.out.mono HBw.out.size)))).mono ?_
          rintro r z29 ⟨v, rfl, ho, hb⟩
          obtain ⟨y0, y1, y2, yS, yn, yc, yT, ym, yd, y5, y6, rfl⟩ := EngO.shape ho
          have HC := Lib.hid (HC.out.trans (hb.mono HC.out.size))
          have HE := Lib.hid (EngO.r ho)
          refine ⟨_, rfl, hK _ _ ⟨⟨⟨z29, HC.out⟩, rfl⟩, ?_⟩⟩
          clear hK K ho hb
          refine free_more ?_
          repeat (go_big_quiet_step (fail))
          refine wpQuiet_nil ⟨fun K hK => ?_, fun K hK => ?_⟩
          · skip
            unfold Chain.mov
            go_simp
            simp only [Chain.movUpon]
            refine (CT.out z29).mono ?_
            rintro r z30 ⟨rfl, hb⟩
            have HC := Lib.hid (HC.out.trans (hb.mono HC.out.size))
            have HE := Lib.hid (HE.out.below hb)
            refine ⟨_, rfl, hK _ _ ⟨⟨⟨z30, HC.out⟩, rfl⟩, ?_⟩⟩
            clear hK K hb
            refine free_more ?_
            repeat (go_big_quiet_step (fail))
            refine wpQuiet_nil ⟨fun K hK => ?_, fun K hK => ?_⟩
            · skip
              unfold Chain.mov
              go_simp
              simp only [Chain.movUpon]
              have hK0 : w15.heap.size ≤ z30.heap.size := HC.out.size
              refine (FeedToken_any e t _ z30 bm bi HF.out hts HE.out).mono ?_
              rintro r z31 ⟨v, rfl, ho, hb⟩
              obtain ⟨o0, o1, o2, oS, on, oc, oT, om, od, o5, o6, rfl⟩ := EngO.shape ho
              have HC := Lib.hid (HC.out.trans (hb.mono HC.out.size))
              have HE := Lib.hid (HE.out.below hb)
              have HV := Lib.hid (EngO.lowB ho hK0)
              clear hK0
              refine ⟨_, rfl, hK _ _ ⟨⟨⟨z31, HC.out⟩, rfl⟩, ?_⟩⟩
              clear hK K ho hb
              refine free_held (by kernel_rfl) ?_
              repeat (go_big_quiet_step (fail))
              refine wpQuiet_nil ?_
              intro K hK
              unfold Chain.mov
              go_simp
              have hb : Below z31.heap.size z31 (z31.alloc (.cells #[.int .i64 0, .int .i64 0, .int .i64 0, .slice none 0 0, .slice none 0 0, .int .i64 0, .int .i64 0] 47)) := (Below.refl _ z31).alloc (Nat.le_refl _) (.cells #[.int .i64 0, .int .i64 0, .int .i64 0, .slice none 0 0, .slice none 0 0, .int .i64 0, .int .i64 0] 47)
              have hqk : w15.heap.size ≤ z31.heap.size := HC.out.size
              refine hK _ (z31.alloc (.cells #[.int .i64 0, .int .i64 0, .int .i64 0, .slice none 0 0, .slice none 0 0, .int .i64 0, .int .i64 0] 47)) ⟨⟨⟨_, HC.out.trans (hb.mono HC.out.size)⟩, rfl⟩, ?_⟩
              have HC := Lib.hid (HC.out.trans (hb.mono HC.out.size))
              have HE := Lib.hid (HE.out.below hb)
              have HV := Lib.hid (HV.out.below hb)
              have HQ := Lib.hid (show BlkL (z31.alloc (.cells #[.int .i64 0, .int .i64 0, .int .i64 0, .slice none 0 0, .slice none 0 0, .int .i64 0, .int .i64 0] 47)) z31.heap.size 47 [.int .i64 0, .int .i64 0, .int .i64 0, .slice none 0 0, .slice none 0 0, .int .i64 0, .int .i64 0] from BlkL.new z31 47 [.int .i64 0, .int .i64 0, .int .i64 0, .slice none 0 0, .slice none 0 0, .int .i64 0, .int .i64 0])
              have HAL := Lib.hid hb
              clear hK K hb
              generalize z31.alloc (.cells #[.int .i64 0, .int .i64 0, .int .i64 0, .slice none 0 0, .slice none 0 0, .int .i64 0, .int .i64 0] 47) = z32 at *
              refine door_more ?_
              intro K hK
              have k0 : z32.cell? ⟨z31.heap.size, 0, none⟩ = some (.int .i64 0) := (HQ.out.cell 0).trans rfl
              have k1 : z32.cell? ⟨z31.heap.size, 1, none⟩ = some (.int .i64 0) := (HQ.out.cell 1).trans rfl
              have k2 : z32.cell? ⟨z31.heap.size, 2, none⟩ = some (.int .i64 0) := (HQ.out.cell 2).trans rfl
              have k3 : z32.cell? ⟨z31.heap.size, 3, none⟩ = some (.slice none 0 0) := (HQ.out.cell 3).trans rfl
              have k4 : z32.cell? ⟨z31.heap.size, 4, none⟩ = some (.slice none 0 0) := (HQ.out.cell 4).trans rfl
              have k5 : z32.cell? ⟨z31.heap.size, 5, none⟩ = some (.int .i64 0) := (HQ.out.cell 5).trans rfl
              have k6 : z32.cell? ⟨z31.heap.size, 6, none⟩ = some (.int .i64 0) := (HQ.out.cell 6).trans rfl
              have kf := HQ.out.frozen
              have kl := HQ.out.lt
              unfold Chain.mov
              go_simp
              refine hK _ (World.setN z32 z31.heap.size 0 [.int .i64 o0, .int .i64 o1, .int .i64 o2, .slice oS on oc, .slice oT om od, .int .i64 o5, .int .i64 o6]) ⟨⟨⟨_, below_setN hqk [.int .i64 o0, .int .i64 o1, .int .i64 o2, .slice oS on oc, .slice oT om od, .int .i64 o5, .int .i64 o6] _ 0 HC.out⟩, rfl⟩, ?_⟩
              have HZ := Lib.hid (show BlkL (World.setN z32 z31.heap.size 0 [.int .i64 o0, .int .i64 o1, .int .i64 o2, .slice oS on oc, .slice oT om od, .int .i64 o5, .int .i64 o6]) z31.heap.size 47 [.int .i64 o0, .int .i64 o1, .int .i64 o2, .slice oS on oc, .slice oT om od, .int .i64 o5, .int .i64 o6] from BlkL.setN [.int .i64 o0, .int .i64 o1, .int .i64 o2, .slice oS on oc, .slice oT om od, .int .i64 o5, .int .i64 o6] _ _ 0 HQ.out)
              have HG := Lib.hid (show EngO (World.setN z32 z31.heap.size 0 [.int .i64 o0, .int .i64 o1, .int .i64 o2, .slice oS on oc, .slice oT om od, .int .i64 o5, .int .i64 o6]) w15.heap.size (.agg #[.int .i64 o0, .int .i64 o1, .int .i64 o2, .slice oS on oc, .slice oT om od, .int .i64 o5, .int .i64 o6]) (fedE e t) from EngO.setN HQ.out (by decide) (by decide) [.int .i64 o0, .int .i64 o1, .int .i64 o2, .slice oS on oc, .slice oT om od, .int .i64 o5, .int .i64 o6] 0 HV.out)
              have HC := Lib.hid (show Below w15.heap.size w15 (World.setN z32 z31.heap.size 0 [.int .i64 o0, .int .i64 o1, .int .i64 o2, .slice oS on oc, .slice oT om od, .int .i64 o5, .int .i64 o6]) from below_setN hqk [.int .i64 o0, .int .i64 o1, .int .i64 o2, .slice oS on oc, .slice oT om od, .int .i64 o5, .int .i64 o6] _ 0 HC.out)
              clear hK K k0 k1 k2 k3 k4 k5 k6 kf kl HQ HV
              generalize (World.setN z32 z31.heap.size 0 [.int .i64 o0, .int .i64 o1, .int .i64 o2, .slice oS on oc, .slice oT om od, .int .i64 o5, .int .i64 o6]) = z33 at *
              refine stage_more ?_
              repeat (go_big_quiet_step (fail))
              refine wpQuiet_nil ?_
              intro K hK
              unfold Chain.mov
              go_simp
              refine hK _ _ ⟨⟨⟨_, HC.out⟩, rfl⟩, ?_⟩
              clear hK K
              refine stage_last ?_
              repeat (go_big_quiet_step (fail))
              refine wpQuiet_nil ?_
              go_wp2
              go_meet
              case rel => exact ⟨z31.heap.size, o0, o1, o2, oS, on, oc, oT, om, od, o5, o6, rfl, rfl, rfl, HZ.out, HG.out, HC.out, hqk⟩
            · skip
              unfold Chain.mov
              go_simp
              have hb : Below z30.heap.size z30 (z30.alloc (.cells #[.int .i64 0, .int .i64 0, .int .i64 0, .slice none 0 0, .slice none 0 0, .int .i64 0, .int .i64 0] 47)) := (Below.refl _ z30).alloc (Nat.le_refl _) (.cells #[.int .i64 0, .int .i64 0, .int .i64 0, .slice none 0 0, .slice none 0 0, .int .i64 0, .int .i64 0] 47)
              have hqk : w15.heap.size ≤ z30.heap.size := HC.out.size
              refine hK _ (z30.alloc (.cells #[.int .i64 0, .int .i64 0, .int .i64 0, .slice none 0 0, .slice none 0 0, .int .i64 0, .int .i64 0] 47)) ⟨⟨⟨_, HC.out.trans (hb.mono HC.out.size)⟩, rfl⟩, ?_⟩
              have HC := Lib.hid (HC.out.trans (hb.mono HC.out.size))
              have HE := Lib.hid (HE.out.below hb)
              have HQ := Lib.hid (show BlkL (z30.alloc (.cells #[.int .i64 0, .int .i64 0, .int .i64 0, .slice none 0 0, .slice none 0 0, .int .i64 0, .int .i64 0] 47)) z30.heap.size 47 [.int .i64 0, .int .i64 0, .int .i64 0, .slice none 0 0, .slice none 0 0, .int .i64 0, .int .i64 0] from BlkL.new z30 47 [.int .i64 0, .int .i64 0, .int .i64 0, .slice none 0 0, .slice none 0 0, .int .i64 0, .int .i64 0])
              have HAL := Lib.hid hb
              clear hK K hb
              generalize z30.alloc (.cells #[.int .i64 0, .int .i64 0, .int .i64 0, .slice none 0 0, .slice none 0 0, .int .i64 0, .int .i64 0] 47) = z34 at *
              refine door_more ?_
              intro K hK
              unfold Chain.mov
              go_simp
              simp only [Chain.movUpon]
              have hqW : z30.heap.size < z34.heap.size := HQ.out.lt
              have hK0 : w15.heap.size ≤ z34.heap.size := HC.out.size
              refine (FeedToken_any e t _ z34 bm bi HF.out hts HE.out).mono ?_
              rintro r z35 ⟨v, rfl, ho, hb⟩
              obtain ⟨o0, o1, o2, oS, on, oc, oT, om, od, o5, o6, rfl⟩ := EngO.shape ho
              have HC := Lib.hid (HC.out.trans (hb.mono HC.out.size))
              have HE := Lib.hid (HE.out.below hb)
              have HQ := Lib.hid (HQ.out.below hb HQ.out.lt)
              have HV := Lib.hid (EngO.lowB ho hK0)
              clear hK0
              refine ⟨_, rfl, hK _ _ ⟨⟨⟨z35, HC.out⟩, rfl⟩, ?_⟩⟩
              clear hK K ho hb hqW
              refine stage_more ?_
              repeat (go_big_quiet_step (fail))
              refine wpQuiet_nil ?_
              intro K hK
              have k0 : z35.cell? ⟨z30.heap.size, 0, none⟩ = some (.int .i64 0) := (HQ.out.cell 0).trans rfl
              have k1 : z35.cell? ⟨z30.heap.size, 1, none⟩ = some (.int .i64 0) := (HQ.out.cell 1).trans rfl
              have k2 : z35.cell? ⟨z30.heap.size, 2, none⟩ = some (.int .i64 0) := (HQ.out.cell 2).trans rfl
              have k3 : z35.cell? ⟨z30.heap.size, 3, none⟩ = some (.slice none 0 0) := (HQ.out.cell 3).trans rfl
              have k4 : z35.cell? ⟨z30.heap.size, 4, none⟩ = some (.slice none 0 0) := (HQ.out.cell 4).trans rfl
              have k5 : z35.cell? ⟨z30.heap.size, 5, none⟩ = some (.int .i64 0) := (HQ.out.cell 5).trans rfl
              have k6 : z35.cell? ⟨z30.heap.size, 6, none⟩ = some (.int .i64 0) := (HQ.out.cell 6).trans rfl
              have kf := HQ.out.frozen
              have kl := HQ.out.lt
              unfold Chain.mov
              go_simp
              refine hK _ (World.setN z35 z30.heap.size 0 [.int .i64 o0, .int .i64 o1, .int .i64 o2, .slice oS on oc, .slice oT om od, .int .i64 o5, .int .i64 o6]) ⟨⟨⟨_, below_setN hqk [.int .i64 o0, .int .i64 o1, .int .i64 o2, .slice oS on oc, .slice oT om od, .int .i64 o5, .int .i64 o6] _ 0 HC.out⟩, rfl⟩, ?_⟩
              have HZ := Lib.hid (show BlkL (World.setN z35 z30.heap.size 0 [.int .i64 o0, .int .i64 o1, .int .i64 o2, .slice oS on oc, .slice oT om od, .int .i64 o5, .int .i64 o6]) z30.heap.size 47 [.int .i64 o0, .int .i64 o1, .int .i64 o2, .slice oS on oc, .slice oT om od, .int .i64 o5, .int .i64 o6] from BlkL.setN [.int .i64 o0, .int .i64 o1, .int .i64 o2, .slice oS on oc, .slice oT om od, .int .i64 o5, .int .i64 o6] _ _ 0 HQ.out)
              have HG := Lib.hid (show EngO (World.setN z35 z30.heap.size 0 [.int .i64 o0, .int .i64 o1, .int .i64 o2, .slice oS on oc, .slice oT om od, .int .i64 o5, .int .i64 o6]) w15.heap.size (.agg #[.int .i64 o0, .int .i64 o1, .int .i64 o2, .slice oS on oc, .slice oT om od, .int .i64 o5, .int .i64 o6]) (fedE e t) from EngO.setN HQ.out (by decide) (by decide) [.int .i64 o0, .int .i64 o1, .int .i64 o2, .slice oS on oc, .slice oT om od, .int .i64 o5, .int .i64 o6] 0 HV.out)
              have HC := Lib.hid (show Below w15.heap.size w15 (World.setN z35 z30.heap.size 0 [.int .i64 o0, .int .i64 o1, .int .i64 o2, .slice oS on oc, .slice oT om od, .int .i64 o5, .int .i64 o6]) from below_setN hqk [.int .i64 o0, .int .i64 o1, .int .i64 o2, .slice oS on oc, .slice oT om od, .int .i64 o5, .int .i64 o6] _ 0 HC.out)
              clear hK K k0 k1 k2 k3 k4 k5 k6 kf kl HQ HV
              generalize (World.setN z35 z30.heap.size 0 [.int .i64 o0, .int .i64 o1, .int .i64 o2, .slice oS on oc, .slice oT om od, .int .i64 o5, .int .i64 o6]) = z36 at *
              refine stage_more ?_
              repeat (go_big_quiet_step (fail))
              refine wpQuiet_nil ?_
              intro K hK
              unfold Chain.mov
              go_simp
              refine hK _ _ ⟨⟨⟨_, HC.out⟩, rfl⟩, ?_⟩
              clear hK K
              refine stage_last ?_
              repeat (go_big_quiet_step (fail))
              refine wpQuiet_nil ?_
              go_wp2
              go_meet
              case rel => exact ⟨z30.heap.size, o0, o1, o2, oS, on, oc, oT, om, od, o5, o6, rfl, rfl, rfl, HZ.out, HG.out, HC.out, hqk⟩
          · skip
            unfold Chain.mov
            go_simp
            have hb : Below z29.heap.size z29 (z29.alloc (.cells #[.int .i64 0, .int .i64 0, .int .i64 0, .slice none 0 0, .slice none 0 0, .int .i64 0, .int .i64 0] 47)) := (Below.refl _ z29).alloc (Nat.le_refl _) (.cells #[.int .i64 0, .int .i64 0, .int .i64 0, .slice none 0 0, .slice none 0 0, .int .i64 0, .int .i64 0] 47)
            have hqk : w15.heap.size ≤ z29.heap.size := HC.out.size
            refine hK _ (z29.alloc (.cells #[.int .i64 0, .int .i64 0, .int .i64 0, .slice none 0 0, .slice none 0 0, .int .i64 0, .int .i64 0] 47)) ⟨⟨⟨_, HC.out.trans (hb.mono HC.out.size)⟩, rfl⟩, ?_⟩
            have HC := Lib.hid (HC.out.trans (hb.mono HC.out.size))
            have HE := Lib.hid (HE.out.below hb)
            have HQ := Lib.hid (show BlkL (z29.alloc (.cells #[.int .i64 0, .int .i64 0, .int .i64 0, .slice none 0 0, .slice none 0 0, .int .i64 0, .int .i64 0] 47)) z29.heap.size 47 [.int .i64 0, .int .i64 0, .int .i64 0, .slice none 0 0, .slice none 0 0, .int .i64 0, .int .i64 0] from BlkL.new z29 47 [.int .i64 0, .int .i64 0, .int .i64 0, .slice none 0 0, .slice none 0 0, .int .i64 0, .int .i64 0])
            have HAL := Lib.hid hb
            clear hK K hb
            generalize z29.alloc (.cells #[.int .i64 0, .int .i64 0, .int .i64 0, .slice none 0 0, .slice none 0 0, .int .i64 0, .int .i64 0] 47) = z37 at *
            refine door_more ?_
            intro K hK
            unfold Chain.mov
            go_simp
            simp only [Chain.movUpon]
            have hqW : z29.heap.size < z37.heap.size := HQ.out.lt
            refine (CT.out z37).mono ?_
            rintro r z38 ⟨rfl, hb⟩
            have HC := Lib.hid (HC.out.trans (hb.mono HC.out.size))
            have HE := Lib.hid (HE.out.below hb)
            have HQ := Lib.hid (HQ.out.below hb HQ.out.lt)
            refine ⟨_, rfl, hK _ _ ⟨⟨⟨z38, HC.out⟩, rfl⟩, ?_⟩⟩
            clear hK K hb hqW
            refine stage_more ?_
            repeat (go_big_quiet_step (fail))
            refine wpQuiet_nil ?_
            intro K hK
            unfold Chain.mov
            go_simp
            simp only [Chain.movUpon]
            have hqW : z29.heap.size < z38.heap.size := HQ.out.lt
            have hK0 : w15.heap.size ≤ z38.heap.size := HC.out.size
            refine (FeedToken_any e t _ z38 bm bi HF.out hts HE.out).mono ?_
            rintro r z39 ⟨v, rfl, ho, hb⟩
            obtain ⟨o0, o1, o2, oS, on, oc, oT, om, od, o5, o6, rfl⟩ := EngO.shape ho
            have HC := Lib.hid (HC.out.trans (hb.mono HC.out.size))
            have HE := Lib.hid (HE.out.below hb)
            have HQ := Lib.hid (HQ.out.below hb HQ.out.lt)
            have HV := Lib.hid (EngO.lowB ho hK0)
            clear hK0
            refine ⟨_, rfl, hK _ _ ⟨⟨⟨z39, HC.out⟩, rfl⟩, ?_⟩⟩
            clear hK K ho hb hqW
            refine stage_more ?_
            repeat (go_big_quiet_step (fail))
            refine wpQuiet_nil ?_
            intro K hK
            have k0 : z39.cell? ⟨z29.heap.size, 0, none⟩ = some (.int .i64 0) := (HQ.out.cell 0).trans rfl
            have k1 : z39.cell? ⟨z29.heap.size, 1, none⟩ = some (.int .i64 0) := (HQ.out.cell 1).trans rfl
            have k2 : z39.cell? ⟨z29.heap.size, 2, none⟩ = some (.int .i64 0) := (HQ.out.cell 2).trans rfl
            have k3 : z39.cell? ⟨z29.heap.size, 3, none⟩ = some (.slice none 0 0) := (HQ.out.cell 3).trans rfl
            have k4 : z39.cell? ⟨z29.heap.size, 4, none⟩ = some (.slice none 0 0) := (HQ.out.cell 4).trans rfl
            have k5 : z39.cell? ⟨z29.heap.size, 5, none⟩ = some (.int .i64 0) := (HQ.out.cell 5).trans rfl
            have k6 : z39.cell? ⟨z29.heap.size, 6, none⟩ = some (.int .i64 0) := (HQ.out.cell 6).trans rfl
            have kf := HQ.out.frozen
            have kl := HQ.out.lt
            unfold Chain.mov
            go_simp
            refine hK _ (World.setN z39 z29.heap.size 0 [.int .i64 o0, .int .i64 o1, .int .i64 o2, .slice oS on oc, .slice oT om od, .int .i64 o5, .int .i64 o6]) ⟨⟨⟨_, below_setN hqk [.int .i64 o0, .int .i64 o1, .int .i64 o2, .slice oS on oc, .slice oT om od, .int .i64 o5, .int .i64 o6] _ 0 HC.out⟩, rfl⟩, ?_⟩
            have HZ := Lib.hid (show BlkL (World.setN z39 z29.heap.size 0 [.int .i64 o0, .int .i64 o1, .int .i64 o2, .slice oS on oc, .slice oT om od, .int .i64 o5, .int .i64 o6]) z29.heap.size 47 [.int .i64 o0, .int .i64 o1, .int .i64 o2, .slice oS on oc, .slice oT om od, .int .i64 o5, .int .i64 o6] from BlkL.setN [.int .i64 o0, .int .i64 o1, .int .i64 o2, .slice oS on oc, .slice oT om od, .int .i64 o5, .int .i64 o6] _ _ 0 HQ.out)
            have HG := Lib.hid (show EngO (World.setN z39 z29.heap.size 0 [.int .i64 o0, .int .i64 o1, .int .i64 o2, .slice oS on oc, .slice oT om od, .int .i64 o5, .int .i64 o6]) w15.heap.size (.agg #[.int .i64 o0, .int .i64 o1, .int .i64 o2, .slice oS on oc, .slice oT om od, .int .i64 o5, .int .i64 o6]) (fedE e t) from EngO.setN HQ.out (by decide) (by decide) [.int .i64 o0, .int .i64 o1, .int .i64 o2, .slice oS on oc, .slice oT om od, .int .i64 o5, .int .i64 o6] 0 HV.out)
            have HC := Lib.hid (show Below w15.heap.size w15 (World.setN z39 z29.heap.size 0 [.int .i64 o0, .int .i64 o1, .int .i64 o2, .slice oS on oc, .slice oT om od, .int .i64 o5, .int .i64 o6]) from below_setN hqk [.int .i64 o0, .int .i64 o1, .int .i64 o2, .slice oS on oc, .slice oT om od, .int .i64 o5, .int .i64 o6] _ 0 HC.out)
            clear hK K k0 k1 k2 k3 k4 k5 k6 kf kl HQ HV
            generalize (World.setN z39 z29.heap.size 0 [.int .i64 o0, .int .i64 o1, .int .i64 o2, .slice oS on oc, .slice oT om od, .int .i64 o5, .int .i64 o6]) = z40 at *
            refine stage_more ?_
            repeat (go_big_quiet_step (fail))
            refine wpQuiet_nil ?_
            intro K hK
            unfold Chain.mov
            go_simp
            refine hK _ _ ⟨⟨⟨_, HC.out⟩, rfl⟩, ?_⟩
            clear hK K
            refine stage_last ?_
            repeat (go_big_quiet_step (fail))
            refine wpQuiet_nil ?_
            go_wp2
            go_meet
            case rel => exact ⟨z29.heap.size, o0, o1, o2, oS, on, oc, oT, om, od, o5, o6, rfl, rfl, rfl, HZ.out, HG.out, HC.out, hqk⟩
        · skip
          unfold Chain.mov
          go_simp
          have hb : Below w15.drew.heap.size w15.drew (w15.drew.alloc (.cells #[.int .i64 0, .int .i64 0, .int .i64 0, .slice none 0 0, .slice none 0 0, .int .i64 0, .int .i64 0] 47)) := (Below.refl _ w15.drew).alloc (Nat.le_refl _) (.cells #[.int .i64 0, .int .i64 0, .int .i64 0, .slice none 0 0, .slice none 0 0, .int .i64 0, .int .i64 0] 47)
          have hqk : w15.heap.size ≤ w15.heap.size := HC.out.size
          refine hK _ (w15.drew.alloc (.cells #[.int .i64 0, .int .i64 0, .int .i64 0, .slice none 0 0, .slice none 0 0, .int .i64 0, .int .i64 0] 47)) ⟨⟨⟨_, HC.out.trans (hb.mono HC.out.size)⟩, rfl⟩, ?_⟩
          have HC := Lib.hid (HC.out.trans (hb.mono HC.out.size))
          have HQ := Lib.hid (show BlkL (w15.drew.alloc (.cells #[.int .i64 0, .int .i64 0, .int .i64 0, .slice none 0 0, .slice none 0 0, .int .i64 0, .int .i64 0] 47)) w15.heap.size 47 [.int .i64 0, .int .i64 0, .int .i64 0, .slice none 0 0, .slice none 0 0, .int .i64 0, .int .i64 0] from BlkL.new w15.drew 47 [.int .i64 0, .int .i64 0, .int .i64 0, .slice none 0 0, .slice none 0 0, .int .i64 0, .int .i64 0])
          have HAL := Lib.hid hb
          clear hK K hb
          generalize w15.drew.alloc (.cells #[.int .i64 0, .int .i64 0, .int .i64 0, .slice none 0 0, .slice none 0 0, .int .i64 0, .int .i64 0] 47) = z41 at *
          refine door_more ?_
          intro K hK
          unfold Chain.mov
          go_simp
          simp only [Chain.movUpon]
          have hqW : w15.heap.size < z41.heap.size := HQ.out.lt
          refine (toEngine_any e A c A2 c2 z41 bm0 bi0 (RS.below M1.out (HBw.out.trans (HC.out.mono HBw.out.size))) (RS.below I1.out (HBw.out.trans (HC.out.mono HBw.out.size)))).mono ?_
          rintro r z42 ⟨v, rfl, ho, hb⟩
          obtain ⟨y0, y1, y2, yS, yn, yc, yT, ym, yd, y5, y6, rfl⟩ := EngO.shape ho
          have HC := Lib.hid (HC.out.trans (hb.mono HC.out.size))
          have HQ := Lib.hid (HQ.out.below hb HQ.out.lt)
          have HE := Lib.hid (EngO.r ho)
          refine ⟨_, rfl, hK _ _ ⟨⟨⟨z42, HC.out⟩, rfl⟩, ?_⟩⟩
          clear hK K ho hb hqW
          refine stage_more ?_
          repeat (go_big_quiet_step (fail))
          refine wpQuiet_nil ?_
          intro K hK
          unfold Chain.mov
          go_simp
          simp only [Chain.movUpon]
          have hqW : w15.heap.size < z42.heap.size := HQ.out.lt
          refine (CT.out z42).mono ?_
          rintro r z43 ⟨rfl, hb⟩
          have HC := Lib.hid (HC.out.trans (hb.mono HC.out.size))
          have HE := Lib.hid (HE.out.below hb)
          have HQ := Lib.hid (HQ.out.below hb HQ.out.lt)
          refine ⟨_, rfl, hK _ _ ⟨⟨⟨z43, HC.out⟩, rfl⟩, ?_⟩⟩
          clear hK K hb hqW
          refine stage_more ?_
          repeat (go_big_quiet_step (fail))
          refine wpQuiet_nil ?_
          intro K hK
          unfold Chain.mov
          go_simp
          simp only [Chain.movUpon]
          have hqW : w15.heap.size < z43.heap.size := HQ.out.lt
          have hK0 : w15.heap.size ≤ z43.heap.size := HC.out.size
          refine (FeedToken_any e t _ z43 bm bi HF.out hts HE.out).mono ?_
          rintro r z44 ⟨v, rfl, ho, hb⟩
          obtain ⟨o0, o1, o2, oS, on, oc, oT, om, od, o5, o6, rfl⟩ := EngO.shape ho
          have HC := Lib.hid (HC.out.trans (hb.mono HC.out.size))
          have HE := Lib.hid (HE.out.below hb)
          have HQ := Lib.hid (HQ.out.below hb HQ.out.lt)
          have HV := Lib.hid (EngO.lowB ho hK0)
          clear hK0
          refine ⟨_, rfl, hK _ _ ⟨⟨⟨z44, HC.out⟩, rfl⟩, ?_⟩⟩
          clear hK K ho hb hqW
          refine stage_more ?_
          repeat (go_big_quiet_step (fail))
          refine wpQuiet_nil ?_
          intro K hK
          have k0 : z44.cell? ⟨w15.heap.size, 0, none⟩ = some (.int .i64 0) := (HQ.out.cell 0).trans rfl
          have k1 : z44.cell? ⟨w15.heap.size, 1, none⟩ = some (.int .i64 0) := (HQ.out.cell 1).trans rfl
          have k2 : z44.cell? ⟨w15.heap.size, 2, none⟩ = some (.int .i64 0) := (HQ.out.cell 2).trans rfl
          have k3 : z44.cell? ⟨w15.heap.size, 3, none⟩ = some (.slice none 0 0) := (HQ.out.cell 3).trans rfl
          have k4 : z44.cell? ⟨w15.heap.size, 4, none⟩ = some (.slice none 0 0) := (HQ.out.cell 4).trans rfl
          have k5 : z44.cell? ⟨w15.heap.size, 5, none⟩ = some (.int .i64 0) := (HQ.out.cell 5).trans rfl
          have k6 : z44.cell? ⟨w15.heap.size, 6, none⟩ = some (.int .i64 0) := (HQ.out.cell 6).trans rfl
          have kf := HQ.out.frozen
          have kl := HQ.out.lt
          unfold Chain.mov
          go_simp
          refine hK _ (World.setN z44 w15.heap.size 0 [.int .i64 o0, .int .i64 o1, .int .i64 o2, .slice oS on oc, .slice oT om od, .int .i64 o5, .int .i64 o6]) ⟨⟨⟨_, below_setN hqk [.int .i64 o0, .int .i64 o1, .int .i64 o2, .slice oS on oc, .slice oT om od, .int .i64 o5, .int .i64 o6] _ 0 HC.out⟩, rfl⟩, ?_⟩
          have HZ := Lib.hid (show BlkL (World.setN z44 w15.heap.size 0 [.int .i64 o0, .int .i64 o1, .int .i64 o2, .slice oS on oc, .slice oT om od, .int .i64 o5, .int .i64 o6]) w15.heap.size 47 [.int .i64 o0, .int .i64 o1, .int .i64 o2, .slice oS on oc, .slice oT om od, .int .i64 o5, .int .i64 o6] from BlkL.setN [.int .i64 o0, .int .i64 o1, .int .i64 o2, .slice oS on oc, .slice oT om od, .int .i64 o5, .int .i64 o6] _ _ 0 HQ.out)
          have HG := Lib.hid (show EngO (World.setN z44 w15.heap.size 0 [.int .i64 o0, .int .i64 o1, .int .i64 o2, .slice oS on oc, .slice oT om od, .int .i64 o5, .int .i64 o6]) w15.heap.size (.agg #[.int .i64 o0, .int .i64 o1, .int .i64 o2, .slice oS on oc, .slice oT om od, .int .i64 o5, .int .i64 o6]) (fedE e t) from EngO.setN HQ.out (by decide) (by decide) [.int .i64 o0, .int .i64 o1, .int .i64 o2, .slice oS on oc, .slice oT om od, .int .i64 o5, .int .i64 o6] 0 HV.out)
          have HC := Lib.hid (show Below w15.heap.size w15 (World.setN z44 w15.heap.size 0 [.int .i64 o0, .int .i64 o1, .int .i64 o2, .slice oS on oc, .slice oT om od, .int .i64 o5, .int .i64 o6]) from below_setN hqk [.int .i64 o0, .int .i64 o1, .int .i64 o2, .slice oS on oc, .slice oT om od, .int .i64 o5, .int .i64 o6] _ 0 HC.out)
          clear hK K k0 k1 k2 k3 k4 k5 k6 kf kl HQ HV
          generalize (World.setN z44 w15.heap.size 0 [.int .i64 o0, .int .i64 o1, .int .i64 o2, .slice oS on oc, .slice oT om od, .int .i64 o5, .int .i64 o6]) = z45 at *
          refine stage_more ?_
          repeat (go_big_quiet_step (fail))
          refine wpQuiet_nil ?_
          intro K hK
          unfold Chain.mov
          go_simp
          refine hK _ _ ⟨⟨⟨_, HC.out⟩, rfl⟩, ?_⟩
          clear hK K
          refine stage_last ?_
          repeat (go_big_quiet_step (fail))
          refine wpQuiet_nil ?_
          go_wp2
          go_meet
          case rel => exact ⟨w15.heap.size, o0, o1, o2, oS, on, oc, oT, om, od, o5, o6, rfl, rfl, rfl, HZ.out, HG.out, HC.out, hqk⟩
      case rest =>
        obtain ⟨adh, h0, h1, h2, hS, hn, hc, hT, hm, hd, h5, h6, rfl, rfl, rfl, hbk, heng, hb, hadh⟩ := hcut
        obtain ⟨w16, rfl⟩ : ∃ x, x = wc := ⟨_, rfl⟩
        have szw16 := hb.size
        have bxa := bxa.below hb bxa.lt
        have bxt := bxt.below hb bxt.lt
        have bxu := bxu.below hb bxu.lt
        have bxx := bxx.below hb bxx.lt
        have bxg := bxg.below hb bxg.lt
        have HBw := Lib.hid (HBw.out.trans (hb.mono HBw.out.size))
        have HBu := Lib.hid (HBu.out.trans (hb.mono HBu.out.size))
        have HBm := Lib.hid (HBm.out.trans (hb.mono HBm.out.size))
        have bxh := hbk
        have adlh := hbk.lt
        have HH := Lib.hid heng
        clear hb hbk heng
        have HBh := Lib.hid (Below.refl w16.heap.size w16)
        have qa0 : w16.cell? ⟨w.heap.size, 0, none⟩ = some (.int .i64 e.W) := (bxa.cell 0).trans rfl
        have qa1 : w16.cell? ⟨w.heap.size, 1, none⟩ = some (.int .i64 e.col) := (bxa.cell 1).trans rfl
        have qa2 : w16.cell? ⟨w.heap.size, 2, none⟩ = some (.int .i64 e.pend) := (bxa.cell 2).trans rfl
        have qa3 : w16.cell? ⟨w.heap.size, 3, none⟩ = some (.slice A e.ms.length c) := (bxa.cell 3).trans rfl
        have qa4 : w16.cell? ⟨w.heap.size, 4, none⟩ = some (.slice A2 e.it.length c2) := (bxa.cell 4).trans rfl
        have qa5 : w16.cell? ⟨w.heap.size, 5, none⟩ = some (.int .i64 e.tot) := (bxa.cell 5).trans rfl
        have qa6 : w16.cell? ⟨w.heap.size, 6, none⟩ = some (.int .i64 e.lev) := (bxa.cell 6).trans rfl
        have qla := bxa.lt
        have HXa := Lib.hid bxa
        clear bxa
        have qt0 : w16.cell? ⟨(w.heap.size + 1), 0, none⟩ = some (.int .i64 t.k) := (bxt.cell 0).trans rfl
        have qt1 : w16.cell? ⟨(w.heap.size + 1), 1, none⟩ = some (.string t.s) := (bxt.cell 1).trans rfl
        have qt2 : w16.cell? ⟨(w.heap.size + 1), 2, none⟩ = some (.int .i64 t.d) := (bxt.cell 2).trans rfl
        have qt3 : w16.cell? ⟨(w.heap.size + 1), 3, none⟩ = some (.int .i64 t.o) := (bxt.cell 3).trans rfl
        have qlt := bxt.lt
        have HXt := Lib.hid bxt
        clear bxt
        have qu0 : w16.cell? ⟨adu, 0, none⟩ = some (.int .i64 u0) := (bxu.cell 0).trans rfl
        have qu1 : w16.cell? ⟨adu, 1, none⟩ = some (.int .i64 u1) := (bxu.cell 1).trans rfl
        have qu2 : w16.cell? ⟨adu, 2, none⟩ = some (.int .i64 u2) := (bxu.cell 2).trans rfl
        have qu3 : w16.cell? ⟨adu, 3, none⟩ = some (.slice uS un uc) := (bxu.cell 3).trans rfl
        have qu4 : w16.cell? ⟨adu, 4, none⟩ = some (.slice uT um ud) := (bxu.cell 4).trans rfl
        have qu5 : w16.cell? ⟨adu, 5, none⟩ = some (.int .i64 u5) := (bxu.cell 5).trans rfl
        have qu6 : w16.cell? ⟨adu, 6, none⟩ = some (.int .i64 u6) := (bxu.cell 6).trans rfl
        have qlu := bxu.lt
        have HXu := Lib.hid bxu
        clear bxu
        have qx0 : w16.cell? ⟨w6.heap.size, 0, none⟩ = some (.int .i64 x0) := (bxx.cell 0).trans rfl
        have qx1 : w16.cell? ⟨w6.heap.size, 1, none⟩ = some (.int .i64 x1) := (bxx.cell 1).trans rfl
        have qx2 : w16.cell? ⟨w6.heap.size, 2, none⟩ = some (.int .i64 x2) := (bxx.cell 2).trans rfl
        have qx3 : w16.cell? ⟨w6.heap.size, 3, none⟩ = some (.slice xS xn xc) := (bxx.cell 3).trans rfl
        have qx4 : w16.cell? ⟨w6.heap.size, 4, none⟩ = some (.slice xT xm xd) := (bxx.cell 4).trans rfl
        have qx5 : w16.cell? ⟨w6.heap.size, 5, none⟩ = some (.int .i64 x5) := (bxx.cell 5).trans rfl
        have qx6 : w16.cell? ⟨w6.heap.size, 6, none⟩ = some (.int .i64 x6) := (bxx.cell 6).trans rfl
        have qlx := bxx.lt
        have HXx := Lib.hid bxx
        clear bxx
        have qg0 : w16.cell? ⟨adg, 0, none⟩ = some (.int .i64 g0) := (bxg.cell 0).trans rfl
        have qg1 : w16.cell? ⟨adg, 1, none⟩ = some (.int .i64 g1) := (bxg.cell 1).trans rfl
        have qg2 : w16.cell? ⟨adg, 2, none⟩ = some (.int .i64 g2) := (bxg.cell 2).trans rfl
        have qg3 : w16.cell? ⟨adg, 3, none⟩ = some (.slice gS gn gc) := (bxg.cell 3).trans rfl
        have qg4 : w16.cell? ⟨adg, 4, none⟩ = some (.slice gT gm gd) := (bxg.cell 4).trans rfl
        have qg5 : w16.cell? ⟨adg, 5, none⟩ = some (.int .i64 g5) := (bxg.cell 5).trans rfl
        have qg6 : w16.cell? ⟨adg, 6, none⟩ = some (.int .i64 g6) := (bxg.cell 6).trans rfl
        have qlg := bxg.lt
        have HXg := Lib.hid bxg
        clear bxg
        have qh0 : w16.cell? ⟨adh, 0, none⟩ = some (.int .i64 h0) := (bxh.cell 0).trans rfl
        have qh1 : w16.cell? ⟨adh, 1, none⟩ = some (.int .i64 h1) := (bxh.cell 1).trans rfl
        have qh2 : w16.cell? ⟨adh, 2, none⟩ = some (.int .i64 h2) := (bxh.cell 2).trans rfl
        have qh3 : w16.cell? ⟨adh, 3, none⟩ = some (.slice hS hn hc) := (bxh.cell 3).trans rfl
        have qh4 : w16.cell? ⟨adh, 4, none⟩ = some (.slice hT hm hd) := (bxh.cell 4).trans rfl
        have qh5 : w16.cell? ⟨adh, 5, none⟩ = some (.int .i64 h5) := (bxh.cell 5).trans rfl
        have qh6 : w16.cell? ⟨adh, 6, none⟩ = some (.int .i64 h6) := (bxh.cell 6).trans rfl
        have qlh := bxh.lt
        have HXh := Lib.hid bxh
        clear bxh
        go_wp2_with fail
        have bxa := HXa.out
        clear qa0 qa1 qa2 qa3 qa4 qa5 qa6 qla HXa
        have bxt := HXt.out
        clear qt0 qt1 qt2 qt3 qlt HXt
        have bxu := HXu.out
        clear qu0 qu1 qu2 qu3 qu4 qu5 qu6 qlu HXu
        have bxx := HXx.out
        clear qx0 qx1 qx2 qx3 qx4 qx5 qx6 qlx HXx
        have bxg := HXg.out
        clear qg0 qg1 qg2 qg3 qg4 qg5 qg6 qlg HXg
        have bxh := HXh.out
        clear qh0 qh1 qh2 qh3 qh4 qh5 qh6 qlh HXh
        refine (eqEngine_same (fedE e t) (.agg #[.int .i64 h0, .int .i64 h1, .int .i64 h2, .slice hS hn hc, .slice hT hm hd, .int .i64 h5, .int .i64 h6]) (.agg #[.int .i64 u0, .int .i64 u1, .int .i64 u2, .slice uS un uc, .slice uT um ud, .int .i64 u5, .int .i64 u6]) _ fm1 fi1 ((EngO.r HH.out).below HBh.out) (HU.out.below HBu.out)).mono ?_
        rintro r w17 ⟨rfl, hb⟩
        have szw17 := hb.size
        have bxa := bxa.below hb bxa.lt
        have bxt := bxt.below hb bxt.lt
        have bxu := bxu.below hb bxu.lt
        have bxx := bxx.below hb bxx.lt
        have bxg := bxg.below hb bxg.lt
        have bxh := bxh.below hb bxh.lt
        have HBw := Lib.hid (HBw.out.trans (hb.mono HBw.out.size))
        have HBu := Lib.hid (HBu.out.trans (hb.mono HBu.out.size))
        have HBm := Lib.hid (HBm.out.trans (hb.mono HBm.out.size))
        have HBh := Lib.hid (HBh.out.trans (hb.mono HBh.out.size))
        clear hb
        have qa0 : w17.cell? ⟨w.heap.size, 0, none⟩ = some (.int .i64 e.W) := (bxa.cell 0).trans rfl
        have qa1 : w17.cell? ⟨w.heap.size, 1, none⟩ = some (.int .i64 e.col) := (bxa.cell 1).trans rfl
        have qa2 : w17.cell? ⟨w.heap.size, 2, none⟩ = some (.int .i64 e.pend) := (bxa.cell 2).trans rfl
        have qa3 : w17.cell? ⟨w.heap.size, 3, none⟩ = some (.slice A e.ms.length c) := (bxa.cell 3).trans rfl
        have qa4 : w17.cell? ⟨w.heap.size, 4, none⟩ = some (.slice A2 e.it.length c2) := (bxa.cell 4).trans rfl
        have qa5 : w17.cell? ⟨w.heap.size, 5, none⟩ = some (.int .i64 e.tot) := (bxa.cell 5).trans rfl
        have qa6 : w17.cell? ⟨w.heap.size, 6, none⟩ = some (.int .i64 e.lev) := (bxa.cell 6).trans rfl
        have qla := bxa.lt
        have HXa := Lib.hid bxa
        clear bxa
        have qt0 : w17.cell? ⟨(w.heap.size + 1), 0, none⟩ = some (.int .i64 t.k) := (bxt.cell 0).trans rfl
        have qt1 : w17.cell? ⟨(w.heap.size + 1), 1, none⟩ = some (.string t.s) := (bxt.cell 1).trans rfl
        have qt2 : w17.cell? ⟨(w.heap.size + 1), 2, none⟩ = some (.int .i64 t.d) := (bxt.cell 2).trans rfl
        have qt3 : w17.cell? ⟨(w.heap.size + 1), 3, none⟩ = some (.int .i64 t.o) := (bxt.cell 3).trans rfl
        have qlt := bxt.lt
        have HXt := Lib.hid bxt
        clear bxt
        have qu0 : w17.cell? ⟨adu, 0, none⟩ = some (.int .i64 u0) := (bxu.cell 0).trans rfl
        have qu1 : w17.cell? ⟨adu, 1, none⟩ = some (.int .i64 u1) := (bxu.cell 1).trans rfl
        have qu2 : w17.cell? ⟨adu, 2, none⟩ = some (.int .i64 u2) := (bxu.cell 2).trans rfl
        have qu3 : w17.cell? ⟨adu, 3, none⟩ = some (.slice uS un uc) := (bxu.cell 3).trans rfl
        have qu4 : w17.cell? ⟨adu, 4, none⟩ = some (.slice uT um ud) := (bxu.cell 4).trans rfl
        have qu5 : w17.cell? ⟨adu, 5, none⟩ = some (.int .i64 u5) := (bxu.cell 5).trans rfl
        have qu6 : w17.cell? ⟨adu, 6, none⟩ = some (.int .i64 u6) := (bxu.cell 6).trans rfl
        have qlu := bxu.lt
        have HXu := Lib.hid bxu
        clear bxu
        have qx0 : w17.cell? ⟨w6.heap.size, 0, none⟩ = some (.int .i64 x0) := (bxx.cell 0).trans rfl
        have qx1 : w17.cell? ⟨w6.heap.size, 1, none⟩ = some (.int .i64 x1) := (bxx.cell 1).trans rfl
        have qx2 : w17.cell? ⟨w6.heap.size, 2, none⟩ = some (.int .i64 x2) := (bxx.cell 2).trans rfl
        have qx3 : w17.cell? ⟨w6.heap.size, 3, none⟩ = some (.slice xS xn xc) := (bxx.cell 3).trans rfl
        have qx4 : w17.cell? ⟨w6.heap.size, 4, none⟩ = some (.slice xT xm xd) := (bxx.cell 4).trans rfl
        have qx5 : w17.cell? ⟨w6.heap.size, 5, none⟩ = some (.int .i64 x5) := (bxx.cell 5).trans rfl
        have qx6 : w17.cell? ⟨w6.heap.size, 6, none⟩ = some (.int .i64 x6) := (bxx.cell 6).trans rfl
        have qlx := bxx.lt
        have HXx := Lib.hid bxx
        clear bxx
        have qg0 : w17.cell? ⟨adg, 0, none⟩ = some (.int .i64 g0) := (bxg.cell 0).trans rfl
        have qg1 : w17.cell? ⟨adg, 1, none⟩ = some (.int .i64 g1) := (bxg.cell 1).trans rfl
        have qg2 : w17.cell? ⟨adg, 2, none⟩ = some (.int .i64 g2) := (bxg.cell 2).trans rfl
        have qg3 : w17.cell? ⟨adg, 3, none⟩ = some (.slice gS gn gc) := (bxg.cell 3).trans rfl
        have qg4 : w17.cell? ⟨adg, 4, none⟩ = some (.slice gT gm gd) := (bxg.cell 4).trans rfl
        have qg5 : w17.cell? ⟨adg, 5, none⟩ = some (.int .i64 g5) := (bxg.cell 5).trans rfl
        have qg6 : w17.cell? ⟨adg, 6, none⟩ = some (.int .i64 g6) := (bxg.cell 6).trans rfl
        have qlg := bxg.lt
        have HXg := Lib.hid bxg
        clear bxg
        have qh0 : w17.cell? ⟨adh, 0, none⟩ = some (.int .i64 h0) := (bxh.cell 0).trans rfl
        have qh1 : w17.cell? ⟨adh, 1, none⟩ = some (.int .i64 h1) := (bxh.cell 1).trans rfl
        have qh2 : w17.cell? ⟨adh, 2, none⟩ = some (.int .i64 h2) := (bxh.cell 2).trans rfl
        have qh3 : w17.cell? ⟨adh, 3, none⟩ = some (.slice hS hn hc) := (bxh.cell 3).trans rfl
        have qh4 : w17.cell? ⟨adh, 4, none⟩ = some (.slice hT hm hd) := (bxh.cell 4).trans rfl
        have qh5 : w17.cell? ⟨adh, 5, none⟩ = some (.int .i64 h5) := (bxh.cell 5).trans rfl
        have qh6 : w17.cell? ⟨adh, 6, none⟩ = some (.int .i64 h6) := (bxh.cell 6).trans rfl
        have qlh := bxh.lt
        have HXh := Lib.hid bxh
        clear bxh
        go_wp2_with fail
        have bxa := HXa.out
        clear qa0 qa1 qa2 qa3 qa4 qa5 qa6 qla HXa
        have bxt := HXt.out
        clear qt0 qt1 qt2 qt3 qlt HXt
        have bxu := HXu.out
        clear qu0 qu1 qu2 qu3 qu4 qu5 qu6 qlu HXu
        have bxx := HXx.out
        clear qx0 qx1 qx2 qx3 qx4 qx5 qx6 qlx HXx
        have bxg := HXg.out
        clear qg0 qg1 qg2 qg3 qg4 qg5 qg6 qlg HXg
        have bxh := HXh.out
        clear qh0 qh1 qh2 qh3 qh4 qh5 qh6 qlh HXh
        refine (heldEngine_any (fedE e t) (.agg #[.int .i64 g0, .int .i64 g1, .int .i64 g2, .slice gS gn gc, .slice gT gm gd, .int .i64 g5, .int .i64 g6]) 1 _ fm1 fi1 (by omega) (by omega) (HM.out.below HBm.out)).mono ?_
        rintro r w18 ⟨rfl, hb⟩
        have szw18 := hb.size
        have bxa := bxa.below hb bxa.lt
        have bxt := bxt.below hb bxt.lt
        have bxu := bxu.below hb bxu.lt
        have bxx := bxx.below hb bxx.lt
        have bxg := bxg.below hb bxg.lt
        have bxh := bxh.below hb bxh.lt
        have HBw := Lib.hid (HBw.out.trans (hb.mono HBw.out.size))
        have HBu := Lib.hid (HBu.out.trans (hb.mono HBu.out.size))
        have HBm := Lib.hid (HBm.out.trans (hb.mono HBm.out.size))
        have HBh := Lib.hid (HBh.out.trans (hb.mono HBh.out.size))
        clear hb
        have qa0 : w18.cell? ⟨w.heap.size, 0, none⟩ = some (.int .i64 e.W) := (bxa.cell 0).trans rfl
        have qa1 : w18.cell? ⟨w.heap.size, 1, none⟩ = some (.int .i64 e.col) := (bxa.cell 1).trans rfl
        have qa2 : w18.cell? ⟨w.heap.size, 2, none⟩ = some (.int .i64 e.pend) := (bxa.cell 2).trans rfl
        have qa3 : w18.cell? ⟨w.heap.size, 3, none⟩ = some (.slice A e.ms.length c) := (bxa.cell 3).trans rfl
        have qa4 : w18.cell? ⟨w.heap.size, 4, none⟩ = some (.slice A2 e.it.length c2) := (bxa.cell 4).trans rfl
        have qa5 : w18.cell? ⟨w.heap.size, 5, none⟩ = some (.int .i64 e.tot) := (bxa.cell 5).trans rfl
        have qa6 : w18.cell? ⟨w.heap.size, 6, none⟩ = some (.int .i64 e.lev) := (bxa.cell 6).trans rfl
        have qla := bxa.lt
        have HXa := Lib.hid bxa
        clear bxa
        have qt0 : w18.cell? ⟨(w.heap.size + 1), 0, none⟩ = some (.int .i64 t.k) := (bxt.cell 0).trans rfl
        have qt1 : w18.cell? ⟨(w.heap.size + 1), 1, none⟩ = some (.string t.s) := (bxt.cell 1).trans rfl
        have qt2 : w18.cell? ⟨(w.heap.size + 1), 2, none⟩ = some (.int .i64 t.d) := (bxt.cell 2).trans rfl
        have qt3 : w18.cell? ⟨(w.heap.size + 1), 3, none⟩ = some (.int .i64 t.o) := (bxt.cell 3).trans rfl
        have qlt := bxt.lt
        have HXt := Lib.hid bxt
        clear bxt
        have qu0 : w18.cell? ⟨adu, 0, none⟩ = some (.int .i64 u0) := (bxu.cell 0).trans rfl
        have qu1 : w18.cell? ⟨adu, 1, none⟩ = some (.int .i64 u1) := (bxu.cell 1).trans rfl
        have qu2 : w18.cell? ⟨adu, 2, none⟩ = some (.int .i64 u2) := (bxu.cell 2).trans rfl
        have qu3 : w18.cell? ⟨adu, 3, none⟩ = some (.slice uS un uc) := (bxu.cell 3).trans rfl
        have qu4 : w18.cell? ⟨adu, 4, none⟩ = some (.slice uT um ud) := (bxu.cell 4).trans rfl
        have qu5 : w18.cell? ⟨adu, 5, none⟩ = some (.int .i64 u5) := (bxu.cell 5).trans rfl
        have qu6 : w18.cell? ⟨adu, 6, none⟩ = some (.int .i64 u6) := (bxu.cell 6).trans rfl
        have qlu := bxu.lt
        have HXu := Lib.hid bxu
        clear bxu
        have qx0 : w18.cell? ⟨w6.heap.size, 0, none⟩ = some (.int .i64 x0) := (bxx.cell 0).trans rfl
        have qx1 : w18.cell? ⟨w6.heap.size, 1, none⟩ = some (.int .i64 x1) := (bxx.cell 1).trans rfl
        have qx2 : w18.cell? ⟨w6.heap.size, 2, none⟩ = some (.int .i64 x2) := (bxx.cell 2).trans rfl
        have qx3 : w18.cell? ⟨w6.heap.size, 3, none⟩ = some (.slice xS xn xc) := (bxx.cell 3).trans rfl
        have qx4 : w18.cell? ⟨w6.heap.size, 4, none⟩ = some (.slice xT xm xd) := (bxx.cell 4).trans rfl
        have qx5 : w18.cell? ⟨w6.heap.size, 5, none⟩ = some (.int .i64 x5) := (bxx.cell 5).trans rfl
        have qx6 : w18.cell? ⟨w6.heap.size, 6, none⟩ = some (.int .i64 x6) := (bxx.cell 6).trans rfl
        have qlx := bxx.lt
        have HXx := Lib.hid bxx
        clear bxx
        have qg0 : w18.cell? ⟨adg, 0, none⟩ = some (.int .i64 g0) := (bxg.cell 0).trans rfl
        have qg1 : w18.cell? ⟨adg, 1, none⟩ = some (.int .i64 g1) := (bxg.cell 1).trans rfl
        have qg2 : w18.cell? ⟨adg, 2, none⟩ = some (.int .i64 g2) := (bxg.cell 2).trans rfl
        have qg3 : w18.cell? ⟨adg, 3, none⟩ = some (.slice gS gn gc) := (bxg.cell 3).trans rfl
        have qg4 : w18.cell? ⟨adg, 4, none⟩ = some (.slice gT gm gd) := (bxg.cell 4).trans rfl
        have qg5 : w18.cell? ⟨adg, 5, none⟩ = some (.int .i64 g5) := (bxg.cell 5).trans rfl
        have qg6 : w18.cell? ⟨adg, 6, none⟩ = some (.int .i64 g6) := (bxg.cell 6).trans rfl
        have qlg := bxg.lt
        have HXg := Lib.hid bxg
        clear bxg
        have qh0 : w18.cell? ⟨adh, 0, none⟩ = some (.int .i64 h0) := (bxh.cell 0).trans rfl
        have qh1 : w18.cell? ⟨adh, 1, none⟩ = some (.int .i64 h1) := (bxh.cell 1).trans rfl
        have qh2 : w18.cell? ⟨adh, 2, none⟩ = some (.int .i64 h2) := (bxh.cell 2).trans rfl
        have qh3 : w18.cell? ⟨adh, 3, none⟩ = some (.slice hS hn hc) := (bxh.cell 3).trans rfl
        have qh4 : w18.cell? ⟨adh, 4, none⟩ = some (.slice hT hm hd) := (bxh.cell 4).trans rfl
        have qh5 : w18.cell? ⟨adh, 5, none⟩ = some (.int .i64 h5) := (bxh.cell 5).trans rfl
        have qh6 : w18.cell? ⟨adh, 6, none⟩ = some (.int .i64 h6) := (bxh.cell 6).trans rfl
        have qlh := bxh.lt
        have HXh := Lib.hid bxh
        clear bxh
        go_wp2
        go_ret
        exact ⟨rfl, HBw.out⟩

theorem cellsTok : Try.prog.cellsOf 41 = 4 := by kernel_rfl
set_option maxRecDepth 100000 in
theorem lifted (os : Os) (started : os.Started) (H : Type) (enc : TypeId × Value → H) :
    ReturnsInHanded {} Try.checked os 7 .any (Rows.fnExactFeedTokenSpec.pre6 enc Try.prog Try.f7 Rows.fnExactFeedTokenRow.domain false) (Rows.fnExactFeedTokenSpec.post enc Try.prog Try.f7 false true false false) := by
  refine returnsInHanded_of_change (C := Try.checked) own started (by kernel_rfl) Try.func7
    (ChangeSpec.witness6 (enc := enc) (C := Try.checked) false ⟨#[], #[.agg #[.int .i64 0, .int .i64 0, .int .i64 0, .slice none 0 0, .slice none 0 0, .int .i64 0, .int .i64 0], .agg #[.int .i64 0, .string ByteArray.empty, .int .i64 0, .int .i64 0]], []⟩ 8 (by kernel_rfl) (by kernel_rfl) (by kernel_rfl) (by kernel_rfl)) ?_
  intro W base args ds gs before hval0 hW _ _
  have hval : ∀ (j : Nat) t v, Try.f7.params[j]? = some t → args[j]? = some v → Value.okWide Try.prog W .any base t v := hval0
  have hW' := hW
  obtain ⟨p, q, hA0, hV, rfl, _, _⟩ := hW
  have hA : DataW.TrodAll enc Try.prog W 0 (fun _ => true) true Try.f7.params.toList args.toList ds p := hA0
  rw [Try.params7] at hA hval
  obtain ⟨v0, vs0, d0, ds0, p0, q0, hargs0, rfl, rfl, h0, r0⟩ := trodAll_cons hA
  obtain ⟨v1, vs1, d1, ds1, p1, q1, hargs1, rfl, rfl, h1, r1⟩ := trodAll_cons r0
  obtain ⟨rfl, rfl, rfl⟩ := trodAll_nil r1
  obtain rfl : args = #[v0, v1] := by cases args; simp_all
  obtain ⟨rfl, rfl⟩ := trodVars_none hV
  have z0 := h0
  have lt0 : ∀ x ∈ p0, x.block < W.heap.size := by obtain ⟨m, hm⟩ := z0; exact DataW.trod_lt m _ _ _ hm
  have z1 := h1
  have lt1 : ∀ x ∈ p1, x.block < W.heap.size := by obtain ⟨m, hm⟩ := z1; exact DataW.trod_lt m _ _ _ hm
  obtain ⟨e0, A0, c0, B0, d0, rfl, hm0, hi0, lm0, li0, hf0⟩ := open_engine (hval 0 39 v0 rfl rfl) h0
  obtain ⟨c00, c01, c02, c03, y00, y01, y02, y03, m0, rfl, rfl, rfl, hy00, hy01, hy02, hy03⟩ := open_agg4 Try.underlying41 (by kernel_rfl) cellsTok (hval 1 41 v1 rfl rfl) h1
  obtain ⟨k0, e00, rfl, _⟩ := DataW.trod_int Try.underlying3 hy00
  obtain ⟨s0, e01, rfl, ws0⟩ := DataW.trod_string Try.underlying9 hy01
  obtain ⟨d0', e02, rfl, _⟩ := DataW.trod_int Try.underlying3 hy02
  obtain ⟨o0, e03, rfl, _⟩ := DataW.trod_int Try.underlying3 hy03
  simp at e00 e01 e02 e03
  subst e00 e01 e02 e03
  clear hA0 hval0
  refine (law e0 A0 c0 B0 d0 ⟨k0, s0, d0', o0⟩ W hm0 hi0 lm0 li0 hf0 ws0).mono fun e W' ⟨he, bel⟩ => ?_
  subst he
  exact ⟨_, rfl, _, _, _, [], _, [], hW', trodAll_mk1 (shut_bool Try.underlying4 _), (trodAll_cons_mk (Below.trod laidOut (by kernel_rfl) (of_decide_eq_true (by kernel_rfl)) z0 bel lt0) (trodAll_cons_mk (Below.trod laidOut (by kernel_rfl) (of_decide_eq_true (by kernel_rfl)) z1 bel lt1) trodAll_mk0)), rfl, bel.frame _, (fun h => by cases h)⟩

theorem over : Rows.fnExactFeedTokenRow.holds Try.pinned (OpenSpec.ofChange Rows.fnExactFeedTokenSpec) :=
  OpenClaim.holds_of_wide 7 Try.f7 rfl rfl rfl rfl rfl rfl rfl ⟨rfl, rfl, rfl, rfl, rfl⟩ rfl rfl rfl rfl rfl (by kernel_rfl) Try.func7 (by kernel_rfl)
    (of_decide_eq_true (by kernel_rfl)) (by unfold Func.isWrapper; first | (rw [if_pos (by decide +kernel)]; kernel_rfl) | (rw [if_neg (by decide +kernel)]; exact ⟨rfl, rfl⟩))
    (fun os started H enc _ => lifted os started H enc)

theorem proved : Rows.FnExactFeedTokenSaid := over
#print axioms proved
end Go.Proofs.Ytegjgbgnpkncbab.fnExactFeedToken
