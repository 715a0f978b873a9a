/-
  The law FnExactListDeque returns true at every argument: ListDeque answers as its model does, writes into no argument, and its answer owns its memory.
  Conditions: none beyond the row's own; whatever the arguments.
-/
import Derived.Test.YtkpkchlbljlbnaaArd
import Derived.Test.YtkpkchlbljlbnaaDqh
namespace Go.Proofs.Ytkpkchlbljlbnaa.fnExactListDeque
open Go.ChangeShapes Go.WideShapes Go.ChangeAt Go.RowKit Go.Joins
set_option linter.unusedVariables false

set_option maxHeartbeats 4000000 in
set_option maxRecDepth 100000 in
theorem law (A : Option Addr) (s : List Int) (n c : Nat) (H Q : Int) (w : World) (hn : s.length = n) (hm : n ≤ maxLen) (hi : IA w A s) (hw : ∀ x ∈ s, (Lit.int .i64 x).wf = true) (wh : (Lit.int .i64 H).wf = true) (wc : (Lit.int .i64 Q).wf = true) :
    Calls Try.prog 11 #[.agg #[.slice A n c, .int .i64 H, .int .i64 Q]] w fun e w' => e = .returned (.bool true) ∧ Below w.heap.size w w' := by
  have HN := Lib.hid hn
  have HW := Lib.hid hw
  clear hn hw
  go_enter Try.func11, Try.ntmps11
  go_wp2_with fail
  have bxa0 := BlkL.new w 36 [.slice A n c, .int .i64 H, .int .i64 Q]
  have hb0 := (Below.refl w.heap.size w).alloc (Nat.le_refl _) (.cells #[.slice A n c, .int .i64 H, .int .i64 Q] 36)
  generalize w.alloc (.cells #[.slice A n c, .int .i64 H, .int .i64 Q] 36) = w0 at *
  have lba := bxa0.lt
  refine (szDeque_any A n c H Q 1048576 w0 hm (by omega) (by omega)).mono ?_
  rintro e w1 ⟨rfl, hb1⟩
  have HB1 := Lib.hid (hb0.trans (hb1.mono hb0.size))
  have z1 := hb1.size
  have ia1 := hi.below HB1.out
  have bxa1 := bxa0.below hb1 bxa0.lt
  clear hb1 hb0 bxa0
  by_cases hbig : (1048576 : Int) < (n : Int)
  · rw [if_pos hbig]
    go_wp2
    go_ret
    exact ⟨rfl, HB1.out⟩
  rw [if_neg hbig]
  have hsm : n ≤ 2097152 := by omega
  have hnn : (0 : Int) ≤ 1048576 - (n : Int) := by omega
  clear hbig
  have hle := lisB_le s H Q
  have qa0 := bxa1.cell 0
  have qa1 := bxa1.cell 1
  have qa2 := bxa1.cell 2
  have lqa := bxa1.lt
  simp only [List.getElem?_cons_zero, List.getElem?_cons_succ] at qa0 qa1 qa2
  have HIA := Lib.hid ia1
  clear ia1
  have HXa := Lib.hid bxa1
  clear bxa1
  go_wp2_with fail
  clear qa0 qa1 qa2 lqa
  have ia1 := HIA.out
  clear HIA
  have bxa1 := HXa.out
  clear HXa
  refine (toDeque_any A s n c H Q _ HN.out hsm ia1).mono ?_
  rintro e w2 ⟨hb2, At, ct, rfl, hlot, hcct, hrt⟩
  have ia2 := ia1.below hb2
  have HB2 := Lib.hid (HB1.out.trans (hb2.mono HB1.out.size))
  have bxa2 := bxa1.below hb2 bxa1.lt
  have z2 := hb2.size
  clear hb2 bxa1 ia1
  have lot := Lib.hid hlot
  have cct := Lib.hid hcct
  have rt2 := hrt
  have ltt := Lib.hid hrt.lt
  clear hlot hcct hrt
  have qa0 := bxa2.cell 0
  have qa1 := bxa2.cell 1
  have qa2 := bxa2.cell 2
  have lqa := bxa2.lt
  simp only [List.getElem?_cons_zero, List.getElem?_cons_succ] at qa0 qa1 qa2
  have HIA := Lib.hid ia2
  clear ia2
  have HRt := Lib.hid rt2
  clear rt2
  have HXa := Lib.hid bxa2
  clear bxa2
  go_wp2_with fail
  clear qa0 qa1 qa2 lqa
  have ia2 := HIA.out
  clear HIA
  have rt2 := HRt.out
  clear HRt
  have bxa2 := HXa.out
  clear HXa
  refine (sListDeque_any At s ct H Q _ (by have := HN.out; omega) rt2.is).mono ?_
  rintro e w3 ⟨hb3, Aw, cw, rfl, hlow, hccw, hrw⟩
  have ia3 := ia2.below hb3
  have HB3 := Lib.hid (HB2.out.trans (hb3.mono HB2.out.size))
  have rt3 := rt2.below hb3
  have bxa3 := bxa2.below hb3 bxa2.lt
  have z3 := hb3.size
  clear hb3 rt2 bxa2 ia2
  have low := Lib.hid hlow
  have ccw := Lib.hid hccw
  have rw3 := hrw
  have ltw := Lib.hid hrw.lt
  clear hlow hccw hrw
  clear rt3
  have qa0 := bxa3.cell 0
  have qa1 := bxa3.cell 1
  have qa2 := bxa3.cell 2
  have lqa := bxa3.lt
  simp only [List.getElem?_cons_zero, List.getElem?_cons_succ] at qa0 qa1 qa2
  have HIA := Lib.hid ia3
  clear ia3
  have HRw := Lib.hid rw3
  clear rw3
  have HXa := Lib.hid bxa3
  clear bxa3
  go_wp2_with fail
  clear qa0 qa1 qa2 lqa
  have ia3 := HIA.out
  clear HIA
  have rw3 := HRw.out
  clear HRw
  have bxa3 := HXa.out
  clear HXa
  refine (toDeque_any A s n c H Q _ HN.out hsm ia3).mono ?_
  rintro e w4 ⟨hb4, Ax, cx, rfl, hlox, hccx, hrx⟩
  have ia4 := ia3.below hb4
  have HB4 := Lib.hid (HB3.out.trans (hb4.mono HB3.out.size))
  have rw4 := rw3.below hb4
  have bxa4 := bxa3.below hb4 bxa3.lt
  have z4 := hb4.size
  clear hb4 rw3 bxa3 ia3
  have lox := Lib.hid hlox
  have ccx := Lib.hid hccx
  have rx4 := hrx
  have ltx := Lib.hid hrx.lt
  clear hlox hccx hrx
  have qa0 := bxa4.cell 0
  have qa1 := bxa4.cell 1
  have qa2 := bxa4.cell 2
  have lqa := bxa4.lt
  simp only [List.getElem?_cons_zero, List.getElem?_cons_succ] at qa0 qa1 qa2
  have HIA := Lib.hid ia4
  clear ia4
  have HRw := Lib.hid rw4
  clear rw4
  have HRx := Lib.hid rx4
  clear rx4
  have HXa := Lib.hid bxa4
  clear bxa4
  go_wp2_with fail
  clear qa0 qa1 qa2 lqa
  have ia4 := HIA.out
  clear HIA
  have rw4 := HRw.out
  clear HRw
  have rx4 := HRx.out
  clear HRx
  have bxa4 := HXa.out
  clear HXa
  have hbA := (Below.refl w4.heap.size w4).alloc (Nat.le_refl _) (.cells #[.slice Ax s.length cx, .int .i64 H, .int .i64 Q] 28)
  have bxx5 := BlkL.new w4 28 [.slice Ax s.length cx, .int .i64 H, .int .i64 Q]
  have ia5 := ia4.below hbA
  have HB5 := Lib.hid (HB4.out.trans (hbA.mono HB4.out.size))
  have rw5 := rw4.below hbA
  have rx5 := rx4.below hbA
  have bxa5 := bxa4.below hbA bxa4.lt
  have z5 := hbA.size
  clear hbA rw4 rx4 bxa4 ia4
  generalize w4.alloc (.cells #[.slice Ax s.length cx, .int .i64 H, .int .i64 Q] 28) = w5 at *
  have lbx := bxx5.lt
  refine (ListDeque_any Ax s cx H Q _ (by have := HN.out; omega) rx5.is).mono ?_
  rintro e w6 ⟨hb6, Ag, cg, rfl, hlog, hccg, hrg⟩
  have ia6 := ia5.below hb6
  have HB6 := Lib.hid (HB5.out.trans (hb6.mono HB5.out.size))
  have rw6 := rw5.below hb6
  have rx6 := rx5.below hb6
  have bxa6 := bxa5.below hb6 bxa5.lt
  have bxx6 := bxx5.below hb6 bxx5.lt
  have z6 := hb6.size
  clear hb6 rw5 rx5 bxa5 bxx5 ia5
  have log := Lib.hid hlog
  have ccg := Lib.hid hccg
  have rg6 := hrg
  have ltg := Lib.hid hrg.lt
  clear hlog hccg hrg
  have qa0 := bxa6.cell 0
  have qa1 := bxa6.cell 1
  have qa2 := bxa6.cell 2
  have lqa := bxa6.lt
  have qx0 := bxx6.cell 0
  have qx1 := bxx6.cell 1
  have qx2 := bxx6.cell 2
  have lqx := bxx6.lt
  simp only [List.getElem?_cons_zero, List.getElem?_cons_succ] at qa0 qa1 qa2 qx0 qx1 qx2
  have HIA := Lib.hid ia6
  clear ia6
  have HRw := Lib.hid rw6
  clear rw6
  have HRx := Lib.hid rx6
  clear rx6
  have HRg := Lib.hid rg6
  clear rg6
  have HXa := Lib.hid bxa6
  clear bxa6
  have HXx := Lib.hid bxx6
  clear bxx6
  go_wp2_with fail
  clear qa0 qa1 qa2 lqa
  clear qx0 qx1 qx2 lqx
  have ia6 := HIA.out
  clear HIA
  have rw6 := HRw.out
  clear HRw
  have rx6 := HRx.out
  clear HRx
  have rg6 := HRg.out
  clear HRg
  have bxa6 := HXa.out
  clear HXa
  have bxx6 := HXx.out
  clear HXx
  refine (eqIntS_same Ag Aw (lisB s H Q) _ _ _ _ rfl (by omega) rg6.is rw6.is).mono ?_
  rintro e w7 ⟨rfl, hb7⟩
  have ia7 := ia6.below hb7
  have HB7 := Lib.hid (HB6.out.trans (hb7.mono HB6.out.size))
  have rw7 := rw6.below hb7
  have rx7 := rx6.below hb7
  have rg7 := rg6.below hb7
  have bxa7 := bxa6.below hb7 bxa6.lt
  have bxx7 := bxx6.below hb7 bxx6.lt
  have z7 := hb7.size
  clear hb7 rw6 rx6 rg6 bxa6 bxx6 ia6
  have qa0 := bxa7.cell 0
  have qa1 := bxa7.cell 1
  have qa2 := bxa7.cell 2
  have lqa := bxa7.lt
  have qx0 := bxx7.cell 0
  have qx1 := bxx7.cell 1
  have qx2 := bxx7.cell 2
  have lqx := bxx7.lt
  simp only [List.getElem?_cons_zero, List.getElem?_cons_succ] at qa0 qa1 qa2 qx0 qx1 qx2
  have HIA := Lib.hid ia7
  clear ia7
  have HRw := Lib.hid rw7
  clear rw7
  have HRx := Lib.hid rx7
  clear rx7
  have HRg := Lib.hid rg7
  clear rg7
  have HXa := Lib.hid bxa7
  clear bxa7
  have HXx := Lib.hid bxx7
  clear bxx7
  go_wp2_with fail
  clear qa0 qa1 qa2 lqa
  clear qx0 qx1 qx2 lqx
  have ia7 := HIA.out
  clear HIA
  have rw7 := HRw.out
  clear HRw
  have rx7 := HRx.out
  clear HRx
  have rg7 := HRg.out
  clear HRg
  have bxa7 := HXa.out
  clear HXa
  have bxx7 := HXx.out
  clear HXx
  have qx0 := bxx7.cell 0
  have qx1 := bxx7.cell 1
  have qx2 := bxx7.cell 2
  have qa0 := bxa7.cell 0
  have qa1 := bxa7.cell 1
  have qa2 := bxa7.cell 2
  simp only [List.getElem?_cons_zero, List.getElem?_cons_succ] at qx0 qx1 qx2 qa0 qa1 qa2
  have px0 := Kept.rd qx0
  have px1 := Kept.rd qx1
  have px2 := Kept.rd qx2
  have pa0 := Kept.rd qa0
  have pa1 := Kept.rd qa1
  have pa2 := Kept.rd qa2
  have hne : Nonempty (Kept w7) := ⟨⟨w7, Below.refl _ _⟩⟩
  clear qx0 qx1 qx2
  clear qa0 qa1 qa2
  have HIA := Lib.hid ia7
  clear ia7
  have HRw := Lib.hid rw7
  clear rw7
  have HRx := Lib.hid rx7
  clear rx7
  have HRg := Lib.hid rg7
  clear rg7
  have HXa := Lib.hid bxa7
  clear bxa7
  have HXx := Lib.hid bxx7
  clear bxx7
  refine wp_region_chain [true, true, false, false, false] (fun w' => ∃ x : Kept w7, w' = x.W) (by kernel_rfl) (by kernel_rfl) (Kept.start w7) ?_
  simp only [Chain.pickM, List.map_cons, List.map_nil, Bool.not_true, Bool.not_false]
  repeat (go_big_quiet_step (fail))
  refine wpQuiet_nil ?_
  refine chain_step (fun K hK => ?_)
  unfold Chain.mov
  go_simp
  simp only [Chain.movUpon]
  clear px0 px1 px2
  clear pa0 pa1 pa2
  have ia7 := HIA.out
  clear HIA
  have rw7 := HRw.out
  clear HRw
  have rx7 := HRx.out
  clear HRx
  have rg7 := HRg.out
  clear HRg
  have bxa7 := HXa.out
  clear HXa
  have bxx7 := HXx.out
  clear HXx
  refine (toDeque_any A s n c H Q w7.drew HN.out hsm ia7).mono ?_
  rintro e w8 ⟨hb8', Ay, cy, rfl, hloy, hccy, hry⟩
  have hb8 : Below w7.heap.size w7 w8 := (Below.refl _ w7).drew.trans (hb8'.mono (Nat.le_refl _))
  clear hb8'
  have HK8 := Lib.hid hb8
  have ia8 := ia7.below hb8
  have HB8 := Lib.hid (HB7.out.trans (hb8.mono HB7.out.size))
  have rw8 := rw7.below hb8
  have rx8 := rx7.below hb8
  have rg8 := rg7.below hb8
  have bxa8 := bxa7.below hb8 bxa7.lt
  have bxx8 := bxx7.below hb8 bxx7.lt
  have z8 := hb8.size
  clear hb8 rw7 rx7 rg7 bxa7 bxx7 ia7
  have loy := Lib.hid hloy
  have ccy := Lib.hid hccy
  have ry8 := hry
  have lty := Lib.hid hry.lt
  clear hloy hccy hry
  refine ⟨_, rfl, hK _ _ ⟨Kept.mk' HK8.out, ?_⟩⟩
  clear hK K
  refine chain_step (fun K hK => ?_)
  unfold Chain.mov
  have HIA := Lib.hid ia8
  clear ia8
  have HRw := Lib.hid rw8
  clear rw8
  have HRx := Lib.hid rx8
  clear rx8
  have HRg := Lib.hid rg8
  clear rg8
  have HRy := Lib.hid ry8
  clear ry8
  have HXa := Lib.hid bxa8
  clear bxa8
  have HXx := Lib.hid bxx8
  clear bxx8
  go_simp
  simp only [Chain.movUpon]
  have ia8 := HIA.out
  clear HIA
  have rw8 := HRw.out
  clear HRw
  have rx8 := HRx.out
  clear HRx
  have rg8 := HRg.out
  clear HRg
  have ry8 := HRy.out
  clear HRy
  have bxa8 := HXa.out
  clear HXa
  have bxx8 := HXx.out
  clear HXx
  refine (eqDeque_same Ax Ay s _ _ _ H Q w8 rfl (by have := HN.out; omega) rx8.is ry8.is).mono ?_
  rintro e w9 ⟨rfl, hb9⟩
  have HK9 := Lib.hid (HK8.out.trans (hb9.mono HK8.out.size))
  have ia9 := ia8.below hb9
  have HB9 := Lib.hid (HB8.out.trans (hb9.mono HB8.out.size))
  have rw9 := rw8.below hb9
  have rx9 := rx8.below hb9
  have rg9 := rg8.below hb9
  have ry9 := ry8.below hb9
  have bxa9 := bxa8.below hb9 bxa8.lt
  have bxx9 := bxx8.below hb9 bxx8.lt
  have z9 := hb9.size
  clear hb9 rw8 rx8 rg8 ry8 bxa8 bxx8 ia8
  refine ⟨_, rfl, hK _ _ ⟨Kept.mk' HK9.out, ?_⟩⟩
  clear hK K hne HK8 HK9
  unfold Chain.chainW
  clear ry9
  have qa0 := bxa9.cell 0
  have qa1 := bxa9.cell 1
  have qa2 := bxa9.cell 2
  have lqa := bxa9.lt
  have qx0 := bxx9.cell 0
  have qx1 := bxx9.cell 1
  have qx2 := bxx9.cell 2
  have lqx := bxx9.lt
  simp only [List.getElem?_cons_zero, List.getElem?_cons_succ] at qa0 qa1 qa2 qx0 qx1 qx2
  have HIA := Lib.hid ia9
  clear ia9
  have HRw := Lib.hid rw9
  clear rw9
  have HRx := Lib.hid rx9
  clear rx9
  have HRg := Lib.hid rg9
  clear rg9
  have HXa := Lib.hid bxa9
  clear bxa9
  have HXx := Lib.hid bxx9
  clear bxx9
  go_wp2_with fail
  clear qa0 qa1 qa2 lqa
  clear qx0 qx1 qx2 lqx
  have ia9 := HIA.out
  clear HIA
  have rw9 := HRw.out
  clear HRw
  have rx9 := HRx.out
  clear HRx
  have rg9 := HRg.out
  clear HRg
  have bxa9 := HXa.out
  clear HXa
  have bxx9 := HXx.out
  clear HXx
  refine (markDeque_any Ax s cx H Q 1 _ (by have := HN.out; omega) (by omega) (by omega) ccx.out rx9).mono ?_
  rintro e w10 ⟨rfl, hmx, hg10⟩
  have ia10 : IA w10 A s := ia9.old hi HB9.out.size hg10 (fun b hb => by have := lox.out b hb; omega)
  have rw10 := rw9.grown hg10 (fun b hb e => by first | (have h1 := ltw.out b hb; have h2 := lox.out b e.symm; omega) | (have h1 := low.out b hb; have h2 := ltx.out b e.symm; omega))
  have rg10 := rg9.grown hg10 (fun b hb e => by first | (have h1 := ltg.out b hb; have h2 := lox.out b e.symm; omega) | (have h1 := log.out b hb; have h2 := ltx.out b e.symm; omega))
  have bxa10 := bxa9.grown hg10 (fun e => by first | (have h2 := lox.out _ e.symm; omega) | (have h2 := ltx.out _ e.symm; omega))
  have bxx10 := bxx9.grown hg10 (fun e => by first | (have h2 := lox.out _ e.symm; omega) | (have h2 := ltx.out _ e.symm; omega))
  have rx10 := hmx
  have HB10 := Lib.hid (HB9.out.grown hg10 HB9.out.size (fun b hb => by have := lox.out b hb; omega))
  have z10 := hg10.size
  clear hmx hg10 rw9 rx9 rg9 bxa9 bxx9 ia9
  clear rx10
  have qa0 := bxa10.cell 0
  have qa1 := bxa10.cell 1
  have qa2 := bxa10.cell 2
  have lqa := bxa10.lt
  have qx0 := bxx10.cell 0
  have qx1 := bxx10.cell 1
  have qx2 := bxx10.cell 2
  have lqx := bxx10.lt
  simp only [List.getElem?_cons_zero, List.getElem?_cons_succ] at qa0 qa1 qa2 qx0 qx1 qx2
  have HIA := Lib.hid ia10
  clear ia10
  have HRw := Lib.hid rw10
  clear rw10
  have HRg := Lib.hid rg10
  clear rg10
  have HXa := Lib.hid bxa10
  clear bxa10
  have HXx := Lib.hid bxx10
  clear bxx10
  go_wp2_with fail
  clear qa0 qa1 qa2 lqa
  clear qx0 qx1 qx2 lqx
  have ia10 := HIA.out
  clear HIA
  have rw10 := HRw.out
  clear HRw
  have rg10 := HRg.out
  clear HRg
  have bxa10 := HXa.out
  clear HXa
  have bxx10 := HXx.out
  clear HXx
  refine (eqIntS_same Ag Aw (lisB s H Q) _ _ _ _ rfl (by omega) rg10.is rw10.is).mono ?_
  rintro e w11 ⟨rfl, hb11⟩
  have ia11 := ia10.below hb11
  have HB11 := Lib.hid (HB10.out.trans (hb11.mono HB10.out.size))
  have rw11 := rw10.below hb11
  have rg11 := rg10.below hb11
  have bxa11 := bxa10.below hb11 bxa10.lt
  have bxx11 := bxx10.below hb11 bxx10.lt
  have z11 := hb11.size
  clear hb11 rw10 rg10 bxa10 bxx10 ia10
  have qa0 := bxa11.cell 0
  have qa1 := bxa11.cell 1
  have qa2 := bxa11.cell 2
  have lqa := bxa11.lt
  have qx0 := bxx11.cell 0
  have qx1 := bxx11.cell 1
  have qx2 := bxx11.cell 2
  have lqx := bxx11.lt
  simp only [List.getElem?_cons_zero, List.getElem?_cons_succ] at qa0 qa1 qa2 qx0 qx1 qx2
  have HIA := Lib.hid ia11
  clear ia11
  have HRw := Lib.hid rw11
  clear rw11
  have HRg := Lib.hid rg11
  clear rg11
  have HXa := Lib.hid bxa11
  clear bxa11
  have HXx := Lib.hid bxx11
  clear bxx11
  go_wp2_with fail
  clear qa0 qa1 qa2 lqa
  clear qx0 qx1 qx2 lqx
  have ia11 := HIA.out
  clear HIA
  have rw11 := HRw.out
  clear HRw
  have rg11 := HRg.out
  clear HRg
  have bxa11 := HXa.out
  clear HXa
  have bxx11 := HXx.out
  clear HXx
  refine (markIntS_any Ag (lisB s H Q) cg 1 _ (by omega) (by omega) (by omega) ccg.out rg11).mono ?_
  rintro e w12 ⟨rfl, hmg, hg12⟩
  have ia12 : IA w12 A s := ia11.old hi HB11.out.size hg12 (fun b hb => by have := log.out b hb; omega)
  have rw12 := rw11.grown hg12 (fun b hb e => by first | (have h1 := ltw.out b hb; have h2 := log.out b e.symm; omega) | (have h1 := low.out b hb; have h2 := ltg.out b e.symm; omega))
  have bxa12 := bxa11.grown hg12 (fun e => by first | (have h2 := log.out _ e.symm; omega) | (have h2 := ltg.out _ e.symm; omega))
  have bxx12 := bxx11.grown hg12 (fun e => by first | (have h2 := log.out _ e.symm; omega) | (have h2 := ltg.out _ e.symm; omega))
  have rg12 := hmg
  have HB12 := Lib.hid (HB11.out.grown hg12 HB11.out.size (fun b hb => by have := log.out b hb; omega))
  have z12 := hg12.size
  clear hmg hg12 rw11 rg11 bxa11 bxx11 ia11
  have HU := Lib.hid (show ∀ i, i < (lisB s H Q).length → (upTo (lisB s H Q) 1 (lisB s H Q).length)[i]? = some ((1 : Int) + (i : Int)) from fun i hi => upTo_at _ _ hi hi)
  have qa0 := bxa12.cell 0
  have qa1 := bxa12.cell 1
  have qa2 := bxa12.cell 2
  have lqa := bxa12.lt
  have qx0 := bxx12.cell 0
  have qx1 := bxx12.cell 1
  have qx2 := bxx12.cell 2
  have lqx := bxx12.lt
  simp only [List.getElem?_cons_zero, List.getElem?_cons_succ] at qa0 qa1 qa2 qx0 qx1 qx2
  have HIA := Lib.hid ia12
  clear ia12
  have HRw := Lib.hid rw12
  clear rw12
  have HRg := Lib.hid rg12
  clear rg12
  have HXa := Lib.hid bxa12
  clear bxa12
  have HXx := Lib.hid bxx12
  clear bxx12
  go_wp2_with fail
  clear qa0 qa1 qa2 lqa
  clear qx0 qx1 qx2 lqx
  have ia12 := HIA.out
  clear HIA
  have rw12 := HRw.out
  clear HRw
  have rg12 := HRg.out
  clear HRg
  have bxa12 := HXa.out
  clear HXa
  have bxx12 := HXx.out
  clear HXx
  refine (heldIntS_any Ag (upTo (lisB s H Q) 1 (lisB s H Q).length) _ _ 1 _ (upTo_length _ _ _) (by omega) (by omega) (by omega) rg12.is HU.out).mono ?_
  rintro e w' ⟨rfl, rfl⟩
  have qa0 := bxa12.cell 0
  have qa1 := bxa12.cell 1
  have qa2 := bxa12.cell 2
  have lqa := bxa12.lt
  have qx0 := bxx12.cell 0
  have qx1 := bxx12.cell 1
  have qx2 := bxx12.cell 2
  have lqx := bxx12.lt
  simp only [List.getElem?_cons_zero, List.getElem?_cons_succ] at qa0 qa1 qa2 qx0 qx1 qx2
  have HIA := Lib.hid ia12
  clear ia12
  have HRw := Lib.hid rw12
  clear rw12
  have HRg := Lib.hid rg12
  clear rg12
  have HXa := Lib.hid bxa12
  clear bxa12
  have HXx := Lib.hid bxx12
  clear bxx12
  go_wp2_with fail
  clear qa0 qa1 qa2 lqa
  clear qx0 qx1 qx2 lqx
  have ia12 := HIA.out
  clear HIA
  have rw12 := HRw.out
  clear HRw
  have rg12 := HRg.out
  clear HRg
  have bxa12 := HXa.out
  clear HXa
  have bxx12 := HXx.out
  clear HXx
  refine (toDeque_any A s n c H Q _ HN.out hsm ia12).mono ?_
  rintro e w13 ⟨hb13, Au, cu, rfl, hlou, hccu, hru⟩
  have ia13 := ia12.below hb13
  have HB13 := Lib.hid (HB12.out.trans (hb13.mono HB12.out.size))
  have rw13 := rw12.below hb13
  have rg13 := rg12.below hb13
  have bxa13 := bxa12.below hb13 bxa12.lt
  have bxx13 := bxx12.below hb13 bxx12.lt
  have z13 := hb13.size
  clear hb13 rw12 rg12 bxa12 bxx12 ia12
  have lou := Lib.hid hlou
  have ccu := Lib.hid hccu
  have ru13 := hru
  have ltu := Lib.hid hru.lt
  clear hlou hccu hru
  have qa0 := bxa13.cell 0
  have qa1 := bxa13.cell 1
  have qa2 := bxa13.cell 2
  have lqa := bxa13.lt
  have qx0 := bxx13.cell 0
  have qx1 := bxx13.cell 1
  have qx2 := bxx13.cell 2
  have lqx := bxx13.lt
  simp only [List.getElem?_cons_zero, List.getElem?_cons_succ] at qa0 qa1 qa2 qx0 qx1 qx2
  have HIA := Lib.hid ia13
  clear ia13
  have HRw := Lib.hid rw13
  clear rw13
  have HRg := Lib.hid rg13
  clear rg13
  have HRu := Lib.hid ru13
  clear ru13
  have HXa := Lib.hid bxa13
  clear bxa13
  have HXx := Lib.hid bxx13
  clear bxx13
  go_wp2_with fail
  clear qa0 qa1 qa2 lqa
  clear qx0 qx1 qx2 lqx
  have ia13 := HIA.out
  clear HIA
  have rw13 := HRw.out
  clear HRw
  have rg13 := HRg.out
  clear HRg
  have ru13 := HRu.out
  clear HRu
  have bxa13 := HXa.out
  clear HXa
  have bxx13 := HXx.out
  clear HXx
  refine (ListDeque_any Au s cu H Q _ (by have := HN.out; omega) ru13.is).mono ?_
  rintro e w14 ⟨hb14, Ah, ch, rfl, hloh, hcch, hrh⟩
  have ia14 := ia13.below hb14
  have HB14 := Lib.hid (HB13.out.trans (hb14.mono HB13.out.size))
  have rw14 := rw13.below hb14
  have rg14 := rg13.below hb14
  have ru14 := ru13.below hb14
  have bxa14 := bxa13.below hb14 bxa13.lt
  have bxx14 := bxx13.below hb14 bxx13.lt
  have z14 := hb14.size
  clear hb14 rw13 rg13 ru13 bxa13 bxx13 ia13
  have loh := Lib.hid hloh
  have cch := Lib.hid hcch
  have rh14 := hrh
  have lth := Lib.hid hrh.lt
  clear hloh hcch hrh
  clear ru14
  have qa0 := bxa14.cell 0
  have qa1 := bxa14.cell 1
  have qa2 := bxa14.cell 2
  have lqa := bxa14.lt
  have qx0 := bxx14.cell 0
  have qx1 := bxx14.cell 1
  have qx2 := bxx14.cell 2
  have lqx := bxx14.lt
  simp only [List.getElem?_cons_zero, List.getElem?_cons_succ] at qa0 qa1 qa2 qx0 qx1 qx2
  have HIA := Lib.hid ia14
  clear ia14
  have HRw := Lib.hid rw14
  clear rw14
  have HRg := Lib.hid rg14
  clear rg14
  have HRh := Lib.hid rh14
  clear rh14
  have HXa := Lib.hid bxa14
  clear bxa14
  have HXx := Lib.hid bxx14
  clear bxx14
  go_wp2_with fail
  clear qa0 qa1 qa2 lqa
  clear qx0 qx1 qx2 lqx
  have ia14 := HIA.out
  clear HIA
  have rw14 := HRw.out
  clear HRw
  have rg14 := HRg.out
  clear HRg
  have rh14 := HRh.out
  clear HRh
  have bxa14 := HXa.out
  clear HXa
  have bxx14 := HXx.out
  clear HXx
  refine (eqIntS_same Ah Aw (lisB s H Q) _ _ _ _ rfl (by omega) rh14.is rw14.is).mono ?_
  rintro e w15 ⟨rfl, hb15⟩
  have ia15 := ia14.below hb15
  have HB15 := Lib.hid (HB14.out.trans (hb15.mono HB14.out.size))
  have rw15 := rw14.below hb15
  have rg15 := rg14.below hb15
  have rh15 := rh14.below hb15
  have bxa15 := bxa14.below hb15 bxa14.lt
  have bxx15 := bxx14.below hb15 bxx14.lt
  have z15 := hb15.size
  clear hb15 rw14 rg14 rh14 bxa14 bxx14 ia14
  have qa0 := bxa15.cell 0
  have qa1 := bxa15.cell 1
  have qa2 := bxa15.cell 2
  have lqa := bxa15.lt
  have qx0 := bxx15.cell 0
  have qx1 := bxx15.cell 1
  have qx2 := bxx15.cell 2
  have lqx := bxx15.lt
  simp only [List.getElem?_cons_zero, List.getElem?_cons_succ] at qa0 qa1 qa2 qx0 qx1 qx2
  have HIA := Lib.hid ia15
  clear ia15
  have HRw := Lib.hid rw15
  clear rw15
  have HRg := Lib.hid rg15
  clear rg15
  have HRh := Lib.hid rh15
  clear rh15
  have HXa := Lib.hid bxa15
  clear bxa15
  have HXx := Lib.hid bxx15
  clear bxx15
  go_wp2_with fail
  clear qa0 qa1 qa2 lqa
  clear qx0 qx1 qx2 lqx
  have ia15 := HIA.out
  clear HIA
  have rw15 := HRw.out
  clear HRw
  have rg15 := HRg.out
  clear HRg
  have rh15 := HRh.out
  clear HRh
  have bxa15 := HXa.out
  clear HXa
  have bxx15 := HXx.out
  clear HXx
  refine (heldIntS_any Ag (upTo (lisB s H Q) 1 (lisB s H Q).length) _ _ 1 _ (upTo_length _ _ _) (by omega) (by omega) (by omega) rg15.is HU.out).mono ?_
  rintro e w' ⟨rfl, rfl⟩
  have qa0 := bxa15.cell 0
  have qa1 := bxa15.cell 1
  have qa2 := bxa15.cell 2
  have lqa := bxa15.lt
  have qx0 := bxx15.cell 0
  have qx1 := bxx15.cell 1
  have qx2 := bxx15.cell 2
  have lqx := bxx15.lt
  simp only [List.getElem?_cons_zero, List.getElem?_cons_succ] at qa0 qa1 qa2 qx0 qx1 qx2
  have HIA := Lib.hid ia15
  clear ia15
  have HRw := Lib.hid rw15
  clear rw15
  have HRg := Lib.hid rg15
  clear rg15
  have HRh := Lib.hid rh15
  clear rh15
  have HXa := Lib.hid bxa15
  clear bxa15
  have HXx := Lib.hid bxx15
  clear bxx15
  go_wp2
  clear qa0 qa1 qa2 lqa
  clear qx0 qx1 qx2 lqx
  have ia15 := HIA.out
  clear HIA
  have rw15 := HRw.out
  clear HRw
  have rg15 := HRg.out
  clear HRg
  have rh15 := HRh.out
  clear HRh
  have bxa15 := HXa.out
  clear HXa
  have bxx15 := HXx.out
  clear HXx
  go_ret
  exact ⟨rfl, HB15.out⟩

set_option maxRecDepth 100000 in
theorem lifted (os : Os) (started : os.Started) (H : Type) (enc : TypeId × Value → H) :
    ReturnsInHanded {} Try.checked os 11 .any (Rows.fnExactListDequeSpec.pre6 enc Try.prog Try.f11 Rows.fnExactListDequeRow.domain false) (Rows.fnExactListDequeSpec.post enc Try.prog Try.f11 false true false false) := by
  refine returnsInHanded_of_change (C := Try.checked) own started (by kernel_rfl) Try.func11
    (ChangeSpec.witness6 (enc := enc) (C := Try.checked) false ⟨#[], #[.agg #[.slice none 0 0, .int .i64 0, .int .i64 0]], []⟩ 8 (by kernel_rfl) (by kernel_rfl) (by kernel_rfl) (by kernel_rfl)) ?_
  intro W base args ds gs before hval0 hW _ _
  have hval : ∀ (j : Nat) t v, Try.f11.params[j]? = some t → args[j]? = some v → Value.okWide Try.prog W .any base t v := hval0
  have hW' := hW
  obtain ⟨p, q, hA0, hV, rfl, _, _⟩ := hW
  have hA : DataW.TrodAll enc Try.prog W 0 (fun _ => true) true Try.f11.params.toList args.toList ds p := hA0
  rw [Try.params11] at hA hval
  obtain ⟨v0, vs0, d0, ds0, p0, q0, hargs0, rfl, rfl, h0, r0⟩ := trodAll_cons hA
  obtain ⟨rfl, rfl, rfl⟩ := trodAll_nil r0
  obtain rfl : args = #[v0] := by cases args; simp_all
  obtain ⟨rfl, rfl⟩ := trodVars_none hV
  have z0 := h0
  have lt0 : ∀ x ∈ p0, x.block < W.heap.size := by obtain ⟨m, hm⟩ := z0; exact DataW.trod_lt m _ _ _ hm
  obtain ⟨A0, n0, c0, s0, hd0, ct0, rfl, hl0, hn0, hi0, hw0, wh0, wc0⟩ := open_deque (hval 0 36 v0 rfl rfl) h0
  clear hA0 hval0
  refine (law A0 s0 n0 c0 hd0 ct0 W hl0 hn0 hi0 hw0 wh0 wc0).mono fun e W' ⟨he, bel⟩ => ?_
  subst he
  exact ⟨_, rfl, _, _, _, [], _, [], hW', trodAll_mk1 (shut_bool Try.underlying4 _), (trodAll_cons_mk (Below.trod laidOut (by kernel_rfl) (of_decide_eq_true (by kernel_rfl)) z0 bel lt0) trodAll_mk0), rfl, bel.frame _, (fun h => by cases h)⟩

theorem over : Rows.fnExactListDequeRow.holds Try.pinned (OpenSpec.ofChange Rows.fnExactListDequeSpec) :=
  OpenClaim.holds_of_wide 11 Try.f11 rfl rfl rfl rfl rfl rfl rfl ⟨rfl, rfl, rfl, rfl, rfl⟩ rfl rfl rfl rfl rfl (by kernel_rfl) Try.func11 (by kernel_rfl)
    (of_decide_eq_true (by kernel_rfl)) (by unfold Func.isWrapper; first | (rw [if_pos (by decide +kernel)]; kernel_rfl) | (rw [if_neg (by decide +kernel)]; exact ⟨rfl, rfl⟩))
    (fun os started H enc _ => lifted os started H enc)

theorem proved : Rows.FnExactListDequeSaid := over
#print axioms proved
end Go.Proofs.Ytkpkchlbljlbnaa.fnExactListDeque
