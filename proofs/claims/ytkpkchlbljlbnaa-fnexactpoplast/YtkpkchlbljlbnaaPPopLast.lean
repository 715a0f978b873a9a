/-
  The law FnExactPopLast returns true at every argument: PopLast answers as its model does, writes into no argument, and its answer owns its memory.
  Conditions: none beyond the row's own; whatever the arguments.
-/
import Derived.Test.YtkpkchlbljlbnaaArd
import Derived.Test.YtkpkchlbljlbnaaDqm
namespace Go.Proofs.Ytkpkchlbljlbnaa.fnExactPopLast
open Go.ChangeShapes Go.WideShapes Go.ChangeAt Go.RowKit Go.Joins
set_option linter.unusedVariables false

set_option maxHeartbeats 4000000 in
set_option maxRecDepth 100000 in
theorem law (A : Option Addr) (s : List Int) (n c : Nat) (H Q : Int) (w : World) (hn : s.length = n) (hm : n ≤ maxLen) (hi : IA w A s) (hw : ∀ x ∈ s, (Lit.int .i64 x).wf = true) (wh : (Lit.int .i64 H).wf = true) (wc : (Lit.int .i64 Q).wf = true) :
    Calls Try.prog 9 #[.agg #[.slice A n c, .int .i64 H, .int .i64 Q]] w fun e w' => e = .returned (.bool true) ∧ Below w.heap.size w w' := by
  have HN := Lib.hid hn
  have HW := Lib.hid hw
  clear hn hw
  go_enter Try.func9, Try.ntmps9
  go_wp2_with fail
  have bxa0 := BlkL.new w 36 [.slice A n c, .int .i64 H, .int .i64 Q]
  have hb0 := (Below.refl w.heap.size w).alloc (Nat.le_refl _) (.cells #[.slice A n c, .int .i64 H, .int .i64 Q] 36)
  generalize w.alloc (.cells #[.slice A n c, .int .i64 H, .int .i64 Q] 36) = w0 at *
  have lba := bxa0.lt
  refine (szDeque_any A n c H Q 1048576 w0 hm (by omega) (by omega)).mono ?_
  rintro e w1 ⟨rfl, hb1⟩
  have HB1 := Lib.hid (hb0.trans (hb1.mono hb0.size))
  have z1 := hb1.size
  have ia1 := hi.below HB1.out
  have bxa1 := bxa0.below hb1 bxa0.lt
  clear hb1 hb0 bxa0
  by_cases hbig : (1048576 : Int) < (n : Int)
  · rw [if_pos hbig]
    go_wp2
    go_ret
    exact ⟨rfl, HB1.out⟩
  rw [if_neg hbig]
  have hsm : n ≤ 2097152 := by omega
  have hnn : (0 : Int) ≤ 1048576 - (n : Int) := by omega
  clear hbig
  have hle : ((popL s H Q).s).length ≤ 2097152 := by rw [popL_len]; have := HN.out; omega
  have qa0 := bxa1.cell 0
  have qa1 := bxa1.cell 1
  have qa2 := bxa1.cell 2
  have lqa := bxa1.lt
  simp only [List.getElem?_cons_zero, List.getElem?_cons_succ] at qa0 qa1 qa2
  have HIA := Lib.hid ia1
  clear ia1
  have HXa := Lib.hid bxa1
  clear bxa1
  go_wp2_with fail
  clear qa0 qa1 qa2 lqa
  have ia1 := HIA.out
  clear HIA
  have bxa1 := HXa.out
  clear HXa
  refine (toDeque_any A s n c H Q _ HN.out hsm ia1).mono ?_
  rintro e w2 ⟨hb2, At, ct, rfl, hlot, hcct, hrt⟩
  have ia2 := ia1.below hb2
  have HB2 := Lib.hid (HB1.out.trans (hb2.mono HB1.out.size))
  have bxa2 := bxa1.below hb2 bxa1.lt
  have z2 := hb2.size
  clear hb2 bxa1 ia1
  have lot := Lib.hid hlot
  have cct := Lib.hid hcct
  have rt2 := hrt
  have ltt := Lib.hid hrt.lt
  clear hlot hcct hrt
  have qa0 := bxa2.cell 0
  have qa1 := bxa2.cell 1
  have qa2 := bxa2.cell 2
  have lqa := bxa2.lt
  simp only [List.getElem?_cons_zero, List.getElem?_cons_succ] at qa0 qa1 qa2
  have HIA := Lib.hid ia2
  clear ia2
  have HRt := Lib.hid rt2
  clear rt2
  have HXa := Lib.hid bxa2
  clear bxa2
  go_wp2_with fail
  clear qa0 qa1 qa2 lqa
  have ia2 := HIA.out
  clear HIA
  have rt2 := HRt.out
  clear HRt
  have bxa2 := HXa.out
  clear HXa
  refine (sPopLast_any At s ct H Q _ (by have := HN.out; omega) rt2.is).mono ?_
  rintro e w3 ⟨hb3, Aw, cw, rfl, hlow, hccw, hrw⟩
  simp only [popV]
  have ia3 := ia2.below hb3
  have HB3 := Lib.hid (HB2.out.trans (hb3.mono HB2.out.size))
  have rt3 := rt2.below hb3
  have bxa3 := bxa2.below hb3 bxa2.lt
  have z3 := hb3.size
  clear hb3 rt2 bxa2 ia2
  have low := Lib.hid hlow
  have ccw := Lib.hid hccw
  have rw3 := hrw
  have ltw := Lib.hid hrw.lt
  clear hlow hccw hrw
  clear rt3
  have qa0 := bxa3.cell 0
  have qa1 := bxa3.cell 1
  have qa2 := bxa3.cell 2
  have lqa := bxa3.lt
  simp only [List.getElem?_cons_zero, List.getElem?_cons_succ] at qa0 qa1 qa2
  have HIA := Lib.hid ia3
  clear ia3
  have HRw := Lib.hid rw3
  clear rw3
  have HXa := Lib.hid bxa3
  clear bxa3
  go_wp2_with fail
  clear qa0 qa1 qa2 lqa
  have ia3 := HIA.out
  clear HIA
  have rw3 := HRw.out
  clear HRw
  have bxa3 := HXa.out
  clear HXa
  have hbA := (Below.refl w3.heap.size w3).alloc (Nat.le_refl _) (.cells #[.slice Aw ((popL s H Q).s).length cw, .int .i64 (popL s H Q).h, .int .i64 (popL s H Q).q] 28)
  have bxw4 := BlkL.new w3 28 [.slice Aw ((popL s H Q).s).length cw, .int .i64 (popL s H Q).h, .int .i64 (popL s H Q).q]
  have ia4 := ia3.below hbA
  have HB4 := Lib.hid (HB3.out.trans (hbA.mono HB3.out.size))
  have rw4 := rw3.below hbA
  have bxa4 := bxa3.below hbA bxa3.lt
  have z4 := hbA.size
  clear hbA rw3 bxa3 ia3
  generalize w3.alloc (.cells #[.slice Aw ((popL s H Q).s).length cw, .int .i64 (popL s H Q).h, .int .i64 (popL s H Q).q] 28) = w4 at *
  have lbw := bxw4.lt
  refine (toDeque_any A s n c H Q _ HN.out hsm ia4).mono ?_
  rintro e w5 ⟨hb5, Ax, cx, rfl, hlox, hccx, hrx⟩
  have ia5 := ia4.below hb5
  have HB5 := Lib.hid (HB4.out.trans (hb5.mono HB4.out.size))
  have rw5 := rw4.below hb5
  have bxa5 := bxa4.below hb5 bxa4.lt
  have bxw5 := bxw4.below hb5 bxw4.lt
  have z5 := hb5.size
  clear hb5 rw4 bxa4 bxw4 ia4
  have lox := Lib.hid hlox
  have ccx := Lib.hid hccx
  have rx5 := hrx
  have ltx := Lib.hid hrx.lt
  clear hlox hccx hrx
  have qa0 := bxa5.cell 0
  have qa1 := bxa5.cell 1
  have qa2 := bxa5.cell 2
  have lqa := bxa5.lt
  have qw0 := bxw5.cell 0
  have qw1 := bxw5.cell 1
  have qw2 := bxw5.cell 2
  have lqw := bxw5.lt
  simp only [List.getElem?_cons_zero, List.getElem?_cons_succ] at qa0 qa1 qa2 qw0 qw1 qw2
  have HIA := Lib.hid ia5
  clear ia5
  have HRw := Lib.hid rw5
  clear rw5
  have HRx := Lib.hid rx5
  clear rx5
  have HXa := Lib.hid bxa5
  clear bxa5
  have HXw := Lib.hid bxw5
  clear bxw5
  go_wp2_with fail
  clear qa0 qa1 qa2 lqa
  clear qw0 qw1 qw2 lqw
  have ia5 := HIA.out
  clear HIA
  have rw5 := HRw.out
  clear HRw
  have rx5 := HRx.out
  clear HRx
  have bxa5 := HXa.out
  clear HXa
  have bxw5 := HXw.out
  clear HXw
  have hbA := (Below.refl w5.heap.size w5).alloc (Nat.le_refl _) (.cells #[.slice Ax s.length cx, .int .i64 H, .int .i64 Q] 28)
  have bxx6 := BlkL.new w5 28 [.slice Ax s.length cx, .int .i64 H, .int .i64 Q]
  have ia6 := ia5.below hbA
  have HB6 := Lib.hid (HB5.out.trans (hbA.mono HB5.out.size))
  have rw6 := rw5.below hbA
  have rx6 := rx5.below hbA
  have bxa6 := bxa5.below hbA bxa5.lt
  have bxw6 := bxw5.below hbA bxw5.lt
  have z6 := hbA.size
  clear hbA rw5 rx5 bxa5 bxw5 ia5
  generalize w5.alloc (.cells #[.slice Ax s.length cx, .int .i64 H, .int .i64 Q] 28) = w6 at *
  have lbx := bxx6.lt
  refine (PopLast_any Ax s cx H Q _ (by have := HN.out; omega) rx6.is).mono ?_
  rintro e w7 ⟨hb7, Ag, cg, rfl, hlog, hccg, hrg⟩
  simp only [popV]
  have ia7 := ia6.below hb7
  have HB7 := Lib.hid (HB6.out.trans (hb7.mono HB6.out.size))
  have rw7 := rw6.below hb7
  have rx7 := rx6.below hb7
  have bxa7 := bxa6.below hb7 bxa6.lt
  have bxw7 := bxw6.below hb7 bxw6.lt
  have bxx7 := bxx6.below hb7 bxx6.lt
  have z7 := hb7.size
  clear hb7 rw6 rx6 bxa6 bxw6 bxx6 ia6
  have log := Lib.hid hlog
  have ccg := Lib.hid hccg
  have rg7 := hrg
  have ltg := Lib.hid hrg.lt
  clear hlog hccg hrg
  have qa0 := bxa7.cell 0
  have qa1 := bxa7.cell 1
  have qa2 := bxa7.cell 2
  have lqa := bxa7.lt
  have qw0 := bxw7.cell 0
  have qw1 := bxw7.cell 1
  have qw2 := bxw7.cell 2
  have lqw := bxw7.lt
  have qx0 := bxx7.cell 0
  have qx1 := bxx7.cell 1
  have qx2 := bxx7.cell 2
  have lqx := bxx7.lt
  simp only [List.getElem?_cons_zero, List.getElem?_cons_succ] at qa0 qa1 qa2 qw0 qw1 qw2 qx0 qx1 qx2
  have HIA := Lib.hid ia7
  clear ia7
  have HRw := Lib.hid rw7
  clear rw7
  have HRx := Lib.hid rx7
  clear rx7
  have HRg := Lib.hid rg7
  clear rg7
  have HXa := Lib.hid bxa7
  clear bxa7
  have HXw := Lib.hid bxw7
  clear bxw7
  have HXx := Lib.hid bxx7
  clear bxx7
  go_wp2_with fail
  clear qa0 qa1 qa2 lqa
  clear qw0 qw1 qw2 lqw
  clear qx0 qx1 qx2 lqx
  have ia7 := HIA.out
  clear HIA
  have rw7 := HRw.out
  clear HRw
  have rx7 := HRx.out
  clear HRx
  have rg7 := HRg.out
  clear HRg
  have bxa7 := HXa.out
  clear HXa
  have bxw7 := HXw.out
  clear HXw
  have bxx7 := HXx.out
  clear HXx
  have hbA := (Below.refl w7.heap.size w7).alloc (Nat.le_refl _) (.cells #[.slice Ag ((popL s H Q).s).length cg, .int .i64 (popL s H Q).h, .int .i64 (popL s H Q).q] 28)
  have bxg8 := BlkL.new w7 28 [.slice Ag ((popL s H Q).s).length cg, .int .i64 (popL s H Q).h, .int .i64 (popL s H Q).q]
  have ia8 := ia7.below hbA
  have HB8 := Lib.hid (HB7.out.trans (hbA.mono HB7.out.size))
  have rw8 := rw7.below hbA
  have rx8 := rx7.below hbA
  have rg8 := rg7.below hbA
  have bxa8 := bxa7.below hbA bxa7.lt
  have bxw8 := bxw7.below hbA bxw7.lt
  have bxx8 := bxx7.below hbA bxx7.lt
  have z8 := hbA.size
  clear hbA rw7 rx7 rg7 bxa7 bxw7 bxx7 ia7
  generalize w7.alloc (.cells #[.slice Ag ((popL s H Q).s).length cg, .int .i64 (popL s H Q).h, .int .i64 (popL s H Q).q] 28) = w8 at *
  have lbg := bxg8.lt
  refine (eqDeque_same Ag Aw ((popL s H Q).s) _ _ _ (popL s H Q).h (popL s H Q).q _ rfl (by omega) rg8.is rw8.is).mono ?_
  rintro e w9 ⟨rfl, hb9⟩
  have ia9 := ia8.below hb9
  have HB9 := Lib.hid (HB8.out.trans (hb9.mono HB8.out.size))
  have rw9 := rw8.below hb9
  have rx9 := rx8.below hb9
  have rg9 := rg8.below hb9
  have bxa9 := bxa8.below hb9 bxa8.lt
  have bxw9 := bxw8.below hb9 bxw8.lt
  have bxx9 := bxx8.below hb9 bxx8.lt
  have bxg9 := bxg8.below hb9 bxg8.lt
  have z9 := hb9.size
  clear hb9 rw8 rx8 rg8 bxa8 bxw8 bxx8 bxg8 ia8
  have qa0 := bxa9.cell 0
  have qa1 := bxa9.cell 1
  have qa2 := bxa9.cell 2
  have lqa := bxa9.lt
  have qw0 := bxw9.cell 0
  have qw1 := bxw9.cell 1
  have qw2 := bxw9.cell 2
  have lqw := bxw9.lt
  have qx0 := bxx9.cell 0
  have qx1 := bxx9.cell 1
  have qx2 := bxx9.cell 2
  have lqx := bxx9.lt
  have qg0 := bxg9.cell 0
  have qg1 := bxg9.cell 1
  have qg2 := bxg9.cell 2
  have lqg := bxg9.lt
  simp only [List.getElem?_cons_zero, List.getElem?_cons_succ] at qa0 qa1 qa2 qw0 qw1 qw2 qx0 qx1 qx2 qg0 qg1 qg2
  have HIA := Lib.hid ia9
  clear ia9
  have HRw := Lib.hid rw9
  clear rw9
  have HRx := Lib.hid rx9
  clear rx9
  have HRg := Lib.hid rg9
  clear rg9
  have HXa := Lib.hid bxa9
  clear bxa9
  have HXw := Lib.hid bxw9
  clear bxw9
  have HXx := Lib.hid bxx9
  clear bxx9
  have HXg := Lib.hid bxg9
  clear bxg9
  go_wp2_with fail
  clear qa0 qa1 qa2 lqa
  clear qw0 qw1 qw2 lqw
  clear qx0 qx1 qx2 lqx
  clear qg0 qg1 qg2 lqg
  have ia9 := HIA.out
  clear HIA
  have rw9 := HRw.out
  clear HRw
  have rx9 := HRx.out
  clear HRx
  have rg9 := HRg.out
  clear HRg
  have bxa9 := HXa.out
  clear HXa
  have bxw9 := HXw.out
  clear HXw
  have bxx9 := HXx.out
  clear HXx
  have bxg9 := HXg.out
  clear HXg
  have qx0 := bxx9.cell 0
  have qx1 := bxx9.cell 1
  have qx2 := bxx9.cell 2
  have qa0 := bxa9.cell 0
  have qa1 := bxa9.cell 1
  have qa2 := bxa9.cell 2
  simp only [List.getElem?_cons_zero, List.getElem?_cons_succ] at qx0 qx1 qx2 qa0 qa1 qa2
  have px0 := Kept.rd qx0
  have px1 := Kept.rd qx1
  have px2 := Kept.rd qx2
  have pa0 := Kept.rd qa0
  have pa1 := Kept.rd qa1
  have pa2 := Kept.rd qa2
  have hne : Nonempty (Kept w9) := ⟨⟨w9, Below.refl _ _⟩⟩
  clear qx0 qx1 qx2
  clear qa0 qa1 qa2
  have HIA := Lib.hid ia9
  clear ia9
  have HRw := Lib.hid rw9
  clear rw9
  have HRx := Lib.hid rx9
  clear rx9
  have HRg := Lib.hid rg9
  clear rg9
  have HXa := Lib.hid bxa9
  clear bxa9
  have HXw := Lib.hid bxw9
  clear bxw9
  have HXx := Lib.hid bxx9
  clear bxx9
  have HXg := Lib.hid bxg9
  clear bxg9
  refine wp_region_chain [true, true, false, false, false] (fun w' => ∃ x : Kept w9, w' = x.W) (by kernel_rfl) (by kernel_rfl) (Kept.start w9) ?_
  simp only [Chain.pickM, List.map_cons, List.map_nil, Bool.not_true, Bool.not_false]
  repeat (go_big_quiet_step (fail))
  refine wpQuiet_nil ?_
  refine chain_step (fun K hK => ?_)
  unfold Chain.mov
  go_simp
  simp only [Chain.movUpon]
  clear px0 px1 px2
  clear pa0 pa1 pa2
  have ia9 := HIA.out
  clear HIA
  have rw9 := HRw.out
  clear HRw
  have rx9 := HRx.out
  clear HRx
  have rg9 := HRg.out
  clear HRg
  have bxa9 := HXa.out
  clear HXa
  have bxw9 := HXw.out
  clear HXw
  have bxx9 := HXx.out
  clear HXx
  have bxg9 := HXg.out
  clear HXg
  refine (toDeque_any A s n c H Q w9.drew HN.out hsm ia9).mono ?_
  rintro e w10 ⟨hb10', Ay, cy, rfl, hloy, hccy, hry⟩
  have hb10 : Below w9.heap.size w9 w10 := (Below.refl _ w9).drew.trans (hb10'.mono (Nat.le_refl _))
  clear hb10'
  have HK10 := Lib.hid hb10
  have ia10 := ia9.below hb10
  have HB10 := Lib.hid (HB9.out.trans (hb10.mono HB9.out.size))
  have rw10 := rw9.below hb10
  have rx10 := rx9.below hb10
  have rg10 := rg9.below hb10
  have bxa10 := bxa9.below hb10 bxa9.lt
  have bxw10 := bxw9.below hb10 bxw9.lt
  have bxx10 := bxx9.below hb10 bxx9.lt
  have bxg10 := bxg9.below hb10 bxg9.lt
  have z10 := hb10.size
  clear hb10 rw9 rx9 rg9 bxa9 bxw9 bxx9 bxg9 ia9
  have loy := Lib.hid hloy
  have ccy := Lib.hid hccy
  have ry10 := hry
  have lty := Lib.hid hry.lt
  clear hloy hccy hry
  refine ⟨_, rfl, hK _ _ ⟨Kept.mk' HK10.out, ?_⟩⟩
  clear hK K
  refine chain_step (fun K hK => ?_)
  unfold Chain.mov
  have HIA := Lib.hid ia10
  clear ia10
  have HRw := Lib.hid rw10
  clear rw10
  have HRx := Lib.hid rx10
  clear rx10
  have HRg := Lib.hid rg10
  clear rg10
  have HRy := Lib.hid ry10
  clear ry10
  have HXa := Lib.hid bxa10
  clear bxa10
  have HXw := Lib.hid bxw10
  clear bxw10
  have HXx := Lib.hid bxx10
  clear bxx10
  have HXg := Lib.hid bxg10
  clear bxg10
  go_simp
  simp only [Chain.movUpon]
  have ia10 := HIA.out
  clear HIA
  have rw10 := HRw.out
  clear HRw
  have rx10 := HRx.out
  clear HRx
  have rg10 := HRg.out
  clear HRg
  have ry10 := HRy.out
  clear HRy
  have bxa10 := HXa.out
  clear HXa
  have bxw10 := HXw.out
  clear HXw
  have bxx10 := HXx.out
  clear HXx
  have bxg10 := HXg.out
  clear HXg
  refine (eqDeque_same Ax Ay s _ _ _ H Q w10 rfl (by have := HN.out; omega) rx10.is ry10.is).mono ?_
  rintro e w11 ⟨rfl, hb11⟩
  have HK11 := Lib.hid (HK10.out.trans (hb11.mono HK10.out.size))
  have ia11 := ia10.below hb11
  have HB11 := Lib.hid (HB10.out.trans (hb11.mono HB10.out.size))
  have rw11 := rw10.below hb11
  have rx11 := rx10.below hb11
  have rg11 := rg10.below hb11
  have ry11 := ry10.below hb11
  have bxa11 := bxa10.below hb11 bxa10.lt
  have bxw11 := bxw10.below hb11 bxw10.lt
  have bxx11 := bxx10.below hb11 bxx10.lt
  have bxg11 := bxg10.below hb11 bxg10.lt
  have z11 := hb11.size
  clear hb11 rw10 rx10 rg10 ry10 bxa10 bxw10 bxx10 bxg10 ia10
  refine ⟨_, rfl, hK _ _ ⟨Kept.mk' HK11.out, ?_⟩⟩
  clear hK K hne HK10 HK11
  unfold Chain.chainW
  clear ry11
  have qa0 := bxa11.cell 0
  have qa1 := bxa11.cell 1
  have qa2 := bxa11.cell 2
  have lqa := bxa11.lt
  have qw0 := bxw11.cell 0
  have qw1 := bxw11.cell 1
  have qw2 := bxw11.cell 2
  have lqw := bxw11.lt
  have qx0 := bxx11.cell 0
  have qx1 := bxx11.cell 1
  have qx2 := bxx11.cell 2
  have lqx := bxx11.lt
  have qg0 := bxg11.cell 0
  have qg1 := bxg11.cell 1
  have qg2 := bxg11.cell 2
  have lqg := bxg11.lt
  simp only [List.getElem?_cons_zero, List.getElem?_cons_succ] at qa0 qa1 qa2 qw0 qw1 qw2 qx0 qx1 qx2 qg0 qg1 qg2
  have HIA := Lib.hid ia11
  clear ia11
  have HRw := Lib.hid rw11
  clear rw11
  have HRx := Lib.hid rx11
  clear rx11
  have HRg := Lib.hid rg11
  clear rg11
  have HXa := Lib.hid bxa11
  clear bxa11
  have HXw := Lib.hid bxw11
  clear bxw11
  have HXx := Lib.hid bxx11
  clear bxx11
  have HXg := Lib.hid bxg11
  clear bxg11
  go_wp2_with fail
  clear qa0 qa1 qa2 lqa
  clear qw0 qw1 qw2 lqw
  clear qx0 qx1 qx2 lqx
  clear qg0 qg1 qg2 lqg
  have ia11 := HIA.out
  clear HIA
  have rw11 := HRw.out
  clear HRw
  have rx11 := HRx.out
  clear HRx
  have rg11 := HRg.out
  clear HRg
  have bxa11 := HXa.out
  clear HXa
  have bxw11 := HXw.out
  clear HXw
  have bxx11 := HXx.out
  clear HXx
  have bxg11 := HXg.out
  clear HXg
  refine (markDeque_any Ax s cx H Q 1 _ (by have := HN.out; omega) (by omega) (by omega) ccx.out rx11).mono ?_
  rintro e w12 ⟨rfl, hmx, hg12⟩
  have ia12 : IA w12 A s := ia11.old hi HB11.out.size hg12 (fun b hb => by have := lox.out b hb; omega)
  have rw12 := rw11.grown hg12 (fun b hb e => by first | (have h1 := ltw.out b hb; have h2 := lox.out b e.symm; omega) | (have h1 := low.out b hb; have h2 := ltx.out b e.symm; omega))
  have rg12 := rg11.grown hg12 (fun b hb e => by first | (have h1 := ltg.out b hb; have h2 := lox.out b e.symm; omega) | (have h1 := log.out b hb; have h2 := ltx.out b e.symm; omega))
  have bxa12 := bxa11.grown hg12 (fun e => by first | (have h2 := lox.out _ e.symm; omega) | (have h2 := ltx.out _ e.symm; omega))
  have bxw12 := bxw11.grown hg12 (fun e => by first | (have h2 := lox.out _ e.symm; omega) | (have h2 := ltx.out _ e.symm; omega))
  have bxx12 := bxx11.grown hg12 (fun e => by first | (have h2 := lox.out _ e.symm; omega) | (have h2 := ltx.out _ e.symm; omega))
  have bxg12 := bxg11.grown hg12 (fun e => by first | (have h2 := lox.out _ e.symm; omega) | (have h2 := ltx.out _ e.symm; omega))
  have rx12 := hmx
  have HB12 := Lib.hid (HB11.out.grown hg12 HB11.out.size (fun b hb => by have := lox.out b hb; omega))
  have z12 := hg12.size
  clear hmx hg12 rw11 rx11 rg11 bxa11 bxw11 bxx11 bxg11 ia11
  clear rx12
  have qa0 := bxa12.cell 0
  have qa1 := bxa12.cell 1
  have qa2 := bxa12.cell 2
  have lqa := bxa12.lt
  have qw0 := bxw12.cell 0
  have qw1 := bxw12.cell 1
  have qw2 := bxw12.cell 2
  have lqw := bxw12.lt
  have qx0 := bxx12.cell 0
  have qx1 := bxx12.cell 1
  have qx2 := bxx12.cell 2
  have lqx := bxx12.lt
  have qg0 := bxg12.cell 0
  have qg1 := bxg12.cell 1
  have qg2 := bxg12.cell 2
  have lqg := bxg12.lt
  simp only [List.getElem?_cons_zero, List.getElem?_cons_succ] at qa0 qa1 qa2 qw0 qw1 qw2 qx0 qx1 qx2 qg0 qg1 qg2
  have HIA := Lib.hid ia12
  clear ia12
  have HRw := Lib.hid rw12
  clear rw12
  have HRg := Lib.hid rg12
  clear rg12
  have HXa := Lib.hid bxa12
  clear bxa12
  have HXw := Lib.hid bxw12
  clear bxw12
  have HXx := Lib.hid bxx12
  clear bxx12
  have HXg := Lib.hid bxg12
  clear bxg12
  go_wp2_with fail
  clear qa0 qa1 qa2 lqa
  clear qw0 qw1 qw2 lqw
  clear qx0 qx1 qx2 lqx
  clear qg0 qg1 qg2 lqg
  have ia12 := HIA.out
  clear HIA
  have rw12 := HRw.out
  clear HRw
  have rg12 := HRg.out
  clear HRg
  have bxa12 := HXa.out
  clear HXa
  have bxw12 := HXw.out
  clear HXw
  have bxx12 := HXx.out
  clear HXx
  have bxg12 := HXg.out
  clear HXg
  refine (eqDeque_same Ag Aw ((popL s H Q).s) _ _ _ (popL s H Q).h (popL s H Q).q _ rfl (by omega) rg12.is rw12.is).mono ?_
  rintro e w13 ⟨rfl, hb13⟩
  have ia13 := ia12.below hb13
  have HB13 := Lib.hid (HB12.out.trans (hb13.mono HB12.out.size))
  have rw13 := rw12.below hb13
  have rg13 := rg12.below hb13
  have bxa13 := bxa12.below hb13 bxa12.lt
  have bxw13 := bxw12.below hb13 bxw12.lt
  have bxx13 := bxx12.below hb13 bxx12.lt
  have bxg13 := bxg12.below hb13 bxg12.lt
  have z13 := hb13.size
  clear hb13 rw12 rg12 bxa12 bxw12 bxx12 bxg12 ia12
  have qa0 := bxa13.cell 0
  have qa1 := bxa13.cell 1
  have qa2 := bxa13.cell 2
  have lqa := bxa13.lt
  have qw0 := bxw13.cell 0
  have qw1 := bxw13.cell 1
  have qw2 := bxw13.cell 2
  have lqw := bxw13.lt
  have qx0 := bxx13.cell 0
  have qx1 := bxx13.cell 1
  have qx2 := bxx13.cell 2
  have lqx := bxx13.lt
  have qg0 := bxg13.cell 0
  have qg1 := bxg13.cell 1
  have qg2 := bxg13.cell 2
  have lqg := bxg13.lt
  simp only [List.getElem?_cons_zero, List.getElem?_cons_succ] at qa0 qa1 qa2 qw0 qw1 qw2 qx0 qx1 qx2 qg0 qg1 qg2
  have HIA := Lib.hid ia13
  clear ia13
  have HRw := Lib.hid rw13
  clear rw13
  have HRg := Lib.hid rg13
  clear rg13
  have HXa := Lib.hid bxa13
  clear bxa13
  have HXw := Lib.hid bxw13
  clear bxw13
  have HXx := Lib.hid bxx13
  clear bxx13
  have HXg := Lib.hid bxg13
  clear bxg13
  go_wp2_with fail
  clear qa0 qa1 qa2 lqa
  clear qw0 qw1 qw2 lqw
  clear qx0 qx1 qx2 lqx
  clear qg0 qg1 qg2 lqg
  have ia13 := HIA.out
  clear HIA
  have rw13 := HRw.out
  clear HRw
  have rg13 := HRg.out
  clear HRg
  have bxa13 := HXa.out
  clear HXa
  have bxw13 := HXw.out
  clear HXw
  have bxx13 := HXx.out
  clear HXx
  have bxg13 := HXg.out
  clear HXg
  refine (markDeque_any Ag ((popL s H Q).s) cg (popL s H Q).h (popL s H Q).q 1 _ (by omega) (by omega) (by omega) ccg.out rg13).mono ?_
  rintro e w14 ⟨rfl, hmg, hg14⟩
  have ia14 : IA w14 A s := ia13.old hi HB13.out.size hg14 (fun b hb => by have := log.out b hb; omega)
  have rw14 := rw13.grown hg14 (fun b hb e => by first | (have h1 := ltw.out b hb; have h2 := log.out b e.symm; omega) | (have h1 := low.out b hb; have h2 := ltg.out b e.symm; omega))
  have bxa14 := bxa13.grown hg14 (fun e => by first | (have h2 := log.out _ e.symm; omega) | (have h2 := ltg.out _ e.symm; omega))
  have bxw14 := bxw13.grown hg14 (fun e => by first | (have h2 := log.out _ e.symm; omega) | (have h2 := ltg.out _ e.symm; omega))
  have bxx14 := bxx13.grown hg14 (fun e => by first | (have h2 := log.out _ e.symm; omega) | (have h2 := ltg.out _ e.symm; omega))
  have bxg14 := bxg13.grown hg14 (fun e => by first | (have h2 := log.out _ e.symm; omega) | (have h2 := ltg.out _ e.symm; omega))
  have rg14 := hmg
  have HB14 := Lib.hid (HB13.out.grown hg14 HB13.out.size (fun b hb => by have := log.out b hb; omega))
  have z14 := hg14.size
  clear hmg hg14 rw13 rg13 bxa13 bxw13 bxx13 bxg13 ia13
  have HU := Lib.hid (show ∀ i, i < ((popL s H Q).s).length → (upTo ((popL s H Q).s) 1 ((popL s H Q).s).length)[i]? = some ((1 : Int) + (i : Int)) from fun i hi => upTo_at _ _ hi hi)
  have qa0 := bxa14.cell 0
  have qa1 := bxa14.cell 1
  have qa2 := bxa14.cell 2
  have lqa := bxa14.lt
  have qw0 := bxw14.cell 0
  have qw1 := bxw14.cell 1
  have qw2 := bxw14.cell 2
  have lqw := bxw14.lt
  have qx0 := bxx14.cell 0
  have qx1 := bxx14.cell 1
  have qx2 := bxx14.cell 2
  have lqx := bxx14.lt
  have qg0 := bxg14.cell 0
  have qg1 := bxg14.cell 1
  have qg2 := bxg14.cell 2
  have lqg := bxg14.lt
  simp only [List.getElem?_cons_zero, List.getElem?_cons_succ] at qa0 qa1 qa2 qw0 qw1 qw2 qx0 qx1 qx2 qg0 qg1 qg2
  have HIA := Lib.hid ia14
  clear ia14
  have HRw := Lib.hid rw14
  clear rw14
  have HRg := Lib.hid rg14
  clear rg14
  have HXa := Lib.hid bxa14
  clear bxa14
  have HXw := Lib.hid bxw14
  clear bxw14
  have HXx := Lib.hid bxx14
  clear bxx14
  have HXg := Lib.hid bxg14
  clear bxg14
  go_wp2_with fail
  clear qa0 qa1 qa2 lqa
  clear qw0 qw1 qw2 lqw
  clear qx0 qx1 qx2 lqx
  clear qg0 qg1 qg2 lqg
  have ia14 := HIA.out
  clear HIA
  have rw14 := HRw.out
  clear HRw
  have rg14 := HRg.out
  clear HRg
  have bxa14 := HXa.out
  clear HXa
  have bxw14 := HXw.out
  clear HXw
  have bxx14 := HXx.out
  clear HXx
  have bxg14 := HXg.out
  clear HXg
  refine (heldDeque_any Ag (upTo ((popL s H Q).s) 1 ((popL s H Q).s).length) _ _ (popL s H Q).h (popL s H Q).q 1 _ (upTo_length _ _ _) (by omega) (by omega) (by omega) rg14.is HU.out).mono ?_
  rintro e w15 ⟨rfl, hb15⟩
  have ia15 := ia14.below hb15
  have HB15 := Lib.hid (HB14.out.trans (hb15.mono HB14.out.size))
  have rw15 := rw14.below hb15
  have rg15 := rg14.below hb15
  have bxa15 := bxa14.below hb15 bxa14.lt
  have bxw15 := bxw14.below hb15 bxw14.lt
  have bxx15 := bxx14.below hb15 bxx14.lt
  have bxg15 := bxg14.below hb15 bxg14.lt
  have z15 := hb15.size
  clear hb15 rw14 rg14 bxa14 bxw14 bxx14 bxg14 ia14
  have qa0 := bxa15.cell 0
  have qa1 := bxa15.cell 1
  have qa2 := bxa15.cell 2
  have lqa := bxa15.lt
  have qw0 := bxw15.cell 0
  have qw1 := bxw15.cell 1
  have qw2 := bxw15.cell 2
  have lqw := bxw15.lt
  have qx0 := bxx15.cell 0
  have qx1 := bxx15.cell 1
  have qx2 := bxx15.cell 2
  have lqx := bxx15.lt
  have qg0 := bxg15.cell 0
  have qg1 := bxg15.cell 1
  have qg2 := bxg15.cell 2
  have lqg := bxg15.lt
  simp only [List.getElem?_cons_zero, List.getElem?_cons_succ] at qa0 qa1 qa2 qw0 qw1 qw2 qx0 qx1 qx2 qg0 qg1 qg2
  have HIA := Lib.hid ia15
  clear ia15
  have HRw := Lib.hid rw15
  clear rw15
  have HRg := Lib.hid rg15
  clear rg15
  have HXa := Lib.hid bxa15
  clear bxa15
  have HXw := Lib.hid bxw15
  clear bxw15
  have HXx := Lib.hid bxx15
  clear bxx15
  have HXg := Lib.hid bxg15
  clear bxg15
  go_wp2_with fail
  clear qa0 qa1 qa2 lqa
  clear qw0 qw1 qw2 lqw
  clear qx0 qx1 qx2 lqx
  clear qg0 qg1 qg2 lqg
  have ia15 := HIA.out
  clear HIA
  have rw15 := HRw.out
  clear HRw
  have rg15 := HRg.out
  clear HRg
  have bxa15 := HXa.out
  clear HXa
  have bxw15 := HXw.out
  clear HXw
  have bxx15 := HXx.out
  clear HXx
  have bxg15 := HXg.out
  clear HXg
  refine (toDeque_any A s n c H Q _ HN.out hsm ia15).mono ?_
  rintro e w16 ⟨hb16, Au, cu, rfl, hlou, hccu, hru⟩
  have ia16 := ia15.below hb16
  have HB16 := Lib.hid (HB15.out.trans (hb16.mono HB15.out.size))
  have rw16 := rw15.below hb16
  have rg16 := rg15.below hb16
  have bxa16 := bxa15.below hb16 bxa15.lt
  have bxw16 := bxw15.below hb16 bxw15.lt
  have bxx16 := bxx15.below hb16 bxx15.lt
  have bxg16 := bxg15.below hb16 bxg15.lt
  have z16 := hb16.size
  clear hb16 rw15 rg15 bxa15 bxw15 bxx15 bxg15 ia15
  have lou := Lib.hid hlou
  have ccu := Lib.hid hccu
  have ru16 := hru
  have ltu := Lib.hid hru.lt
  clear hlou hccu hru
  have qa0 := bxa16.cell 0
  have qa1 := bxa16.cell 1
  have qa2 := bxa16.cell 2
  have lqa := bxa16.lt
  have qw0 := bxw16.cell 0
  have qw1 := bxw16.cell 1
  have qw2 := bxw16.cell 2
  have lqw := bxw16.lt
  have qx0 := bxx16.cell 0
  have qx1 := bxx16.cell 1
  have qx2 := bxx16.cell 2
  have lqx := bxx16.lt
  have qg0 := bxg16.cell 0
  have qg1 := bxg16.cell 1
  have qg2 := bxg16.cell 2
  have lqg := bxg16.lt
  simp only [List.getElem?_cons_zero, List.getElem?_cons_succ] at qa0 qa1 qa2 qw0 qw1 qw2 qx0 qx1 qx2 qg0 qg1 qg2
  have HIA := Lib.hid ia16
  clear ia16
  have HRw := Lib.hid rw16
  clear rw16
  have HRg := Lib.hid rg16
  clear rg16
  have HRu := Lib.hid ru16
  clear ru16
  have HXa := Lib.hid bxa16
  clear bxa16
  have HXw := Lib.hid bxw16
  clear bxw16
  have HXx := Lib.hid bxx16
  clear bxx16
  have HXg := Lib.hid bxg16
  clear bxg16
  go_wp2_with fail
  clear qa0 qa1 qa2 lqa
  clear qw0 qw1 qw2 lqw
  clear qx0 qx1 qx2 lqx
  clear qg0 qg1 qg2 lqg
  have ia16 := HIA.out
  clear HIA
  have rw16 := HRw.out
  clear HRw
  have rg16 := HRg.out
  clear HRg
  have ru16 := HRu.out
  clear HRu
  have bxa16 := HXa.out
  clear HXa
  have bxw16 := HXw.out
  clear HXw
  have bxx16 := HXx.out
  clear HXx
  have bxg16 := HXg.out
  clear HXg
  refine (PopLast_any Au s cu H Q _ (by have := HN.out; omega) ru16.is).mono ?_
  rintro e w17 ⟨hb17, Ah, ch, rfl, hloh, hcch, hrh⟩
  simp only [popV]
  have ia17 := ia16.below hb17
  have HB17 := Lib.hid (HB16.out.trans (hb17.mono HB16.out.size))
  have rw17 := rw16.below hb17
  have rg17 := rg16.below hb17
  have ru17 := ru16.below hb17
  have bxa17 := bxa16.below hb17 bxa16.lt
  have bxw17 := bxw16.below hb17 bxw16.lt
  have bxx17 := bxx16.below hb17 bxx16.lt
  have bxg17 := bxg16.below hb17 bxg16.lt
  have z17 := hb17.size
  clear hb17 rw16 rg16 ru16 bxa16 bxw16 bxx16 bxg16 ia16
  have loh := Lib.hid hloh
  have cch := Lib.hid hcch
  have rh17 := hrh
  have lth := Lib.hid hrh.lt
  clear hloh hcch hrh
  clear ru17
  have qa0 := bxa17.cell 0
  have qa1 := bxa17.cell 1
  have qa2 := bxa17.cell 2
  have lqa := bxa17.lt
  have qw0 := bxw17.cell 0
  have qw1 := bxw17.cell 1
  have qw2 := bxw17.cell 2
  have lqw := bxw17.lt
  have qx0 := bxx17.cell 0
  have qx1 := bxx17.cell 1
  have qx2 := bxx17.cell 2
  have lqx := bxx17.lt
  have qg0 := bxg17.cell 0
  have qg1 := bxg17.cell 1
  have qg2 := bxg17.cell 2
  have lqg := bxg17.lt
  simp only [List.getElem?_cons_zero, List.getElem?_cons_succ] at qa0 qa1 qa2 qw0 qw1 qw2 qx0 qx1 qx2 qg0 qg1 qg2
  have HIA := Lib.hid ia17
  clear ia17
  have HRw := Lib.hid rw17
  clear rw17
  have HRg := Lib.hid rg17
  clear rg17
  have HRh := Lib.hid rh17
  clear rh17
  have HXa := Lib.hid bxa17
  clear bxa17
  have HXw := Lib.hid bxw17
  clear bxw17
  have HXx := Lib.hid bxx17
  clear bxx17
  have HXg := Lib.hid bxg17
  clear bxg17
  go_wp2_with fail
  clear qa0 qa1 qa2 lqa
  clear qw0 qw1 qw2 lqw
  clear qx0 qx1 qx2 lqx
  clear qg0 qg1 qg2 lqg
  have ia17 := HIA.out
  clear HIA
  have rw17 := HRw.out
  clear HRw
  have rg17 := HRg.out
  clear HRg
  have rh17 := HRh.out
  clear HRh
  have bxa17 := HXa.out
  clear HXa
  have bxw17 := HXw.out
  clear HXw
  have bxx17 := HXx.out
  clear HXx
  have bxg17 := HXg.out
  clear HXg
  have hbA := (Below.refl w17.heap.size w17).alloc (Nat.le_refl _) (.cells #[.slice Ah ((popL s H Q).s).length ch, .int .i64 (popL s H Q).h, .int .i64 (popL s H Q).q] 28)
  have bxh18 := BlkL.new w17 28 [.slice Ah ((popL s H Q).s).length ch, .int .i64 (popL s H Q).h, .int .i64 (popL s H Q).q]
  have ia18 := ia17.below hbA
  have HB18 := Lib.hid (HB17.out.trans (hbA.mono HB17.out.size))
  have rw18 := rw17.below hbA
  have rg18 := rg17.below hbA
  have rh18 := rh17.below hbA
  have bxa18 := bxa17.below hbA bxa17.lt
  have bxw18 := bxw17.below hbA bxw17.lt
  have bxx18 := bxx17.below hbA bxx17.lt
  have bxg18 := bxg17.below hbA bxg17.lt
  have z18 := hbA.size
  clear hbA rw17 rg17 rh17 bxa17 bxw17 bxx17 bxg17 ia17
  generalize w17.alloc (.cells #[.slice Ah ((popL s H Q).s).length ch, .int .i64 (popL s H Q).h, .int .i64 (popL s H Q).q] 28) = w18 at *
  have lbh := bxh18.lt
  refine (eqDeque_same Ah Aw ((popL s H Q).s) _ _ _ (popL s H Q).h (popL s H Q).q _ rfl (by omega) rh18.is rw18.is).mono ?_
  rintro e w19 ⟨rfl, hb19⟩
  have ia19 := ia18.below hb19
  have HB19 := Lib.hid (HB18.out.trans (hb19.mono HB18.out.size))
  have rw19 := rw18.below hb19
  have rg19 := rg18.below hb19
  have rh19 := rh18.below hb19
  have bxa19 := bxa18.below hb19 bxa18.lt
  have bxw19 := bxw18.below hb19 bxw18.lt
  have bxx19 := bxx18.below hb19 bxx18.lt
  have bxg19 := bxg18.below hb19 bxg18.lt
  have bxh19 := bxh18.below hb19 bxh18.lt
  have z19 := hb19.size
  clear hb19 rw18 rg18 rh18 bxa18 bxw18 bxx18 bxg18 bxh18 ia18
  have qa0 := bxa19.cell 0
  have qa1 := bxa19.cell 1
  have qa2 := bxa19.cell 2
  have lqa := bxa19.lt
  have qw0 := bxw19.cell 0
  have qw1 := bxw19.cell 1
  have qw2 := bxw19.cell 2
  have lqw := bxw19.lt
  have qx0 := bxx19.cell 0
  have qx1 := bxx19.cell 1
  have qx2 := bxx19.cell 2
  have lqx := bxx19.lt
  have qg0 := bxg19.cell 0
  have qg1 := bxg19.cell 1
  have qg2 := bxg19.cell 2
  have lqg := bxg19.lt
  have qh0 := bxh19.cell 0
  have qh1 := bxh19.cell 1
  have qh2 := bxh19.cell 2
  have lqh := bxh19.lt
  simp only [List.getElem?_cons_zero, List.getElem?_cons_succ] at qa0 qa1 qa2 qw0 qw1 qw2 qx0 qx1 qx2 qg0 qg1 qg2 qh0 qh1 qh2
  have HIA := Lib.hid ia19
  clear ia19
  have HRw := Lib.hid rw19
  clear rw19
  have HRg := Lib.hid rg19
  clear rg19
  have HRh := Lib.hid rh19
  clear rh19
  have HXa := Lib.hid bxa19
  clear bxa19
  have HXw := Lib.hid bxw19
  clear bxw19
  have HXx := Lib.hid bxx19
  clear bxx19
  have HXg := Lib.hid bxg19
  clear bxg19
  have HXh := Lib.hid bxh19
  clear bxh19
  go_wp2_with fail
  clear qa0 qa1 qa2 lqa
  clear qw0 qw1 qw2 lqw
  clear qx0 qx1 qx2 lqx
  clear qg0 qg1 qg2 lqg
  clear qh0 qh1 qh2 lqh
  have ia19 := HIA.out
  clear HIA
  have rw19 := HRw.out
  clear HRw
  have rg19 := HRg.out
  clear HRg
  have rh19 := HRh.out
  clear HRh
  have bxa19 := HXa.out
  clear HXa
  have bxw19 := HXw.out
  clear HXw
  have bxx19 := HXx.out
  clear HXx
  have bxg19 := HXg.out
  clear HXg
  have bxh19 := HXh.out
  clear HXh
  refine (heldDeque_any Ag (upTo ((popL s H Q).s) 1 ((popL s H Q).s).length) _ _ (popL s H Q).h (popL s H Q).q 1 _ (upTo_length _ _ _) (by omega) (by omega) (by omega) rg19.is HU.out).mono ?_
  rintro e w20 ⟨rfl, hb20⟩
  have ia20 := ia19.below hb20
  have HB20 := Lib.hid (HB19.out.trans (hb20.mono HB19.out.size))
  have rw20 := rw19.below hb20
  have rg20 := rg19.below hb20
  have rh20 := rh19.below hb20
  have bxa20 := bxa19.below hb20 bxa19.lt
  have bxw20 := bxw19.below hb20 bxw19.lt
  have bxx20 := bxx19.below hb20 bxx19.lt
  have bxg20 := bxg19.below hb20 bxg19.lt
  have bxh20 := bxh19.below hb20 bxh19.lt
  have z20 := hb20.size
  clear hb20 rw19 rg19 rh19 bxa19 bxw19 bxx19 bxg19 bxh19 ia19
  have qa0 := bxa20.cell 0
  have qa1 := bxa20.cell 1
  have qa2 := bxa20.cell 2
  have lqa := bxa20.lt
  have qw0 := bxw20.cell 0
  have qw1 := bxw20.cell 1
  have qw2 := bxw20.cell 2
  have lqw := bxw20.lt
  have qx0 := bxx20.cell 0
  have qx1 := bxx20.cell 1
  have qx2 := bxx20.cell 2
  have lqx := bxx20.lt
  have qg0 := bxg20.cell 0
  have qg1 := bxg20.cell 1
  have qg2 := bxg20.cell 2
  have lqg := bxg20.lt
  have qh0 := bxh20.cell 0
  have qh1 := bxh20.cell 1
  have qh2 := bxh20.cell 2
  have lqh := bxh20.lt
  simp only [List.getElem?_cons_zero, List.getElem?_cons_succ] at qa0 qa1 qa2 qw0 qw1 qw2 qx0 qx1 qx2 qg0 qg1 qg2 qh0 qh1 qh2
  have HIA := Lib.hid ia20
  clear ia20
  have HRw := Lib.hid rw20
  clear rw20
  have HRg := Lib.hid rg20
  clear rg20
  have HRh := Lib.hid rh20
  clear rh20
  have HXa := Lib.hid bxa20
  clear bxa20
  have HXw := Lib.hid bxw20
  clear bxw20
  have HXx := Lib.hid bxx20
  clear bxx20
  have HXg := Lib.hid bxg20
  clear bxg20
  have HXh := Lib.hid bxh20
  clear bxh20
  go_wp2
  clear qa0 qa1 qa2 lqa
  clear qw0 qw1 qw2 lqw
  clear qx0 qx1 qx2 lqx
  clear qg0 qg1 qg2 lqg
  clear qh0 qh1 qh2 lqh
  have ia20 := HIA.out
  clear HIA
  have rw20 := HRw.out
  clear HRw
  have rg20 := HRg.out
  clear HRg
  have rh20 := HRh.out
  clear HRh
  have bxa20 := HXa.out
  clear HXa
  have bxw20 := HXw.out
  clear HXw
  have bxx20 := HXx.out
  clear HXx
  have bxg20 := HXg.out
  clear HXg
  have bxh20 := HXh.out
  clear HXh
  go_ret
  exact ⟨rfl, HB20.out⟩

set_option maxRecDepth 100000 in
theorem lifted (os : Os) (started : os.Started) (H : Type) (enc : TypeId × Value → H) :
    ReturnsInHanded {} Try.checked os 9 .any (Rows.fnExactPopLastSpec.pre6 enc Try.prog Try.f9 Rows.fnExactPopLastRow.domain false) (Rows.fnExactPopLastSpec.post enc Try.prog Try.f9 false true false false) := by
  refine returnsInHanded_of_change (C := Try.checked) own started (by kernel_rfl) Try.func9
    (ChangeSpec.witness6 (enc := enc) (C := Try.checked) false ⟨#[], #[.agg #[.slice none 0 0, .int .i64 0, .int .i64 0]], []⟩ 8 (by kernel_rfl) (by kernel_rfl) (by kernel_rfl) (by kernel_rfl)) ?_
  intro W base args ds gs before hval0 hW _ _
  have hval : ∀ (j : Nat) t v, Try.f9.params[j]? = some t → args[j]? = some v → Value.okWide Try.prog W .any base t v := hval0
  have hW' := hW
  obtain ⟨p, q, hA0, hV, rfl, _, _⟩ := hW
  have hA : DataW.TrodAll enc Try.prog W 0 (fun _ => true) true Try.f9.params.toList args.toList ds p := hA0
  rw [Try.params9] at hA hval
  obtain ⟨v0, vs0, d0, ds0, p0, q0, hargs0, rfl, rfl, h0, r0⟩ := trodAll_cons hA
  obtain ⟨rfl, rfl, rfl⟩ := trodAll_nil r0
  obtain rfl : args = #[v0] := by cases args; simp_all
  obtain ⟨rfl, rfl⟩ := trodVars_none hV
  have z0 := h0
  have lt0 : ∀ x ∈ p0, x.block < W.heap.size := by obtain ⟨m, hm⟩ := z0; exact DataW.trod_lt m _ _ _ hm
  obtain ⟨A0, n0, c0, s0, hd0, ct0, rfl, hl0, hn0, hi0, hw0, wh0, wc0⟩ := open_deque (hval 0 36 v0 rfl rfl) h0
  clear hA0 hval0
  refine (law A0 s0 n0 c0 hd0 ct0 W hl0 hn0 hi0 hw0 wh0 wc0).mono fun e W' ⟨he, bel⟩ => ?_
  subst he
  exact ⟨_, rfl, _, _, _, [], _, [], hW', trodAll_mk1 (shut_bool Try.underlying4 _), (trodAll_cons_mk (Below.trod laidOut (by kernel_rfl) (of_decide_eq_true (by kernel_rfl)) z0 bel lt0) trodAll_mk0), rfl, bel.frame _, (fun h => by cases h)⟩

theorem over : Rows.fnExactPopLastRow.holds Try.pinned (OpenSpec.ofChange Rows.fnExactPopLastSpec) :=
  OpenClaim.holds_of_wide 9 Try.f9 rfl rfl rfl rfl rfl rfl rfl ⟨rfl, rfl, rfl, rfl, rfl⟩ rfl rfl rfl rfl rfl (by kernel_rfl) Try.func9 (by kernel_rfl)
    (of_decide_eq_true (by kernel_rfl)) (by unfold Func.isWrapper; first | (rw [if_pos (by decide +kernel)]; kernel_rfl) | (rw [if_neg (by decide +kernel)]; exact ⟨rfl, rfl⟩))
    (fun os started H enc _ => lifted os started H enc)

theorem proved : Rows.FnExactPopLastSaid := over
#print axioms proved
end Go.Proofs.Ytkpkchlbljlbnaa.fnExactPopLast
