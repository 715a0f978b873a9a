/-
  The law FnExactHeldAt returns true at every argument: HeldAt answers as its model does and writes into no argument.
  Conditions: none beyond the row's own; whatever the arguments.
-/
import Derived.Test.YtkpkchlbljlbnaaArd
import Derived.Test.YtkpkchlbljlbnaaDqh
namespace Go.Proofs.Ytkpkchlbljlbnaa.fnExactHeldAt
open Go.ChangeShapes Go.WideShapes Go.ChangeAt Go.RowKit Go.Joins
set_option linter.unusedVariables false

set_option maxHeartbeats 4000000 in
set_option maxRecDepth 100000 in
theorem law (A : Option Addr) (s : List Int) (n c : Nat) (H Q : Int) (K : Int) (w : World) (hn : s.length = n) (hm : n ≤ maxLen) (hi : IA w A s) (hw : ∀ x ∈ s, (Lit.int .i64 x).wf = true) (wh : (Lit.int .i64 H).wf = true) (wc : (Lit.int .i64 Q).wf = true) (wk : (Lit.int .i64 K).wf = true) :
    Calls Try.prog 10 #[.agg #[.slice A n c, .int .i64 H, .int .i64 Q], .int .i64 K] w fun e w' => e = .returned (.bool true) ∧ Below w.heap.size w w' := by
  have HN := Lib.hid hn
  have HW := Lib.hid hw
  clear hn hw
  go_enter Try.func10, Try.ntmps10
  go_wp2_with fail
  have bxa0 := BlkL.new w 36 [.slice A n c, .int .i64 H, .int .i64 Q]
  have hb0 := (Below.refl w.heap.size w).alloc (Nat.le_refl _) (.cells #[.slice A n c, .int .i64 H, .int .i64 Q] 36)
  generalize w.alloc (.cells #[.slice A n c, .int .i64 H, .int .i64 Q] 36) = w0 at *
  have lba := bxa0.lt
  refine (szDeque_any A n c H Q 1048576 w0 hm (by omega) (by omega)).mono ?_
  rintro e w1 ⟨rfl, hb1⟩
  have HB1 := Lib.hid (hb0.trans (hb1.mono hb0.size))
  have z1 := hb1.size
  have ia1 := hi.below HB1.out
  have bxa1 := bxa0.below hb1 bxa0.lt
  clear hb1 hb0 bxa0
  by_cases hbig : (1048576 : Int) < (n : Int)
  · rw [if_pos hbig]
    go_wp2
    go_ret
    exact ⟨rfl, HB1.out⟩
  rw [if_neg hbig]
  have hsm : n ≤ 2097152 := by omega
  have hnn : (0 : Int) ≤ 1048576 - (n : Int) := by omega
  clear hbig
  have qa0 := bxa1.cell 0
  have qa1 := bxa1.cell 1
  have qa2 := bxa1.cell 2
  have lqa := bxa1.lt
  simp only [List.getElem?_cons_zero, List.getElem?_cons_succ] at qa0 qa1 qa2
  have HIA := Lib.hid ia1
  clear ia1
  have HXa := Lib.hid bxa1
  clear bxa1
  go_wp2_with fail
  clear qa0 qa1 qa2 lqa
  have ia1 := HIA.out
  clear HIA
  have bxa1 := HXa.out
  clear HXa
  refine (toDeque_any A s n c H Q _ HN.out hsm ia1).mono ?_
  rintro e w2 ⟨hb2, At, ct, rfl, hlot, hcct, hrt⟩
  have ia2 := ia1.below hb2
  have HB2 := Lib.hid (HB1.out.trans (hb2.mono HB1.out.size))
  have bxa2 := bxa1.below hb2 bxa1.lt
  have z2 := hb2.size
  clear hb2 bxa1 ia1
  have lot := Lib.hid hlot
  have cct := Lib.hid hcct
  have rt2 := hrt
  have ltt := Lib.hid hrt.lt
  clear hlot hcct hrt
  have qa0 := bxa2.cell 0
  have qa1 := bxa2.cell 1
  have qa2 := bxa2.cell 2
  have lqa := bxa2.lt
  simp only [List.getElem?_cons_zero, List.getElem?_cons_succ] at qa0 qa1 qa2
  have HIA := Lib.hid ia2
  clear ia2
  have HRt := Lib.hid rt2
  clear rt2
  have HXa := Lib.hid bxa2
  clear bxa2
  go_wp2_with fail
  clear qa0 qa1 qa2 lqa
  have ia2 := HIA.out
  clear HIA
  have rt2 := HRt.out
  clear HRt
  have bxa2 := HXa.out
  clear HXa
  refine (sHeldAt_any At s ct H Q K _ (by have := HN.out; omega) rt2.is wc).mono ?_
  rintro e w3 ⟨rfl, hb3⟩
  have ia3 := ia2.below hb3
  have HB3 := Lib.hid (HB2.out.trans (hb3.mono HB2.out.size))
  have rt3 := rt2.below hb3
  have bxa3 := bxa2.below hb3 bxa2.lt
  have z3 := hb3.size
  clear hb3 rt2 bxa2 ia2
  clear rt3
  have qa0 := bxa3.cell 0
  have qa1 := bxa3.cell 1
  have qa2 := bxa3.cell 2
  have lqa := bxa3.lt
  simp only [List.getElem?_cons_zero, List.getElem?_cons_succ] at qa0 qa1 qa2
  have HIA := Lib.hid ia3
  clear ia3
  have HXa := Lib.hid bxa3
  clear bxa3
  go_wp2_with fail
  clear qa0 qa1 qa2 lqa
  have ia3 := HIA.out
  clear HIA
  have bxa3 := HXa.out
  clear HXa
  refine (toDeque_any A s n c H Q _ HN.out hsm ia3).mono ?_
  rintro e w4 ⟨hb4, Ax, cx, rfl, hlox, hccx, hrx⟩
  have ia4 := ia3.below hb4
  have HB4 := Lib.hid (HB3.out.trans (hb4.mono HB3.out.size))
  have bxa4 := bxa3.below hb4 bxa3.lt
  have z4 := hb4.size
  clear hb4 bxa3 ia3
  have lox := Lib.hid hlox
  have ccx := Lib.hid hccx
  have rx4 := hrx
  have ltx := Lib.hid hrx.lt
  clear hlox hccx hrx
  have qa0 := bxa4.cell 0
  have qa1 := bxa4.cell 1
  have qa2 := bxa4.cell 2
  have lqa := bxa4.lt
  simp only [List.getElem?_cons_zero, List.getElem?_cons_succ] at qa0 qa1 qa2
  have HIA := Lib.hid ia4
  clear ia4
  have HRx := Lib.hid rx4
  clear rx4
  have HXa := Lib.hid bxa4
  clear bxa4
  go_wp2_with fail
  clear qa0 qa1 qa2 lqa
  have ia4 := HIA.out
  clear HIA
  have rx4 := HRx.out
  clear HRx
  have bxa4 := HXa.out
  clear HXa
  have hbA := (Below.refl w4.heap.size w4).alloc (Nat.le_refl _) (.cells #[.slice Ax s.length cx, .int .i64 H, .int .i64 Q] 28)
  have bxx5 := BlkL.new w4 28 [.slice Ax s.length cx, .int .i64 H, .int .i64 Q]
  have ia5 := ia4.below hbA
  have HB5 := Lib.hid (HB4.out.trans (hbA.mono HB4.out.size))
  have rx5 := rx4.below hbA
  have bxa5 := bxa4.below hbA bxa4.lt
  have z5 := hbA.size
  clear hbA rx4 bxa4 ia4
  generalize w4.alloc (.cells #[.slice Ax s.length cx, .int .i64 H, .int .i64 Q] 28) = w5 at *
  have lbx := bxx5.lt
  refine (HeldAt_any Ax s cx H Q K _ (by have := HN.out; omega) rx5.is).mono ?_
  rintro e w6 ⟨rfl, hb6⟩
  have ia6 := ia5.below hb6
  have HB6 := Lib.hid (HB5.out.trans (hb6.mono HB5.out.size))
  have rx6 := rx5.below hb6
  have bxa6 := bxa5.below hb6 bxa5.lt
  have bxx6 := bxx5.below hb6 bxx5.lt
  have z6 := hb6.size
  clear hb6 rx5 bxa5 bxx5 ia5
  have qa0 := bxa6.cell 0
  have qa1 := bxa6.cell 1
  have qa2 := bxa6.cell 2
  have lqa := bxa6.lt
  have qx0 := bxx6.cell 0
  have qx1 := bxx6.cell 1
  have qx2 := bxx6.cell 2
  have lqx := bxx6.lt
  simp only [List.getElem?_cons_zero, List.getElem?_cons_succ] at qa0 qa1 qa2 qx0 qx1 qx2
  have HIA := Lib.hid ia6
  clear ia6
  have HRx := Lib.hid rx6
  clear rx6
  have HXa := Lib.hid bxa6
  clear bxa6
  have HXx := Lib.hid bxx6
  clear bxx6
  go_wp2_with fail
  clear qa0 qa1 qa2 lqa
  clear qx0 qx1 qx2 lqx
  have ia6 := HIA.out
  clear HIA
  have rx6 := HRx.out
  clear HRx
  have bxa6 := HXa.out
  clear HXa
  have bxx6 := HXx.out
  clear HXx
  have qx0 := bxx6.cell 0
  have qx1 := bxx6.cell 1
  have qx2 := bxx6.cell 2
  have qa0 := bxa6.cell 0
  have qa1 := bxa6.cell 1
  have qa2 := bxa6.cell 2
  simp only [List.getElem?_cons_zero, List.getElem?_cons_succ] at qx0 qx1 qx2 qa0 qa1 qa2
  have px0 := Kept.rd qx0
  have px1 := Kept.rd qx1
  have px2 := Kept.rd qx2
  have pa0 := Kept.rd qa0
  have pa1 := Kept.rd qa1
  have pa2 := Kept.rd qa2
  have hne : Nonempty (Kept w6) := ⟨⟨w6, Below.refl _ _⟩⟩
  clear qx0 qx1 qx2
  clear qa0 qa1 qa2
  have HIA := Lib.hid ia6
  clear ia6
  have HRx := Lib.hid rx6
  clear rx6
  have HXa := Lib.hid bxa6
  clear bxa6
  have HXx := Lib.hid bxx6
  clear bxx6
  refine wp_region_chain [true, true, false, false, false] (fun w' => ∃ x : Kept w6, w' = x.W) (by kernel_rfl) (by kernel_rfl) (Kept.start w6) ?_
  simp only [Chain.pickM, List.map_cons, List.map_nil, Bool.not_true, Bool.not_false]
  repeat (go_big_quiet_step (fail))
  refine wpQuiet_nil ?_
  refine chain_step (fun K hK => ?_)
  unfold Chain.mov
  go_simp
  simp only [Chain.movUpon]
  clear px0 px1 px2
  clear pa0 pa1 pa2
  have ia6 := HIA.out
  clear HIA
  have rx6 := HRx.out
  clear HRx
  have bxa6 := HXa.out
  clear HXa
  have bxx6 := HXx.out
  clear HXx
  refine (toDeque_any A s n c H Q w6.drew HN.out hsm ia6).mono ?_
  rintro e w7 ⟨hb7', Ay, cy, rfl, hloy, hccy, hry⟩
  have hb7 : Below w6.heap.size w6 w7 := (Below.refl _ w6).drew.trans (hb7'.mono (Nat.le_refl _))
  clear hb7'
  have HK7 := Lib.hid hb7
  have ia7 := ia6.below hb7
  have HB7 := Lib.hid (HB6.out.trans (hb7.mono HB6.out.size))
  have rx7 := rx6.below hb7
  have bxa7 := bxa6.below hb7 bxa6.lt
  have bxx7 := bxx6.below hb7 bxx6.lt
  have z7 := hb7.size
  clear hb7 rx6 bxa6 bxx6 ia6
  have loy := Lib.hid hloy
  have ccy := Lib.hid hccy
  have ry7 := hry
  have lty := Lib.hid hry.lt
  clear hloy hccy hry
  refine ⟨_, rfl, hK _ _ ⟨Kept.mk' HK7.out, ?_⟩⟩
  clear hK K
  refine chain_step (fun K hK => ?_)
  unfold Chain.mov
  have HIA := Lib.hid ia7
  clear ia7
  have HRx := Lib.hid rx7
  clear rx7
  have HRy := Lib.hid ry7
  clear ry7
  have HXa := Lib.hid bxa7
  clear bxa7
  have HXx := Lib.hid bxx7
  clear bxx7
  go_simp
  simp only [Chain.movUpon]
  have ia7 := HIA.out
  clear HIA
  have rx7 := HRx.out
  clear HRx
  have ry7 := HRy.out
  clear HRy
  have bxa7 := HXa.out
  clear HXa
  have bxx7 := HXx.out
  clear HXx
  refine (eqDeque_same Ax Ay s _ _ _ H Q w7 rfl (by have := HN.out; omega) rx7.is ry7.is).mono ?_
  rintro e w8 ⟨rfl, hb8⟩
  have HK8 := Lib.hid (HK7.out.trans (hb8.mono HK7.out.size))
  have ia8 := ia7.below hb8
  have HB8 := Lib.hid (HB7.out.trans (hb8.mono HB7.out.size))
  have rx8 := rx7.below hb8
  have ry8 := ry7.below hb8
  have bxa8 := bxa7.below hb8 bxa7.lt
  have bxx8 := bxx7.below hb8 bxx7.lt
  have z8 := hb8.size
  clear hb8 rx7 ry7 bxa7 bxx7 ia7
  refine ⟨_, rfl, hK _ _ ⟨Kept.mk' HK8.out, ?_⟩⟩
  clear hK K hne HK7 HK8
  unfold Chain.chainW
  clear ry8
  have qa0 := bxa8.cell 0
  have qa1 := bxa8.cell 1
  have qa2 := bxa8.cell 2
  have lqa := bxa8.lt
  have qx0 := bxx8.cell 0
  have qx1 := bxx8.cell 1
  have qx2 := bxx8.cell 2
  have lqx := bxx8.lt
  simp only [List.getElem?_cons_zero, List.getElem?_cons_succ] at qa0 qa1 qa2 qx0 qx1 qx2
  have HIA := Lib.hid ia8
  clear ia8
  have HRx := Lib.hid rx8
  clear rx8
  have HXa := Lib.hid bxa8
  clear bxa8
  have HXx := Lib.hid bxx8
  clear bxx8
  go_wp2
  clear qa0 qa1 qa2 lqa
  clear qx0 qx1 qx2 lqx
  have ia8 := HIA.out
  clear HIA
  have rx8 := HRx.out
  clear HRx
  have bxa8 := HXa.out
  clear HXa
  have bxx8 := HXx.out
  clear HXx
  go_ret
  exact ⟨rfl, HB8.out⟩

set_option maxRecDepth 100000 in
theorem lifted (os : Os) (started : os.Started) (H : Type) (enc : TypeId × Value → H) :
    ReturnsInHanded {} Try.checked os 10 .any (Rows.fnExactHeldAtSpec.pre6 enc Try.prog Try.f10 Rows.fnExactHeldAtRow.domain false) (Rows.fnExactHeldAtSpec.post enc Try.prog Try.f10 false true false false) := by
  refine returnsInHanded_of_change (C := Try.checked) own started (by kernel_rfl) Try.func10
    (ChangeSpec.witness6 (enc := enc) (C := Try.checked) false ⟨#[], #[.agg #[.slice none 0 0, .int .i64 0, .int .i64 0], .int .i64 0], []⟩ 8 (by kernel_rfl) (by kernel_rfl) (by kernel_rfl) (by kernel_rfl)) ?_
  intro W base args ds gs before hval0 hW _ _
  have hval : ∀ (j : Nat) t v, Try.f10.params[j]? = some t → args[j]? = some v → Value.okWide Try.prog W .any base t v := hval0
  have hW' := hW
  obtain ⟨p, q, hA0, hV, rfl, _, _⟩ := hW
  have hA : DataW.TrodAll enc Try.prog W 0 (fun _ => true) true Try.f10.params.toList args.toList ds p := hA0
  rw [Try.params10] at hA hval
  obtain ⟨v0, vs0, d0, ds0, p0, q0, hargs0, rfl, rfl, h0, r0⟩ := trodAll_cons hA
  obtain ⟨v1, vs1, d1, ds1, p1, q1, hargs1, rfl, rfl, h1, r1⟩ := trodAll_cons r0
  obtain ⟨rfl, rfl, rfl⟩ := trodAll_nil r1
  obtain rfl : args = #[v0, v1] := by cases args; simp_all
  obtain ⟨rfl, rfl⟩ := trodVars_none hV
  have z0 := h0
  have lt0 : ∀ x ∈ p0, x.block < W.heap.size := by obtain ⟨m, hm⟩ := z0; exact DataW.trod_lt m _ _ _ hm
  have z1 := h1
  have lt1 : ∀ x ∈ p1, x.block < W.heap.size := by obtain ⟨m, hm⟩ := z1; exact DataW.trod_lt m _ _ _ hm
  obtain ⟨A0, n0, c0, s0, hd0, ct0, rfl, hl0, hn0, hi0, hw0, wh0, wc0⟩ := open_deque (hval 0 36 v0 rfl rfl) h0
  obtain ⟨x1, rfl⟩ := okWide_int Try.underlying3 (hval 1 3 v1 rfl rfl)
  have wx1 : (Lit.int .i64 x1).wf = true := by obtain ⟨m, hm⟩ := h1; obtain ⟨n', e, _, wf⟩ := DataW.trod_int Try.underlying3 hm; simp [Value.cells] at e; subst e; exact wf
  clear hA0 hval0
  refine (law A0 s0 n0 c0 hd0 ct0 x1 W hl0 hn0 hi0 hw0 wh0 wc0 wx1).mono fun e W' ⟨he, bel⟩ => ?_
  subst he
  exact ⟨_, rfl, _, _, _, [], _, [], hW', trodAll_mk1 (shut_bool Try.underlying4 _), (trodAll_cons_mk (Below.trod laidOut (by kernel_rfl) (of_decide_eq_true (by kernel_rfl)) z0 bel lt0) (trodAll_cons_mk (Below.trod laidOut (by kernel_rfl) (of_decide_eq_true (by kernel_rfl)) z1 bel lt1) trodAll_mk0)), rfl, bel.frame _, (fun h => by cases h)⟩

theorem over : Rows.fnExactHeldAtRow.holds Try.pinned (OpenSpec.ofChange Rows.fnExactHeldAtSpec) :=
  OpenClaim.holds_of_wide 10 Try.f10 rfl rfl rfl rfl rfl rfl rfl ⟨rfl, rfl, rfl, rfl, rfl⟩ rfl rfl rfl rfl rfl (by kernel_rfl) Try.func10 (by kernel_rfl)
    (of_decide_eq_true (by kernel_rfl)) (by unfold Func.isWrapper; first | (rw [if_pos (by decide +kernel)]; kernel_rfl) | (rw [if_neg (by decide +kernel)]; exact ⟨rfl, rfl⟩))
    (fun os started H enc _ => lifted os started H enc)

theorem proved : Rows.FnExactHeldAtSaid := over
#print axioms proved
end Go.Proofs.Ytkpkchlbljlbnaa.fnExactHeldAt
