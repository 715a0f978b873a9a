/-
  The law FnExactNewDeque returns true at every argument: NewDeque answers as its model does, and its answer owns its memory.
  Conditions: none beyond the row's own; whatever the arguments.
-/
import Derived.Test.YtkpkchlbljlbnaaArd
import Derived.Test.YtkpkchlbljlbnaaDqh
namespace Go.Proofs.Ytkpkchlbljlbnaa.fnExactNewDeque
open Go.ChangeShapes Go.WideShapes Go.ChangeAt Go.RowKit Go.Joins
set_option linter.unusedVariables false

set_option maxHeartbeats 4000000 in
set_option maxRecDepth 100000 in
theorem law (N : Int) (w0 : World) (wn : (Lit.int .i64 N).wf = true) :
    Calls Try.prog 5 #[.int .i64 N] w0 fun e w' => e = .returned (.bool true) ∧ Below w0.heap.size w0 w' := by
  have HB0 := Lib.hid (Below.refl w0.heap.size w0)
  have hle := newS_le N
  go_enter Try.func5, Try.ntmps5
  go_wp2_with fail
  refine (sNewDeque_any N _).mono ?_
  rintro e w1 ⟨hb1, Aw, cw, rfl, hlow, hccw, hrw⟩
  have HB1 := Lib.hid (HB0.out.trans (hb1.mono HB0.out.size))
  have z1 := hb1.size
  clear hb1
  have low := Lib.hid hlow
  have ccw := Lib.hid hccw
  have rw1 := hrw
  have ltw := Lib.hid hrw.lt
  clear hlow hccw hrw
  have HRw := Lib.hid rw1
  clear rw1
  go_wp2_with fail
  have rw1 := HRw.out
  clear HRw
  have hbA := (Below.refl w1.heap.size w1).alloc (Nat.le_refl _) (.cells #[.slice Aw (newS N).length cw, .int .i64 0, .int .i64 0] 28)
  have bxw2 := BlkL.new w1 28 [.slice Aw (newS N).length cw, .int .i64 0, .int .i64 0]
  have HB2 := Lib.hid (HB1.out.trans (hbA.mono HB1.out.size))
  have rw2 := rw1.below hbA
  have z2 := hbA.size
  clear hbA rw1
  generalize w1.alloc (.cells #[.slice Aw (newS N).length cw, .int .i64 0, .int .i64 0] 28) = w2 at *
  have lbw := bxw2.lt
  refine (NewDeque_any N _).mono ?_
  rintro e w3 ⟨hb3, Ag, cg, rfl, hlog, hccg, hrg⟩
  have HB3 := Lib.hid (HB2.out.trans (hb3.mono HB2.out.size))
  have rw3 := rw2.below hb3
  have bxw3 := bxw2.below hb3 bxw2.lt
  have z3 := hb3.size
  clear hb3 rw2 bxw2
  have log := Lib.hid hlog
  have ccg := Lib.hid hccg
  have rg3 := hrg
  have ltg := Lib.hid hrg.lt
  clear hlog hccg hrg
  have qw0 := bxw3.cell 0
  have qw1 := bxw3.cell 1
  have qw2 := bxw3.cell 2
  have lqw := bxw3.lt
  simp only [List.getElem?_cons_zero, List.getElem?_cons_succ] at qw0 qw1 qw2
  have HRw := Lib.hid rw3
  clear rw3
  have HRg := Lib.hid rg3
  clear rg3
  have HXw := Lib.hid bxw3
  clear bxw3
  go_wp2_with fail
  clear qw0 qw1 qw2 lqw
  have rw3 := HRw.out
  clear HRw
  have rg3 := HRg.out
  clear HRg
  have bxw3 := HXw.out
  clear HXw
  have hbA := (Below.refl w3.heap.size w3).alloc (Nat.le_refl _) (.cells #[.slice Ag (newS N).length cg, .int .i64 0, .int .i64 0] 28)
  have bxg4 := BlkL.new w3 28 [.slice Ag (newS N).length cg, .int .i64 0, .int .i64 0]
  have HB4 := Lib.hid (HB3.out.trans (hbA.mono HB3.out.size))
  have rw4 := rw3.below hbA
  have rg4 := rg3.below hbA
  have bxw4 := bxw3.below hbA bxw3.lt
  have z4 := hbA.size
  clear hbA rw3 rg3 bxw3
  generalize w3.alloc (.cells #[.slice Ag (newS N).length cg, .int .i64 0, .int .i64 0] 28) = w4 at *
  have lbg := bxg4.lt
  refine (eqDeque_same Ag Aw (newS N) _ _ _ 0 0 _ rfl (by omega) rg4.is rw4.is).mono ?_
  rintro e w5 ⟨rfl, hb5⟩
  have HB5 := Lib.hid (HB4.out.trans (hb5.mono HB4.out.size))
  have rw5 := rw4.below hb5
  have rg5 := rg4.below hb5
  have bxw5 := bxw4.below hb5 bxw4.lt
  have bxg5 := bxg4.below hb5 bxg4.lt
  have z5 := hb5.size
  clear hb5 rw4 rg4 bxw4 bxg4
  have qw0 := bxw5.cell 0
  have qw1 := bxw5.cell 1
  have qw2 := bxw5.cell 2
  have lqw := bxw5.lt
  have qg0 := bxg5.cell 0
  have qg1 := bxg5.cell 1
  have qg2 := bxg5.cell 2
  have lqg := bxg5.lt
  simp only [List.getElem?_cons_zero, List.getElem?_cons_succ] at qw0 qw1 qw2 qg0 qg1 qg2
  have HRw := Lib.hid rw5
  clear rw5
  have HRg := Lib.hid rg5
  clear rg5
  have HXw := Lib.hid bxw5
  clear bxw5
  have HXg := Lib.hid bxg5
  clear bxg5
  go_wp2_with fail
  clear qw0 qw1 qw2 lqw
  clear qg0 qg1 qg2 lqg
  have rw5 := HRw.out
  clear HRw
  have rg5 := HRg.out
  clear HRg
  have bxw5 := HXw.out
  clear HXw
  have bxg5 := HXg.out
  clear HXg
  refine (markDeque_any Ag (newS N) cg 0 0 1 _ (by omega) (by omega) (by omega) ccg.out rg5).mono ?_
  rintro e w6 ⟨rfl, hmg, hg6⟩
  have rw6 := rw5.grown hg6 (fun b hb e => by first | (have h1 := ltw.out b hb; have h2 := log.out b e.symm; omega) | (have h1 := low.out b hb; have h2 := ltg.out b e.symm; omega))
  have bxw6 := bxw5.grown hg6 (fun e => by first | (have h2 := log.out _ e.symm; omega) | (have h2 := ltg.out _ e.symm; omega))
  have bxg6 := bxg5.grown hg6 (fun e => by first | (have h2 := log.out _ e.symm; omega) | (have h2 := ltg.out _ e.symm; omega))
  have rg6 := hmg
  have HB6 := Lib.hid (HB5.out.grown hg6 HB5.out.size (fun b hb => by have := log.out b hb; omega))
  have z6 := hg6.size
  clear hmg hg6 rw5 rg5 bxw5 bxg5
  have HU := Lib.hid (show ∀ i, i < (newS N).length → (upTo (newS N) 1 (newS N).length)[i]? = some ((1 : Int) + (i : Int)) from fun i hi => upTo_at _ _ hi hi)
  have qw0 := bxw6.cell 0
  have qw1 := bxw6.cell 1
  have qw2 := bxw6.cell 2
  have lqw := bxw6.lt
  have qg0 := bxg6.cell 0
  have qg1 := bxg6.cell 1
  have qg2 := bxg6.cell 2
  have lqg := bxg6.lt
  simp only [List.getElem?_cons_zero, List.getElem?_cons_succ] at qw0 qw1 qw2 qg0 qg1 qg2
  have HRw := Lib.hid rw6
  clear rw6
  have HRg := Lib.hid rg6
  clear rg6
  have HXw := Lib.hid bxw6
  clear bxw6
  have HXg := Lib.hid bxg6
  clear bxg6
  go_wp2_with fail
  clear qw0 qw1 qw2 lqw
  clear qg0 qg1 qg2 lqg
  have rw6 := HRw.out
  clear HRw
  have rg6 := HRg.out
  clear HRg
  have bxw6 := HXw.out
  clear HXw
  have bxg6 := HXg.out
  clear HXg
  refine (heldDeque_any Ag (upTo (newS N) 1 (newS N).length) _ _ 0 0 1 _ (upTo_length _ _ _) (by omega) (by omega) (by omega) rg6.is HU.out).mono ?_
  rintro e w7 ⟨rfl, hb7⟩
  have HB7 := Lib.hid (HB6.out.trans (hb7.mono HB6.out.size))
  have rw7 := rw6.below hb7
  have rg7 := rg6.below hb7
  have bxw7 := bxw6.below hb7 bxw6.lt
  have bxg7 := bxg6.below hb7 bxg6.lt
  have z7 := hb7.size
  clear hb7 rw6 rg6 bxw6 bxg6
  have qw0 := bxw7.cell 0
  have qw1 := bxw7.cell 1
  have qw2 := bxw7.cell 2
  have lqw := bxw7.lt
  have qg0 := bxg7.cell 0
  have qg1 := bxg7.cell 1
  have qg2 := bxg7.cell 2
  have lqg := bxg7.lt
  simp only [List.getElem?_cons_zero, List.getElem?_cons_succ] at qw0 qw1 qw2 qg0 qg1 qg2
  have HRw := Lib.hid rw7
  clear rw7
  have HRg := Lib.hid rg7
  clear rg7
  have HXw := Lib.hid bxw7
  clear bxw7
  have HXg := Lib.hid bxg7
  clear bxg7
  go_wp2_with fail
  clear qw0 qw1 qw2 lqw
  clear qg0 qg1 qg2 lqg
  have rw7 := HRw.out
  clear HRw
  have rg7 := HRg.out
  clear HRg
  have bxw7 := HXw.out
  clear HXw
  have bxg7 := HXg.out
  clear HXg
  refine (NewDeque_any N _).mono ?_
  rintro e w8 ⟨hb8, Ah, ch, rfl, hloh, hcch, hrh⟩
  have HB8 := Lib.hid (HB7.out.trans (hb8.mono HB7.out.size))
  have rw8 := rw7.below hb8
  have rg8 := rg7.below hb8
  have bxw8 := bxw7.below hb8 bxw7.lt
  have bxg8 := bxg7.below hb8 bxg7.lt
  have z8 := hb8.size
  clear hb8 rw7 rg7 bxw7 bxg7
  have loh := Lib.hid hloh
  have cch := Lib.hid hcch
  have rh8 := hrh
  have lth := Lib.hid hrh.lt
  clear hloh hcch hrh
  have qw0 := bxw8.cell 0
  have qw1 := bxw8.cell 1
  have qw2 := bxw8.cell 2
  have lqw := bxw8.lt
  have qg0 := bxg8.cell 0
  have qg1 := bxg8.cell 1
  have qg2 := bxg8.cell 2
  have lqg := bxg8.lt
  simp only [List.getElem?_cons_zero, List.getElem?_cons_succ] at qw0 qw1 qw2 qg0 qg1 qg2
  have HRw := Lib.hid rw8
  clear rw8
  have HRg := Lib.hid rg8
  clear rg8
  have HRh := Lib.hid rh8
  clear rh8
  have HXw := Lib.hid bxw8
  clear bxw8
  have HXg := Lib.hid bxg8
  clear bxg8
  go_wp2_with fail
  clear qw0 qw1 qw2 lqw
  clear qg0 qg1 qg2 lqg
  have rw8 := HRw.out
  clear HRw
  have rg8 := HRg.out
  clear HRg
  have rh8 := HRh.out
  clear HRh
  have bxw8 := HXw.out
  clear HXw
  have bxg8 := HXg.out
  clear HXg
  have hbA := (Below.refl w8.heap.size w8).alloc (Nat.le_refl _) (.cells #[.slice Ah (newS N).length ch, .int .i64 0, .int .i64 0] 28)
  have bxh9 := BlkL.new w8 28 [.slice Ah (newS N).length ch, .int .i64 0, .int .i64 0]
  have HB9 := Lib.hid (HB8.out.trans (hbA.mono HB8.out.size))
  have rw9 := rw8.below hbA
  have rg9 := rg8.below hbA
  have rh9 := rh8.below hbA
  have bxw9 := bxw8.below hbA bxw8.lt
  have bxg9 := bxg8.below hbA bxg8.lt
  have z9 := hbA.size
  clear hbA rw8 rg8 rh8 bxw8 bxg8
  generalize w8.alloc (.cells #[.slice Ah (newS N).length ch, .int .i64 0, .int .i64 0] 28) = w9 at *
  have lbh := bxh9.lt
  refine (eqDeque_same Ah Aw (newS N) _ _ _ 0 0 _ rfl (by omega) rh9.is rw9.is).mono ?_
  rintro e w10 ⟨rfl, hb10⟩
  have HB10 := Lib.hid (HB9.out.trans (hb10.mono HB9.out.size))
  have rw10 := rw9.below hb10
  have rg10 := rg9.below hb10
  have rh10 := rh9.below hb10
  have bxw10 := bxw9.below hb10 bxw9.lt
  have bxg10 := bxg9.below hb10 bxg9.lt
  have bxh10 := bxh9.below hb10 bxh9.lt
  have z10 := hb10.size
  clear hb10 rw9 rg9 rh9 bxw9 bxg9 bxh9
  have qw0 := bxw10.cell 0
  have qw1 := bxw10.cell 1
  have qw2 := bxw10.cell 2
  have lqw := bxw10.lt
  have qg0 := bxg10.cell 0
  have qg1 := bxg10.cell 1
  have qg2 := bxg10.cell 2
  have lqg := bxg10.lt
  have qh0 := bxh10.cell 0
  have qh1 := bxh10.cell 1
  have qh2 := bxh10.cell 2
  have lqh := bxh10.lt
  simp only [List.getElem?_cons_zero, List.getElem?_cons_succ] at qw0 qw1 qw2 qg0 qg1 qg2 qh0 qh1 qh2
  have HRw := Lib.hid rw10
  clear rw10
  have HRg := Lib.hid rg10
  clear rg10
  have HRh := Lib.hid rh10
  clear rh10
  have HXw := Lib.hid bxw10
  clear bxw10
  have HXg := Lib.hid bxg10
  clear bxg10
  have HXh := Lib.hid bxh10
  clear bxh10
  go_wp2_with fail
  clear qw0 qw1 qw2 lqw
  clear qg0 qg1 qg2 lqg
  clear qh0 qh1 qh2 lqh
  have rw10 := HRw.out
  clear HRw
  have rg10 := HRg.out
  clear HRg
  have rh10 := HRh.out
  clear HRh
  have bxw10 := HXw.out
  clear HXw
  have bxg10 := HXg.out
  clear HXg
  have bxh10 := HXh.out
  clear HXh
  refine (heldDeque_any Ag (upTo (newS N) 1 (newS N).length) _ _ 0 0 1 _ (upTo_length _ _ _) (by omega) (by omega) (by omega) rg10.is HU.out).mono ?_
  rintro e w11 ⟨rfl, hb11⟩
  have HB11 := Lib.hid (HB10.out.trans (hb11.mono HB10.out.size))
  have rw11 := rw10.below hb11
  have rg11 := rg10.below hb11
  have rh11 := rh10.below hb11
  have bxw11 := bxw10.below hb11 bxw10.lt
  have bxg11 := bxg10.below hb11 bxg10.lt
  have bxh11 := bxh10.below hb11 bxh10.lt
  have z11 := hb11.size
  clear hb11 rw10 rg10 rh10 bxw10 bxg10 bxh10
  have qw0 := bxw11.cell 0
  have qw1 := bxw11.cell 1
  have qw2 := bxw11.cell 2
  have lqw := bxw11.lt
  have qg0 := bxg11.cell 0
  have qg1 := bxg11.cell 1
  have qg2 := bxg11.cell 2
  have lqg := bxg11.lt
  have qh0 := bxh11.cell 0
  have qh1 := bxh11.cell 1
  have qh2 := bxh11.cell 2
  have lqh := bxh11.lt
  simp only [List.getElem?_cons_zero, List.getElem?_cons_succ] at qw0 qw1 qw2 qg0 qg1 qg2 qh0 qh1 qh2
  have HRw := Lib.hid rw11
  clear rw11
  have HRg := Lib.hid rg11
  clear rg11
  have HRh := Lib.hid rh11
  clear rh11
  have HXw := Lib.hid bxw11
  clear bxw11
  have HXg := Lib.hid bxg11
  clear bxg11
  have HXh := Lib.hid bxh11
  clear bxh11
  go_wp2
  clear qw0 qw1 qw2 lqw
  clear qg0 qg1 qg2 lqg
  clear qh0 qh1 qh2 lqh
  have rw11 := HRw.out
  clear HRw
  have rg11 := HRg.out
  clear HRg
  have rh11 := HRh.out
  clear HRh
  have bxw11 := HXw.out
  clear HXw
  have bxg11 := HXg.out
  clear HXg
  have bxh11 := HXh.out
  clear HXh
  go_ret
  exact ⟨rfl, HB11.out⟩

set_option maxRecDepth 100000 in
theorem lifted (os : Os) (started : os.Started) (H : Type) (enc : TypeId × Value → H) :
    ReturnsInHanded {} Try.checked os 5 .any (Rows.fnExactNewDequeSpec.pre6 enc Try.prog Try.f5 Rows.fnExactNewDequeRow.domain false) (Rows.fnExactNewDequeSpec.post enc Try.prog Try.f5 false true false false) := by
  refine returnsInHanded_of_change (C := Try.checked) own started (by kernel_rfl) Try.func5
    (ChangeSpec.witness6 (enc := enc) (C := Try.checked) false ⟨#[], #[.int .i64 0], []⟩ 8 (by kernel_rfl) (by kernel_rfl) (by kernel_rfl) (by kernel_rfl)) ?_
  intro W base args ds gs before hval0 hW _ _
  have hval : ∀ (j : Nat) t v, Try.f5.params[j]? = some t → args[j]? = some v → Value.okWide Try.prog W .any base t v := hval0
  have hW' := hW
  obtain ⟨p, q, hA0, hV, rfl, _, _⟩ := hW
  have hA : DataW.TrodAll enc Try.prog W 0 (fun _ => true) true Try.f5.params.toList args.toList ds p := hA0
  rw [Try.params5] at hA hval
  obtain ⟨v0, vs0, d0, ds0, p0, q0, hargs0, rfl, rfl, h0, r0⟩ := trodAll_cons hA
  obtain ⟨rfl, rfl, rfl⟩ := trodAll_nil r0
  obtain rfl : args = #[v0] := by cases args; simp_all
  obtain ⟨rfl, rfl⟩ := trodVars_none hV
  have z0 := h0
  have lt0 : ∀ x ∈ p0, x.block < W.heap.size := by obtain ⟨m, hm⟩ := z0; exact DataW.trod_lt m _ _ _ hm
  obtain ⟨x0, rfl⟩ := okWide_int Try.underlying3 (hval 0 3 v0 rfl rfl)
  have wx0 : (Lit.int .i64 x0).wf = true := by obtain ⟨m, hm⟩ := h0; obtain ⟨n', e, _, wf⟩ := DataW.trod_int Try.underlying3 hm; simp [Value.cells] at e; subst e; exact wf
  clear hA0 hval0
  refine (law x0 W wx0).mono fun e W' ⟨he, bel⟩ => ?_
  subst he
  exact ⟨_, rfl, _, _, _, [], _, [], hW', trodAll_mk1 (shut_bool Try.underlying4 _), (trodAll_cons_mk (Below.trod laidOut (by kernel_rfl) (of_decide_eq_true (by kernel_rfl)) z0 bel lt0) trodAll_mk0), rfl, bel.frame _, (fun h => by cases h)⟩

theorem over : Rows.fnExactNewDequeRow.holds Try.pinned (OpenSpec.ofChange Rows.fnExactNewDequeSpec) :=
  OpenClaim.holds_of_wide 5 Try.f5 rfl rfl rfl rfl rfl rfl rfl ⟨rfl, rfl, rfl, rfl, rfl⟩ rfl rfl rfl rfl rfl (by kernel_rfl) Try.func5 (by kernel_rfl)
    (of_decide_eq_true (by kernel_rfl)) (by unfold Func.isWrapper; first | (rw [if_pos (by decide +kernel)]; kernel_rfl) | (rw [if_neg (by decide +kernel)]; exact ⟨rfl, rfl⟩))
    (fun os started H enc _ => lifted os started H enc)

theorem proved : Rows.FnExactNewDequeSaid := over
#print axioms proved
end Go.Proofs.Ytkpkchlbljlbnaa.fnExactNewDeque
