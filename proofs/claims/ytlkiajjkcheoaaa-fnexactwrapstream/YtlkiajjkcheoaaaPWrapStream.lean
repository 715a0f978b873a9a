/-
  The law FnExactWrapStream returns true at every argument: WrapStream answers as its model does, writes into no argument, and its answer owns its memory.
  Conditions: none beyond the row's own; whatever the arguments.
-/
import Derived.Test.YtlkiajjkcheoaaaWrap
import Derived.Test.YtlkiajjkcheoaaaArg
namespace Go.Proofs.Ytlkiajjkcheoaaa.fnExactWrapStream
open Go.ChangeShapes Go.WideShapes Go.ChangeAt Go.RowKit Go.Joins
set_option linter.unusedVariables false

set_option maxHeartbeats 4000000 in
set_option maxRecDepth 100000 in
theorem law (A : Option Addr) (l : List Tk) (n c : Nat) (b : Bool) (o : Int) (w : World) (hn : l.length = n) (hnx : n ≤ maxLen) (ha : TS w A l) (fa : Fits l) (ho : (Lit.int .i64 o).wf = true) :
    Calls Try.prog 12 #[.slice A n c, .bool b, .int .i64 o] w fun e w' => e = .returned (.bool true) ∧ Below w.heap.size w w' := by
  have HN := Lib.hid hn
  clear hn ho
  go_enter Try.func12, Try.ntmps12
  have HB_0 := Lib.hid (Below.refl w.heap.size w)
  have ha_0 := ha
  go_wp2_with fail
  refine (szTokenS_any _ l _ _ _ _ HN.out hnx (by omega) (by omega) ha_0 fa).mono ?_
  rintro e w1 ⟨rfl, hb⟩
  have ha_1 := ha_0.below hb
  have HB_1 := Lib.hid (HB_0.out.trans (hb.mono HB_0.out.size))
  have z_1 : w.heap.size ≤ w1.heap.size := hb.size
  clear hb ha_0
  by_cases hbig : (1048576 : Int) < (bulk l : Int)
  · rw [show szB 1048576 l = -1 from if_pos hbig]
    go_wp2
    go_ret
    exact ⟨rfl, HB_1.out⟩
  rw [show szB 1048576 l = 1048576 - bulk l from if_neg hbig]
  have hn1 : n ≤ 1048576 := by have := HN.out; unfold bulk at hbig; omega
  have hnn : (0 : Int) ≤ 1048576 - (bulk l : Int) := by omega
  have hla : l.length ≤ 1048576 := by have := HN.out; omega
  clear hbig hnx
  obtain ⟨L, hL⟩ : ∃ L, bgT b o :: (l ++ [endT]) = L := ⟨_, rfl⟩
  have hLl : L.length ≤ 1048578 := by rw [← hL]; simp [HN.out]; omega
  have HL := Lib.hid hL
  clear hL
  obtain ⟨J, hJ⟩ : ∃ J, wrB l b o L = J := ⟨_, rfl⟩
  obtain ⟨R, hR⟩ : ∃ R, ifB J L = R := ⟨_, rfl⟩
  have hR4 : R.length ≤ 1048576 := by
    rw [← hR, ← hJ]
    cases hw : wrB l b o L
    · simp [ifB]
    · have h4 : strB L = true := by simp only [wrB, Bool.and_eq_true] at hw; exact hw.2.2
      have := (strB_true h4).1
      simp [ifB]; omega
  have HJ := Lib.hid hJ
  have HR := Lib.hid hR
  clear hJ hR
  go_wp2_with fail
  refine (toTokenS_any _ l _ _ _ HN.out hn1 ha_1).mono ?_
  rintro e w2 ⟨rfl, hk, hb⟩
  have ha_2 := ha_1.below hb
  have HB_2 := Lib.hid (HB_1.out.trans (hb.mono HB_1.out.size))
  have z_2 : w1.heap.size ≤ w2.heap.size := hb.size
  clear hb ha_1
  have x_2 := TS.of_blk hk
  clear hk
  go_wp2_with fail
  have hspec := (sWrapStream_any _ l _ l.length b o _ rfl hla x_2 fa L HL.out).mono (fun _ _ h => STokOut.out h)
  rw [HJ.out, HR.out] at hspec
  have HSP := Lib.hid hspec
  clear hspec
  refine (HSP.out).mono ?_
  rintro e w3 ⟨hb, B0, cB, rfl, hBlt, hrB⟩
  have ha_3 := ha_2.below hb
  have x_3 := x_2.below hb
  have HB_3 := Lib.hid (HB_2.out.trans (hb.mono HB_2.out.size))
  have z_3 : w2.heap.size ≤ w3.heap.size := hb.size
  clear hb ha_2 x_2
  clear HSP
  clear x_3
  have rB_3 := hrB
  have HBlt := Lib.hid hBlt
  clear hBlt hrB
  go_wp2_with fail
  refine (toTokenS_any _ l _ _ _ HN.out hn1 ha_3).mono ?_
  rintro e w4 ⟨rfl, hk, hb⟩
  have ha_4 := ha_3.below hb
  have rB_4 := rB_3.below hb
  have HB_4 := Lib.hid (HB_3.out.trans (hb.mono HB_3.out.size))
  have z_4 : w3.heap.size ≤ w4.heap.size := hb.size
  clear hb ha_3 rB_3
  have kx_4 := hk
  have hX := hk.lt
  clear hk
  go_wp2_with fail
  have himpl := (WrapStream_any _ l _ l.length b o _ rfl hla (TS.of_blk kx_4) fa L HL.out).mono (fun _ _ h => TokOut.out h)
  rw [HJ.out, HR.out] at himpl
  have HIM := Lib.hid himpl
  clear himpl
  refine (HIM.out).mono ?_
  rintro e w5 ⟨hb, A0, cA, rfl, hAlo, hAc, hrA⟩
  have ha_5 := ha_4.below hb
  have rB_5 := rB_4.below hb
  have kx_5 := kx_4.below hb kx_4.lt
  have HB_5 := Lib.hid (HB_4.out.trans (hb.mono HB_4.out.size))
  have z_5 : w4.heap.size ≤ w5.heap.size := hb.size
  clear hb ha_4 rB_4 kx_4
  clear HIM
  have rA_5 := hrA
  have HAlo := Lib.hid hAlo
  have HAc := Lib.hid hAc
  clear hAlo hAc hrA
  go_wp2_with fail
  refine (eqTokenS_same _ _ R _ _ _ _ rfl hR4 rA_5.ts rB_5).mono ?_
  rintro e w6 ⟨rfl, hb⟩
  have ha_6 := ha_5.below hb
  have rB_6 := rB_5.below hb
  have kx_6 := kx_5.below hb kx_5.lt
  have rA_6 := rA_5.below hb
  have HB_6 := Lib.hid (HB_5.out.trans (hb.mono HB_5.out.size))
  have z_6 : w5.heap.size ≤ w6.heap.size := hb.size
  clear hb ha_5 rB_5 kx_5 rA_5
  go_wp2_with fail
  refine (toTokenS_any _ l _ _ _ HN.out hn1 ha_6).mono ?_
  rintro e w7 ⟨rfl, hk, hb⟩
  have ha_7 := ha_6.below hb
  have rB_7 := rB_6.below hb
  have kx_7 := kx_6.below hb kx_6.lt
  have rA_7 := rA_6.below hb
  have HB_7 := Lib.hid (HB_6.out.trans (hb.mono HB_6.out.size))
  have z_7 : w6.heap.size ≤ w7.heap.size := hb.size
  clear hb ha_6 rB_6 kx_6 rA_6
  have hq := TS.of_blk hk
  clear hk
  go_wp2_with fail
  refine (eqTokenS_same _ _ l _ _ _ _ rfl hla (TS.of_blk kx_7) hq).mono ?_
  rintro e w8 ⟨rfl, hb⟩
  have ha_8 := ha_7.below hb
  have rB_8 := rB_7.below hb
  have kx_8 := kx_7.below hb kx_7.lt
  have rA_8 := rA_7.below hb
  have HB_8 := Lib.hid (HB_7.out.trans (hb.mono HB_7.out.size))
  have z_8 : w7.heap.size ≤ w8.heap.size := hb.size
  clear hb ha_7 rB_7 kx_7 rA_7
  clear hq
  have zz : w.heap.size ≤ w3.heap.size := by omega
  have zz4 : w.heap.size ≤ w4.heap.size := by omega
  go_wp2_with fail
  refine (markTokenS_blk _ l _ _ _ _ rfl (by omega) (by omega) (by omega) kx_8).mono ?_
  rintro e w9 ⟨rfl, hkz, hg⟩
  have ha_9 := ha_8.old ha HB_8.out.size hg (fun b hb => by injection hb; omega)
  have rB_9 := rB_8.grown hg (fun b hb => by have := HBlt.out b hb; intro e; injection e; omega)
  have rA_9 := rA_8.grown hg (fun b hb => by have := HAlo.out b hb; intro e; injection e; omega)
  have HB_9 := Lib.hid (HB_8.out.grown hg HB_8.out.size (fun b hb => by injection hb; omega))
  have z_9 : w8.heap.size ≤ w9.heap.size := hg.size
  clear hg ha_8 rB_8 kx_8 rA_8
  clear hkz
  go_wp2_with fail
  refine (eqTokenS_same _ _ R _ _ _ _ rfl hR4 rA_9.ts rB_9).mono ?_
  rintro e w10 ⟨rfl, hb⟩
  have ha_10 := ha_9.below hb
  have rB_10 := rB_9.below hb
  have rA_10 := rA_9.below hb
  have HB_10 := Lib.hid (HB_9.out.trans (hb.mono HB_9.out.size))
  have z_10 : w9.heap.size ≤ w10.heap.size := hb.size
  clear hb ha_9 rB_9 rA_9
  go_wp2_with fail
  refine (markTokenS_any _ R _ _ _ (by omega) (by omega) (by omega) HAc.out rA_10).mono ?_
  rintro e w11 ⟨rfl, hrM, hg⟩
  have ha_11 := ha_10.old ha HB_10.out.size hg (fun b hb => by have := HAlo.out b hb; omega)
  have rB_11 := rB_10.grown hg (fun b hb e => by have h1 := HBlt.out b hb; have h2 := HAlo.out b e.symm; omega)
  have HB_11 := Lib.hid (HB_10.out.grown hg HB_10.out.size (fun b hb => by have := HAlo.out b hb; omega))
  have z_11 : w10.heap.size ≤ w11.heap.size := hg.size
  clear hg ha_10 rB_10 rA_10
  have rM_11 := hrM
  clear hrM
  have HU := Lib.hid (show ∀ i, i < R.length → (mkTo R 1 R.length)[i]? = some (mkT 1 i) from fun i hi => mkTo_at _ _ hi hi)
  go_wp2_with fail
  refine (heldTokenS_any _ (mkTo R 1 R.length) _ _ _ _ (mkTo_length _ _ _) (by omega) (by omega) (by omega) rM_11.ts HU.out).mono ?_
  rintro e w12 ⟨rfl, hb⟩
  have ha_12 := ha_11.below hb
  have rB_12 := rB_11.below hb
  have rM_12 := rM_11.below hb
  have HB_12 := Lib.hid (HB_11.out.trans (hb.mono HB_11.out.size))
  have z_12 : w11.heap.size ≤ w12.heap.size := hb.size
  clear hb ha_11 rB_11 rM_11
  go_wp2_with fail
  refine (toTokenS_any _ l _ _ _ HN.out hn1 ha_12).mono ?_
  rintro e w13 ⟨rfl, hk, hb⟩
  have ha_13 := ha_12.below hb
  have rB_13 := rB_12.below hb
  have rM_13 := rM_12.below hb
  have HB_13 := Lib.hid (HB_12.out.trans (hb.mono HB_12.out.size))
  have z_13 : w12.heap.size ≤ w13.heap.size := hb.size
  clear hb ha_12 rB_12 rM_12
  have x_13 := TS.of_blk hk
  clear hk
  go_wp2_with fail
  have himpl := (WrapStream_any _ l _ l.length b o _ rfl hla x_13 fa L HL.out).mono (fun _ _ h => TokOut.out h)
  rw [HJ.out, HR.out] at himpl
  have HIM := Lib.hid himpl
  clear himpl
  refine (HIM.out).mono ?_
  rintro e w14 ⟨hb, A1, c1, rfl, _, _, hrC⟩
  have ha_14 := ha_13.below hb
  have rB_14 := rB_13.below hb
  have rM_14 := rM_13.below hb
  have x_14 := x_13.below hb
  have HB_14 := Lib.hid (HB_13.out.trans (hb.mono HB_13.out.size))
  have z_14 : w13.heap.size ≤ w14.heap.size := hb.size
  clear hb ha_13 rB_13 rM_13 x_13
  clear HIM
  clear x_14
  go_wp2_with fail
  refine (eqTokenS_same _ _ R _ _ _ _ rfl hR4 hrC.ts rB_14).mono ?_
  rintro e w15 ⟨rfl, hb⟩
  have ha_15 := ha_14.below hb
  have rB_15 := rB_14.below hb
  have rM_15 := rM_14.below hb
  have HB_15 := Lib.hid (HB_14.out.trans (hb.mono HB_14.out.size))
  have z_15 : w14.heap.size ≤ w15.heap.size := hb.size
  clear hb ha_14 rB_14 rM_14
  go_wp2_with fail
  refine (heldTokenS_any _ (mkTo R 1 R.length) _ _ _ _ (mkTo_length _ _ _) (by omega) (by omega) (by omega) rM_15.ts HU.out).mono ?_
  rintro e w16 ⟨rfl, hb⟩
  have ha_16 := ha_15.below hb
  have rB_16 := rB_15.below hb
  have rM_16 := rM_15.below hb
  have HB_16 := Lib.hid (HB_15.out.trans (hb.mono HB_15.out.size))
  have z_16 : w15.heap.size ≤ w16.heap.size := hb.size
  clear hb ha_15 rB_15 rM_15
  go_wp2
  go_ret
  exact ⟨rfl, HB_16.out⟩

set_option maxRecDepth 100000 in
theorem lifted (os : Os) (started : os.Started) (H : Type) (enc : TypeId × Value → H) :
    ReturnsInHanded {} Try.checked os 12 .any (Rows.fnExactWrapStreamSpec.pre6 enc Try.prog Try.f12 Rows.fnExactWrapStreamRow.domain false) (Rows.fnExactWrapStreamSpec.post enc Try.prog Try.f12 false true false false) := by
  refine returnsInHanded_of_change (C := Try.checked) own started (by kernel_rfl) Try.func12
    (ChangeSpec.witness6 (enc := enc) (C := Try.checked) false ⟨#[], #[.slice none 0 0, .bool false, .int .i64 0], []⟩ 8 (by kernel_rfl) (by kernel_rfl) (by kernel_rfl) (by kernel_rfl)) ?_
  intro W base args ds gs before hval0 hW _ _
  have hval : ∀ (j : Nat) t v, Try.f12.params[j]? = some t → args[j]? = some v → Value.okWide Try.prog W .any base t v := hval0
  have hW' := hW
  obtain ⟨p, q, hA0, hV, rfl, _, _⟩ := hW
  have hA : DataW.TrodAll enc Try.prog W 0 (fun _ => true) true Try.f12.params.toList args.toList ds p := hA0
  rw [Try.params12] at hA hval
  obtain ⟨v0, vs0, d0, ds0, p0, q0, hargs0, rfl, rfl, h0, r0⟩ := trodAll_cons hA
  obtain ⟨v1, vs1, d1, ds1, p1, q1, hargs1, rfl, rfl, h1, r1⟩ := trodAll_cons r0
  obtain ⟨v2, vs2, d2, ds2, p2, q2, hargs2, rfl, rfl, h2, r2⟩ := trodAll_cons r1
  obtain ⟨rfl, rfl, rfl⟩ := trodAll_nil r2
  obtain rfl : args = #[v0, v1, v2] := by cases args; simp_all
  obtain ⟨rfl, rfl⟩ := trodVars_none hV
  have y0 := h0
  have lt0 : ∀ x ∈ p0, x.block < W.heap.size := by obtain ⟨m, hm⟩ := y0; exact DataW.trod_lt m _ _ _ hm
  have y1 := h1
  have lt1 : ∀ x ∈ p1, x.block < W.heap.size := by obtain ⟨m, hm⟩ := y1; exact DataW.trod_lt m _ _ _ hm
  have y2 := h2
  have lt2 : ∀ x ∈ p2, x.block < W.heap.size := by obtain ⟨m, hm⟩ := y2; exact DataW.trod_lt m _ _ _ hm
  obtain ⟨A0, n0, c0, l0, rfl, hl0, hn0, hts0, hf0⟩ := open_toks (hval 0 38 v0 rfl rfl) h0
  obtain ⟨b1, rfl⟩ := okWide_bool Try.underlying4 (hval 1 4 v1 rfl rfl)
  obtain ⟨k2, rfl⟩ := okWide_int Try.underlying3 (hval 2 3 v2 rfl rfl)
  have hk2 : (Lit.int .i64 k2).wf = true := by obtain ⟨m, hm⟩ := h2; obtain ⟨n', e, _, wf⟩ := DataW.trod_int Try.underlying3 hm; simp [Value.cells] at e; subst e; exact wf
  clear hA0 hval0
  refine (law A0 l0 n0 c0 b1 k2 W hl0 hn0 hts0 hf0 hk2).mono fun e W' ⟨he, bel⟩ => ?_
  subst he
  exact ⟨_, rfl, _, _, _, [], _, [], hW', trodAll_mk1 (shut_bool Try.underlying4 _), (trodAll_cons_mk (Below.trod laidOut (by kernel_rfl) (of_decide_eq_true (by kernel_rfl)) y0 bel lt0) (trodAll_cons_mk (Below.trod laidOut (by kernel_rfl) (of_decide_eq_true (by kernel_rfl)) y1 bel lt1) (trodAll_cons_mk (Below.trod laidOut (by kernel_rfl) (of_decide_eq_true (by kernel_rfl)) y2 bel lt2) trodAll_mk0))), rfl, bel.frame _, (fun h => by cases h)⟩

theorem over : Rows.fnExactWrapStreamRow.holds Try.pinned (OpenSpec.ofChange Rows.fnExactWrapStreamSpec) :=
  OpenClaim.holds_of_wide 12 Try.f12 rfl rfl rfl rfl rfl rfl rfl ⟨rfl, rfl, rfl, rfl, rfl⟩ rfl rfl rfl rfl rfl (by kernel_rfl) Try.func12 (by kernel_rfl)
    (of_decide_eq_true (by kernel_rfl)) (by unfold Func.isWrapper; first | (rw [if_pos (by decide +kernel)]; kernel_rfl) | (rw [if_neg (by decide +kernel)]; exact ⟨rfl, rfl⟩))
    (fun os started H enc _ => lifted os started H enc)

theorem proved : Rows.FnExactWrapStreamSaid := over
#print axioms proved
end Go.Proofs.Ytlkiajjkcheoaaa.fnExactWrapStream
