/-
  The law FnExactJoinStreams returns true at every argument: JoinStreams answers as its model does, writes into no argument, and its answer owns its memory.
  Conditions: none beyond the row's own; whatever the arguments.
-/
import Derived.Test.YtlkiajjkcheoaaaJoin
import Derived.Test.YtlkiajjkcheoaaaInts
import Derived.Test.YtlkiajjkcheoaaaArg
namespace Go.Proofs.Ytlkiajjkcheoaaa.fnExactJoinStreams
open Go.ChangeShapes Go.WideShapes Go.ChangeAt Go.RowKit Go.Joins
set_option linter.unusedVariables false

theorem bulk_pair {la lb : List Tk} {n m : Nat} (hn : la.length = n) (hm : lb.length = m) (h : ¬ (1048576 - (bulk la : Int)) < (bulk lb : Int)) : n ≤ 1048576 ∧ m ≤ 1048576 ∧ n + m ≤ 1048576 := by
  unfold bulk at h; omega

set_option maxHeartbeats 4000000 in
set_option maxRecDepth 100000 in
theorem law (A : Option Addr) (la : List Tk) (n c : Nat) (B : Option Addr) (lb : List Tk) (m d : Nat) (w : World) (hn : la.length = n) (hnx : n ≤ maxLen) (ha : TS w A la) (fa : Fits la) (hm : lb.length = m) (hmx : m ≤ maxLen) (hb0 : TS w B lb) (fb : Fits lb) :
    Calls Try.prog 11 #[.slice A n c, .slice B m d] w fun e w' => e = .returned (.bool true) ∧ Below w.heap.size w w' := by
  have HN := Lib.hid hn
  have HM := Lib.hid hm
  clear hn hm
  go_enter Try.func11, Try.ntmps11
  have HB_0 := Lib.hid (Below.refl w.heap.size w)
  have ha_0 := ha
  have hb0_0 := hb0
  go_wp2_with fail
  refine (szTokenS_any _ la _ _ _ _ HN.out hnx (by omega) (by omega) ha_0 fa).mono ?_
  rintro e w1 ⟨rfl, hb⟩
  have ha_1 := ha_0.below hb
  have hb0_1 := hb0_0.below hb
  have HB_1 := Lib.hid (HB_0.out.trans (hb.mono HB_0.out.size))
  have z_1 : w.heap.size ≤ w1.heap.size := hb.size
  clear hb ha_0 hb0_0
  by_cases hbig : (1048576 : Int) < (bulk la : Int)
  · rw [show szB 1048576 la = -1 from if_pos hbig]
    go_wp2
    go_ret
    exact ⟨rfl, HB_1.out⟩
  rw [show szB 1048576 la = 1048576 - bulk la from if_neg hbig]
  have hnn : (0 : Int) ≤ 1048576 - (bulk la : Int) := by omega
  have hnn1 : (1048576 : Int) - (bulk la : Int) ≤ 1048576 := by omega
  clear hbig
  go_wp2_with fail
  refine (szTokenS_any _ lb _ _ _ _ HM.out hmx hnn hnn1 hb0_1 fb).mono ?_
  rintro e w2 ⟨rfl, hb⟩
  have ha_2 := ha_1.below hb
  have hb0_2 := hb0_1.below hb
  have HB_2 := Lib.hid (HB_1.out.trans (hb.mono HB_1.out.size))
  have z_2 : w1.heap.size ≤ w2.heap.size := hb.size
  clear hb ha_1 hb0_1
  by_cases hbig : (1048576 - (bulk la : Int)) < (bulk lb : Int)
  · rw [show szB (1048576 - (bulk la : Int)) lb = -1 from if_pos hbig]
    go_wp2
    go_ret
    exact ⟨rfl, HB_2.out⟩
  rw [show szB (1048576 - (bulk la : Int)) lb = 1048576 - (bulk la : Int) - bulk lb from if_neg hbig]
  obtain ⟨hn1, hm1, hnm1⟩ := bulk_pair HN.out HM.out hbig
  have hnm2 : la.length + lb.length ≤ 2097152 := by have := HN.out; have := HM.out; omega
  have hnn2 : (0 : Int) ≤ 1048576 - (bulk la : Int) - (bulk lb : Int) := by omega
  have hla : la.length ≤ 1048576 := by have := HN.out; omega
  have hlb : lb.length ≤ 1048576 := by have := HM.out; omega
  clear hbig hnx hmx
  obtain ⟨L, hL⟩ : ∃ L, la ++ lb = L := ⟨_, rfl⟩
  have hLl : L.length ≤ 1048576 := by rw [← hL, List.length_append, HN.out, HM.out]; exact hnm1
  have HL := Lib.hid hL
  clear hL
  obtain ⟨J, hJ⟩ : ∃ J, jnB la lb L = J := ⟨_, rfl⟩
  obtain ⟨R, hR⟩ : ∃ R, ifB J L = R := ⟨_, rfl⟩
  have hRl : R.length ≤ 1048576 := by rw [← hR]; exact Nat.le_trans (ifB_le J L) hLl
  have HJ := Lib.hid hJ
  have HR := Lib.hid hR
  clear hJ hR
  go_wp2_with fail
  refine (toTokenS_any _ la _ _ _ HN.out hn1 ha_2).mono ?_
  rintro e w3 ⟨rfl, hk, hb⟩
  have ha_3 := ha_2.below hb
  have hb0_3 := hb0_2.below hb
  have HB_3 := Lib.hid (HB_2.out.trans (hb.mono HB_2.out.size))
  have z_3 : w2.heap.size ≤ w3.heap.size := hb.size
  clear hb ha_2 hb0_2
  have x_3 := TS.of_blk hk
  clear hk
  go_wp2_with fail
  refine (toTokenS_any _ lb _ _ _ HM.out hm1 hb0_3).mono ?_
  rintro e w4 ⟨rfl, hk, hb⟩
  have ha_4 := ha_3.below hb
  have hb0_4 := hb0_3.below hb
  have x_4 := x_3.below hb
  have HB_4 := Lib.hid (HB_3.out.trans (hb.mono HB_3.out.size))
  have z_4 : w3.heap.size ≤ w4.heap.size := hb.size
  clear hb ha_3 hb0_3 x_3
  have y_4 := TS.of_blk hk
  clear hk
  go_wp2_with fail
  have hspec := (sJoinStreams_any _ _ la lb _ _ la.length lb.length _ rfl rfl hnm2 x_4 y_4 fa fb L HL.out).mono (fun _ _ h => STokOut.out h)
  rw [HJ.out, HR.out] at hspec
  have HSP := Lib.hid hspec
  clear hspec
  refine (HSP.out).mono ?_
  rintro e w5 ⟨hb, B0, cB, rfl, hBlt, hrB⟩
  have ha_5 := ha_4.below hb
  have hb0_5 := hb0_4.below hb
  have x_5 := x_4.below hb
  have y_5 := y_4.below hb
  have HB_5 := Lib.hid (HB_4.out.trans (hb.mono HB_4.out.size))
  have z_5 : w4.heap.size ≤ w5.heap.size := hb.size
  clear hb ha_4 hb0_4 x_4 y_4
  clear HSP
  clear x_5
  clear y_5
  have rB_5 := hrB
  have HBlt := Lib.hid hBlt
  clear hBlt hrB
  go_wp2_with fail
  refine (toTokenS_any _ la _ _ _ HN.out hn1 ha_5).mono ?_
  rintro e w6 ⟨rfl, hk, hb⟩
  have ha_6 := ha_5.below hb
  have hb0_6 := hb0_5.below hb
  have rB_6 := rB_5.below hb
  have HB_6 := Lib.hid (HB_5.out.trans (hb.mono HB_5.out.size))
  have z_6 : w5.heap.size ≤ w6.heap.size := hb.size
  clear hb ha_5 hb0_5 rB_5
  have kx_6 := hk
  have hX := hk.lt
  clear hk
  go_wp2_with fail
  refine (toTokenS_any _ lb _ _ _ HM.out hm1 hb0_6).mono ?_
  rintro e w7 ⟨rfl, hk, hb⟩
  have ha_7 := ha_6.below hb
  have hb0_7 := hb0_6.below hb
  have rB_7 := rB_6.below hb
  have kx_7 := kx_6.below hb kx_6.lt
  have HB_7 := Lib.hid (HB_6.out.trans (hb.mono HB_6.out.size))
  have z_7 : w6.heap.size ≤ w7.heap.size := hb.size
  clear hb ha_6 hb0_6 rB_6 kx_6
  have ky_7 := hk
  have hY := hk.lt
  clear hk
  go_wp2_with fail
  have himpl := (JoinStreams_any _ _ la lb _ _ la.length lb.length _ rfl rfl hnm2 (TS.of_blk kx_7) (TS.of_blk ky_7) fa fb L HL.out).mono (fun _ _ h => TokOut.out h)
  rw [HJ.out, HR.out] at himpl
  have HIM := Lib.hid himpl
  clear himpl
  refine (HIM.out).mono ?_
  rintro e w8 ⟨hb, A0, cA, rfl, hAlo, hAc, hrA⟩
  have ha_8 := ha_7.below hb
  have hb0_8 := hb0_7.below hb
  have rB_8 := rB_7.below hb
  have kx_8 := kx_7.below hb kx_7.lt
  have ky_8 := ky_7.below hb ky_7.lt
  have HB_8 := Lib.hid (HB_7.out.trans (hb.mono HB_7.out.size))
  have z_8 : w7.heap.size ≤ w8.heap.size := hb.size
  clear hb ha_7 hb0_7 rB_7 kx_7 ky_7
  clear HIM
  have rA_8 := hrA
  have HAlo := Lib.hid hAlo
  have HAc := Lib.hid hAc
  clear hAlo hAc hrA
  go_wp2_with fail
  refine (eqTokenS_same _ _ R _ _ _ _ rfl hRl rA_8.ts rB_8).mono ?_
  rintro e w9 ⟨rfl, hb⟩
  have ha_9 := ha_8.below hb
  have hb0_9 := hb0_8.below hb
  have rB_9 := rB_8.below hb
  have kx_9 := kx_8.below hb kx_8.lt
  have ky_9 := ky_8.below hb ky_8.lt
  have rA_9 := rA_8.below hb
  have HB_9 := Lib.hid (HB_8.out.trans (hb.mono HB_8.out.size))
  have z_9 : w8.heap.size ≤ w9.heap.size := hb.size
  clear hb ha_8 hb0_8 rB_8 kx_8 ky_8 rA_8
  go_wp2_with fail
  refine (toTokenS_any _ la _ _ _ HN.out hn1 ha_9).mono ?_
  rintro e w10 ⟨rfl, hk, hb⟩
  have ha_10 := ha_9.below hb
  have hb0_10 := hb0_9.below hb
  have rB_10 := rB_9.below hb
  have kx_10 := kx_9.below hb kx_9.lt
  have ky_10 := ky_9.below hb ky_9.lt
  have rA_10 := rA_9.below hb
  have HB_10 := Lib.hid (HB_9.out.trans (hb.mono HB_9.out.size))
  have z_10 : w9.heap.size ≤ w10.heap.size := hb.size
  clear hb ha_9 hb0_9 rB_9 kx_9 ky_9 rA_9
  have hq := TS.of_blk hk
  clear hk
  go_wp2_with fail
  refine (eqTokenS_same _ _ la _ _ _ _ rfl hla (TS.of_blk kx_10) hq).mono ?_
  rintro e w11 ⟨rfl, hb⟩
  have ha_11 := ha_10.below hb
  have hb0_11 := hb0_10.below hb
  have rB_11 := rB_10.below hb
  have kx_11 := kx_10.below hb kx_10.lt
  have ky_11 := ky_10.below hb ky_10.lt
  have rA_11 := rA_10.below hb
  have HB_11 := Lib.hid (HB_10.out.trans (hb.mono HB_10.out.size))
  have z_11 : w10.heap.size ≤ w11.heap.size := hb.size
  clear hb ha_10 hb0_10 rB_10 kx_10 ky_10 rA_10
  clear hq
  go_wp2_with fail
  refine (toTokenS_any _ lb _ _ _ HM.out hm1 hb0_11).mono ?_
  rintro e w12 ⟨rfl, hk, hb⟩
  have ha_12 := ha_11.below hb
  have hb0_12 := hb0_11.below hb
  have rB_12 := rB_11.below hb
  have kx_12 := kx_11.below hb kx_11.lt
  have ky_12 := ky_11.below hb ky_11.lt
  have rA_12 := rA_11.below hb
  have HB_12 := Lib.hid (HB_11.out.trans (hb.mono HB_11.out.size))
  have z_12 : w11.heap.size ≤ w12.heap.size := hb.size
  clear hb ha_11 hb0_11 rB_11 kx_11 ky_11 rA_11
  have hq := TS.of_blk hk
  clear hk
  go_wp2_with fail
  refine (eqTokenS_same _ _ lb _ _ _ _ rfl hlb (TS.of_blk ky_12) hq).mono ?_
  rintro e w13 ⟨rfl, hb⟩
  have ha_13 := ha_12.below hb
  have hb0_13 := hb0_12.below hb
  have rB_13 := rB_12.below hb
  have kx_13 := kx_12.below hb kx_12.lt
  have ky_13 := ky_12.below hb ky_12.lt
  have rA_13 := rA_12.below hb
  have HB_13 := Lib.hid (HB_12.out.trans (hb.mono HB_12.out.size))
  have z_13 : w12.heap.size ≤ w13.heap.size := hb.size
  clear hb ha_12 hb0_12 rB_12 kx_12 ky_12 rA_12
  clear hq
  have zz5 : w.heap.size ≤ w5.heap.size := by omega
  have zz6 : w.heap.size ≤ w6.heap.size := by omega
  have zz8 : w.heap.size ≤ w7.heap.size := by omega
  go_wp2_with fail
  refine (markTokenS_blk _ la _ _ _ _ rfl (by omega) (by omega) (by omega) kx_13).mono ?_
  rintro e w14 ⟨rfl, hkz, hg⟩
  have ha_14 := ha_13.old ha HB_13.out.size hg (fun b hb => by injection hb; omega)
  have hb0_14 := hb0_13.old hb0 HB_13.out.size hg (fun b hb => by injection hb; omega)
  have rB_14 := rB_13.grown hg (fun b hb => by have := HBlt.out b hb; intro e; injection e; omega)
  have ky_14 := ky_13.grown hg (by intro e; injection e; omega)
  have rA_14 := rA_13.grown hg (fun b hb => by have := HAlo.out b hb; intro e; injection e; omega)
  have HB_14 := Lib.hid (HB_13.out.grown hg HB_13.out.size (fun b hb => by injection hb; omega))
  have z_14 : w13.heap.size ≤ w14.heap.size := hg.size
  clear hg ha_13 hb0_13 rB_13 kx_13 ky_13 rA_13
  clear hkz
  go_wp2_with fail
  refine (markTokenS_blk _ lb _ _ _ _ rfl (by omega) (by omega) (by omega) ky_14).mono ?_
  rintro e w15 ⟨rfl, hkz, hg⟩
  have ha_15 := ha_14.old ha HB_14.out.size hg (fun b hb => by injection hb; omega)
  have hb0_15 := hb0_14.old hb0 HB_14.out.size hg (fun b hb => by injection hb; omega)
  have rB_15 := rB_14.grown hg (fun b hb => by have := HBlt.out b hb; intro e; injection e; omega)
  have rA_15 := rA_14.grown hg (fun b hb => by have := HAlo.out b hb; intro e; injection e; omega)
  have HB_15 := Lib.hid (HB_14.out.grown hg HB_14.out.size (fun b hb => by injection hb; omega))
  have z_15 : w14.heap.size ≤ w15.heap.size := hg.size
  clear hg ha_14 hb0_14 rB_14 ky_14 rA_14
  clear hkz
  go_wp2_with fail
  refine (eqTokenS_same _ _ R _ _ _ _ rfl hRl rA_15.ts rB_15).mono ?_
  rintro e w16 ⟨rfl, hb⟩
  have ha_16 := ha_15.below hb
  have hb0_16 := hb0_15.below hb
  have rB_16 := rB_15.below hb
  have rA_16 := rA_15.below hb
  have HB_16 := Lib.hid (HB_15.out.trans (hb.mono HB_15.out.size))
  have z_16 : w15.heap.size ≤ w16.heap.size := hb.size
  clear hb ha_15 hb0_15 rB_15 rA_15
  go_wp2_with fail
  refine (markTokenS_any _ R _ _ _ (by omega) (by omega) (by omega) HAc.out rA_16).mono ?_
  rintro e w17 ⟨rfl, hrM, hg⟩
  have ha_17 := ha_16.old ha HB_16.out.size hg (fun b hb => by have := HAlo.out b hb; omega)
  have hb0_17 := hb0_16.old hb0 HB_16.out.size hg (fun b hb => by have := HAlo.out b hb; omega)
  have rB_17 := rB_16.grown hg (fun b hb e => by have h1 := HBlt.out b hb; have h2 := HAlo.out b e.symm; omega)
  have HB_17 := Lib.hid (HB_16.out.grown hg HB_16.out.size (fun b hb => by have := HAlo.out b hb; omega))
  have z_17 : w16.heap.size ≤ w17.heap.size := hg.size
  clear hg ha_16 hb0_16 rB_16 rA_16
  have rM_17 := hrM
  clear hrM
  have HU := Lib.hid (show ∀ i, i < R.length → (mkTo R 1 R.length)[i]? = some (mkT 1 i) from fun i hi => mkTo_at _ _ hi hi)
  go_wp2_with fail
  refine (heldTokenS_any _ (mkTo R 1 R.length) _ _ _ _ (mkTo_length _ _ _) (by omega) (by omega) (by omega) rM_17.ts HU.out).mono ?_
  rintro e w18 ⟨rfl, hb⟩
  have ha_18 := ha_17.below hb
  have hb0_18 := hb0_17.below hb
  have rB_18 := rB_17.below hb
  have rM_18 := rM_17.below hb
  have HB_18 := Lib.hid (HB_17.out.trans (hb.mono HB_17.out.size))
  have z_18 : w17.heap.size ≤ w18.heap.size := hb.size
  clear hb ha_17 hb0_17 rB_17 rM_17
  go_wp2_with fail
  refine (toTokenS_any _ la _ _ _ HN.out hn1 ha_18).mono ?_
  rintro e w19 ⟨rfl, hk, hb⟩
  have ha_19 := ha_18.below hb
  have hb0_19 := hb0_18.below hb
  have rB_19 := rB_18.below hb
  have rM_19 := rM_18.below hb
  have HB_19 := Lib.hid (HB_18.out.trans (hb.mono HB_18.out.size))
  have z_19 : w18.heap.size ≤ w19.heap.size := hb.size
  clear hb ha_18 hb0_18 rB_18 rM_18
  have x_19 := TS.of_blk hk
  clear hk
  go_wp2_with fail
  refine (toTokenS_any _ lb _ _ _ HM.out hm1 hb0_19).mono ?_
  rintro e w20 ⟨rfl, hk, hb⟩
  have ha_20 := ha_19.below hb
  have hb0_20 := hb0_19.below hb
  have rB_20 := rB_19.below hb
  have rM_20 := rM_19.below hb
  have x_20 := x_19.below hb
  have HB_20 := Lib.hid (HB_19.out.trans (hb.mono HB_19.out.size))
  have z_20 : w19.heap.size ≤ w20.heap.size := hb.size
  clear hb ha_19 hb0_19 rB_19 rM_19 x_19
  have y_20 := TS.of_blk hk
  clear hk
  go_wp2_with fail
  have himpl := (JoinStreams_any _ _ la lb _ _ la.length lb.length _ rfl rfl hnm2 x_20 y_20 fa fb L HL.out).mono (fun _ _ h => TokOut.out h)
  rw [HJ.out, HR.out] at himpl
  have HIM := Lib.hid himpl
  clear himpl
  refine (HIM.out).mono ?_
  rintro e w21 ⟨hb, A1, c1, rfl, _, _, hrC⟩
  have ha_21 := ha_20.below hb
  have hb0_21 := hb0_20.below hb
  have rB_21 := rB_20.below hb
  have rM_21 := rM_20.below hb
  have x_21 := x_20.below hb
  have y_21 := y_20.below hb
  have HB_21 := Lib.hid (HB_20.out.trans (hb.mono HB_20.out.size))
  have z_21 : w20.heap.size ≤ w21.heap.size := hb.size
  clear hb ha_20 hb0_20 rB_20 rM_20 x_20 y_20
  clear HIM
  clear x_21
  clear y_21
  go_wp2_with fail
  refine (eqTokenS_same _ _ R _ _ _ _ rfl hRl hrC.ts rB_21).mono ?_
  rintro e w22 ⟨rfl, hb⟩
  have ha_22 := ha_21.below hb
  have hb0_22 := hb0_21.below hb
  have rB_22 := rB_21.below hb
  have rM_22 := rM_21.below hb
  have HB_22 := Lib.hid (HB_21.out.trans (hb.mono HB_21.out.size))
  have z_22 : w21.heap.size ≤ w22.heap.size := hb.size
  clear hb ha_21 hb0_21 rB_21 rM_21
  go_wp2_with fail
  refine (heldTokenS_any _ (mkTo R 1 R.length) _ _ _ _ (mkTo_length _ _ _) (by omega) (by omega) (by omega) rM_22.ts HU.out).mono ?_
  rintro e w23 ⟨rfl, hb⟩
  have ha_23 := ha_22.below hb
  have hb0_23 := hb0_22.below hb
  have rB_23 := rB_22.below hb
  have rM_23 := rM_22.below hb
  have HB_23 := Lib.hid (HB_22.out.trans (hb.mono HB_22.out.size))
  have z_23 : w22.heap.size ≤ w23.heap.size := hb.size
  clear hb ha_22 hb0_22 rB_22 rM_22
  go_wp2
  go_ret
  exact ⟨rfl, HB_23.out⟩

set_option maxRecDepth 100000 in
theorem lifted (os : Os) (started : os.Started) (H : Type) (enc : TypeId × Value → H) :
    ReturnsInHanded {} Try.checked os 11 .any (Rows.fnExactJoinStreamsSpec.pre6 enc Try.prog Try.f11 Rows.fnExactJoinStreamsRow.domain false) (Rows.fnExactJoinStreamsSpec.post enc Try.prog Try.f11 false true false false) := by
  refine returnsInHanded_of_change (C := Try.checked) own started (by kernel_rfl) Try.func11
    (ChangeSpec.witness6 (enc := enc) (C := Try.checked) false ⟨#[], #[.slice none 0 0, .slice none 0 0], []⟩ 8 (by kernel_rfl) (by kernel_rfl) (by kernel_rfl) (by kernel_rfl)) ?_
  intro W base args ds gs before hval0 hW _ _
  have hval : ∀ (j : Nat) t v, Try.f11.params[j]? = some t → args[j]? = some v → Value.okWide Try.prog W .any base t v := hval0
  have hW' := hW
  obtain ⟨p, q, hA0, hV, rfl, _, _⟩ := hW
  have hA : DataW.TrodAll enc Try.prog W 0 (fun _ => true) true Try.f11.params.toList args.toList ds p := hA0
  rw [Try.params11] at hA hval
  obtain ⟨v0, vs0, d0, ds0, p0, q0, hargs0, rfl, rfl, h0, r0⟩ := trodAll_cons hA
  obtain ⟨v1, vs1, d1, ds1, p1, q1, hargs1, rfl, rfl, h1, r1⟩ := trodAll_cons r0
  obtain ⟨rfl, rfl, rfl⟩ := trodAll_nil r1
  obtain rfl : args = #[v0, v1] := by cases args; simp_all
  obtain ⟨rfl, rfl⟩ := trodVars_none hV
  have y0 := h0
  have lt0 : ∀ x ∈ p0, x.block < W.heap.size := by obtain ⟨m, hm⟩ := y0; exact DataW.trod_lt m _ _ _ hm
  have y1 := h1
  have lt1 : ∀ x ∈ p1, x.block < W.heap.size := by obtain ⟨m, hm⟩ := y1; exact DataW.trod_lt m _ _ _ hm
  obtain ⟨A0, n0, c0, l0, rfl, hl0, hn0, hts0, hf0⟩ := open_toks (hval 0 38 v0 rfl rfl) h0
  obtain ⟨A1, n1, c1, l1, rfl, hl1, hn1, hts1, hf1⟩ := open_toks (hval 1 38 v1 rfl rfl) h1
  clear hA0 hval0
  refine (law A0 l0 n0 c0 A1 l1 n1 c1 W hl0 hn0 hts0 hf0 hl1 hn1 hts1 hf1).mono fun e W' ⟨he, bel⟩ => ?_
  subst he
  exact ⟨_, rfl, _, _, _, [], _, [], hW', trodAll_mk1 (shut_bool Try.underlying4 _), (trodAll_cons_mk (Below.trod laidOut (by kernel_rfl) (of_decide_eq_true (by kernel_rfl)) y0 bel lt0) (trodAll_cons_mk (Below.trod laidOut (by kernel_rfl) (of_decide_eq_true (by kernel_rfl)) y1 bel lt1) trodAll_mk0)), rfl, bel.frame _, (fun h => by cases h)⟩

theorem over : Rows.fnExactJoinStreamsRow.holds Try.pinned (OpenSpec.ofChange Rows.fnExactJoinStreamsSpec) :=
  OpenClaim.holds_of_wide 11 Try.f11 rfl rfl rfl rfl rfl rfl rfl ⟨rfl, rfl, rfl, rfl, rfl⟩ rfl rfl rfl rfl rfl (by kernel_rfl) Try.func11 (by kernel_rfl)
    (of_decide_eq_true (by kernel_rfl)) (by unfold Func.isWrapper; first | (rw [if_pos (by decide +kernel)]; kernel_rfl) | (rw [if_neg (by decide +kernel)]; exact ⟨rfl, rfl⟩))
    (fun os started H enc _ => lifted os started H enc)

theorem proved : Rows.FnExactJoinStreamsSaid := over
#print axioms proved
end Go.Proofs.Ytlkiajjkcheoaaa.fnExactJoinStreams
