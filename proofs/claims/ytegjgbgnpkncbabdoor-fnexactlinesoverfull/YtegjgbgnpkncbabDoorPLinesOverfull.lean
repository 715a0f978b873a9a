/-
  The law FnExactLinesOverfull returns true at every argument: LinesOverfull answers as its model does, and its answer owns its memory.
  Conditions: none beyond the row's own; whatever the argument. The card ties the listed variables to the program's text.
-/
import Derived.Test.YtegjgbgnpkncbabDoorLov
import Derived.Test.YtegjgbgnpkncbabDoorArg
import Derived.Test.YtegjgbgnpkncbabDoorTie
import Derived.Test.YtegjgbgnpkncbabDoorCards
import Derived.ChangeVars
import Derived.LaidLaws
import Derived.LaidHandle
import Derived.SevenTiedAt
namespace Go.Proofs.YtegjgbgnpkncbabDoor.fnExactLinesOverfull
open Go.ChangeShapes Go.WideShapes Go.ChangeAt Go.RowKit Go.Joins
set_option linter.unusedVariables false

set_option maxHeartbeats 2000000 in
set_option maxRecDepth 100000 in
theorem law (W : Int) (A : Option Addr) (l : List Tk) (n c : Nat) (w : World) (hn : l.length = n) (hm : n ≤ maxLen) (hts : TS w A l) (hf : Fits l) :
    Calls Tryd.prog 3 #[.int .i64 W, .slice A n c] w fun e w' => e = .returned (.bool true) ∧ Below w.heap.size w w' := by
  have HN := Lib.hid hn
  clear hn
  go_enter Tryd.func3, Tryd.ntmps3
  go_wp2_with fail
  refine (szTokenS_any _ l _ _ _ _ HN.out hm (by omega) (by omega) hts hf).mono ?_
  rintro e w1 ⟨rfl, hb1⟩
  have HB1 := Lib.hid hb1
  have ht1 := hts.below hb1
  clear hb1
  by_cases hbig : (1048576 : Int) < (bulk l : Int)
  · rw [show szB 1048576 l = -1 from if_pos hbig]
    go_wp2
    go_ret
    exact ⟨rfl, HB1.out⟩
  · rw [show szB 1048576 l = 1048576 - bulk l from if_neg hbig]
    have hsm : n ≤ 1048576 := by have := HN.out; unfold bulk at hbig; omega
    have hnn : (0 : Int) ≤ 1048576 - (bulk l : Int) := by omega
    clear hm hbig
    have hle := lofL_le W l
    go_wp2_with fail
    refine (toTokenS_any _ l _ _ _ HN.out hsm ht1).mono ?_
    rintro e w2 ⟨rfl, hk2, hb2⟩
    have ht2 := ht1.below hb2
    have HB2 := Lib.hid (HB1.out.trans (hb2.mono HB1.out.size))
    have hx2 := TS.of_blk hk2
    have hlt2 := hk2.lt
    clear hb2 hk2
    have hl2 : l.length ≤ 2097152 := by have := HN.out; omega
    go_wp2_with fail
    refine (sLinesOverfull_any W _ l _ _ _ rfl hl2 hx2 (fun b hb => by simp at hb; omega) hf).mono ?_
    rintro e w3 ⟨hb3, B0, cB, rfl, hBlo, hBc, hrB⟩
    have ht3 := ht2.below hb3
    have HB3 := Lib.hid (HB2.out.trans (hb3.mono HB2.out.size))
    have HBlt := Lib.hid hrB.lt
    have HBlo := Lib.hid hBlo
    have HBc := Lib.hid hBc
    clear hb3 hx2 hBlo hBc
    go_wp2_with fail
    refine (toTokenS_any _ l _ _ _ HN.out hsm ht3).mono ?_
    rintro e w4 ⟨rfl, hk4, hb4⟩
    have ht4 := ht3.below hb4
    have HB4 := Lib.hid (HB3.out.trans (hb4.mono HB3.out.size))
    have hx4 := TS.of_blk hk4
    have hr4 := hrB.below hb4
    have hX := hk4.lt
    clear hb4
    go_wp2_with fail
    refine (LinesOverfull_any W _ l _ _ _ rfl hl2 (Nat.le_refl _) hx4 (fun b hb => by simp at hb; omega) hf).mono ?_
    rintro e w5 ⟨hb5, A0, cA, rfl, hAlo, hAc, hrA⟩
    have ht5 := ht4.below hb5
    have hx5 := hx4.below hb5
    have hk5 := hk4.below hb5 hk4.lt
    have hr5 := hr4.below hb5
    have HB5 := Lib.hid (HB4.out.trans (hb5.mono HB4.out.size))
    have HAlo := Lib.hid hAlo
    have HAc := Lib.hid hAc
    clear hb5 hx4 hk4 hr4 hAlo hAc
    go_wp2_with fail
    refine (eqIntS_same _ _ (lofL W l) _ _ _ _ rfl (by omega) hrA.is hr5.is).mono ?_
    rintro e w6 ⟨rfl, hb6⟩
    have ht6 := ht5.below hb6
    have hx6 := hx5.below hb6
    have hk6 := hk5.below hb6 hk5.lt
    have hr6 := hr5.below hb6
    have hs6 := hrA.below hb6
    have HB6 := Lib.hid (HB5.out.trans (hb6.mono HB5.out.size))
    clear hb6 hx5 hk5 hr5 hrA
    go_wp2_with fail
    refine (toTokenS_any _ l _ _ _ HN.out hsm ht6).mono ?_
    rintro e w7 ⟨rfl, hk7, hb7⟩
    have ht7 := ht6.below hb7
    have hx7 := hx6.below hb7
    have hy7 := TS.of_blk hk7
    have hkx7 := hk6.below hb7 hk6.lt
    have hr7 := hr6.below hb7
    have hs7 := hs6.below hb7
    have HB7 := Lib.hid (HB6.out.trans (hb7.mono HB6.out.size))
    clear hb7 hk7 hx6 hk6 hr6 hs6
    go_wp2_with fail
    refine (eqTokenS_same _ _ l _ _ _ _ rfl (by have := HN.out; omega) hx7 hy7).mono ?_
    rintro e w8 ⟨rfl, hb8⟩
    have ht8 := ht7.below hb8
    have hk8 := hkx7.below hb8 hkx7.lt
    have hr8 := hr7.below hb8
    have hs8 := hs7.below hb8
    have HB8 := Lib.hid (HB7.out.trans (hb8.mono HB7.out.size))
    clear hb8 hx7 hy7 hkx7 hr7 hs7
    have z3 : w.heap.size ≤ w3.heap.size := HB3.out.size
    go_wp2_with fail
    refine (markTokenS_blk _ l _ _ _ _ rfl hl2 (by omega) (by omega) hk8).mono ?_
    rintro e w9 ⟨rfl, hk9, hg9⟩
    have ht9 : TS w9 A l := ht8.old hts HB8.out.size hg9 (fun b hb => by injection hb; omega)
    have hr9 := hr8.grown hg9 (fun b hb => by have := HBlt.out b hb; intro e; injection e; omega)
    have hs9 := hs8.grown hg9 (fun b hb => by have := HAlo.out b hb; intro e; injection e; omega)
    have HB9 := Lib.hid (HB8.out.grown hg9 HB8.out.size (fun b hb => by injection hb; omega))
    clear hg9 hk8 hk9 hr8 hs8
    go_wp2_with fail
    refine (eqIntS_same _ _ (lofL W l) _ _ _ _ rfl (by omega) hs9.is hr9.is).mono ?_
    rintro e w10 ⟨rfl, hb10⟩
    have ht10 := ht9.below hb10
    have hr10 := hr9.below hb10
    have hs10 := hs9.below hb10
    have HB10 := Lib.hid (HB9.out.trans (hb10.mono HB9.out.size))
    clear hb10 hr9 hs9
    have z4 : w3.heap.size ≤ w4.heap.size := by omega
    go_wp2_with fail
    refine (markIntS_any _ (lofL W l) _ _ _ (by omega) (by omega) (by omega) HAc.out hs10).mono ?_
    rintro e w11 ⟨rfl, hs11, hg11⟩
    have ht11 : TS w11 A l := ht10.old hts HB10.out.size hg11 (fun b hb => by have := HAlo.out b hb; omega)
    have hr11 := hr10.grown hg11 (fun b hb e => by have h1 := HBlt.out b hb; have h2 := HAlo.out b e.symm; omega)
    have HB11 := Lib.hid (HB10.out.grown hg11 HB10.out.size (fun b hb => by have := HAlo.out b hb; omega))
    clear hg11 hr10 hs10
    have hu : ∀ i, i < (lofL W l).length → (upTo (lofL W l) 1 (lofL W l).length)[i]? = some ((1 : Int) + (i : Int)) := fun i hi => upTo_at _ _ hi hi
    have HU := Lib.hid hu
    clear hu
    go_wp2_with fail
    refine (heldIntS_any _ (upTo (lofL W l) 1 (lofL W l).length) _ _ _ _ (upTo_length _ _ _) (by omega) (by omega) (by omega) hs11.is HU.out).mono ?_
    rintro e w12 ⟨rfl, rfl⟩
    go_wp2_with fail
    refine (toTokenS_any _ l _ _ _ HN.out hsm ht11).mono ?_
    rintro e w13 ⟨rfl, hk13, hb13⟩
    have hx13 := TS.of_blk hk13
    have hlt13 := hk13.lt
    have hr13 := hr11.below hb13
    have hs13 := hs11.below hb13
    have HB13 := Lib.hid (HB11.out.trans (hb13.mono HB11.out.size))
    clear hb13 hk13 hr11 hs11
    go_wp2_with fail
    refine (LinesOverfull_any W _ l _ _ _ rfl hl2 (Nat.le_refl _) hx13 (fun b hb => by simp at hb; omega) hf).mono ?_
    rintro e w14 ⟨hb14, A1, c1, rfl, _, _, hrC⟩
    have hr14 := hr13.below hb14
    have hs14 := hs13.below hb14
    have HB14 := Lib.hid (HB13.out.trans (hb14.mono HB13.out.size))
    clear hb14 hr13 hs13
    go_wp2_with fail
    refine (eqIntS_same _ _ (lofL W l) _ _ _ _ rfl (by omega) hrC.is hr14.is).mono ?_
    rintro e w15 ⟨rfl, hb15⟩
    have hs15 := hs14.below hb15
    have HB15 := Lib.hid (HB14.out.trans (hb15.mono HB14.out.size))
    clear hb15 hr14 hs14
    go_wp2_with fail
    refine (heldIntS_any _ (upTo (lofL W l) 1 (lofL W l).length) _ _ _ _ (upTo_length _ _ _) (by omega) (by omega) (by omega) hs15.is HU.out).mono ?_
    rintro e w16 ⟨rfl, rfl⟩
    go_wp2
    go_ret
    exact ⟨rfl, HB15.out⟩

/-! the row -/
def leaf : DataW Unit → Value
  | .lit (.int k n) => .int k n
  | _ => undef
/-- the cells of a table of numbers, or of rows of numbers. -/
def cellsIn : DataW Unit → List Value
  | .agg l => l.flatMap fun x => match x with | .agg m => m.map leaf | d => [leaf d]
  | _ => []
/-- a world in which the listed variables read as listed. -/
def lay (g : Nat) (cs : List Value) (w : World) : World :=
  { w with heap := w.heap.modify g fun
      | .cells _ t frozen => .cells cs.toArray t frozen
      | o => o }
noncomputable def laidWorld (os : Os) : World :=
  lay 1 (cellsIn Rows.laid_unicode_utf8_first) (lay 2 (cellsIn Rows.laid_unicode_utf8_acceptRanges) (World.holding Tryd.prog os ⟨#[], #[], []⟩))
set_option maxRecDepth 100000 in
theorem laidWorld_data (os : Os) : laidMet Tryd.prog [("unicode/utf8.acceptRanges", Rows.laid_unicode_utf8_acceptRanges), ("unicode/utf8.first", Rows.laid_unicode_utf8_first)] ((laidWorld os).forCall (fun _ _ => 0) ⟨#[], #[.int .i64 0, .slice none 0 0], []⟩).memory :=
  laidMet_of_run' 8 (by kernel_rfl) (by kernel_rfl)
theorem laidWorld_met (os : Os) : laidMetH Tryd.prog Rows.fnExactLinesOverfullRow.laid ((laidWorld os).forCall (fun _ _ => 0) ⟨#[], #[.int .i64 0, .slice none 0 0], []⟩).memory :=
  laidMetH_of_parts (laidWorld_data os) (by kernel_rfl)

set_option maxRecDepth 100000 in
theorem lifted (os : Os) (started : os.Started) (H : Type) (enc : TypeId × Value → H) :
    ReturnsInHanded {} Tryd.checked os 3 .any (fun w args => (Rows.fnExactLinesOverfullSpec.pre enc Tryd.prog Tryd.f3 Rows.fnExactLinesOverfullRow.domain false w args ∧ laidMetH Tryd.prog Rows.fnExactLinesOverfullRow.laid w) ∧ sizedMet enc Tryd.prog Tryd.f3 (OpenSpec.ofChange Rows.fnExactLinesOverfullSpec) false w args)
      (Rows.fnExactLinesOverfullSpec.post enc Tryd.prog Tryd.f3 false true false false) := by
  refine returnsInHanded_of_change_and (C := Tryd.checked) (X := fun w _ => laidMetH Tryd.prog Rows.fnExactLinesOverfullRow.laid w) (fun _ _ _ hh h => h.of_heap hh) own started (by kernel_rfl) Tryd.func3
    (ChangeSpec.witness_at (enc := enc) (C := Tryd.checked) (os := os) (X := fun w _ => laidMetH Tryd.prog Rows.fnExactLinesOverfullRow.laid w) false (laidWorld os) #[.int .i64 0, .slice none 0 0] 8 rfl (by kernel_rfl) (by kernel_rfl) (by kernel_rfl) (by kernel_rfl) (by kernel_rfl) (laidWorld_met os)) ?_
  intro W base args ds gs before hval0 hW _ _ hL _
  have hval : ∀ (j : Nat) t v, Tryd.f3.params[j]? = some t → args[j]? = some v → Value.okWide Tryd.prog W .any base t v := hval0
  have hW' := hW
  obtain ⟨p, q, hA0, hV, rfl, _, _⟩ := hW
  have hA : DataW.TrodAll enc Tryd.prog W 0 (fun _ => true) true Tryd.f3.params.toList args.toList ds p := hA0
  rw [Tryd.params3] at hA hval
  obtain ⟨v0, vs0, d0, ds0, p0, q0, hargs0, rfl, rfl, h0, r0⟩ := trodAll_cons hA
  obtain ⟨v1, vs1, d1, ds1, p1, q1, hargs1, rfl, rfl, h1, r1⟩ := trodAll_cons r0
  obtain ⟨rfl, rfl, rfl⟩ := trodAll_nil r1
  obtain rfl : args = #[v0, v1] := by cases args; simp_all
  obtain ⟨rfl, rfl⟩ := trodVars_none hV
  have y0 := h0
  have lt0 : ∀ x ∈ p0, x.block < W.heap.size := by obtain ⟨m, hm⟩ := y0; exact DataW.trod_lt m _ _ _ hm
  obtain ⟨k0, rfl⟩ := okWide_int Tryd.underlying3 (hval 0 3 v0 rfl rfl)
  have hk0 : (Lit.int .i64 k0).wf = true := by obtain ⟨m, hm⟩ := h0; obtain ⟨n', e, _, wf⟩ := DataW.trod_int Tryd.underlying3 hm; simp [Value.cells] at e; subst e; exact wf
  have y1 := h1
  have lt1 : ∀ x ∈ p1, x.block < W.heap.size := by obtain ⟨m, hm⟩ := y1; exact DataW.trod_lt m _ _ _ hm
  obtain ⟨A1, n1, c1, l1, rfl, hl1, hn1, hts1, hf1⟩ := open_toks (hval 1 22 v1 rfl rfl) h1
  clear hA0 hval0
  refine (law k0 A1 l1 n1 c1 W hl1 hn1 hts1 hf1).mono fun e W' ⟨he, bel⟩ => ?_
  subst he
  exact ⟨_, rfl, _, _, _, [], _, [], hW', trodAll_mk1 (shut_bool Tryd.underlying4 _), (trodAll_cons_mk (Below.trod laidOut (by kernel_rfl) (of_decide_eq_true (by kernel_rfl)) y0 bel lt0) (trodAll_cons_mk (Below.trod laidOut (by kernel_rfl) (of_decide_eq_true (by kernel_rfl)) y1 bel lt1) trodAll_mk0)), rfl, bel.frame _, (fun h => by cases h)⟩

theorem over : Rows.fnExactLinesOverfullRow.holds Tryd.pinned (OpenSpec.ofChange Rows.fnExactLinesOverfullSpec) :=
  OpenClaim.holds_of_wide 3 Tryd.f3 rfl rfl rfl rfl rfl rfl rfl ⟨rfl, rfl, rfl, rfl, rfl⟩ rfl rfl rfl rfl rfl (by kernel_rfl) Tryd.func3 (by kernel_rfl)
    (of_decide_eq_true (by kernel_rfl)) (by unfold Func.isWrapper; first | (rw [if_pos (by decide +kernel)]; kernel_rfl) | (rw [if_neg (by decide +kernel)]; exact ⟨rfl, rfl⟩))
    (fun os started H enc _ => lifted os started H enc)

theorem proved : Rows.FnExactLinesOverfullCardSaid :=
  Claim7.holds_tied_plain_at .later [] [.data, .pinned] true Rows.fnExactLinesOverfullCard.stood.harness true
    over (fun _ h => by cases h) (by kernel_rfl) (fun _ h => by cases h) fnExactLinesOverfull_row_tie rfl ⟨rfl, rfl⟩ (by kernel_rfl) rfl
    (fun f fn hf hfn => by
      obtain rfl : f = 3 := Option.some.inj ((show Tryd.prog.funcNamed "loop.example/g00829/laws.FnExactLinesOverfull" = some 3 by kernel_rfl).symm.trans hf) |>.symm
      obtain rfl : fn = Tryd.f3 := (Option.some.inj (Tryd.func3.symm.trans hfn)).symm
      exact ⟨by kernel_rfl, fun j t ht => by
        rw [Tryd.params3] at ht
        have h3 : t = 3 ∨ t = 22 := by
          rcases j with _ | _ | j
          · exact .inl (by simpa using ht.symm)
          · exact .inr (by simpa using ht.symm)
          · simp at ht
        rcases h3 with rfl | rfl
        · exact (show Tryd.prog.wantsStandIn 3 = false by kernel_rfl)
        · exact (show Tryd.prog.wantsStandIn 22 = false by kernel_rfl)⟩)
    (by kernel_rfl)
#print axioms proved
end Go.Proofs.YtegjgbgnpkncbabDoor.fnExactLinesOverfull
