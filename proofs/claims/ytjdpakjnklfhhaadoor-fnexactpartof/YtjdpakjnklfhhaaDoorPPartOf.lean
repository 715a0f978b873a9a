/-
  The law FnExactPartOf returns true at every argument: PartOf answers as its model does, writes into no argument, and its answer owns its memory.
  Conditions: none beyond the row's own; whatever the arguments. The card ties the listed variables to the program's text.
-/
import Derived.Test.YtjdpakjnklfhhaaDoorNdr
import Derived.Test.YtjdpakjnklfhhaaDoorArg
import Derived.Test.YtjdpakjnklfhhaaDoorTie
import Derived.Test.YtjdpakjnklfhhaaDoorCards
import Derived.ChangeVars
import Derived.LaidLaws
import Derived.LaidHandle
import Derived.SevenTiedAt
namespace Go.Proofs.YtjdpakjnklfhhaaDoor.fnExactPartOf
open Go.ChangeShapes Go.WideShapes Go.ChangeAt Go.RowKit Go.Joins
set_option linter.unusedVariables false

set_option maxHeartbeats 2000000 in
set_option maxRecDepth 100000 in
theorem law (A : Option Addr) (l : List Nd) (n c : Nat) (k : Int) (w : World) (hn : l.length = n) (hm : n ≤ maxLen) (hts : NS w A l) (hf : Fits (tns l)) (hkw : (Lit.int .i64 k).wf = true) (hg : ErrV w) :
    Calls Tryd.prog 5 #[.slice A n c, .int .i64 k] w fun e w' => e = .returned (.bool true) ∧ Below w.heap.size w w' := by
  have HN := Lib.hid hn
  have HG := Lib.hid hg
  clear hn hg
  go_enter Tryd.func5, Tryd.ntmps5
  go_wp2_with fail
  refine (szNodeS_any _ l _ _ _ _ HN.out hm (by omega) (by omega) hts hf).mono ?_
  rintro e w1 ⟨rfl, hb1⟩
  have HB1 := Lib.hid hb1
  have ht1 := hts.below hb1
  clear hb1
  by_cases hbig : (1048576 : Int) < (bulk (tns l) : Int)
  · rw [show szB 1048576 (tns l) = -1 from if_pos hbig]
    go_wp2
    go_ret
    exact ⟨rfl, HB1.out⟩
  · rw [show szB 1048576 (tns l) = 1048576 - bulk (tns l) from if_neg hbig]
    have hsm : n ≤ 1048576 := by have := HN.out; have h8 := tns_length l; unfold bulk at hbig; omega
    have hnn : (0 : Int) ≤ 1048576 - (bulk (tns l) : Int) := by omega
    have HS := Lib.hid (show ∀ (i : Nat) (x : Nd), l[i]? = some x → x.s.size ≤ 1048576 from fun i x hx => by have := bulk_at (tns_at hx); simp only [tkn] at this; omega)
    clear hm hbig
    have hle := pts_le l k
    go_wp2_with fail
    refine (toNodeS_any _ l _ _ _ HN.out hsm ht1).mono ?_
    rintro e w2 ⟨rfl, hk2, hb2⟩
    have ht2 := ht1.below hb2
    have HB2 := Lib.hid (HB1.out.trans (hb2.mono HB1.out.size))
    have hx2 := NS.of_blk hk2
    clear hb2 hk2
    have hl2 : l.length ≤ 2097152 := by have := HN.out; omega
    go_wp2_with fail
    refine (sPartOf_o _ l _ _ k _ rfl hl2 hx2 HS.out hkw).mono ?_
    rintro e w3 ⟨hb3, B0, cB, rfl, hBlo, hrB⟩
    have ht3 := ht2.below hb3
    have HB3 := Lib.hid (HB2.out.trans (hb3.mono HB2.out.size))
    have HBlt := Lib.hid (show ∀ b, B0.map (·.block) = some b → b < w3.heap.size from fun b hb => (hBlo b hb).2)
    have HBlo := Lib.hid (show ∀ b, B0.map (·.block) = some b → w2.heap.size ≤ b from fun b hb => (hBlo b hb).1)
    clear hb3 hx2 hBlo
    go_wp2_with fail
    refine (toNodeS_any _ l _ _ _ HN.out hsm ht3).mono ?_
    rintro e w4 ⟨rfl, hk4, hb4⟩
    have ht4 := ht3.below hb4
    have HB4 := Lib.hid (HB3.out.trans (hb4.mono HB3.out.size))
    have hx4 := NS.of_blk hk4
    have hr4 := hrB.below hb4
    have hX := hk4.lt
    clear hb4
    go_wp2_with fail
    refine (PartOf_o _ l _ _ k _ rfl hl2 hx4 (HG.out.belowB HB4.out HG.out.pos) hkw).mono ?_
    rintro e w5 ⟨hb5, A0, cA, rfl, hAlo, hrA⟩
    have ht5 := ht4.below hb5
    have hx5 := hx4.below hb5
    have hk5 := hk4.below hb5 hk4.lt
    have hr5 := hr4.below hb5
    have HB5 := Lib.hid (HB4.out.trans (hb5.mono HB4.out.size))
    have HAlo := Lib.hid (show ∀ b, A0.map (·.block) = some b → w4.heap.size ≤ b from fun b hb => (hAlo b hb).1)
    clear hb5 hx4 hk4 hr4 hAlo
    go_wp2_with fail
    refine (eqNodeS_same _ _ (pts l k) _ _ _ _ rfl (by omega) hrA.is hr5.is).mono ?_
    rintro e w6 ⟨rfl, hb6⟩
    have ht6 := ht5.below hb6
    have hx6 := hx5.below hb6
    have hk6 := hk5.below hb6 hk5.lt
    have hr6 := hr5.below hb6
    have hs6 := hrA.below hb6
    have HB6 := Lib.hid (HB5.out.trans (hb6.mono HB5.out.size))
    clear hb6 hx5 hk5 hr5 hrA
    go_wp2_with fail
    refine (toNodeS_any _ l _ _ _ HN.out hsm ht6).mono ?_
    rintro e w7 ⟨rfl, hk7, hb7⟩
    have ht7 := ht6.below hb7
    have hx7 := hx6.below hb7
    have hy7 := NS.of_blk hk7
    have hkx7 := hk6.below hb7 hk6.lt
    have hr7 := hr6.below hb7
    have hs7 := hs6.below hb7
    have HB7 := Lib.hid (HB6.out.trans (hb7.mono HB6.out.size))
    clear hb7 hk7 hx6 hk6 hr6 hs6
    go_wp2_with fail
    refine (eqNodeS_same _ _ l _ _ _ _ rfl (by have := HN.out; omega) hx7 hy7).mono ?_
    rintro e w8 ⟨rfl, hb8⟩
    have ht8 := ht7.below hb8
    have hk8 := hkx7.below hb8 hkx7.lt
    have hr8 := hr7.below hb8
    have hs8 := hs7.below hb8
    have HB8 := Lib.hid (HB7.out.trans (hb8.mono HB7.out.size))
    clear hb8 hx7 hy7 hkx7 hr7 hs7
    have z3 : w.heap.size ≤ w3.heap.size := HB3.out.size
    go_wp2_with fail
    refine (markNodeS_blk _ l [] _ _ _ _ rfl hl2 (by omega) (by omega) (by simpa using hk8)).mono ?_
    rintro e w9 ⟨rfl, hk9, hg9⟩
    have ht9 : NS w9 A l := ht8.old hts HB8.out.size hg9 (fun b hb => by injection hb; omega)
    have hr9 := hr8.grown hg9 (fun b hb => by have := HBlt.out b hb; intro e; injection e; omega)
    have hs9 := hs8.grown hg9 (fun b hb => by have := HAlo.out b hb; intro e; injection e; omega)
    have HB9 := Lib.hid (HB8.out.grown hg9 HB8.out.size (fun b hb => by injection hb; omega))
    clear hg9 hk8 hk9 hr8 hs8
    go_wp2_with fail
    refine (eqNodeS_same _ _ (pts l k) _ _ _ _ rfl (by omega) hs9.is hr9.is).mono ?_
    rintro e w10 ⟨rfl, hb10⟩
    have ht10 := ht9.below hb10
    have hr10 := hr9.below hb10
    have hs10 := hs9.below hb10
    have HB10 := Lib.hid (HB9.out.trans (hb10.mono HB9.out.size))
    clear hb10 hr9 hs9
    have z4 : w3.heap.size ≤ w4.heap.size := by omega
    go_wp2_with fail
    refine (markNodeR_any _ (pts l k) _ _ _ (by omega) (by omega) (by omega) hs10).mono ?_
    rintro e w11 ⟨rfl, hs11, hg11⟩
    have ht11 : NS w11 A l := ht10.old hts HB10.out.size hg11 (fun b hb => by have := HAlo.out b hb; omega)
    have hr11 := hr10.grown hg11 (fun b hb e => by have h1 := HBlt.out b hb; have h2 := HAlo.out b e.symm; omega)
    have HB11 := Lib.hid (HB10.out.grown hg11 HB10.out.size (fun b hb => by have := HAlo.out b hb; omega))
    clear hg11 hr10 hs10
    have hu : ∀ i, i < (pts l k).length → (mkF (mkNd 1) (pts l k) (pts l k).length)[i]? = some (mkNd 1 i) := fun i hi => mkF_at _ _ hi
    have HU := Lib.hid hu
    clear hu
    go_wp2_with fail
    refine (heldNodeS_any _ (mkF (mkNd 1) (pts l k) (pts l k).length) _ _ _ _ (mkF_length _ _ _) (by omega) (by omega) (by omega) hs11.is HU.out).mono ?_
    rintro e w12 ⟨rfl, hb12⟩
    replace ht11 := ht11.below hb12
    replace hr11 := hr11.below hb12
    replace hs11 := hs11.below hb12
    replace HB11 := Lib.hid (HB11.out.trans (hb12.mono HB11.out.size))
    clear hb12
    go_wp2_with fail
    refine (toNodeS_any _ l _ _ _ HN.out hsm ht11).mono ?_
    rintro e w13 ⟨rfl, hk13, hb13⟩
    have hx13 := NS.of_blk hk13
    have hr13 := hr11.below hb13
    have hs13 := hs11.below hb13
    have HB13 := Lib.hid (HB11.out.trans (hb13.mono HB11.out.size))
    clear hb13 hk13 hr11 hs11
    go_wp2_with fail
    refine (PartOf_o _ l _ _ k _ rfl hl2 hx13 (HG.out.belowB HB13.out HG.out.pos) hkw).mono ?_
    rintro e w14 ⟨hb14, A1, c1, rfl, _, hrC⟩
    have hr14 := hr13.below hb14
    have hs14 := hs13.below hb14
    have HB14 := Lib.hid (HB13.out.trans (hb14.mono HB13.out.size))
    clear hb14 hr13 hs13
    go_wp2_with fail
    refine (eqNodeS_same _ _ (pts l k) _ _ _ _ rfl (by omega) hrC.is hr14.is).mono ?_
    rintro e w15 ⟨rfl, hb15⟩
    have hs15 := hs14.below hb15
    have HB15 := Lib.hid (HB14.out.trans (hb15.mono HB14.out.size))
    clear hb15 hr14 hs14
    go_wp2_with fail
    refine (heldNodeS_any _ (mkF (mkNd 1) (pts l k) (pts l k).length) _ _ _ _ (mkF_length _ _ _) (by omega) (by omega) (by omega) hs15.is HU.out).mono ?_
    rintro e w16 ⟨rfl, hb16⟩
    have HB16 := Lib.hid (HB15.out.trans (hb16.mono HB15.out.size))
    clear hb16
    go_wp2
    go_ret
    exact ⟨rfl, HB16.out⟩

/-! the row -/
def leaf : DataW Unit → Value
  | .lit (.int k n) => .int k n
  | _ => undef
/-- the cells of a table of numbers, or of rows of numbers. -/
def cellsIn : DataW Unit → List Value
  | .agg l => l.flatMap fun x => match x with | .agg m => m.map leaf | d => [leaf d]
  | _ => []
theorem rtypeRow : (Tryd.prog.cutTypes.find? (·.1 == "internal/reflectlite.rtype")).map (·.2) = some 134 := by kernel_rfl
theorem errorRow : ((List.range Tryd.prog.types.size).filter fun t => Tryd.prog.rowNamed t [101, 114, 114, 111, 114]) = [78] := by kernel_rfl
theorem errorHandle : typeHandle Tryd.prog 78 = .pointer (some ⟨4, 78, none⟩) := by kernel_rfl
theorem errV_of_laid {W : World} (h : laidMetH Tryd.prog Rows.fnExactPartOfRow.laid W) : ErrV W := by
  have h' : laidMet Tryd.prog [("unicode/utf8.acceptRanges", Rows.laid_unicode_utf8_acceptRanges), ("unicode/utf8.first", Rows.laid_unicode_utf8_first)] W ∧ handlesMet Tryd.prog [("errors.errorType", Rows.laid_errors_errorType)] W := h
  obtain ⟨name, u, ty, e1, e2, e3, e4, e5⟩ := h'.2 _ (List.mem_singleton.2 rfl)
  have en : name = [101, 114, 114, 111, 114] := (Option.some.inj e1).symm
  subst en
  obtain rfl := Option.some.inj (rtypeRow.symm.trans e2)
  have hm : ty ∈ (List.range Tryd.prog.types.size).filter fun t => Tryd.prog.rowNamed t [101, 114, 114, 111, 114] := List.mem_filter.2 ⟨List.mem_range.2 e3, e4⟩
  rw [errorRow] at hm
  obtain rfl := List.mem_singleton.1 hm
  rw [errorHandle] at e5
  have h0 := World.var?_cell errVar e5 0
  unfold ErrV
  simpa using h0

/-- a world in which the listed variables read as listed. -/
def lay (g : Nat) (cs : List Value) (w : World) : World :=
  { w with heap := w.heap.modify g fun
      | .cells _ t frozen => .cells cs.toArray t frozen
      | o => o }
noncomputable def laidWorld (os : Os) : World :=
  lay 0 [.iface 134 (.agg #[.pointer (some ⟨4, 78, none⟩)])] (lay 2 (cellsIn Rows.laid_unicode_utf8_first) (lay 3 (cellsIn Rows.laid_unicode_utf8_acceptRanges) (World.holding Tryd.prog os ⟨#[], #[], []⟩)))
set_option maxRecDepth 100000 in
theorem laidWorld_data (os : Os) : laidMet Tryd.prog [("unicode/utf8.acceptRanges", Rows.laid_unicode_utf8_acceptRanges), ("unicode/utf8.first", Rows.laid_unicode_utf8_first)] ((laidWorld os).forCall (fun _ _ => 0) ⟨#[], #[.slice none 0 0, .int .i64 0], []⟩).memory :=
  laidMet_of_run' 8 (by kernel_rfl) (by kernel_rfl)
theorem laidWorld_met (os : Os) : laidMetH Tryd.prog Rows.fnExactPartOfRow.laid ((laidWorld os).forCall (fun _ _ => 0) ⟨#[], #[.slice none 0 0, .int .i64 0], []⟩).memory :=
  laidMetH_of_parts (laidWorld_data os) (by kernel_rfl)

set_option maxRecDepth 100000 in
theorem lifted (os : Os) (started : os.Started) (H : Type) (enc : TypeId × Value → H) :
    ReturnsInHanded {} Tryd.checked os 5 .any (fun w args => (Rows.fnExactPartOfSpec.pre enc Tryd.prog Tryd.f5 Rows.fnExactPartOfRow.domain false w args ∧ laidMetH Tryd.prog Rows.fnExactPartOfRow.laid w) ∧ sizedMet enc Tryd.prog Tryd.f5 (OpenSpec.ofChange Rows.fnExactPartOfSpec) false w args)
      (Rows.fnExactPartOfSpec.post enc Tryd.prog Tryd.f5 false true false false) := by
  refine returnsInHanded_of_change_and (C := Tryd.checked) (X := fun w _ => laidMetH Tryd.prog Rows.fnExactPartOfRow.laid w) (fun _ _ _ hh h => h.of_heap hh) own started (by kernel_rfl) Tryd.func5
    (ChangeSpec.witness_at (enc := enc) (C := Tryd.checked) (os := os) (X := fun w _ => laidMetH Tryd.prog Rows.fnExactPartOfRow.laid w) false (laidWorld os) #[.slice none 0 0, .int .i64 0] 8 rfl (by kernel_rfl) (by kernel_rfl) (by kernel_rfl) (by kernel_rfl) (by kernel_rfl) (laidWorld_met os)) ?_
  intro W base args ds gs before hval0 hW _ _ hL _
  have hval : ∀ (j : Nat) t v, Tryd.f5.params[j]? = some t → args[j]? = some v → Value.okWide Tryd.prog W .any base t v := hval0
  have hW' := hW
  obtain ⟨p, q, hA0, hV, rfl, _, _⟩ := hW
  have hA : DataW.TrodAll enc Tryd.prog W 0 (fun _ => true) true Tryd.f5.params.toList args.toList ds p := hA0
  rw [Tryd.params5] at hA hval
  obtain ⟨v0, vs0, d0, ds0, p0, q0, hargs0, rfl, rfl, h0, r0⟩ := trodAll_cons hA
  obtain ⟨v1, vs1, d1, ds1, p1, q1, hargs1, rfl, rfl, h1, r1⟩ := trodAll_cons r0
  obtain ⟨rfl, rfl, rfl⟩ := trodAll_nil r1
  obtain rfl : args = #[v0, v1] := by cases args; simp_all
  obtain ⟨rfl, rfl⟩ := trodVars_none hV
  have y0 := h0
  have lt0 : ∀ x ∈ p0, x.block < W.heap.size := by obtain ⟨m, hm⟩ := y0; exact DataW.trod_lt m _ _ _ hm
  have y1 := h1
  have lt1 : ∀ x ∈ p1, x.block < W.heap.size := by obtain ⟨m, hm⟩ := y1; exact DataW.trod_lt m _ _ _ hm
  obtain ⟨A0, n0, c0, l0, rfl, hl0, hn0, hts0, hf0⟩ := open_Nodes (hval 0 22 v0 rfl rfl) h0
  obtain ⟨k1, rfl⟩ := okWide_int Tryd.underlying3 (hval 1 3 v1 rfl rfl)
  have hk1 : (Lit.int .i64 k1).wf = true := by obtain ⟨m, hm⟩ := h1; obtain ⟨n', e, _, wf⟩ := DataW.trod_int Tryd.underlying3 hm; simp [Value.cells] at e; subst e; exact wf
  clear hA0 hval0
  refine (law A0 l0 n0 c0 k1 W hl0 hn0 hts0 hf0 hk1 (errV_of_laid hL)).mono fun e W' ⟨he, bel⟩ => ?_
  subst he
  exact ⟨_, rfl, _, _, _, [], _, [], hW', trodAll_mk1 (shut_bool Tryd.underlying4 _), (trodAll_cons_mk (Below.trod laidOut (by kernel_rfl) (of_decide_eq_true (by kernel_rfl)) y0 bel lt0) (trodAll_cons_mk (Below.trod laidOut (by kernel_rfl) (of_decide_eq_true (by kernel_rfl)) y1 bel lt1) trodAll_mk0)), rfl, bel.frame _, (fun h => by cases h)⟩

theorem over : Rows.fnExactPartOfRow.holds Tryd.pinned (OpenSpec.ofChange Rows.fnExactPartOfSpec) :=
  OpenClaim.holds_of_wide 5 Tryd.f5 rfl rfl rfl rfl rfl rfl rfl ⟨rfl, rfl, rfl, rfl, rfl⟩ rfl rfl rfl rfl rfl (by kernel_rfl) Tryd.func5 (by kernel_rfl)
    (of_decide_eq_true (by kernel_rfl)) (by unfold Func.isWrapper; first | (rw [if_pos (by decide +kernel)]; kernel_rfl) | (rw [if_neg (by decide +kernel)]; exact ⟨rfl, rfl⟩))
    (fun os started H enc _ => lifted os started H enc)

theorem proved : Rows.FnExactPartOfCardSaid :=
  Claim7.holds_tied_plain_at .later [] [.data, .handle, .pinned] true Rows.fnExactPartOfCard.stood.harness true
    over (fun _ h => by cases h) (by kernel_rfl) (fun _ h => by cases h) fnExactPartOf_row_tie rfl ⟨rfl, rfl⟩ (by kernel_rfl) rfl
    (fun f fn hf hfn => by
      obtain rfl : f = 5 := Option.some.inj ((show Tryd.prog.funcNamed "loop.example/g00829/laws.FnExactPartOf" = some 5 by kernel_rfl).symm.trans hf) |>.symm
      obtain rfl : fn = Tryd.f5 := (Option.some.inj (Tryd.func5.symm.trans hfn)).symm
      exact ⟨by kernel_rfl, fun j t ht => by
        rw [Tryd.params5] at ht
        have h3 : t = 22 ∨ t = 3 := by
          rcases j with _ | _ | j
          · exact .inl (by simpa using ht.symm)
          · exact .inr (by simpa using ht.symm)
          · simp at ht
        rcases h3 with rfl | rfl
        · exact (show Tryd.prog.wantsStandIn 22 = false by kernel_rfl)
        · exact (show Tryd.prog.wantsStandIn 3 = false by kernel_rfl)⟩)
    (by kernel_rfl)
#print axioms proved
end Go.Proofs.YtjdpakjnklfhhaaDoor.fnExactPartOf
