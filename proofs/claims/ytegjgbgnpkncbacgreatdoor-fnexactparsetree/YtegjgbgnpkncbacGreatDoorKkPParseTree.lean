/-
  The law FnExactParseTree returns true at every argument: ParseTree answers as its model does, and its answer owns its memory.
  Conditions: none beyond the row's own; whatever the argument. The card ties the listed variables to the program's text.
-/
import Derived.Test.YtegjgbgnpkncbacGreatDoorKk40
import Derived.Test.YtegjgbgnpkncbacGreatDoorKk05
import Derived.Test.YtegjgbgnpkncbacGreatDoorTie
import Derived.Test.YtegjgbgnpkncbacGreatDoorCards
import Derived.ChangeVars
import Derived.LaidLaws
import Derived.LaidHandle
import Derived.SevenTiedAt
namespace Go.Proofs.YtegjgbgnpkncbacGreatDoor.fnExactParseTree
open Go.ChangeShapes Go.WideShapes Go.ChangeAt Go.RowKit Go.Joins
set_option linter.unusedVariables false

set_option maxHeartbeats 4000000 in
set_option maxRecDepth 100000 in
theorem law (s : ByteArray) (w : World) (hg : ErrV w) :
    Calls Tryz.prog 3 #[.string s] w fun e w' => e = .returned (.bool true) ∧ Below w.heap.size w w' := by
  by_cases hbig : 1048576 < s.size
  · have hdec : decide (1048576 < (s.size : Int)) = true := by simp; omega
    clear hbig
    go_enter Tryz.func3, Tryz.ntmps3
    go_wp2
    go_ret
    exact ⟨rfl, Below.refl _ _⟩
  · have hdec : decide (1048576 < (s.size : Int)) = false := by simp; omega
    have hsz : s.size ≤ 1048576 := by omega
    have HG := Lib.hid hg
    have hlen : (prsA s).1.length ≤ 200 := (prsA_tree s).len
    obtain ⟨l, hl⟩ : ∃ l, (prsA s).1 = l := ⟨_, rfl⟩
    obtain ⟨c, hc⟩ : ∃ c, (prsA s).2.1 = c := ⟨_, rfl⟩
    obtain ⟨a, ha⟩ : ∃ a, (prsA s).2.2 = a := ⟨_, rfl⟩
    rw [hl] at hlen
    have HL := Lib.hid hl
    have HC := Lib.hid hc
    have HA := Lib.hid ha
    clear hg hbig hl hc ha
    have hl2 : l.length ≤ 2097152 := by omega
    have hcc : (c == c) = true := by simp
    have haa : (a == a) = true := by simp
    go_enter Tryz.func3, Tryz.ntmps3
    go_wp2_with fail
    refine (sParseTree_any s w hsz).mono ?_
    intro e w1 h1
    obtain ⟨hb1, A0, c0, rfl, hlo0, hr0⟩ := ptp_out h1 HL.out HC.out HA.out
    have HX0 := Lib.hid hr0
    have HX1 := Lib.hid hr0
    have HB1 := Lib.hid hb1
    clear h1 hr0 hb1 hlo0
    go_wp2_with fail
    refine (ParseTree_any s w1 (HG.out.below HB1.out)).mono ?_
    intro e w2 h2
    obtain ⟨hb2, A1, c1, rfl, hlo1, hr1⟩ := ptp_out h2 HL.out HC.out HA.out
    have HO1 := Lib.hid hr1
    have HLO := Lib.hid (show ∀ b, A1.map (·.block) = some b → w1.heap.size ≤ b from fun b hb => (hlo1 b hb).1)
    have HB2 := Lib.hid (HB1.out.trans (hb2.mono HB1.out.size))
    have HC2 := Lib.hid hb2
    have HX2 := Lib.hid (HX0.out.below hb2)
    have z1 := HB1.out.size
    clear h2 hr1 hb2 hlo1 HX0
    go_wp2_with fail
    refine (eqNodeS_same A1 A0 l _ c1 c0 w2 rfl hl2 HO1.out.is HX2.out.is).mono ?_
    rintro e w3 ⟨rfl, hb3⟩
    have HO3 := Lib.hid (HO1.out.below hb3)
    have HX3 := Lib.hid (HX2.out.below hb3)
    have HB3 := Lib.hid (HB2.out.trans (hb3.mono HB2.out.size))
    have HLT := Lib.hid (show w1.heap.size ≤ w3.heap.size from Nat.le_trans HC2.out.size hb3.size)
    have HC3 := Lib.hid (HC2.out.trans (hb3.mono HC2.out.size))
    clear hb3 HO1 HX2 HB2 HC2
    go_wp2_with fail
    refine (markNodeR_any A1 l c1 1 w3 hl2 (by omega) (by omega) HO3.out).mono ?_
    rintro e w4 ⟨rfl, hr4, hg4⟩
    have HO4 := Lib.hid hr4
    have HC4 := Lib.hid (HC3.out.grown hg4 HC3.out.size HLO.out)
    have HB4 := Lib.hid (HB3.out.grown hg4 HB3.out.size (fun b hb => Nat.le_trans z1 (HLO.out b hb)))
    clear hr4 hg4 HO3 HX3 HC3
    have HU := Lib.hid (show ∀ i, i < l.length → (mkF (mkNd 1) l l.length)[i]? = some (mkNd 1 i) from fun i hi => mkF_at _ _ hi)
    go_wp2_with fail
    refine (heldNodeS_any A1 (mkF (mkNd 1) l l.length) l.length c1 1 w4 (mkF_length _ _ _) hl2 (by omega) (by omega) HO4.out.is HU.out).mono ?_
    rintro e w5 ⟨rfl, hb5⟩
    have HO5 := Lib.hid (HO4.out.below hb5)
    have HC5 := Lib.hid (HC4.out.trans (hb5.mono HC4.out.size))
    have HB5 := Lib.hid (HB4.out.trans (hb5.mono HB4.out.size))
    have hmm : ((1 : Int) + 3 * (l.length : Int) == 1 + 3 * (l.length : Int)) = true := by simp
    clear hb5 HO4 HC4
    go_wp2_with fail
    refine (ParseTree_any s w5 (HG.out.below HB5.out)).mono ?_
    intro e w6 h6
    obtain ⟨hb6, A2, c2, rfl, hlo2, hr2⟩ := ptp_out h6 HL.out HC.out HA.out
    have HP6 := Lib.hid hr2
    have HO6 := Lib.hid (HO5.out.below hb6)
    have HC6 := Lib.hid (HC5.out.trans (hb6.mono HC5.out.size))
    have HB6 := Lib.hid (HB5.out.trans (hb6.mono HB5.out.size))
    clear h6 hr2 hb6 hlo2 HO5 HC5
    go_wp2_with fail
    refine (eqNodeS_same A2 A0 l _ c2 c0 w6 rfl hl2 HP6.out.is (HX1.out.below HC6.out).is).mono ?_
    rintro e w7 ⟨rfl, hb7⟩
    have HO7 := Lib.hid (HO6.out.below hb7)
    have HB7 := Lib.hid (HB6.out.trans (hb7.mono HB6.out.size))
    clear hb7 HO6 HP6
    go_wp2_with fail
    refine (heldNodeS_any A1 (mkF (mkNd 1) l l.length) l.length c1 1 w7 (mkF_length _ _ _) hl2 (by omega) (by omega) HO7.out.is HU.out).mono ?_
    rintro e w8 ⟨rfl, hb8⟩
    have HB8 := Lib.hid (HB7.out.trans (hb8.mono HB7.out.size))
    clear hb8 HO7
    go_wp2
    go_ret
    exact ⟨rfl, HB8.out⟩

/-! the row -/
def leaf : DataW Unit → Value
  | .lit (.int k n) => .int k n
  | _ => undef
/-- the cells of a table of numbers, or of rows of numbers. -/
def cellsIn : DataW Unit → List Value
  | .agg l => l.flatMap fun x => match x with | .agg m => m.map leaf | d => [leaf d]
  | _ => []
theorem rtypeRow : (Tryz.prog.cutTypes.find? (·.1 == "internal/reflectlite.rtype")).map (·.2) = some 116 := by kernel_rfl
theorem errorRow : ((List.range Tryz.prog.types.size).filter fun t => Tryz.prog.rowNamed t [101, 114, 114, 111, 114]) = [72] := by kernel_rfl
theorem errorHandle : typeHandle Tryz.prog 72 = .pointer (some ⟨4, 72, none⟩) := by kernel_rfl
theorem errV_of_laid {W : World} (h : laidMetH Tryz.prog Rows.fnExactParseTreeRow.laid W) : ErrV W := by
  have h' : laidMet Tryz.prog [("unicode/utf8.acceptRanges", Rows.laid_unicode_utf8_acceptRanges), ("unicode/utf8.first", Rows.laid_unicode_utf8_first)] W ∧ handlesMet Tryz.prog [("errors.errorType", Rows.laid_errors_errorType)] W := h
  obtain ⟨name, u, ty, e1, e2, e3, e4, e5⟩ := h'.2 _ (List.mem_singleton.2 rfl)
  have en : name = [101, 114, 114, 111, 114] := (Option.some.inj e1).symm
  subst en
  obtain rfl := Option.some.inj (rtypeRow.symm.trans e2)
  have hm : ty ∈ (List.range Tryz.prog.types.size).filter fun t => Tryz.prog.rowNamed t [101, 114, 114, 111, 114] := List.mem_filter.2 ⟨List.mem_range.2 e3, e4⟩
  rw [errorRow] at hm
  obtain rfl := List.mem_singleton.1 hm
  rw [errorHandle] at e5
  have h0 := World.var?_cell errVar e5 0
  unfold ErrV
  simpa using h0

/-- a world in which the listed variables read as listed. -/
def lay (g : Nat) (cs : List Value) (w : World) : World :=
  { w with heap := w.heap.modify g fun
      | .cells _ t frozen => .cells cs.toArray t frozen
      | o => o }
noncomputable def laidWorld (os : Os) : World :=
  lay 0 [.iface 116 (.agg #[.pointer (some ⟨4, 72, none⟩)])] (lay 2 (cellsIn Rows.laid_unicode_utf8_first) (lay 3 (cellsIn Rows.laid_unicode_utf8_acceptRanges) (World.holding Tryz.prog os ⟨#[], #[], []⟩)))
set_option maxRecDepth 100000 in
theorem laidWorld_data (os : Os) : laidMet Tryz.prog [("unicode/utf8.acceptRanges", Rows.laid_unicode_utf8_acceptRanges), ("unicode/utf8.first", Rows.laid_unicode_utf8_first)] ((laidWorld os).forCall (fun _ _ => 0) ⟨#[], #[.string ByteArray.empty], []⟩).memory :=
  laidMet_of_run' 8 (by kernel_rfl) (by kernel_rfl)
theorem laidWorld_met (os : Os) : laidMetH Tryz.prog Rows.fnExactParseTreeRow.laid ((laidWorld os).forCall (fun _ _ => 0) ⟨#[], #[.string ByteArray.empty], []⟩).memory :=
  laidMetH_of_parts (laidWorld_data os) (by kernel_rfl)

set_option maxRecDepth 100000 in
theorem lifted (os : Os) (started : os.Started) (H : Type) (enc : TypeId × Value → H) :
    ReturnsInHanded {} Tryz.checked os 3 .any (fun w args => (Rows.fnExactParseTreeSpec.pre enc Tryz.prog Tryz.f3 Rows.fnExactParseTreeRow.domain false w args ∧ laidMetH Tryz.prog Rows.fnExactParseTreeRow.laid w) ∧ sizedMet enc Tryz.prog Tryz.f3 (OpenSpec.ofChange Rows.fnExactParseTreeSpec) false w args)
      (Rows.fnExactParseTreeSpec.post enc Tryz.prog Tryz.f3 false true false false) := by
  refine returnsInHanded_of_change_and (C := Tryz.checked) (X := fun w _ => laidMetH Tryz.prog Rows.fnExactParseTreeRow.laid w) (fun _ _ _ hh h => h.of_heap hh) own started (by kernel_rfl) Tryz.func3
    (ChangeSpec.witness_at (enc := enc) (C := Tryz.checked) (os := os) (X := fun w _ => laidMetH Tryz.prog Rows.fnExactParseTreeRow.laid w) false (laidWorld os) #[.string ByteArray.empty] 8 rfl (by kernel_rfl) (by kernel_rfl) (by kernel_rfl) (by kernel_rfl) (by kernel_rfl) (laidWorld_met os)) ?_
  intro W base args ds gs before hval0 hW _ _ hL _
  have hval : ∀ (j : Nat) t v, Tryz.f3.params[j]? = some t → args[j]? = some v → Value.okWide Tryz.prog W .any base t v := hval0
  have hW' := hW
  obtain ⟨p, q, hA0, hV, rfl, _, _⟩ := hW
  have hA : DataW.TrodAll enc Tryz.prog W 0 (fun _ => true) true Tryz.f3.params.toList args.toList ds p := hA0
  rw [Tryz.params3] at hA hval
  obtain ⟨v0, vs0, d0, ds0, p0, q0, hargs0, rfl, rfl, h0, r0⟩ := trodAll_cons hA
  obtain ⟨rfl, rfl, rfl⟩ := trodAll_nil r0
  obtain rfl : args = #[v0] := by cases args; simp_all
  obtain ⟨rfl, rfl⟩ := trodVars_none hV
  have y0 := h0
  have lt0 : ∀ x ∈ p0, x.block < W.heap.size := by obtain ⟨m, hm⟩ := y0; exact DataW.trod_lt m _ _ _ hm
  obtain ⟨s0, rfl⟩ := okWide_string Tryz.underlying9 (hval 0 9 v0 rfl rfl)
  clear hA0 hval0
  refine (law s0 W (errV_of_laid hL)).mono fun e W' ⟨he, bel⟩ => ?_
  subst he
  exact ⟨_, rfl, _, _, _, [], _, [], hW', trodAll_mk1 (shut_bool Tryz.underlying4 _), (trodAll_cons_mk (Below.trod laidOut (by kernel_rfl) (of_decide_eq_true (by kernel_rfl)) y0 bel lt0) trodAll_mk0), rfl, bel.frame _, (fun h => by cases h)⟩

theorem over : Rows.fnExactParseTreeRow.holds Tryz.pinned (OpenSpec.ofChange Rows.fnExactParseTreeSpec) :=
  OpenClaim.holds_of_wide 3 Tryz.f3 rfl rfl rfl rfl rfl rfl rfl ⟨rfl, rfl, rfl, rfl, rfl⟩ rfl rfl rfl rfl rfl (by kernel_rfl) Tryz.func3 (by kernel_rfl)
    (of_decide_eq_true (by kernel_rfl)) (by unfold Func.isWrapper; first | (rw [if_pos (by decide +kernel)]; kernel_rfl) | (rw [if_neg (by decide +kernel)]; exact ⟨rfl, rfl⟩))
    (fun os started H enc _ => lifted os started H enc)

theorem proved : Rows.FnExactParseTreeCardSaid :=
  Claim7.holds_tied_plain_at .later [] [.data, .handle, .pinned] true Rows.fnExactParseTreeCard.stood.harness true
    over (fun _ h => by cases h) (by kernel_rfl) (fun _ h => by cases h) fnExactParseTree_row_tie rfl ⟨rfl, rfl⟩ (by kernel_rfl) rfl
    (fun f fn hf hfn => by
      obtain rfl : f = 3 := Option.some.inj ((show Tryz.prog.funcNamed "loop.example/g00829/laws.FnExactParseTree" = some 3 by kernel_rfl).symm.trans hf) |>.symm
      obtain rfl : fn = Tryz.f3 := (Option.some.inj (Tryz.func3.symm.trans hfn)).symm
      exact ⟨by kernel_rfl, fun j t ht => by
        rw [Tryz.params3] at ht
        have h3 : t = 9 := by
          rcases j with _ | j
          · simpa using ht.symm
          · simp at ht
        subst h3
        exact (show Tryz.prog.wantsStandIn 9 = false by kernel_rfl)⟩)
    (by kernel_rfl)
#print axioms proved
end Go.Proofs.YtegjgbgnpkncbacGreatDoor.fnExactParseTree
