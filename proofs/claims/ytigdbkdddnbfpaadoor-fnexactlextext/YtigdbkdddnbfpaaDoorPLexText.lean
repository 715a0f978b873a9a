/-
  The law FnExactLexText returns true at every argument: LexText answers as its model does, and its answer owns its memory.
  Conditions: none beyond the row's own; whatever the argument. The card ties the listed variables to the program's text.
-/
import Derived.Test.YtigdbkdddnbfpaaDoorLxo
import Derived.Test.YtigdbkdddnbfpaaDoorArg
import Derived.Test.YtigdbkdddnbfpaaDoorTie
import Derived.Test.YtigdbkdddnbfpaaDoorCards
import Derived.ChangeVars
import Derived.LaidLaws
import Derived.LaidHandle
import Derived.SevenTiedAt
namespace Go.Proofs.YtigdbkdddnbfpaaDoor.fnExactLexText
open Go.ChangeShapes Go.WideShapes Go.ChangeAt Go.RowKit Go.Joins
set_option linter.unusedVariables false

set_option maxHeartbeats 4000000 in
set_option maxRecDepth 100000 in
theorem law (s : ByteArray) (w : World) (hg : ErrV w) :
    Calls Tryd.prog 3 #[.string s] w fun e w' => e = .returned (.bool true) ∧ Below w.heap.size w w' := by
  by_cases hbig : 1048576 < s.size
  · have hdec : decide (1048576 < (s.size : Int)) = true := by simp; omega
    clear hbig
    go_enter Tryd.func3, Tryd.ntmps3
    go_wp2
    go_ret
    exact ⟨rfl, Below.refl _ _⟩
  · have hdec : decide (1048576 < (s.size : Int)) = false := by simp; omega
    have hsz : s.size ≤ 1048576 := by omega
    have HG := Lib.hid hg
    have hlen := lxA_len s
    clear hg hbig
    go_enter Tryd.func3, Tryd.ntmps3
    go_wp2_with fail
    refine (sLexText_any s w hsz).mono ?_
    rintro e w1 ⟨v0, rfl, ho0, hb1⟩
    obtain ⟨A0, c0, rfl⟩ := own_slice ho0
    have HX0 := Lib.hid (show XS w1 A0 (lxA s).1 from (OR.of_own fx_len rfl ho0).rs fx_len)
    have HB1 := Lib.hid hb1
    clear ho0 hb1
    go_wp2_with fail
    refine (LexText_any s w1 (HG.out.below HB1.out)).mono ?_
    rintro e w2 ⟨v1, rfl, ho1, hb2⟩
    have HO1 := Lib.hid (OR.of_own fx_len rfl ho1)
    obtain ⟨A1, c1, rfl⟩ := own_slice ho1
    have HC2 := Lib.hid hb2
    have z2 := hb2.size
    clear ho1 hb2
    obtain ⟨l, hl⟩ : ∃ l, (lxA s).1 = l := ⟨_, rfl⟩
    obtain ⟨r, hr⟩ : ∃ r, (lxA s).2 = r := ⟨_, rfl⟩
    have HEL := Lib.hid hl
    have HER := Lib.hid hr
    rw [hl] at hlen HX0 HO1 ⊢
    rw [hr]
    clear hl hr
    have hl2 : l.length ≤ 2097152 := by omega
    have hrr : (r == r) = true := by simp
    go_wp2_with fail
    refine (eqLexemeS_same A1 A0 l _ c1 c0 w2 rfl hl2 (HO1.out.rs fx_len) (HX0.out.below HC2.out)).mono ?_
    rintro e w3 ⟨rfl, hb3⟩
    have HO3 := Lib.hid (HO1.out.below hb3)
    have HC3 := Lib.hid (HC2.out.trans (hb3.mono z2))
    have z3 := HC3.out.size
    clear hb3 HO1 HC2
    go_wp2_with fail
    refine (markLexemeS_or A1 c1 w1.heap.size l 1 w3 z3 hl2 (by omega) (by omega) HO3.out).mono ?_
    rintro e w4 ⟨rfl, ho4, hb4⟩
    have HO4 := Lib.hid ho4
    have HC4 := Lib.hid (HC3.out.trans hb4)
    have z4 := HC4.out.size
    clear ho4 hb4 HO3 HC3
    go_wp2_with fail
    refine (heldLexemeS_any A1 (mkF (mkLx 1) l l.length) l.length c1 1 w4 (mkF_length _ _ _) hl2 (by omega) (by omega) (HO4.out.rs fx_len) (fun i hi => mkF_at _ _ hi)).mono ?_
    rintro e w5 ⟨rfl, hb5⟩
    have HO5 := Lib.hid (HO4.out.below hb5)
    have HC5 := Lib.hid (HC4.out.trans (hb5.mono z4))
    have z5 := HC5.out.size
    have HB5 := Lib.hid (HB1.out.trans (HC5.out.mono HB1.out.size))
    have hmm : ((1 : Int) + 3 * (l.length : Int) == 1 + 3 * (l.length : Int)) = true := by simp
    clear hb5 HO4 HC4
    go_wp2_with fail
    refine (LexText_any s w5 (HG.out.below HB5.out)).mono ?_
    rintro e w6 ⟨v2, rfl, ho2, hb6⟩
    rw [HEL.out] at ho2
    rw [HER.out]
    have HP6 := Lib.hid (OR.of_own fx_len rfl ho2)
    obtain ⟨A2, c2, rfl⟩ := own_slice ho2
    have HO6 := Lib.hid (HO5.out.below hb6)
    have HC6 := Lib.hid (HC5.out.trans (hb6.mono z5))
    have z6 := HC6.out.size
    clear ho2 hb6 HO5 HC5
    go_wp2_with fail
    refine (eqLexemeS_same A2 A0 l _ c2 c0 w6 rfl hl2 (HP6.out.rs fx_len) (HX0.out.below HC6.out)).mono ?_
    rintro e w7 ⟨rfl, hb7⟩
    have HO7 := Lib.hid (HO6.out.below hb7)
    have HC7 := Lib.hid (HC6.out.trans (hb7.mono z6))
    have z7 := HC7.out.size
    clear hb7 HO6 HC6 HP6
    go_wp2_with fail
    refine (heldLexemeS_any A1 (mkF (mkLx 1) l l.length) l.length c1 1 w7 (mkF_length _ _ _) hl2 (by omega) (by omega) (HO7.out.rs fx_len) (fun i hi => mkF_at _ _ hi)).mono ?_
    rintro e w8 ⟨rfl, hb8⟩
    have HB8 := Lib.hid (HB1.out.trans ((HC7.out.trans (hb8.mono z7)).mono HB1.out.size))
    clear hb8 HO7 HC7
    go_wp2
    go_ret
    exact ⟨rfl, HB8.out⟩

/-! the row -/
def leaf : DataW Unit → Value
  | .lit (.int k n) => .int k n
  | _ => undef
/-- the cells of a table of numbers, or of rows of numbers. -/
def cellsIn : DataW Unit → List Value
  | .agg l => l.flatMap fun x => match x with | .agg m => m.map leaf | d => [leaf d]
  | _ => []
theorem rtypeRow : (Tryd.prog.cutTypes.find? (·.1 == "internal/reflectlite.rtype")).map (·.2) = some 96 := by kernel_rfl
theorem errorRow : ((List.range Tryd.prog.types.size).filter fun t => Tryd.prog.rowNamed t [101, 114, 114, 111, 114]) = [41] := by kernel_rfl
theorem errorHandle : typeHandle Tryd.prog 41 = .pointer (some ⟨4, 41, none⟩) := by kernel_rfl
theorem errV_of_laid {W : World} (h : laidMetH Tryd.prog Rows.fnExactLexTextRow.laid W) : ErrV W := by
  have h' : laidMet Tryd.prog [("unicode/utf8.acceptRanges", Rows.laid_unicode_utf8_acceptRanges), ("unicode/utf8.first", Rows.laid_unicode_utf8_first)] W ∧ handlesMet Tryd.prog [("errors.errorType", Rows.laid_errors_errorType)] W := h
  obtain ⟨name, u, ty, e1, e2, e3, e4, e5⟩ := h'.2 _ (List.mem_singleton.2 rfl)
  have en : name = [101, 114, 114, 111, 114] := (Option.some.inj e1).symm
  subst en
  obtain rfl := Option.some.inj (rtypeRow.symm.trans e2)
  have hm : ty ∈ (List.range Tryd.prog.types.size).filter fun t => Tryd.prog.rowNamed t [101, 114, 114, 111, 114] := List.mem_filter.2 ⟨List.mem_range.2 e3, e4⟩
  rw [errorRow] at hm
  obtain rfl := List.mem_singleton.1 hm
  rw [errorHandle] at e5
  have h0 := World.var?_cell errVar e5 0
  unfold ErrV
  simpa using h0

/-- a world in which the listed variables read as listed. -/
def lay (g : Nat) (cs : List Value) (w : World) : World :=
  { w with heap := w.heap.modify g fun
      | .cells _ t frozen => .cells cs.toArray t frozen
      | o => o }
noncomputable def laidWorld (os : Os) : World :=
  lay 0 [.iface 96 (.agg #[.pointer (some ⟨4, 41, none⟩)])] (lay 2 (cellsIn Rows.laid_unicode_utf8_first) (lay 3 (cellsIn Rows.laid_unicode_utf8_acceptRanges) (World.holding Tryd.prog os ⟨#[], #[], []⟩)))
set_option maxRecDepth 100000 in
theorem laidWorld_data (os : Os) : laidMet Tryd.prog [("unicode/utf8.acceptRanges", Rows.laid_unicode_utf8_acceptRanges), ("unicode/utf8.first", Rows.laid_unicode_utf8_first)] ((laidWorld os).forCall (fun _ _ => 0) ⟨#[], #[.string ByteArray.empty], []⟩).memory :=
  laidMet_of_run' 8 (by kernel_rfl) (by kernel_rfl)
theorem laidWorld_met (os : Os) : laidMetH Tryd.prog Rows.fnExactLexTextRow.laid ((laidWorld os).forCall (fun _ _ => 0) ⟨#[], #[.string ByteArray.empty], []⟩).memory :=
  laidMetH_of_parts (laidWorld_data os) (by kernel_rfl)

set_option maxRecDepth 100000 in
theorem lifted (os : Os) (started : os.Started) (H : Type) (enc : TypeId × Value → H) :
    ReturnsInHanded {} Tryd.checked os 3 .any (fun w args => (Rows.fnExactLexTextSpec.pre enc Tryd.prog Tryd.f3 Rows.fnExactLexTextRow.domain false w args ∧ laidMetH Tryd.prog Rows.fnExactLexTextRow.laid w) ∧ sizedMet enc Tryd.prog Tryd.f3 (OpenSpec.ofChange Rows.fnExactLexTextSpec) false w args)
      (Rows.fnExactLexTextSpec.post enc Tryd.prog Tryd.f3 false true false false) := by
  refine returnsInHanded_of_change_and (C := Tryd.checked) (X := fun w _ => laidMetH Tryd.prog Rows.fnExactLexTextRow.laid w) (fun _ _ _ hh h => h.of_heap hh) own started (by kernel_rfl) Tryd.func3
    (ChangeSpec.witness_at (enc := enc) (C := Tryd.checked) (os := os) (X := fun w _ => laidMetH Tryd.prog Rows.fnExactLexTextRow.laid w) false (laidWorld os) #[.string ByteArray.empty] 8 rfl (by kernel_rfl) (by kernel_rfl) (by kernel_rfl) (by kernel_rfl) (by kernel_rfl) (laidWorld_met os)) ?_
  intro W base args ds gs before hval0 hW _ _ hL _
  have hval : ∀ (j : Nat) t v, Tryd.f3.params[j]? = some t → args[j]? = some v → Value.okWide Tryd.prog W .any base t v := hval0
  have hW' := hW
  obtain ⟨p, q, hA0, hV, rfl, _, _⟩ := hW
  have hA : DataW.TrodAll enc Tryd.prog W 0 (fun _ => true) true Tryd.f3.params.toList args.toList ds p := hA0
  rw [Tryd.params3] at hA hval
  obtain ⟨v0, vs0, d0, ds0, p0, q0, hargs0, rfl, rfl, h0, r0⟩ := trodAll_cons hA
  obtain ⟨rfl, rfl, rfl⟩ := trodAll_nil r0
  obtain rfl : args = #[v0] := by cases args; simp_all
  obtain ⟨rfl, rfl⟩ := trodVars_none hV
  have y0 := h0
  have lt0 : ∀ x ∈ p0, x.block < W.heap.size := by obtain ⟨m, hm⟩ := y0; exact DataW.trod_lt m _ _ _ hm
  obtain ⟨s0, rfl⟩ := okWide_string Tryd.underlying9 (hval 0 9 v0 rfl rfl)
  clear hA0 hval0
  refine (law s0 W (errV_of_laid hL)).mono fun e W' ⟨he, bel⟩ => ?_
  subst he
  exact ⟨_, rfl, _, _, _, [], _, [], hW', trodAll_mk1 (shut_bool Tryd.underlying4 _), (trodAll_cons_mk (Below.trod laidOut (by kernel_rfl) (of_decide_eq_true (by kernel_rfl)) y0 bel lt0) trodAll_mk0), rfl, bel.frame _, (fun h => by cases h)⟩

theorem over : Rows.fnExactLexTextRow.holds Tryd.pinned (OpenSpec.ofChange Rows.fnExactLexTextSpec) :=
  OpenClaim.holds_of_wide 3 Tryd.f3 rfl rfl rfl rfl rfl rfl rfl ⟨rfl, rfl, rfl, rfl, rfl⟩ rfl rfl rfl rfl rfl (by kernel_rfl) Tryd.func3 (by kernel_rfl)
    (of_decide_eq_true (by kernel_rfl)) (by unfold Func.isWrapper; first | (rw [if_pos (by decide +kernel)]; kernel_rfl) | (rw [if_neg (by decide +kernel)]; exact ⟨rfl, rfl⟩))
    (fun os started H enc _ => lifted os started H enc)

theorem proved : Rows.FnExactLexTextCardSaid :=
  Claim7.holds_tied_plain_at .later [] [.data, .handle, .pinned] true Rows.fnExactLexTextCard.stood.harness true
    over (fun _ h => by cases h) (by kernel_rfl) (fun _ h => by cases h) fnExactLexText_row_tie rfl ⟨rfl, rfl⟩ (by kernel_rfl) rfl
    (fun f fn hf hfn => by
      obtain rfl : f = 3 := Option.some.inj ((show Tryd.prog.funcNamed "loop.example/g00829/laws.FnExactLexText" = some 3 by kernel_rfl).symm.trans hf) |>.symm
      obtain rfl : fn = Tryd.f3 := (Option.some.inj (Tryd.func3.symm.trans hfn)).symm
      exact ⟨by kernel_rfl, fun j t ht => by
        rw [Tryd.params3] at ht
        have h3 : t = 9 := by
          rcases j with _ | j
          · simpa using ht.symm
          · simp at ht
        subst h3
        exact (show Tryd.prog.wantsStandIn 9 = false by kernel_rfl)⟩)
    (by kernel_rfl)
#print axioms proved
end Go.Proofs.YtigdbkdddnbfpaaDoor.fnExactLexText
