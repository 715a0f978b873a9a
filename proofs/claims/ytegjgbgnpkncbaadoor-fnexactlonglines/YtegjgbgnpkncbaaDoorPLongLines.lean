/-
  The law FnExactLongLines returns true at every argument: LongLines answers as its model does, and its answer owns its memory.
  Conditions: none beyond the row's own; whatever the argument. The card ties the listed variables to the program's text.
-/
import Derived.Test.YtegjgbgnpkncbaaDoorLnf
import Derived.Test.YtegjgbgnpkncbaaDoorArg
import Derived.Test.YtegjgbgnpkncbaaDoorTie
import Derived.Test.YtegjgbgnpkncbaaDoorCards
import Derived.ChangeVars
import Derived.LaidLaws
import Derived.LaidHandle
import Derived.SevenTiedAt
namespace Go.Proofs.YtegjgbgnpkncbaaDoor.fnExactLongLines
open Go.ChangeShapes Go.WideShapes Go.ChangeAt Go.RowKit Go.Joins
set_option linter.unusedVariables false

set_option maxHeartbeats 4000000 in
set_option maxRecDepth 100000 in
theorem law (s : ByteArray) (k : Int) (w : World) (hk : (Lit.int .i64 k).wf = true) :
    Calls Tryd.prog 6 #[.string s, .int .i64 k] w fun e w' => e = .returned (.bool true) ∧ Below w.heap.size w w' := by
  by_cases hbig : 1048576 < s.size
  · have hdec : decide (1048576 < (s.size : Int)) = true := by simp; omega
    clear hbig
    go_enter Tryd.func6, Tryd.ntmps6
    go_wp2
    go_ret
    exact ⟨rfl, Below.refl _ _⟩
  · have hdec : decide (1048576 < (s.size : Int)) = false := by simp; omega
    have hsz : s.size ≤ 1048576 := by omega
    clear hbig
    have hlen : (lgL (lns s) 1 k).length ≤ 1048577 := by have := lgL_len (lns s) 1 k; have := lns_len s; omega
    obtain ⟨l, hl⟩ : ∃ l, lgL (lns s) 1 k = l := ⟨_, rfl⟩
    have HL := Lib.hid hl
    rw [hl] at hlen
    clear hl
    have hl2 : l.length ≤ 2097152 := by omega
    go_enter Tryd.func6, Tryd.ntmps6
    go_wp2_with fail
    refine (sLongLines_any s k w hsz hk).mono ?_
    rw [HL.out]
    rintro e w1 ⟨hb1, A0, c0, rfl, hlo0, hnil0, hr0⟩
    have HX1 := Lib.hid hr0
    have HB1 := Lib.hid hb1
    clear hr0 hb1 hlo0 hnil0
    go_wp2_with fail
    refine (LongLines_any s k w1 hsz hk).mono ?_
    rw [HL.out]
    rintro e w2 ⟨hb2, A1, c1, rfl, hlo1, hnil1, hr1⟩
    have HO1 := Lib.hid hr1
    have HLO := Lib.hid hlo1
    have HNI := Lib.hid hnil1
    have HB2 := Lib.hid (HB1.out.trans (hb2.mono HB1.out.size))
    have HC2 := Lib.hid hb2
    have z1 := HB1.out.size
    clear hr1 hb2 hlo1 hnil1
    go_wp2_with fail
    refine (eqIntS_same A1 A0 l _ c1 c0 w2 rfl hl2 HO1.out.is (HX1.out.below HC2.out).is).mono ?_
    rintro e w3 ⟨rfl, hb3⟩
    have HO3 := Lib.hid (HO1.out.below hb3)
    have HB3 := Lib.hid (HB2.out.trans (hb3.mono HB2.out.size))
    have HC3 := Lib.hid (HC2.out.trans (hb3.mono HC2.out.size))
    clear hb3 HO1 HB2 HC2
    go_wp2_with fail
    refine (markIntS_any A1 l c1 1 w3 hl2 (by omega) (by omega) HNI.out HO3.out).mono ?_
    rintro e w4 ⟨rfl, hr4, hg4⟩
    have HO4 := Lib.hid hr4
    have HC4 := Lib.hid (HC3.out.grown hg4 HC3.out.size HLO.out)
    have HB4 := Lib.hid (HB3.out.grown hg4 HB3.out.size (fun b hb => Nat.le_trans z1 (HLO.out b hb)))
    clear hr4 hg4 HO3 HC3
    have HU := Lib.hid (show ∀ i, i < l.length → (upTo l 1 l.length)[i]? = some (1 + (i : Int)) from fun i hi => upTo_at _ _ hi hi)
    go_wp2_with fail
    refine (heldIntS_any A1 (upTo l 1 l.length) l.length c1 1 w4 (upTo_length _ _ _) hl2 (by omega) (by omega) HO4.out.is HU.out).mono ?_
    rintro e w5 ⟨rfl, rfl⟩
    have hmm : ((1 : Int) + (l.length : Int) == 1 + (l.length : Int)) = true := by simp
    go_wp2_with fail
    refine (LongLines_any s k w4 hsz hk).mono ?_
    rw [HL.out]
    rintro e w6 ⟨hb6, A2, c2, rfl, hlo2, hnil2, hr2⟩
    have HP6 := Lib.hid hr2
    have HO6 := Lib.hid (HO4.out.below hb6)
    have HC6 := Lib.hid (HC4.out.trans (hb6.mono HC4.out.size))
    have HB6 := Lib.hid (HB4.out.trans (hb6.mono HB4.out.size))
    clear hr2 hb6 hlo2 hnil2 HO4 HC4
    go_wp2_with fail
    refine (eqIntS_same A2 A0 l _ c2 c0 w6 rfl hl2 HP6.out.is (HX1.out.below HC6.out).is).mono ?_
    rintro e w7 ⟨rfl, hb7⟩
    have HO7 := Lib.hid (HO6.out.below hb7)
    have HB7 := Lib.hid (HB6.out.trans (hb7.mono HB6.out.size))
    clear hb7 HO6 HP6
    go_wp2_with fail
    refine (heldIntS_any A1 (upTo l 1 l.length) l.length c1 1 w7 (upTo_length _ _ _) hl2 (by omega) (by omega) HO7.out.is HU.out).mono ?_
    rintro e w8 ⟨rfl, rfl⟩
    go_wp2
    go_ret
    exact ⟨rfl, HB7.out⟩

/-! the row -/
def leaf : DataW Unit → Value
  | .lit (.int k n) => .int k n
  | _ => undef
/-- the cells of a table of numbers, or of rows of numbers. -/
def cellsIn : DataW Unit → List Value
  | .agg l => l.flatMap fun x => match x with | .agg m => m.map leaf | d => [leaf d]
  | _ => []
/-- a world in which the listed variables read as listed. -/
def lay (g : Nat) (cs : List Value) (w : World) : World :=
  { w with heap := w.heap.modify g fun
      | .cells _ t frozen => .cells cs.toArray t frozen
      | o => o }
noncomputable def laidWorld (os : Os) : World :=
  lay 1 (cellsIn Rows.laid_unicode_utf8_first) (lay 2 (cellsIn Rows.laid_unicode_utf8_acceptRanges) (World.holding Tryd.prog os ⟨#[], #[], []⟩))
set_option maxRecDepth 100000 in
theorem laidWorld_data (os : Os) : laidMet Tryd.prog [("unicode/utf8.acceptRanges", Rows.laid_unicode_utf8_acceptRanges), ("unicode/utf8.first", Rows.laid_unicode_utf8_first)] ((laidWorld os).forCall (fun _ _ => 0) ⟨#[], #[.string ByteArray.empty, .int .i64 0], []⟩).memory :=
  laidMet_of_run' 8 (by kernel_rfl) (by kernel_rfl)
theorem laidWorld_met (os : Os) : laidMetH Tryd.prog Rows.fnExactLongLinesRow.laid ((laidWorld os).forCall (fun _ _ => 0) ⟨#[], #[.string ByteArray.empty, .int .i64 0], []⟩).memory :=
  laidMetH_of_parts (laidWorld_data os) (by kernel_rfl)

set_option maxRecDepth 100000 in
theorem lifted (os : Os) (started : os.Started) (H : Type) (enc : TypeId × Value → H) :
    ReturnsInHanded {} Tryd.checked os 6 .any (fun w args => (Rows.fnExactLongLinesSpec.pre enc Tryd.prog Tryd.f6 Rows.fnExactLongLinesRow.domain false w args ∧ laidMetH Tryd.prog Rows.fnExactLongLinesRow.laid w) ∧ sizedMet enc Tryd.prog Tryd.f6 (OpenSpec.ofChange Rows.fnExactLongLinesSpec) false w args)
      (Rows.fnExactLongLinesSpec.post enc Tryd.prog Tryd.f6 false true false false) := by
  refine returnsInHanded_of_change_and (C := Tryd.checked) (X := fun w _ => laidMetH Tryd.prog Rows.fnExactLongLinesRow.laid w) (fun _ _ _ hh h => h.of_heap hh) own started (by kernel_rfl) Tryd.func6
    (ChangeSpec.witness_at (enc := enc) (C := Tryd.checked) (os := os) (X := fun w _ => laidMetH Tryd.prog Rows.fnExactLongLinesRow.laid w) false (laidWorld os) #[.string ByteArray.empty, .int .i64 0] 8 rfl (by kernel_rfl) (by kernel_rfl) (by kernel_rfl) (by kernel_rfl) (by kernel_rfl) (laidWorld_met os)) ?_
  intro W base args ds gs before hval0 hW _ _ hL _
  have hval : ∀ (j : Nat) t v, Tryd.f6.params[j]? = some t → args[j]? = some v → Value.okWide Tryd.prog W .any base t v := hval0
  have hW' := hW
  obtain ⟨p, q, hA0, hV, rfl, _, _⟩ := hW
  have hA : DataW.TrodAll enc Tryd.prog W 0 (fun _ => true) true Tryd.f6.params.toList args.toList ds p := hA0
  rw [Tryd.params6] at hA hval
  obtain ⟨v0, vs0, d0, ds0, p0, q0, hargs0, rfl, rfl, h0, r0⟩ := trodAll_cons hA
  obtain ⟨v1, vs1, d1, ds1, p1, q1, hargs1, rfl, rfl, h1, r1⟩ := trodAll_cons r0
  obtain ⟨rfl, rfl, rfl⟩ := trodAll_nil r1
  obtain rfl : args = #[v0, v1] := by cases args; simp_all
  obtain ⟨rfl, rfl⟩ := trodVars_none hV
  have y0 := h0
  have lt0 : ∀ x ∈ p0, x.block < W.heap.size := by obtain ⟨m, hm⟩ := y0; exact DataW.trod_lt m _ _ _ hm
  obtain ⟨s0, rfl⟩ := okWide_string Tryd.underlying9 (hval 0 9 v0 rfl rfl)
  have y1 := h1
  have lt1 : ∀ x ∈ p1, x.block < W.heap.size := by obtain ⟨m, hm⟩ := y1; exact DataW.trod_lt m _ _ _ hm
  obtain ⟨k1, rfl⟩ := okWide_int Tryd.underlying3 (hval 1 3 v1 rfl rfl)
  have hk1 : (Lit.int .i64 k1).wf = true := by obtain ⟨m, hm⟩ := h1; obtain ⟨n', e, _, wf⟩ := DataW.trod_int Tryd.underlying3 hm; simp [Value.cells] at e; subst e; exact wf
  clear hA0 hval0
  refine (law s0 k1 W hk1).mono fun e W' ⟨he, bel⟩ => ?_
  subst he
  exact ⟨_, rfl, _, _, _, [], _, [], hW', trodAll_mk1 (shut_bool Tryd.underlying4 _), (trodAll_cons_mk (Below.trod laidOut (by kernel_rfl) (of_decide_eq_true (by kernel_rfl)) y0 bel lt0) (trodAll_cons_mk (Below.trod laidOut (by kernel_rfl) (of_decide_eq_true (by kernel_rfl)) y1 bel lt1) trodAll_mk0)), rfl, bel.frame _, (fun h => by cases h)⟩

theorem over : Rows.fnExactLongLinesRow.holds Tryd.pinned (OpenSpec.ofChange Rows.fnExactLongLinesSpec) :=
  OpenClaim.holds_of_wide 6 Tryd.f6 rfl rfl rfl rfl rfl rfl rfl ⟨rfl, rfl, rfl, rfl, rfl⟩ rfl rfl rfl rfl rfl (by kernel_rfl) Tryd.func6 (by kernel_rfl)
    (of_decide_eq_true (by kernel_rfl)) (by unfold Func.isWrapper; first | (rw [if_pos (by decide +kernel)]; kernel_rfl) | (rw [if_neg (by decide +kernel)]; exact ⟨rfl, rfl⟩))
    (fun os started H enc _ => lifted os started H enc)

theorem proved : Rows.FnExactLongLinesCardSaid :=
  Claim7.holds_tied_plain_at .later [] [.data, .pinned] true Rows.fnExactLongLinesCard.stood.harness false
    over (fun _ h => by cases h) (by kernel_rfl) (fun _ h => by cases h) fnExactLongLines_row_tie rfl ⟨rfl, rfl⟩ (by kernel_rfl) (by kernel_rfl)
    (fun f fn hf hfn => by
      obtain rfl : f = 6 := Option.some.inj ((show Tryd.prog.funcNamed "loop.example/g00829/laws.FnExactLongLines" = some 6 by kernel_rfl).symm.trans hf) |>.symm
      obtain rfl : fn = Tryd.f6 := (Option.some.inj (Tryd.func6.symm.trans hfn)).symm
      exact ⟨by kernel_rfl, fun j t ht => by
        rw [Tryd.params6] at ht
        have h3 : t = 9 ∨ t = 3 := by
          rcases j with _ | _ | j
          · exact .inl (by simpa using ht.symm)
          · exact .inr (by simpa using ht.symm)
          · simp at ht
        rcases h3 with rfl | rfl
        · exact (show Tryd.prog.wantsStandIn 9 = false by kernel_rfl)
        · exact (show Tryd.prog.wantsStandIn 3 = false by kernel_rfl)⟩)
    (by kernel_rfl)
#print axioms proved
end Go.Proofs.YtegjgbgnpkncbaaDoor.fnExactLongLines
