/-
  The law FnExactHasNote returns true at every argument: HasNote answers as its model does and writes into no argument.
  Conditions: none beyond the row's own; whatever the arguments. The card ties the listed variables to the program's text.
-/
import Derived.Test.YtddbcifjjblkeaaDoorCbk
import Derived.Test.YtddbcifjjblkeaaDoorArg
import Derived.Test.YtddbcifjjblkeaaDoorTie
import Derived.Test.YtddbcifjjblkeaaDoorCards
import Derived.ChangeVars
import Derived.LaidLaws
import Derived.LaidHandle
import Derived.SevenTiedAt
namespace Go.Proofs.YtddbcifjjblkeaaDoor.fnExactHasNote
open Go.ChangeShapes Go.WideShapes Go.ChangeAt Go.RowKit Go.Joins
set_option linter.unusedVariables false

set_option maxHeartbeats 4000000 in
set_option maxRecDepth 100000 in
theorem law (A : Option Addr) (l : List Nd) (n c : Nat) (w : World) (hn : l.length = n) (hnx : n ≤ maxLen) (ha : NS w A l) (fa : Fits (tns l)) (hg : ErrV w) :
    Calls Tryd.prog 4 #[.slice A n c] w fun e w' => e = .returned (.bool true) ∧ Below w.heap.size w w' := by
  have HN := Lib.hid hn
  have HG := Lib.hid hg
  clear hn hg
  go_enter Tryd.func4, Tryd.ntmps4
  have HB_0 := Lib.hid (Below.refl w.heap.size w)
  have ha_0 := ha
  go_wp2_with fail
  refine (szNodeS_any _ l _ _ _ _ HN.out hnx (by omega) (by omega) ha_0 fa).mono ?_
  rintro e w1 ⟨rfl, hb⟩
  have ha_1 := ha_0.below hb
  have HB_1 := Lib.hid (HB_0.out.trans (hb.mono HB_0.out.size))
  have z_1 : w.heap.size ≤ w1.heap.size := hb.size
  clear hb ha_0
  by_cases hbig : (1048576 : Int) < (bulk (tns l) : Int)
  · rw [show szB 1048576 (tns l) = -1 from if_pos hbig]
    go_wp2
    go_ret
    exact ⟨rfl, HB_1.out⟩
  rw [show szB 1048576 (tns l) = 1048576 - bulk (tns l) from if_neg hbig]
  have hsm : n ≤ 1048576 := by have := HN.out; have h8 := tns_length l; unfold bulk at hbig; omega
  have hnn : (0 : Int) ≤ 1048576 - (bulk (tns l) : Int) := by omega
  have hl2 : l.length ≤ 2097152 := by have := HN.out; omega
  have HS := Lib.hid (show ∀ (i : Nat) (x : Nd), l[i]? = some x → x.s.size ≤ 1048576 from fun i x hx => by have := bulk_at (tns_at hx); simp only [tkn] at this; omega)
  clear hbig hnx fa
  have hss : (ntB l == ntB l) = true := by simp
  go_wp2_with fail
  refine (toNodeS_any _ l _ _ _ HN.out hsm ha_1).mono ?_
  rintro e w2 ⟨rfl, hk, hb⟩
  have ha_2 := ha_1.below hb
  have HB_2 := Lib.hid (HB_1.out.trans (hb.mono HB_1.out.size))
  have z_2 : w1.heap.size ≤ w2.heap.size := hb.size
  clear hb ha_1
  have x_2 := NS.of_blk hk
  clear hk
  go_wp2_with fail
  refine (sHasNote_any _ l _ _ _ rfl hl2 x_2 HS.out).mono ?_
  rintro e w3 ⟨rfl, hb⟩
  have ha_3 := ha_2.below hb
  have x_3 := x_2.below hb
  have HB_3 := Lib.hid (HB_2.out.trans (hb.mono HB_2.out.size))
  have z_3 : w2.heap.size ≤ w3.heap.size := hb.size
  clear hb ha_2 x_2
  clear x_3
  go_wp2_with fail
  refine (toNodeS_any _ l _ _ _ HN.out hsm ha_3).mono ?_
  rintro e w4 ⟨rfl, hk, hb⟩
  have ha_4 := ha_3.below hb
  have HB_4 := Lib.hid (HB_3.out.trans (hb.mono HB_3.out.size))
  have z_4 : w3.heap.size ≤ w4.heap.size := hb.size
  clear hb ha_3
  have x_4 := NS.of_blk hk
  clear hk
  go_wp2_with fail
  refine (HasNote_any _ l _ _ _ rfl hl2 x_4 (HG.out.belowB HB_4.out HG.out.pos)).mono ?_
  rintro e w5 ⟨rfl, hb⟩
  have ha_5 := ha_4.below hb
  have x_5 := x_4.below hb
  have HB_5 := Lib.hid (HB_4.out.trans (hb.mono HB_4.out.size))
  have z_5 : w4.heap.size ≤ w5.heap.size := hb.size
  clear hb ha_4 x_4
  go_wp2_with fail
  refine (toNodeS_any _ l _ _ _ HN.out hsm ha_5).mono ?_
  rintro e w6 ⟨rfl, hk, hb⟩
  have ha_6 := ha_5.below hb
  have x_6 := x_5.below hb
  have HB_6 := Lib.hid (HB_5.out.trans (hb.mono HB_5.out.size))
  have z_6 : w5.heap.size ≤ w6.heap.size := hb.size
  clear hb ha_5 x_5
  have u_6 := NS.of_blk hk
  clear hk
  go_wp2_with fail
  refine (eqNodeS_same _ _ l _ _ _ _ rfl hl2 x_6 u_6).mono ?_
  rintro e w7 ⟨rfl, hb⟩
  have ha_7 := ha_6.below hb
  have x_7 := x_6.below hb
  have u_7 := u_6.below hb
  have HB_7 := Lib.hid (HB_6.out.trans (hb.mono HB_6.out.size))
  have z_7 : w6.heap.size ≤ w7.heap.size := hb.size
  clear hb ha_6 x_6 u_6
  go_wp2
  go_ret
  exact ⟨rfl, HB_7.out⟩

/-! the row -/
def leaf : DataW Unit → Value
  | .lit (.int k n) => .int k n
  | _ => undef
/-- the cells of a table of numbers, or of rows of numbers. -/
def cellsIn : DataW Unit → List Value
  | .agg l => l.flatMap fun x => match x with | .agg m => m.map leaf | d => [leaf d]
  | _ => []
theorem rtypeRow : (Tryd.prog.cutTypes.find? (·.1 == "internal/reflectlite.rtype")).map (·.2) = some 91 := by kernel_rfl
theorem errorRow : ((List.range Tryd.prog.types.size).filter fun t => Tryd.prog.rowNamed t [101, 114, 114, 111, 114]) = [65] := by kernel_rfl
theorem errorHandle : typeHandle Tryd.prog 65 = .pointer (some ⟨4, 65, none⟩) := by kernel_rfl
theorem errV_of_laid {W : World} (h : laidMetH Tryd.prog Rows.fnExactHasNoteRow.laid W) : ErrV W := by
  have h' : laidMet Tryd.prog [("unicode/utf8.acceptRanges", Rows.laid_unicode_utf8_acceptRanges), ("unicode/utf8.first", Rows.laid_unicode_utf8_first)] W ∧ handlesMet Tryd.prog [("errors.errorType", Rows.laid_errors_errorType)] W := h
  obtain ⟨name, u, ty, e1, e2, e3, e4, e5⟩ := h'.2 _ (List.mem_singleton.2 rfl)
  have en : name = [101, 114, 114, 111, 114] := (Option.some.inj e1).symm
  subst en
  obtain rfl := Option.some.inj (rtypeRow.symm.trans e2)
  have hm : ty ∈ (List.range Tryd.prog.types.size).filter fun t => Tryd.prog.rowNamed t [101, 114, 114, 111, 114] := List.mem_filter.2 ⟨List.mem_range.2 e3, e4⟩
  rw [errorRow] at hm
  obtain rfl := List.mem_singleton.1 hm
  rw [errorHandle] at e5
  have h0 := World.var?_cell errVar e5 0
  unfold ErrV
  simpa using h0

/-- a world in which the listed variables read as listed. -/
def lay (g : Nat) (cs : List Value) (w : World) : World :=
  { w with heap := w.heap.modify g fun
      | .cells _ t frozen => .cells cs.toArray t frozen
      | o => o }
noncomputable def laidWorld (os : Os) : World :=
  lay 0 [.iface 91 (.agg #[.pointer (some ⟨4, 65, none⟩)])] (lay 2 (cellsIn Rows.laid_unicode_utf8_first) (lay 3 (cellsIn Rows.laid_unicode_utf8_acceptRanges) (World.holding Tryd.prog os ⟨#[], #[], []⟩)))
set_option maxRecDepth 100000 in
theorem laidWorld_data (os : Os) : laidMet Tryd.prog [("unicode/utf8.acceptRanges", Rows.laid_unicode_utf8_acceptRanges), ("unicode/utf8.first", Rows.laid_unicode_utf8_first)] ((laidWorld os).forCall (fun _ _ => 0) ⟨#[], #[.slice none 0 0], []⟩).memory :=
  laidMet_of_run' 8 (by kernel_rfl) (by kernel_rfl)
theorem laidWorld_met (os : Os) : laidMetH Tryd.prog Rows.fnExactHasNoteRow.laid ((laidWorld os).forCall (fun _ _ => 0) ⟨#[], #[.slice none 0 0], []⟩).memory :=
  laidMetH_of_parts (laidWorld_data os) (by kernel_rfl)

set_option maxRecDepth 100000 in
theorem lifted (os : Os) (started : os.Started) (H : Type) (enc : TypeId × Value → H) :
    ReturnsInHanded {} Tryd.checked os 4 .any (fun w args => (Rows.fnExactHasNoteSpec.pre enc Tryd.prog Tryd.f4 Rows.fnExactHasNoteRow.domain false w args ∧ laidMetH Tryd.prog Rows.fnExactHasNoteRow.laid w) ∧ sizedMet enc Tryd.prog Tryd.f4 (OpenSpec.ofChange Rows.fnExactHasNoteSpec) false w args)
      (Rows.fnExactHasNoteSpec.post enc Tryd.prog Tryd.f4 false true false false) := by
  refine returnsInHanded_of_change_and (C := Tryd.checked) (X := fun w _ => laidMetH Tryd.prog Rows.fnExactHasNoteRow.laid w) (fun _ _ _ hh h => h.of_heap hh) own started (by kernel_rfl) Tryd.func4
    (ChangeSpec.witness_at (enc := enc) (C := Tryd.checked) (os := os) (X := fun w _ => laidMetH Tryd.prog Rows.fnExactHasNoteRow.laid w) false (laidWorld os) #[.slice none 0 0] 8 rfl (by kernel_rfl) (by kernel_rfl) (by kernel_rfl) (by kernel_rfl) (by kernel_rfl) (laidWorld_met os)) ?_
  intro W base args ds gs before hval0 hW _ _ hL _
  have hval : ∀ (j : Nat) t v, Tryd.f4.params[j]? = some t → args[j]? = some v → Value.okWide Tryd.prog W .any base t v := hval0
  have hW' := hW
  obtain ⟨p, q, hA0, hV, rfl, _, _⟩ := hW
  have hA : DataW.TrodAll enc Tryd.prog W 0 (fun _ => true) true Tryd.f4.params.toList args.toList ds p := hA0
  rw [Tryd.params4] at hA hval
  obtain ⟨v0, vs0, d0, ds0, p0, q0, hargs0, rfl, rfl, h0, r0⟩ := trodAll_cons hA
  obtain ⟨rfl, rfl, rfl⟩ := trodAll_nil r0
  obtain rfl : args = #[v0] := by cases args; simp_all
  obtain ⟨rfl, rfl⟩ := trodVars_none hV
  have y0 := h0
  have lt0 : ∀ x ∈ p0, x.block < W.heap.size := by obtain ⟨m, hm⟩ := y0; exact DataW.trod_lt m _ _ _ hm
  obtain ⟨A0, n0, c0, l0, rfl, hl0, hn0, hts0, hf0⟩ := open_Nodes (hval 0 22 v0 rfl rfl) h0
  clear hA0 hval0
  refine (law A0 l0 n0 c0 W hl0 hn0 hts0 hf0 (errV_of_laid hL)).mono fun e W' ⟨he, bel⟩ => ?_
  subst he
  exact ⟨_, rfl, _, _, _, [], _, [], hW', trodAll_mk1 (shut_bool Tryd.underlying4 _), (trodAll_cons_mk (Below.trod laidOut (by kernel_rfl) (of_decide_eq_true (by kernel_rfl)) y0 bel lt0) trodAll_mk0), rfl, bel.frame _, (fun h => by cases h)⟩

theorem over : Rows.fnExactHasNoteRow.holds Tryd.pinned (OpenSpec.ofChange Rows.fnExactHasNoteSpec) :=
  OpenClaim.holds_of_wide 4 Tryd.f4 rfl rfl rfl rfl rfl rfl rfl ⟨rfl, rfl, rfl, rfl, rfl⟩ rfl rfl rfl rfl rfl (by kernel_rfl) Tryd.func4 (by kernel_rfl)
    (of_decide_eq_true (by kernel_rfl)) (by unfold Func.isWrapper; first | (rw [if_pos (by decide +kernel)]; kernel_rfl) | (rw [if_neg (by decide +kernel)]; exact ⟨rfl, rfl⟩))
    (fun os started H enc _ => lifted os started H enc)

theorem proved : Rows.FnExactHasNoteCardSaid :=
  Claim7.holds_tied_plain_at .later [] [.data, .handle, .pinned] true Rows.fnExactHasNoteCard.stood.harness true
    over (fun _ h => by cases h) (by kernel_rfl) (fun _ h => by cases h) fnExactHasNote_row_tie rfl ⟨rfl, rfl⟩ (by kernel_rfl) rfl
    (fun f fn hf hfn => by
      obtain rfl : f = 4 := Option.some.inj ((show Tryd.prog.funcNamed "loop.example/g00829/laws.FnExactHasNote" = some 4 by kernel_rfl).symm.trans hf) |>.symm
      obtain rfl : fn = Tryd.f4 := (Option.some.inj (Tryd.func4.symm.trans hfn)).symm
      exact ⟨by kernel_rfl, fun j t ht => by
        rw [Tryd.params4] at ht
        have h3 : t = 22 := by
          rcases j with _ | j
          · simpa using ht.symm
          · simp at ht
        subst h3
        exact (show Tryd.prog.wantsStandIn 22 = false by kernel_rfl)⟩)
    (by kernel_rfl)
#print axioms proved
end Go.Proofs.YtddbcifjjblkeaaDoor.fnExactHasNote
