/-
  The law FnExactSameTree returns true at every argument: SameTree answers as its model does and writes into no argument.
  Conditions: none beyond the row's own; whatever the arguments. The card ties the listed variables to the program's text.
-/
import Derived.Test.YtjdpakjnklfhhaaDoorTri
import Derived.Test.YtjdpakjnklfhhaaDoorArg
import Derived.Test.YtjdpakjnklfhhaaDoorTie
import Derived.Test.YtjdpakjnklfhhaaDoorCards
import Derived.ChangeVars
import Derived.LaidLaws
import Derived.LaidHandle
import Derived.SevenTiedAt
namespace Go.Proofs.YtjdpakjnklfhhaaDoor.fnExactSameTree
open Go.ChangeShapes Go.WideShapes Go.ChangeAt Go.RowKit Go.Joins
set_option linter.unusedVariables false

theorem bulk_pair {la lb : List Nd} {n m : Nat} (hn : la.length = n) (hm : lb.length = m) (h : ¬ (1048576 - (bulk (tns la) : Int)) < (bulk (tns lb) : Int)) : n ≤ 1048576 ∧ m ≤ 1048576 := by
  have h1 := tns_length la; have h2 := tns_length lb; unfold bulk at h; omega
theorem size_of {l : List Nd} (h : bulk (tns l) ≤ 1048576) : ∀ (i : Nat) (x : Nd), l[i]? = some x → x.s.size ≤ 1048576 := fun i x hx => by have := bulk_at (tns_at hx); simp only [tkn] at this; omega

set_option maxHeartbeats 4000000 in
set_option maxRecDepth 100000 in
theorem law (A : Option Addr) (la : List Nd) (n c : Nat) (B : Option Addr) (lb : List Nd) (m d : Nat) (w : World) (hn : la.length = n) (hnx : n ≤ maxLen) (ha : NS w A la) (fa : Fits (tns la)) (hm : lb.length = m) (hmx : m ≤ maxLen) (hb0 : NS w B lb) (fb : Fits (tns lb)) (hg : ErrV w) :
    Calls Tryd.prog 7 #[.slice A n c, .slice B m d] w fun e w' => e = .returned (.bool true) ∧ Below w.heap.size w w' := by
  have HN := Lib.hid hn
  have HM := Lib.hid hm
  have HG := Lib.hid hg
  clear hn hm hg
  go_enter Tryd.func7, Tryd.ntmps7
  have HB_0 := Lib.hid (Below.refl w.heap.size w)
  have ha_0 := ha
  have hb0_0 := hb0
  go_wp2_with fail
  refine (szNodeS_any _ la _ _ _ _ HN.out hnx (by omega) (by omega) ha_0 fa).mono ?_
  rintro e w1 ⟨rfl, hb⟩
  have ha_1 := ha_0.below hb
  have hb0_1 := hb0_0.below hb
  have HB_1 := Lib.hid (HB_0.out.trans (hb.mono HB_0.out.size))
  have z_1 : w.heap.size ≤ w1.heap.size := hb.size
  clear hb ha_0 hb0_0
  by_cases hbig : (1048576 : Int) < (bulk (tns la) : Int)
  · rw [show szB 1048576 (tns la) = -1 from if_pos hbig]
    go_wp2
    go_ret
    exact ⟨rfl, HB_1.out⟩
  rw [show szB 1048576 (tns la) = 1048576 - bulk (tns la) from if_neg hbig]
  have hnn : (0 : Int) ≤ 1048576 - (bulk (tns la) : Int) := by omega
  have hnn1 : (1048576 : Int) - (bulk (tns la) : Int) ≤ 1048576 := by omega
  have HSA := Lib.hid (size_of (l := la) (by omega))
  clear hbig
  go_wp2_with fail
  refine (szNodeS_any _ lb _ _ _ _ HM.out hmx hnn hnn1 hb0_1 fb).mono ?_
  rintro e w2 ⟨rfl, hb⟩
  have ha_2 := ha_1.below hb
  have hb0_2 := hb0_1.below hb
  have HB_2 := Lib.hid (HB_1.out.trans (hb.mono HB_1.out.size))
  have z_2 : w1.heap.size ≤ w2.heap.size := hb.size
  clear hb ha_1 hb0_1
  by_cases hbig : (1048576 - (bulk (tns la) : Int)) < (bulk (tns lb) : Int)
  · rw [show szB (1048576 - (bulk (tns la) : Int)) (tns lb) = -1 from if_pos hbig]
    go_wp2
    go_ret
    exact ⟨rfl, HB_2.out⟩
  rw [show szB (1048576 - (bulk (tns la) : Int)) (tns lb) = 1048576 - (bulk (tns la) : Int) - bulk (tns lb) from if_neg hbig]
  obtain ⟨hn1, hm1⟩ := bulk_pair HN.out HM.out hbig
  have hnn2 : (0 : Int) ≤ 1048576 - (bulk (tns la) : Int) - (bulk (tns lb) : Int) := by omega
  have HSB := Lib.hid (size_of (l := lb) (by omega))
  have hla : la.length ≤ 2097152 := by have := HN.out; omega
  have hlb : lb.length ≤ 2097152 := by have := HM.out; omega
  clear hbig hnx hmx
  have hss : (smtB la lb == smtB la lb) = true := by simp
  go_wp2_with fail
  refine (toNodeS_any _ la _ _ _ HN.out hn1 ha_2).mono ?_
  rintro e w3 ⟨rfl, hk, hb⟩
  have ha_3 := ha_2.below hb
  have hb0_3 := hb0_2.below hb
  have HB_3 := Lib.hid (HB_2.out.trans (hb.mono HB_2.out.size))
  have z_3 : w2.heap.size ≤ w3.heap.size := hb.size
  clear hb ha_2 hb0_2
  have x_3 := NS.of_blk hk
  clear hk
  go_wp2_with fail
  refine (toNodeS_any _ lb _ _ _ HM.out hm1 hb0_3).mono ?_
  rintro e w4 ⟨rfl, hk, hb⟩
  have ha_4 := ha_3.below hb
  have hb0_4 := hb0_3.below hb
  have x_4 := x_3.below hb
  have HB_4 := Lib.hid (HB_3.out.trans (hb.mono HB_3.out.size))
  have z_4 : w3.heap.size ≤ w4.heap.size := hb.size
  clear hb ha_3 hb0_3 x_3
  have y_4 := NS.of_blk hk
  clear hk
  go_wp2_with fail
  refine (sSameTree_any _ _ la lb la.length _ lb.length _ _ rfl rfl hla hlb x_4 y_4 HSA.out HSB.out).mono ?_
  rintro e w5 ⟨rfl, hb⟩
  have ha_5 := ha_4.below hb
  have hb0_5 := hb0_4.below hb
  have x_5 := x_4.below hb
  have y_5 := y_4.below hb
  have HB_5 := Lib.hid (HB_4.out.trans (hb.mono HB_4.out.size))
  have z_5 : w4.heap.size ≤ w5.heap.size := hb.size
  clear hb ha_4 hb0_4 x_4 y_4
  clear x_5
  clear y_5
  go_wp2_with fail
  refine (toNodeS_any _ la _ _ _ HN.out hn1 ha_5).mono ?_
  rintro e w6 ⟨rfl, hk, hb⟩
  have ha_6 := ha_5.below hb
  have hb0_6 := hb0_5.below hb
  have HB_6 := Lib.hid (HB_5.out.trans (hb.mono HB_5.out.size))
  have z_6 : w5.heap.size ≤ w6.heap.size := hb.size
  clear hb ha_5 hb0_5
  have x_6 := NS.of_blk hk
  clear hk
  go_wp2_with fail
  refine (toNodeS_any _ lb _ _ _ HM.out hm1 hb0_6).mono ?_
  rintro e w7 ⟨rfl, hk, hb⟩
  have ha_7 := ha_6.below hb
  have hb0_7 := hb0_6.below hb
  have x_7 := x_6.below hb
  have HB_7 := Lib.hid (HB_6.out.trans (hb.mono HB_6.out.size))
  have z_7 : w6.heap.size ≤ w7.heap.size := hb.size
  clear hb ha_6 hb0_6 x_6
  have y_7 := NS.of_blk hk
  clear hk
  go_wp2_with fail
  refine (SameTree_any _ _ la lb la.length _ lb.length _ _ rfl rfl hla hlb x_7 y_7 (HG.out.belowB HB_7.out HG.out.pos)).mono ?_
  rintro e w8 ⟨rfl, hb⟩
  have ha_8 := ha_7.below hb
  have hb0_8 := hb0_7.below hb
  have x_8 := x_7.below hb
  have y_8 := y_7.below hb
  have HB_8 := Lib.hid (HB_7.out.trans (hb.mono HB_7.out.size))
  have z_8 : w7.heap.size ≤ w8.heap.size := hb.size
  clear hb ha_7 hb0_7 x_7 y_7
  go_wp2_with fail
  refine (toNodeS_any _ la _ _ _ HN.out hn1 ha_8).mono ?_
  rintro e w9 ⟨rfl, hk, hb⟩
  have ha_9 := ha_8.below hb
  have hb0_9 := hb0_8.below hb
  have x_9 := x_8.below hb
  have y_9 := y_8.below hb
  have HB_9 := Lib.hid (HB_8.out.trans (hb.mono HB_8.out.size))
  have z_9 : w8.heap.size ≤ w9.heap.size := hb.size
  clear hb ha_8 hb0_8 x_8 y_8
  have u_9 := NS.of_blk hk
  clear hk
  go_wp2_with fail
  refine (eqNodeS_same _ _ la _ _ _ _ rfl hla x_9 u_9).mono ?_
  rintro e w10 ⟨rfl, hb⟩
  have ha_10 := ha_9.below hb
  have hb0_10 := hb0_9.below hb
  have x_10 := x_9.below hb
  have y_10 := y_9.below hb
  have u_10 := u_9.below hb
  have HB_10 := Lib.hid (HB_9.out.trans (hb.mono HB_9.out.size))
  have z_10 : w9.heap.size ≤ w10.heap.size := hb.size
  clear hb ha_9 hb0_9 x_9 y_9 u_9
  clear u_10
  go_wp2_with fail
  refine (toNodeS_any _ lb _ _ _ HM.out hm1 hb0_10).mono ?_
  rintro e w11 ⟨rfl, hk, hb⟩
  have ha_11 := ha_10.below hb
  have hb0_11 := hb0_10.below hb
  have x_11 := x_10.below hb
  have y_11 := y_10.below hb
  have HB_11 := Lib.hid (HB_10.out.trans (hb.mono HB_10.out.size))
  have z_11 : w10.heap.size ≤ w11.heap.size := hb.size
  clear hb ha_10 hb0_10 x_10 y_10
  have u_11 := NS.of_blk hk
  clear hk
  go_wp2_with fail
  refine (eqNodeS_same _ _ lb _ _ _ _ rfl hlb y_11 u_11).mono ?_
  rintro e w12 ⟨rfl, hb⟩
  have ha_12 := ha_11.below hb
  have hb0_12 := hb0_11.below hb
  have x_12 := x_11.below hb
  have y_12 := y_11.below hb
  have u_12 := u_11.below hb
  have HB_12 := Lib.hid (HB_11.out.trans (hb.mono HB_11.out.size))
  have z_12 : w11.heap.size ≤ w12.heap.size := hb.size
  clear hb ha_11 hb0_11 x_11 y_11 u_11
  go_wp2
  go_ret
  exact ⟨rfl, HB_12.out⟩

/-! the row -/
def leaf : DataW Unit → Value
  | .lit (.int k n) => .int k n
  | _ => undef
/-- the cells of a table of numbers, or of rows of numbers. -/
def cellsIn : DataW Unit → List Value
  | .agg l => l.flatMap fun x => match x with | .agg m => m.map leaf | d => [leaf d]
  | _ => []
theorem rtypeRow : (Tryd.prog.cutTypes.find? (·.1 == "internal/reflectlite.rtype")).map (·.2) = some 134 := by kernel_rfl
theorem errorRow : ((List.range Tryd.prog.types.size).filter fun t => Tryd.prog.rowNamed t [101, 114, 114, 111, 114]) = [78] := by kernel_rfl
theorem errorHandle : typeHandle Tryd.prog 78 = .pointer (some ⟨4, 78, none⟩) := by kernel_rfl
theorem errV_of_laid {W : World} (h : laidMetH Tryd.prog Rows.fnExactSameTreeRow.laid W) : ErrV W := by
  have h' : laidMet Tryd.prog [("unicode/utf8.acceptRanges", Rows.laid_unicode_utf8_acceptRanges), ("unicode/utf8.first", Rows.laid_unicode_utf8_first)] W ∧ handlesMet Tryd.prog [("errors.errorType", Rows.laid_errors_errorType)] W := h
  obtain ⟨name, u, ty, e1, e2, e3, e4, e5⟩ := h'.2 _ (List.mem_singleton.2 rfl)
  have en : name = [101, 114, 114, 111, 114] := (Option.some.inj e1).symm
  subst en
  obtain rfl := Option.some.inj (rtypeRow.symm.trans e2)
  have hm : ty ∈ (List.range Tryd.prog.types.size).filter fun t => Tryd.prog.rowNamed t [101, 114, 114, 111, 114] := List.mem_filter.2 ⟨List.mem_range.2 e3, e4⟩
  rw [errorRow] at hm
  obtain rfl := List.mem_singleton.1 hm
  rw [errorHandle] at e5
  have h0 := World.var?_cell errVar e5 0
  unfold ErrV
  simpa using h0

/-- a world in which the listed variables read as listed. -/
def lay (g : Nat) (cs : List Value) (w : World) : World :=
  { w with heap := w.heap.modify g fun
      | .cells _ t frozen => .cells cs.toArray t frozen
      | o => o }
noncomputable def laidWorld (os : Os) : World :=
  lay 0 [.iface 134 (.agg #[.pointer (some ⟨4, 78, none⟩)])] (lay 2 (cellsIn Rows.laid_unicode_utf8_first) (lay 3 (cellsIn Rows.laid_unicode_utf8_acceptRanges) (World.holding Tryd.prog os ⟨#[], #[], []⟩)))
set_option maxRecDepth 100000 in
theorem laidWorld_data (os : Os) : laidMet Tryd.prog [("unicode/utf8.acceptRanges", Rows.laid_unicode_utf8_acceptRanges), ("unicode/utf8.first", Rows.laid_unicode_utf8_first)] ((laidWorld os).forCall (fun _ _ => 0) ⟨#[], #[.slice none 0 0, .slice none 0 0], []⟩).memory :=
  laidMet_of_run' 8 (by kernel_rfl) (by kernel_rfl)
theorem laidWorld_met (os : Os) : laidMetH Tryd.prog Rows.fnExactSameTreeRow.laid ((laidWorld os).forCall (fun _ _ => 0) ⟨#[], #[.slice none 0 0, .slice none 0 0], []⟩).memory :=
  laidMetH_of_parts (laidWorld_data os) (by kernel_rfl)

set_option maxRecDepth 100000 in
theorem lifted (os : Os) (started : os.Started) (H : Type) (enc : TypeId × Value → H) :
    ReturnsInHanded {} Tryd.checked os 7 .any (fun w args => (Rows.fnExactSameTreeSpec.pre enc Tryd.prog Tryd.f7 Rows.fnExactSameTreeRow.domain false w args ∧ laidMetH Tryd.prog Rows.fnExactSameTreeRow.laid w) ∧ sizedMet enc Tryd.prog Tryd.f7 (OpenSpec.ofChange Rows.fnExactSameTreeSpec) false w args)
      (Rows.fnExactSameTreeSpec.post enc Tryd.prog Tryd.f7 false true false false) := by
  refine returnsInHanded_of_change_and (C := Tryd.checked) (X := fun w _ => laidMetH Tryd.prog Rows.fnExactSameTreeRow.laid w) (fun _ _ _ hh h => h.of_heap hh) own started (by kernel_rfl) Tryd.func7
    (ChangeSpec.witness_at (enc := enc) (C := Tryd.checked) (os := os) (X := fun w _ => laidMetH Tryd.prog Rows.fnExactSameTreeRow.laid w) false (laidWorld os) #[.slice none 0 0, .slice none 0 0] 8 rfl (by kernel_rfl) (by kernel_rfl) (by kernel_rfl) (by kernel_rfl) (by kernel_rfl) (laidWorld_met os)) ?_
  intro W base args ds gs before hval0 hW _ _ hL _
  have hval : ∀ (j : Nat) t v, Tryd.f7.params[j]? = some t → args[j]? = some v → Value.okWide Tryd.prog W .any base t v := hval0
  have hW' := hW
  obtain ⟨p, q, hA0, hV, rfl, _, _⟩ := hW
  have hA : DataW.TrodAll enc Tryd.prog W 0 (fun _ => true) true Tryd.f7.params.toList args.toList ds p := hA0
  rw [Tryd.params7] at hA hval
  obtain ⟨v0, vs0, d0, ds0, p0, q0, hargs0, rfl, rfl, h0, r0⟩ := trodAll_cons hA
  obtain ⟨v1, vs1, d1, ds1, p1, q1, hargs1, rfl, rfl, h1, r1⟩ := trodAll_cons r0
  obtain ⟨rfl, rfl, rfl⟩ := trodAll_nil r1
  obtain rfl : args = #[v0, v1] := by cases args; simp_all
  obtain ⟨rfl, rfl⟩ := trodVars_none hV
  have y0 := h0
  have lt0 : ∀ x ∈ p0, x.block < W.heap.size := by obtain ⟨m, hm⟩ := y0; exact DataW.trod_lt m _ _ _ hm
  have y1 := h1
  have lt1 : ∀ x ∈ p1, x.block < W.heap.size := by obtain ⟨m, hm⟩ := y1; exact DataW.trod_lt m _ _ _ hm
  obtain ⟨A0, n0, c0, l0, rfl, hl0, hn0, hts0, hf0⟩ := open_Nodes (hval 0 22 v0 rfl rfl) h0
  obtain ⟨A1, n1, c1, l1, rfl, hl1, hn1, hts1, hf1⟩ := open_Nodes (hval 1 22 v1 rfl rfl) h1
  clear hA0 hval0
  refine (law A0 l0 n0 c0 A1 l1 n1 c1 W hl0 hn0 hts0 hf0 hl1 hn1 hts1 hf1 (errV_of_laid hL)).mono fun e W' ⟨he, bel⟩ => ?_
  subst he
  exact ⟨_, rfl, _, _, _, [], _, [], hW', trodAll_mk1 (shut_bool Tryd.underlying4 _), (trodAll_cons_mk (Below.trod laidOut (by kernel_rfl) (of_decide_eq_true (by kernel_rfl)) y0 bel lt0) (trodAll_cons_mk (Below.trod laidOut (by kernel_rfl) (of_decide_eq_true (by kernel_rfl)) y1 bel lt1) trodAll_mk0)), rfl, bel.frame _, (fun h => by cases h)⟩

theorem over : Rows.fnExactSameTreeRow.holds Tryd.pinned (OpenSpec.ofChange Rows.fnExactSameTreeSpec) :=
  OpenClaim.holds_of_wide 7 Tryd.f7 rfl rfl rfl rfl rfl rfl rfl ⟨rfl, rfl, rfl, rfl, rfl⟩ rfl rfl rfl rfl rfl (by kernel_rfl) Tryd.func7 (by kernel_rfl)
    (of_decide_eq_true (by kernel_rfl)) (by unfold Func.isWrapper; first | (rw [if_pos (by decide +kernel)]; kernel_rfl) | (rw [if_neg (by decide +kernel)]; exact ⟨rfl, rfl⟩))
    (fun os started H enc _ => lifted os started H enc)

theorem proved : Rows.FnExactSameTreeCardSaid :=
  Claim7.holds_tied_plain_at .later [] [.data, .handle, .pinned] true Rows.fnExactSameTreeCard.stood.harness true
    over (fun _ h => by cases h) (by kernel_rfl) (fun _ h => by cases h) fnExactSameTree_row_tie rfl ⟨rfl, rfl⟩ (by kernel_rfl) rfl
    (fun f fn hf hfn => by
      obtain rfl : f = 7 := Option.some.inj ((show Tryd.prog.funcNamed "loop.example/g00829/laws.FnExactSameTree" = some 7 by kernel_rfl).symm.trans hf) |>.symm
      obtain rfl : fn = Tryd.f7 := (Option.some.inj (Tryd.func7.symm.trans hfn)).symm
      exact ⟨by kernel_rfl, fun j t ht => by
        rw [Tryd.params7] at ht
        have h3 : t = 22 ∨ t = 22 := by
          rcases j with _ | _ | j
          · exact .inl (by simpa using ht.symm)
          · exact .inr (by simpa using ht.symm)
          · simp at ht
        rcases h3 with rfl | rfl
        · exact (show Tryd.prog.wantsStandIn 22 = false by kernel_rfl)
        · exact (show Tryd.prog.wantsStandIn 22 = false by kernel_rfl)⟩)
    (by kernel_rfl)
#print axioms proved
end Go.Proofs.YtjdpakjnklfhhaaDoor.fnExactSameTree
