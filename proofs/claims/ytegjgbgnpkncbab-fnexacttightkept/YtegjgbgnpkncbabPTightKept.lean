/-
  The law FnExactTightKept returns true at every argument: TightKept answers as its model does, writes into no argument.
  Conditions: none beyond the row's own; whatever the arguments.
-/
import Derived.Test.YtegjgbgnpkncbabLof
import Derived.Test.YtegjgbgnpkncbabArg
namespace Go.Proofs.Ytegjgbgnpkncbab.fnExactTightKept
open Go.ChangeShapes Go.WideShapes Go.ChangeAt Go.RowKit Go.Joins
set_option linter.unusedVariables false

set_option maxHeartbeats 1000000 in
set_option maxRecDepth 100000 in
theorem law (W : Int) (A : Option Addr) (l : List Tk) (n c : Nat) (w : World) (hn : l.length = n) (hm : n ≤ maxLen) (hts : TS w A l) (hf : Fits l) :
    Calls Try.prog 6 #[.int .i64 W, .slice A n c] w fun e w' => e = .returned (.bool true) ∧ Below w.heap.size w w' := by
  obtain ⟨v, hv⟩ : ∃ v, tkB W l = v := ⟨_, rfl⟩
  have HV := Lib.hid hv
  clear hv
  cases v
  all_goals
    have HN := Lib.hid hn
    clear hn
    go_enter Try.func6, Try.ntmps6
    go_wp2_with fail
    refine (szTokenS_any _ l _ _ _ _ HN.out hm (by omega) (by omega) hts hf).mono ?_
    rintro e w1 ⟨rfl, hb1⟩
    have HB1 := Lib.hid hb1
    have ht1 := hts.below hb1
    clear hb1
    by_cases hbig : (1048576 : Int) < (bulk l : Int)
    · rw [show szB 1048576 l = -1 from if_pos hbig]
      go_wp2
      go_ret
      exact ⟨rfl, HB1.out⟩
    · rw [show szB 1048576 l = 1048576 - bulk l from if_neg hbig]
      have hsm : n ≤ 1048576 := by have := HN.out; unfold bulk at hbig; omega
      have hnn : (0 : Int) ≤ 1048576 - (bulk l : Int) := by omega
      clear hm hbig
      go_wp2_with fail
      refine (toTokenS_any _ l _ _ _ HN.out hsm ht1).mono ?_
      rintro e w2 ⟨rfl, hk2, hb2⟩
      have ht2 := ht1.below hb2
      have HB2 := Lib.hid (HB1.out.trans (hb2.mono HB1.out.size))
      have hx2 := TS.of_blk hk2
      have hlt2 := hk2.lt
      clear hb2 hk2
      have hl2 : l.length ≤ 2097152 := by have := HN.out; omega
      go_wp2_with fail
      refine (sTightKept_any W _ l _ _ _ rfl hl2 hx2 (fun b hb => by simp at hb; omega) hf).mono ?_
      rw [HV.out]
      rintro e w3 ⟨rfl, hb3⟩
      have ht3 := ht2.below hb3
      have HB3 := Lib.hid (HB2.out.trans (hb3.mono HB2.out.size))
      clear hb3 hx2 hlt2
      go_wp2_with fail
      refine (toTokenS_any _ l _ _ _ HN.out hsm ht3).mono ?_
      rintro e w4 ⟨rfl, hk4, hb4⟩
      have ht4 := ht3.below hb4
      have HB4 := Lib.hid (HB3.out.trans (hb4.mono HB3.out.size))
      have hx4 := TS.of_blk hk4
      have hlt4 := hk4.lt
      clear hb4 hk4
      go_wp2_with fail
      refine (TightKept_any W _ l _ _ _ rfl hl2 (Nat.le_refl _) hx4 (fun b hb => by simp at hb; omega) hf).mono ?_
      rw [HV.out]
      rintro e w5 ⟨rfl, hb5⟩
      have ht5 := ht4.below hb5
      have hx5 := hx4.below hb5
      have HB5 := Lib.hid (HB4.out.trans (hb5.mono HB4.out.size))
      clear hb5 hx4 hlt4
      go_wp2_with fail
      refine (toTokenS_any _ l _ _ _ HN.out hsm ht5).mono ?_
      rintro e w6 ⟨rfl, hk6, hb6⟩
      have hx6 := hx5.below hb6
      have hy6 := TS.of_blk hk6
      have HB6 := Lib.hid (HB5.out.trans (hb6.mono HB5.out.size))
      clear hb6 hk6
      go_wp2_with fail
      refine (eqTokenS_same _ _ l _ _ _ _ rfl (by have := HN.out; omega) hx6 hy6).mono ?_
      rintro e w7 ⟨rfl, hb7⟩
      have HB7 := Lib.hid (HB6.out.trans (hb7.mono HB6.out.size))
      clear hb7
      go_wp2
      go_ret
      exact ⟨rfl, HB7.out⟩

set_option maxRecDepth 100000 in
theorem lifted (os : Os) (started : os.Started) (H : Type) (enc : TypeId × Value → H) :
    ReturnsInHanded {} Try.checked os 6 .any (Rows.fnExactTightKeptSpec.pre6 enc Try.prog Try.f6 Rows.fnExactTightKeptRow.domain false) (Rows.fnExactTightKeptSpec.post enc Try.prog Try.f6 false true false false) := by
  refine returnsInHanded_of_change (C := Try.checked) own started (by kernel_rfl) Try.func6
    (ChangeSpec.witness6 (enc := enc) (C := Try.checked) false ⟨#[], #[.int .i64 0, .slice none 0 0], []⟩ 8 (by kernel_rfl) (by kernel_rfl) (by kernel_rfl) (by kernel_rfl)) ?_
  intro W base args ds gs before hval0 hW _ _
  have hval : ∀ (j : Nat) t v, Try.f6.params[j]? = some t → args[j]? = some v → Value.okWide Try.prog W .any base t v := hval0
  have hW' := hW
  obtain ⟨p, q, hA0, hV, rfl, _, _⟩ := hW
  have hA : DataW.TrodAll enc Try.prog W 0 (fun _ => true) true Try.f6.params.toList args.toList ds p := hA0
  rw [Try.params6] at hA hval
  obtain ⟨v0, vs0, d0, ds0, p0, q0, hargs0, rfl, rfl, h0, r0⟩ := trodAll_cons hA
  obtain ⟨v1, vs1, d1, ds1, p1, q1, hargs1, rfl, rfl, h1, r1⟩ := trodAll_cons r0
  obtain ⟨rfl, rfl, rfl⟩ := trodAll_nil r1
  obtain rfl : args = #[v0, v1] := by cases args; simp_all
  obtain ⟨rfl, rfl⟩ := trodVars_none hV
  have y0 := h0
  have lt0 : ∀ x ∈ p0, x.block < W.heap.size := by obtain ⟨m, hm⟩ := y0; exact DataW.trod_lt m _ _ _ hm
  have y1 := h1
  have lt1 : ∀ x ∈ p1, x.block < W.heap.size := by obtain ⟨m, hm⟩ := y1; exact DataW.trod_lt m _ _ _ hm
  obtain ⟨k0, rfl⟩ := okWide_int Try.underlying3 (hval 0 3 v0 rfl rfl)
  have hk0 : (Lit.int .i64 k0).wf = true := by obtain ⟨m, hm⟩ := h0; obtain ⟨n', e, _, wf⟩ := DataW.trod_int Try.underlying3 hm; simp [Value.cells] at e; subst e; exact wf
  obtain ⟨A1, n1, c1, l1, rfl, hl1, hn1, hts1, hf1⟩ := open_toks (hval 1 22 v1 rfl rfl) h1
  clear hA0 hval0
  refine (law k0 A1 l1 n1 c1 W hl1 hn1 hts1 hf1).mono fun e W' ⟨he, bel⟩ => ?_
  subst he
  exact ⟨_, rfl, _, _, _, [], _, [], hW', trodAll_mk1 (shut_bool Try.underlying4 _), (trodAll_cons_mk (Below.trod laidOut (by kernel_rfl) (of_decide_eq_true (by kernel_rfl)) y0 bel lt0) (trodAll_cons_mk (Below.trod laidOut (by kernel_rfl) (of_decide_eq_true (by kernel_rfl)) y1 bel lt1) trodAll_mk0)), rfl, bel.frame _, (fun h => by cases h)⟩

theorem over : Rows.fnExactTightKeptRow.holds Try.pinned (OpenSpec.ofChange Rows.fnExactTightKeptSpec) :=
  OpenClaim.holds_of_wide 6 Try.f6 rfl rfl rfl rfl rfl rfl rfl ⟨rfl, rfl, rfl, rfl, rfl⟩ rfl rfl rfl rfl rfl (by kernel_rfl) Try.func6 (by kernel_rfl)
    (of_decide_eq_true (by kernel_rfl)) (by unfold Func.isWrapper; first | (rw [if_pos (by decide +kernel)]; kernel_rfl) | (rw [if_neg (by decide +kernel)]; exact ⟨rfl, rfl⟩))
    (fun os started H enc _ => lifted os started H enc)

theorem proved : Rows.FnExactTightKeptSaid := over
#print axioms proved
end Go.Proofs.Ytegjgbgnpkncbab.fnExactTightKept
