/-
  The law FnExactNodeLine returns true at every argument: NodeLine answers as its model does, writes into no argument.
  Conditions: none beyond the row's own; whatever the arguments.
-/
import Derived.Test.YtddbcifjjblkeabNln
import Derived.Test.YtddbcifjjblkeabArg
namespace Go.Proofs.Ytddbcifjjblkeab.fnExactNodeLine
open Go.ChangeShapes Go.WideShapes Go.ChangeAt Go.RowKit Go.Joins
set_option linter.unusedVariables false

theorem cellsNd1 : Try.prog.cellsOf 39 = 3 := by kernel_rfl
set_option maxRecDepth 100000 in
theorem open_node {H : Type} {enc : TypeId × Value → H} {W : World} {r : Reach} {base : Nat} {v : Value} {d : DataW H} {p : List MemPlace}
    (hv : Value.okWide Try.prog W r base 39 v) (h : DataW.Trod enc Try.prog W 0 (fun _ => true) true 39 v d p) :
    ∃ x : Nd, v = .agg #[.int .i64 x.d, .int .i64 x.k, .string x.s] ∧ x.s.size ≤ maxLen := by
  obtain ⟨c0, c1, c2, y0, y1, y2, m0, rfl, rfl, rfl, hy0, hy1, hy2⟩ := open_agg3 Try.underlying39 (by kernel_rfl) cellsNd1 hv h
  obtain ⟨k0, e0, rfl, _⟩ := DataW.trod_int Try.underlying3 hy0
  obtain ⟨k1, e1, rfl, _⟩ := DataW.trod_int Try.underlying3 hy1
  obtain ⟨s0, e2, rfl, ws0⟩ := DataW.trod_string Try.underlying9 hy2
  simp at e0 e1 e2
  subst e0 e1 e2
  exact ⟨⟨k0, k1, s0⟩, rfl, ws0⟩
/-- a node's three cells in a block of one's own. -/
def NdAt (w : World) (b : Nat) (x : Nd) : Prop :=
  w.cell? ⟨b, 0, none⟩ = some (.int .i64 x.d) ∧ w.cell? ⟨b, 1, none⟩ = some (.int .i64 x.k) ∧ w.cell? ⟨b, 2, none⟩ = some (.string x.s) ∧ b < w.heap.size
theorem NdAt.new (w : World) (x : Nd) (t : TypeId) : NdAt (w.alloc (.cells #[.int .i64 x.d, .int .i64 x.k, .string x.s] t)) w.heap.size x := by
  refine ⟨?_, ?_, ?_, ?_⟩ <;> simp
theorem NdAt.below {w w' : World} {b : Nat} {x : Nd} (h : NdAt w b x) (hb : Below w.heap.size w w') : NdAt w' b x := by
  obtain ⟨h0, h1, h2, h5⟩ := h
  exact ⟨(hb.cell (p := ⟨b, 0, none⟩) h5).trans h0, (hb.cell (p := ⟨b, 1, none⟩) h5).trans h1, (hb.cell (p := ⟨b, 2, none⟩) h5).trans h2, Nat.lt_of_lt_of_le h5 hb.size⟩
set_option maxHeartbeats 1000000 in
set_option maxRecDepth 100000 in
theorem law (x : Nd) (w : World) (hx : x.s.size ≤ maxLen) :
    Calls Try.prog 6 #[.agg #[.int .i64 x.d, .int .i64 x.k, .string x.s]] w fun e w' => e = .returned (.bool true) ∧ Below w.heap.size w w' := by
  have hbA := (Below.refl w.heap.size w).alloc (Nat.le_refl _) (.cells #[.int .i64 x.d, .int .i64 x.k, .string x.s] 39)
  have hsA := NdAt.new w x 39
  go_enter Try.func6, Try.ntmps6
  go_wp2_with fail
  refine (szNode_any x 1048576 _ hx (by omega) (by omega)).mono ?_
  rintro e w1 ⟨rfl, hb⟩
  have HB1 := Lib.hid (hbA.trans (hb.mono hbA.size))
  obtain ⟨c0, c1, c2, c5⟩ := hsA.below hb
  have hs1 := Lib.hid (hsA.below hb)
  clear hb hbA hsA
  by_cases hbig : (1048576 : Int) < (x.s.size : Int)
  · rw [show szV 1048576 x.s.size = -1 from if_pos hbig]
    go_wp2
    go_ret
    exact ⟨rfl, HB1.out⟩
  rw [show szV 1048576 x.s.size = 1048576 - x.s.size from if_neg hbig]
  have hsm : x.s.size ≤ 1048576 := by omega
  go_wp2_with fail
  refine (toNode_any x _).mono ?_
  rintro e w2 ⟨rfl, hb⟩
  have HB2 := Lib.hid (HB1.out.trans (hb.mono HB1.out.size))
  have hs2 := Lib.hid (hs1.out.below hb)
  clear hb c0 c1 c2 c5 hs1
  go_wp2_with fail
  refine (sNodeLine_any x hsm _).mono ?_
  rintro e w3 ⟨rfl, hb⟩
  have HB3 := Lib.hid (HB2.out.trans (hb.mono HB2.out.size))
  obtain ⟨c0, c1, c2, c5⟩ := hs2.out.below hb
  clear hb hs2
  go_wp2_with fail
  refine (toNode_any x _).mono ?_
  rintro e w4 ⟨rfl, hb⟩
  have HB4 := Lib.hid (HB3.out.trans (hb.mono HB3.out.size))
  clear hb c0 c1 c2 c5
  go_wp2_with fail
  refine (NodeLine_any x hsm _).mono ?_
  rintro e w5 ⟨rfl, hb⟩
  have HB5 := Lib.hid (HB4.out.trans (hb.mono HB4.out.size))
  clear hb
  go_wp2
  go_ret
  exact ⟨rfl, HB5.out⟩

set_option maxRecDepth 100000 in
theorem lifted (os : Os) (started : os.Started) (H : Type) (enc : TypeId × Value → H) :
    ReturnsInHanded {} Try.checked os 6 .any (Rows.fnExactNodeLineSpec.pre6 enc Try.prog Try.f6 Rows.fnExactNodeLineRow.domain false) (Rows.fnExactNodeLineSpec.post enc Try.prog Try.f6 false true false false) := by
  refine returnsInHanded_of_change (C := Try.checked) own started (by kernel_rfl) Try.func6
    (ChangeSpec.witness6 (enc := enc) (C := Try.checked) false ⟨#[], #[.agg #[.int .i64 0, .int .i64 0, .string ByteArray.empty]], []⟩ 8 (by kernel_rfl) (by kernel_rfl) (by kernel_rfl) (by kernel_rfl)) ?_
  intro W base args ds gs before hval0 hW _ _
  have hval : ∀ (j : Nat) t v, Try.f6.params[j]? = some t → args[j]? = some v → Value.okWide Try.prog W .any base t v := hval0
  have hW' := hW
  obtain ⟨p, q, hA0, hV, rfl, _, _⟩ := hW
  have hA : DataW.TrodAll enc Try.prog W 0 (fun _ => true) true Try.f6.params.toList args.toList ds p := hA0
  rw [Try.params6] at hA hval
  obtain ⟨v0, vs0, d0, ds0, p0, q0, hargs0, rfl, rfl, h0, r0⟩ := trodAll_cons hA
  obtain ⟨rfl, rfl, rfl⟩ := trodAll_nil r0
  obtain rfl : args = #[v0] := by cases args; simp_all
  obtain ⟨rfl, rfl⟩ := trodVars_none hV
  have y0 := h0
  have lt0 : ∀ x ∈ p0, x.block < W.heap.size := by obtain ⟨m, hm⟩ := y0; exact DataW.trod_lt m _ _ _ hm
  obtain ⟨x0, rfl, hk0⟩ := open_node (hval 0 39 v0 rfl rfl) h0
  clear hA0 hval0
  refine (law x0 W hk0).mono fun e W' ⟨he, bel⟩ => ?_
  subst he
  exact ⟨_, rfl, _, _, _, [], _, [], hW', trodAll_mk1 (shut_bool Try.underlying4 _), (trodAll_cons_mk (Below.trod laidOut (by kernel_rfl) (of_decide_eq_true (by kernel_rfl)) y0 bel lt0) trodAll_mk0), rfl, bel.frame _, (fun h => by cases h)⟩

theorem over : Rows.fnExactNodeLineRow.holds Try.pinned (OpenSpec.ofChange Rows.fnExactNodeLineSpec) :=
  OpenClaim.holds_of_wide 6 Try.f6 rfl rfl rfl rfl rfl rfl rfl ⟨rfl, rfl, rfl, rfl, rfl⟩ rfl rfl rfl rfl rfl (by kernel_rfl) Try.func6 (by kernel_rfl)
    (of_decide_eq_true (by kernel_rfl)) (by unfold Func.isWrapper; first | (rw [if_pos (by decide +kernel)]; kernel_rfl) | (rw [if_neg (by decide +kernel)]; exact ⟨rfl, rfl⟩))
    (fun os started H enc _ => lifted os started H enc)

theorem proved : Rows.FnExactNodeLineSaid := over
#print axioms proved
end Go.Proofs.Ytddbcifjjblkeab.fnExactNodeLine
