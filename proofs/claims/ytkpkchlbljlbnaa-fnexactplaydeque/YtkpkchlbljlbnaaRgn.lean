/-
  The ring out of a deque, and a deque out of the ring.
-/
import Derived.Test.YtkpkchlbljlbnaaRgl
import Derived.Laws.CopyOwn
import Derived.Test.YtkpkchlbljlbnaaChn
import Derived.Lib.SliceRun
namespace Go.Proofs.Ytkpkchlbljlbnaa
open Go.RowKit
set_option linter.unusedVariables false

theorem IS.none_nil {w : World} {xs : List Int} (h : IS w none xs) : xs = [] := by
  cases xs with
  | nil => rfl
  | cons x xs => obtain ⟨b, e, _⟩ := h 0 x rfl; cases e

set_option maxHeartbeats 1000000 in
set_option maxRecDepth 100000 in
theorem clone_any (A : Option Addr) (xs : List Int) (n c : Nat) (w : World) (hn : xs.length = n) (hm : n ≤ 2097152) (h : IS w A xs) :
    Calls Try.prog 68 #[.slice A n c] w (IntsOut w xs) := by
  have q22 : ∀ (w : World) (a : Option Addr) (n c n' c' : Nat), (binOp .eql 24 (.slice a n c) (.slice none n' c')).run Try.prog w = .ok (.bool a.isNone) w := fun w a n c n' c' => Lib.run_eql_slice_nil w _ _ a n c n' c' Try.underlying24
  cases A with
  | none =>
    obtain rfl := h.none_nil
    go_enter Try.func68, Try.ntmps68
    go_wp2
    go_ret
    exact ⟨Below.refl _ _, none, 0, rfl, fun b hb => by simp at hb, fun _ => rfl, .inl ⟨rfl, rfl⟩⟩
  | some ad =>
    have hcell : ∀ j u, (nums xs)[j]? = some u → w.cell? (ad.add j) = some u := by
      intro j u hu
      have hj : j < xs.length := by have := (List.getElem?_eq_some_iff.1 hu).1; rwa [nums_length] at this
      obtain ⟨b, e, _, hc⟩ := h j xs[j] (List.getElem?_eq_getElem hj)
      injection e with e
      subst e
      rw [nums_at (List.getElem?_eq_getElem hj)] at hu
      injection hu with hu
      subst hu
      have hadd : (⟨b, 0, none⟩ : Addr).add j = ⟨b, j, none⟩ := by unfold Addr.add; split <;> simp_all
      rw [hadd]; exact hc
    have HC := Lib.hid hcell
    have HN := Lib.hid hn
    clear h hcell hn
    have hmk : ∀ w : World, (Instr.buildSlice 24 0 #[]).run Try.prog w = .ok (.slice (some ⟨w.heap.size, 0, none⟩) 0 0) (w.alloc (.cells #[] 3)) := fun _ => by kernel_rfl
    obtain ⟨i0, hi, hz0, hz1, hz2⟩ := info_parts infoInt
    go_enter Try.func68, Try.ntmps68
    go_wp2_with (at_builtin; refine wpList_append_own _ rfl _ _ 24 rfl w.heap.size 3 i0 (.int .i64 0) 1 8 Try.underlying24 hi hz0 hz1 hz2 rfl (by decide) _ _ _ rfl (World.ownsRow_made w #[] 0 (Nat.le_refl _) (Nat.zero_le _) rfl) ad n c (nums xs) rfl ?qc1 ?qc2 ?qc3 ?qc4 ?qc5 ?qc6 ?_)
    case qc1 => rw [nums_length, HN.out]; omega
    case qc2 =>
      intro j u hj
      have h1 := HC.out j u hj
      exact (World.cell?_alloc_lt w _ _ (World.block_lt_of_cell? _ _ h1)).trans h1
    case qc3 => intro u hu; obtain ⟨x, _, rfl⟩ := List.mem_map.1 hu; rfl
    case qc4 => unfold maxLen; omega
    case qc5 => omega
    case qc6 => simp
    intro v' w1 hown hgrow hnil
    have HO := Lib.hid hown
    have HG := Lib.hid (((Below.refl _ w).alloc (Nat.le_refl _) _).grown hgrow (by simp) (by intro k hk; simp [Value.ownBlock] at hk; omega))
    clear hown hgrow hnil
    go_wp2
    go_ret
    have ho := HO.out
    obtain ⟨A1, c1, rfl, _⟩ := own_slice ho
    obtain ⟨r1, r2, r3⟩ := row_of_own ho
    exact ⟨HG.out, A1, c1, by rw [HN.out]; rfl, r2, r3, r1⟩

theorem IntRow.set {w : World} {A : Option Addr} {xs : List Int} (h : IntRow w A xs) {p : Addr} (hne : ∀ b, A.map (·.block) = some b → b ≠ p.block) (u : Value) : IntRow (w.setCell p u) A xs := by
  rcases h with ⟨rfl, rfl⟩ | ⟨g, rest, rfl, hk⟩
  · exact .inl ⟨rfl, rfl⟩
  · exact .inr ⟨g, rest, rfl, hk.far (hne g rfl) u⟩
theorem IntRow.drewN {w : World} {A : Option Addr} {xs : List Int} (h : IntRow w A xs) (n : Nat) : IntRow (w.drewN n) A xs := h

/-- a deque of the call's own: its slots, its head, its count. -/
def DqOut (w : World) (s : List Int) (h q : Int) (mk : Value → Value) (e : Ending) (w' : World) : Prop :=
  Below w.heap.size w w' ∧ ∃ A c, e = .returned (mk (.agg #[.slice A s.length c, .int .i64 h, .int .i64 q])) ∧ (∀ b, A.map (·.block) = some b → w.heap.size ≤ b) ∧ (A = none → c = 0) ∧ IntRow w' A s

set_option maxHeartbeats 1000000 in
theorem asItWas_any (A : Option Addr) (s : List Int) (c : Nat) (h q : Int) (w : World) (hm : s.length ≤ 2097152) (H : IS w A s) :
    Calls Try.prog 72 #[.agg #[.slice A s.length c, .int .i64 h, .int .i64 q]] w (DqOut w s h q id) := by
  have HI := Lib.hid H
  clear H
  go_enter Try.func72, Try.ntmps72
  go_wp2_with fail
  refine (clone_any A s s.length c _ rfl hm (HI.out.below (((Below.refl _ _).alloc (Nat.le_refl _) _).alloc (by simp) _))).mono ?_
  rintro e w1 ⟨hb, A1, c1, rfl, hlo, hc, hr⟩
  have K0 := ((BlkL.new w 28 [.slice A s.length c, .int .i64 h, .int .i64 q]).alloc (.cells #[.slice none 0 0, .int .i64 0, .int .i64 0] 28)).below hb (by simp; omega)
  have K1 := (BlkL.new (w.alloc (.cells #[.slice A s.length c, .int .i64 h, .int .i64 q] 28)) 28 [.slice none 0 0, .int .i64 0, .int .i64 0]).below hb (by simp)
  simp only [World.size_alloc] at K1
  have a0 := K0.cell 0
  have a1 := K0.cell 1
  have a2 := K0.cell 2
  have z0 := K0.frozen 0
  have d0 := K1.cell 0
  have d1 := K1.cell 1
  have d2 := K1.cell 2
  have y0 := K1.frozen 0
  have y1 := K1.frozen 1
  have y2 := K1.frozen 2
  simp only [List.getElem?_cons_zero, List.getElem?_cons_succ] at a0 a1 a2 d0 d1 d2
  have HBW := Lib.hid ((((Below.refl w.heap.size w).alloc (Nat.le_refl _) _).alloc (by simp) _).trans (hb.mono (by simp; omega)))
  have HLO := Lib.hid hlo
  have HCC := Lib.hid hc
  have HR := Lib.hid hr
  clear hb hlo hc hr K0 K1
  go_wp2
  refine bodyPost_ret (v := .agg #[.slice A1 s.length c1, .int .i64 h, .int .i64 q]) (by simp [results, Try.results72, go_sem, d0, d1, d2]) rfl ?_
  have hlo' : ∀ b, A1.map (·.block) = some b → w.heap.size + 1 + 1 ≤ b := fun b hb => by have := HLO.out b hb; simpa using this
  refine ⟨(((HBW.out.setCell (p := ⟨w.heap.size, 0, none⟩) (Nat.le_refl _) _).setCell (p := ⟨w.heap.size + 1, 0, none⟩) (by simp) _).setCell (p := ⟨w.heap.size + 1, 1, none⟩) (by simp) _).setCell (p := ⟨w.heap.size + 1, 2, none⟩) (by simp) _, A1, c1, rfl, fun b hb => by have := hlo' b hb; omega, HCC.out, ?_⟩
  exact (((HR.out.set (fun b hb => by have := hlo' b hb; simp; omega) _).set (fun b hb => by have := hlo' b hb; simp; omega) _).set (fun b hb => by have := hlo' b hb; simp; omega) _).set (fun b hb => by have := hlo' b hb; simp; omega) _
set_option maxHeartbeats 1000000 in
theorem dequeOf_any (b : Nat) (s : List Int) (h q : Nat) (w : World) (B : RgB s h q) (H : RgM w b s h q) :
    Calls Try.prog 50 #[.pointer (some ⟨b, 0, none⟩)] w (DqOut w s h q id) := by
  have n1 := B.n1
  have n2 := B.n2
  have HB := Lib.hid B
  have HM1 := Lib.hid (H.below ((Below.refl w.heap.size w).alloc (Nat.le_refl _) (.cells #[.slice none 0 0, .int .i64 0, .int .i64 0] 28)) H.lt)
  have hbl := H.lt
  clear H B
  go_enter Try.func50, Try.ntmps50
  go_wp2_with fail
  have HB1 := Lib.hid ((Below.refl w.heap.size w).alloc (Nat.le_refl _) (.cells #[.slice none 0 0, .int .i64 0, .int .i64 0] 28))
  have HK1 := Lib.hid (BlkL.new w 28 [.slice none 0 0, .int .i64 0, .int .i64 0])
  generalize hw1 : w.alloc (.cells #[.slice none 0 0, .int .i64 0, .int .i64 0] 28) = w1 at *
  have hz1 : w1.heap.size = w.heap.size + 1 := by rw [← hw1]; simp
  clear hw1
  have r0 := Kept.rd (HM1.out.size n2)
  have hne : Nonempty (Kept w1) := ⟨⟨w1, Below.refl _ _⟩⟩
  have x1 : (s.length : Int) ≤ 64 := by omega
  refine wp_region_chain [true, true, true, true, true, true, true, true, false, true, false, true, false, false, false] (fun w' => ∃ x : Kept w1, w' = x.W) (by kernel_rfl) (by kernel_rfl) (Kept.start w1) ?_
  simp only [Chain.pickM, List.map_cons, List.map_nil, Bool.not_true, Bool.not_false]
  repeat (go_big_quiet_step (fail))
  refine wpQuiet_nil ?_
  refine chain_step (fun K hK => ?_)
  unfold Chain.mov
  go_simp
  simp only [Chain.movUpon]
  have his : IS w1.drew (some ⟨b, 0, none⟩) s := fun i x hx => ⟨b, rfl, by show b < w1.heap.size; omega, HM1.out.slot hx⟩
  refine (clone_any (some ⟨b, 0, none⟩) s s.length 64 _ rfl (by omega) his).mono ?_
  rintro e w2 ⟨hb2, A1, c1, rfl, hlo, hc, hr⟩
  have HB2 := Lib.hid (show Below w1.heap.size w1 w2 from (Below.refl _ w1).drew.trans (hb2.mono (Nat.le_refl _)))
  have HLO := Lib.hid (show ∀ b, A1.map (·.block) = some b → w1.heap.size ≤ b from hlo)
  have HCC := Lib.hid hc
  have HR := Lib.hid hr
  have HM2 := Lib.hid (HM1.out.below HB2.out (by omega))
  refine ⟨_, rfl, hK _ _ ⟨Kept.mk' HB2.out, ?_⟩⟩
  clear hK K hb2 hlo hc hr his r0
  refine chain_step (fun K hK => ?_)
  unfold Chain.mov
  go_simp
  simp only [Chain.movUpon]
  refine (place_any b s h q 0 _ (by omega) HB.out HM2.out).mono ?_
  rw [plc_zero HB.out.h1]
  rintro e w3 ⟨rfl, m, rfl⟩
  refine ⟨_, rfl, hK _ _ ⟨Kept.mk' (below_drewN HB2.out m), ?_⟩⟩
  clear hK K
  have HB3 := Lib.hid (below_drewN HB2.out m)
  have HR3 := Lib.hid (HR.out.drewN m)
  have HM3 := Lib.hid (HM2.out.drewN m)
  clear HB2 HR HM2
  generalize w2.drewN m = w3 at *
  refine chain_step (fun K hK => ?_)
  unfold Chain.mov
  go_simp
  simp only [Chain.movUpon]
  refine (held_any b s h q _ n2 HM3.out).mono ?_
  rintro e w4 ⟨rfl, rfl⟩
  refine ⟨_, rfl, hK _ _ ⟨Kept.mk' HB3.out, ?_⟩⟩
  clear hK K
  refine chain_step (fun K hK => ?_)
  unfold Chain.mov
  go_simp
  simp only [Chain.movUpon]
  refine hK _ _ ⟨Kept.mk' HB3.out, ?_⟩
  clear hK K hne
  unfold Chain.chainW
  have K3 := HK1.out.below HB3.out (by omega)
  have d0 := K3.cell 0
  have d1 := K3.cell 1
  have d2 := K3.cell 2
  have y0 := K3.frozen 0
  have y1 := K3.frozen 1
  have y2 := K3.frozen 2
  simp only [List.getElem?_cons_zero, List.getElem?_cons_succ] at d0 d1 d2
  clear K3
  go_wp2
  refine bodyPost_ret (v := .agg #[.slice A1 s.length c1, .int .i64 h, .int .i64 q]) (by simp [results, Try.results50, go_sem, d0, d1, d2]) rfl ?_
  refine ⟨(((HB1.out.trans (HB3.out.mono (by omega))).setCell (p := ⟨w.heap.size, 0, none⟩) (Nat.le_refl _) _).setCell (p := ⟨w.heap.size, 1, none⟩) (Nat.le_refl _) _).setCell (p := ⟨w.heap.size, 2, none⟩) (Nat.le_refl _) _, A1, c1, rfl, fun b hb => by have := HLO.out b hb; omega, HCC.out, ?_⟩
  exact ((HR3.out.set (fun b hb => by have := HLO.out b hb; simp; omega) _).set (fun b hb => by have := HLO.out b hb; simp; omega) _).set (fun b hb => by have := HLO.out b hb; simp; omega) _
end Go.Proofs.Ytkpkchlbljlbnaa
