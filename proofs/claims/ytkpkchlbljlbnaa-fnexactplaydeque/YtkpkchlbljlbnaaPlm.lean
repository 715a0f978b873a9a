/-
  PlayDeque of the model.
-/
import Derived.Test.YtkpkchlbljlbnaaPlp
import Derived.Test.YtkpkchlbljlbnaaStg
namespace Go.Proofs.Ytkpkchlbljlbnaa
open Go.RowKit
set_option linter.unusedVariables false

theorem quiet_mono {P : Program} {ops : Array Oper} {S : World → Prop} : ∀ (l0 : List Oper) (a0 : Act) (A B : Act → Prop), (∀ x, A x → B x) → wpQuiet P ops S A l0 a0 → wpQuiet P ops S B l0 a0
  | [], a0, A, B, h1, h2 => h1 _ h2
  | o :: l0, a0, A, B, h1, h2 => by
    unfold wpQuiet at h2 ⊢
    split
    · rename_i hw
      rw [if_pos hw] at h2
      exact Oper.quiet_mono (fun a1 h3 => quiet_mono l0 _ A B h1 h3) h2
    · rename_i hw
      rw [if_neg hw] at h2
      exact quiet_mono l0 _ A B h1 h2
theorem stage_more {P : Program} {S : World → Prop} {ops : Array Oper} {Q : Exit → Act → World → Prop} {H : List Oper} {t : Oper} {x : List Oper × List Oper} {rest : List (List Oper × List Oper)} {a : Act} {w : World}
    (h : wpQuiet P ops S (fun a' => ∀ K : Act → World → Prop, (∀ a w, S w ∧ Stage.stageW P S ops Q (x :: rest) a w → K a w) → Chain.mov P t a' w (fun v w2 => K (a'.put t.dst v) w2)) H a) : Stage.stageW P S ops Q ((H, [t]) :: x :: rest) a w := by
  unfold Stage.stageW
  exact quiet_mono _ _ _ _ (fun a' h => h (fun a w => S w ∧ Stage.stageW P S ops Q (x :: rest) a w) (fun _ _ h => h)) h
theorem stage_last {P : Program} {S : World → Prop} {ops : Array Oper} {Q : Exit → Act → World → Prop} {H T : List Oper} {a : Act} {w : World} (h : wpQuiet P ops S (fun a' => wpList P ops Q T a' w) H a) : Stage.stageW P S ops Q [(H, T)] a w := by
  unfold Stage.stageW
  exact h

theorem push_step {s : List Int} {h q : Nat} {x : Int} (o : Rs.Ok ⟨s, h, q⟩) (hx : 0 ≤ x) (he : x % 2 = 0) : ∃ ok : Bool, (if ok = true then (1 : Int) else 0) = (stepR ⟨s, h, q⟩ x).2 ∧ pushL s h q x = ⟨(stepR ⟨s, h, q⟩ x).1.s, ((stepR ⟨s, h, q⟩ x).1.h : Nat), ((stepR ⟨s, h, q⟩ x).1.q : Nat), 0, ok⟩ := by
  obtain ⟨B, hr⟩ := o
  simp only at B hr
  have q1 := B.q1
  have e1 : x ≠ -1 := by omega
  have e2 : x ≠ -2 := by omega
  have e3 : ¬ x < 0 := by omega
  by_cases hq : q = s.length
  · exact ⟨false, by simp [stepR, e1, e2, e3, he, hq], by rw [pushL_no (.inr (by omega))]; simp [stepR, e1, e2, e3, he, hq]⟩
  · exact ⟨true, by simp [stepR, e1, e2, e3, he, hq], by rw [pushL_yes B hr (by omega)]; simp [stepR, e1, e2, e3, he, hq]⟩
theorem pushF_step {s : List Int} {h q : Nat} {x : Int} (o : Rs.Ok ⟨s, h, q⟩) (hx : 0 ≤ x) (he : ¬ x % 2 = 0) : ∃ ok : Bool, (if ok = true then (1 : Int) else 0) = (stepR ⟨s, h, q⟩ x).2 ∧ pushF s h q x = ⟨(stepR ⟨s, h, q⟩ x).1.s, ((stepR ⟨s, h, q⟩ x).1.h : Nat), ((stepR ⟨s, h, q⟩ x).1.q : Nat), 0, ok⟩ := by
  obtain ⟨B, hr⟩ := o
  simp only at B hr
  have q1 := B.q1
  have e1 : x ≠ -1 := by omega
  have e2 : x ≠ -2 := by omega
  have e3 : ¬ x < 0 := by omega
  by_cases hq : q = s.length
  · exact ⟨false, by simp [stepR, e1, e2, e3, he, hq], by rw [pushF_no (.inr (by omega))]; simp [stepR, e1, e2, e3, he, hq]⟩
  · exact ⟨true, by simp [stepR, e1, e2, e3, he, hq], by rw [pushF_yes B hr (by omega)]; simp [stepR, e1, e2, e3, he, hq]⟩
theorem popF_step {s : List Int} {h q : Nat} (o : Rs.Ok ⟨s, h, q⟩) : ∃ (y : Int) (ok : Bool), (if ok = true then y else -1) = (stepR ⟨s, h, q⟩ (-1)).2 ∧ popF s h q = ⟨(stepR ⟨s, h, q⟩ (-1)).1.s, ((stepR ⟨s, h, q⟩ (-1)).1.h : Nat), ((stepR ⟨s, h, q⟩ (-1)).1.q : Nat), y, ok⟩ := by
  obtain ⟨B, hr⟩ := o
  simp only at B hr
  cases q with
  | zero => exact ⟨0, false, rfl, popF_no (.inr rfl)⟩
  | succ q => exact ⟨s.getD h 0, true, rfl, by rw [popF_yes B hr]; rfl⟩
theorem popL_step {s : List Int} {h q : Nat} (o : Rs.Ok ⟨s, h, q⟩) : ∃ (y : Int) (ok : Bool), (if ok = true then y else -1) = (stepR ⟨s, h, q⟩ (-2)).2 ∧ popL s h q = ⟨(stepR ⟨s, h, q⟩ (-2)).1.s, ((stepR ⟨s, h, q⟩ (-2)).1.h : Nat), ((stepR ⟨s, h, q⟩ (-2)).1.q : Nat), y, ok⟩ := by
  obtain ⟨B, hr⟩ := o
  simp only at B hr
  cases q with
  | zero => exact ⟨0, false, rfl, popL_no (.inr rfl)⟩
  | succ q => exact ⟨s.getD (plc s.length h q) 0, true, rfl, by rw [popL_yes B hr]; rfl⟩

theorem box_put {w : World} {b : Nat} {T : TypeId} {u0 u1 u2 : Value} (h : BlkL w b T [u0, u1, u2]) (x y z : Value) : BlkL (((w.setCell ⟨b, 0, none⟩ x).setCell ⟨b, 1, none⟩ y).setCell ⟨b, 2, none⟩ z) b T [x, y, z] := ((h.set 0 x).set 1 y).set 2 z
theorem box_grown (w : World) (b : Nat) (x y z : Value) : w.grownBy (((w.setCell ⟨b, 0, none⟩ x).setCell ⟨b, 1, none⟩ y).setCell ⟨b, 2, none⟩ z) (some b) := grown_self_set (grown_self_set (grown_self_set (World.grownBy.refl _ _) _ _) _ _) _ _
theorem IntRow.ne_blk {w : World} {A : Option Addr} {xs : List Int} {b : Nat} {T : TypeId} {cs : List Value} (h : IntRow w A xs) (hb : BlkL w b T cs) (hne : 3 ≠ T) : ∀ g, A.map (·.block) = some g → some g ≠ some b := by
  rcases h with ⟨rfl, _⟩ | ⟨g, rest, rfl, hk⟩
  · intro g hg; simp at hg
  · intro g' hg e
    simp at hg
    subst hg
    injection e with e
    subst e
    unfold BlkL at hk hb
    rw [hk] at hb
    injection hb with hb
    injection hb with _ ht
    exact hne ht

/-- what holds at the head of a round. -/
def PlyRel (w1 : World) (b6 B0 : Nat) (d0 : Rs) (ops : List Int) (m : Nat) (v i : Value) (wr : World) : Prop :=
  ∃ (k : Nat) (A : Option Addr) (c : Nat), k ≤ m ∧ i = .int .i64 k ∧ BlkL wr b6 28 [.slice A (runR d0 ops k).1.s.length c, .int .i64 ((runR d0 ops k).1.h : Nat), .int .i64 ((runR d0 ops k).1.q : Nat)] ∧ IntRow wr A (runR d0 ops k).1.s ∧
    (∀ b, A.map (·.block) = some b → w1.heap.size ≤ b ∧ v.ownBlock ≠ some b) ∧ (A = none → c = 0) ∧ wr.ownsRow B0 3 1 v k (nums (runR d0 ops k).2) ∧ Below w1.heap.size w1 wr ∧ B0 ≤ wr.heap.size

set_option maxHeartbeats 2000000 in
theorem sPlayDeque_no (N : Int) (O : Option Addr) (ops : List Int) (m c : Nat) (w : World) (hn : ops.length = m) (hm : m ≤ 2097152) (hno : plyB N ops = false) :
    Calls Try.prog 15 #[.int .i64 N, .slice O m c] w (PlayOut w (⟨[], 0, 0⟩, [])) := by
  have HN := Lib.hid hn
  have HK0 := Lib.hid (BlkL.new w 28 [.slice none 0 0, .int .i64 0, .int .i64 0])
  have HB0 := Lib.hid ((Below.refl w.heap.size w).alloc (Nat.le_refl _) (.cells #[.slice none 0 0, .int .i64 0, .int .i64 0] 28))
  clear hn
  go_enter Try.func15, Try.ntmps15
  go_wp2_with fail
  generalize hw1 : w.alloc (.cells #[.slice none 0 0, .int .i64 0, .int .i64 0] 28) = w1 at *
  have hz1 : w1.heap.size = w.heap.size + 1 := by rw [← hw1]; simp
  clear hw1
  refine (sNewDeque_any N _).mono ?_
  rintro e w2 ⟨hb2, A1, c1, rfl, hlo, hcc, hrow⟩
  have hz2 := hb2.size
  have HB2 := Lib.hid (HB0.out.trans (hb2.mono (by omega)))
  have K2 := HK0.out.below hb2 (by omega)
  have d0 := K2.cell 0
  have d1 := K2.cell 1
  have d2 := K2.cell 2
  have y0 := K2.frozen 0
  have y1 := K2.frozen 1
  have y2 := K2.frozen 2
  have lt0 : w.heap.size < w2.heap.size := by omega
  have n0 : ¬ w2.heap.size = w.heap.size := by omega
  have n1 : ¬ w.heap.size = w2.heap.size := by omega
  simp only [List.getElem?_cons_zero, List.getElem?_cons_succ] at d0 d1 d2
  clear hb2 hlo hcc hrow K2
  cases hN : inB N 1 64
  · clear hno hN
    go_wp2
    refine bodyPost_ret (v := .tuple #[.agg #[.slice none 0 0, .int .i64 0, .int .i64 0], .slice none 0 0]) (by simp [results, Try.results15, go_sem, d0, d1, d2, lt0]) rfl ?_
    refine play_nil ?_
    refine Below.alloc ?_ (by simp [World.setCell]; omega) _
    repeat (refine Below.setCell ?_ (by dsimp only; omega) _)
    exact HB2.out
  · have hlen : 400 < m := by
      simp only [plyB, hN, Bool.true_and, decide_eq_false_iff_not] at hno
      have := HN.out
      omega
    have hl1 : (400 : Int) < (m : Int) := by omega
    clear hno hN
    go_wp2
    refine bodyPost_ret (v := .tuple #[.agg #[.slice none 0 0, .int .i64 0, .int .i64 0], .slice none 0 0]) (by simp [results, Try.results15, go_sem, d0, d1, d2, lt0]) rfl ?_
    refine play_nil ?_
    refine Below.alloc ?_ (by simp [World.setCell]; omega) _
    repeat (refine Below.setCell ?_ (by dsimp only; omega) _)
    exact HB2.out


set_option maxHeartbeats 8000000 in
set_option maxRecDepth 100000 in
theorem sPlayDeque_yes (n : Nat) (O : Option Addr) (ops : List Int) (m c : Nat) (w : World) (hn : ops.length = m) (h1 : 1 ≤ n) (h2 : n ≤ 64) (h4 : m ≤ 400) (hO : IS w O ops) (hw : ∀ x ∈ ops, (Lit.int .i64 x).wf = true) :
    Calls Try.prog 15 #[.int .i64 n, .slice O m c] w (PlayOut w (runR (newR n) ops m)) := by
  have hmk : ∀ w : World, (Instr.buildSlice 24 0 #[]).run Try.prog w = .ok (.slice (some ⟨w.heap.size, 0, none⟩) 0 0) (w.alloc (.cells #[] 3)) := fun _ => by kernel_rfl
  obtain ⟨i0, hi, hz0, hz1, hz2⟩ := info_parts infoInt
  have HN := Lib.hid hn
  have HW := Lib.hid hw
  have hin : inB (n : Int) 1 64 = true := inB_true.2 (by omega)
  have HS := Lib.hid (show newS (n : Int) = (newR n).s by simpa using newS_yes hin)
  have HIN := Lib.hid hin
  have HOK := Lib.hid (newR_ok h1 h2)
  have HNEW := Lib.hid (fun w => sNewDeque_any (n : Int) w)
  have hn4 : decide ((400 : Int) < (m : Int)) = false := by simp; omega
  have hK0 := BlkL.new w 28 [.slice none 0 0, .int .i64 0, .int .i64 0]
  have hB0 := (Below.refl w.heap.size w).alloc (Nat.le_refl _) (.cells #[.slice none 0 0, .int .i64 0, .int .i64 0] 28)
  have HK0 := Lib.hid hK0
  have HB0 := Lib.hid hB0
  have HO1 := Lib.hid (hO.below hB0)
  clear hn hw hin hO hK0 hB0
  go_enter Try.func15, Try.ntmps15
  go_wp2_with fail
  generalize hw1 : w.alloc (.cells #[.slice none 0 0, .int .i64 0, .int .i64 0] 28) = w1 at *
  have hz1' : w1.heap.size = w.heap.size + 1 := by rw [← hw1]; simp
  clear hw1
  refine (HNEW.out _).mono ?_
  rw [HS.out, HIN.out]
  rintro e w2 ⟨hb2, A1, c1, rfl, hlo, hcc, hrow⟩
  have hz2' := hb2.size
  have HB2 := Lib.hid hb2
  have HR2 := Lib.hid hrow
  have HLO := Lib.hid hlo
  have HLT := Lib.hid hrow.lt
  have HCC := Lib.hid hcc
  clear hb2 hlo hcc hrow
  go_wp2_with fail
  have hbA := (Below.refl w2.heap.size w2).alloc (Nat.le_refl _) (.cells #[.slice A1 (newR n).s.length c1, .int .i64 0, .int .i64 0] 28)
  have HX3 := Lib.hid (BlkL.new w2 28 [.slice A1 (newR n).s.length c1, .int .i64 0, .int .i64 0])
  have HR3 := Lib.hid (HR2.out.below hbA)
  have HB3 := Lib.hid (HB2.out.trans (hbA.mono (by omega)))
  generalize hw3 : w2.alloc (.cells #[.slice A1 (newR n).s.length c1, .int .i64 0, .int .i64 0] 28) = w3 at *
  have hz3 : w3.heap.size = w2.heap.size + 1 := by rw [← hw3]; simp
  clear hbA hw3 HR2 HB2 hmk
  have HOW := World.ownsRow_lit (base := w3.heap.size) (e := 3) (size := 1) w3 #[] 0 (Nat.le_refl _) (Nat.zero_le _) rfl
  go_loopw [8, 9] (fun v i wr => PlyRel w1 w2.heap.size w3.heap.size (newR n) ops m v i wr) (fun _ i _ => m - (intOf i).toNat)
  case atStart =>
    refine ⟨0, A1, c1, Nat.zero_le _, rfl, HX3.out.alloc _, HR3.out.below ((Below.refl _ _).alloc (Nat.le_refl _) _), fun b hb => ⟨by have := HLO.out b hb; omega, fun e => ?_⟩, HCC.out, by simpa [nums, runR, hz3] using HOW, HB3.out.alloc (by omega) _, by simp⟩
    have h5 := HLT.out b hb
    simp [Value.ownBlock] at e
    omega
  case round =>
    obtain ⟨k, A, c2, hk, rfl, hX, hR, hAlo, hAcc, hOw, hBw, hzr⟩ := hrel
    clear HX3 HR3 HB3 HOW HLO HLT HCC
    have HX := Lib.hid hX
    have HR := Lib.hid hR
    have HAL := Lib.hid hAlo
    have HAC := Lib.hid hAcc
    have HOW := Lib.hid hOw
    have HBW := Lib.hid hBw
    have HRK := Lib.hid (runR_ok HOK.out ops k).1
    have HRL := Lib.hid (runR_ok HOK.out ops k).2
    have hlx := hX.lt
    clear hX hR hAlo hAcc hOw hBw
    by_cases hlt : k < m
    · have hkl : k < ops.length := by have := HN.out; omega
      have hx := getD_some hkl
      have HWX := Lib.hid (HW.out (ops.getD k 0) (List.mem_of_getElem? hx))
      have HRS := Lib.hid (show runR (newR n) ops (k + 1) = ((stepR (runR (newR n) ops k).1 (ops.getD k 0)).1, (runR (newR n) ops k).2 ++ [(stepR (runR (newR n) ops k).1 (ops.getD k 0)).2]) from rfl)
      obtain ⟨g, rfl, hgl, hcell1⟩ := HO1.out k _ hx
      have hcell : wr.cell? ⟨g, k, none⟩ = some (.int .i64 (ops.getD k 0)) := (HBW.out.cell (by simpa using hgl)).trans hcell1
      have HSM := Lib.hid (show (runR (newR n) ops k).1.s.length ≤ 2097152 by have := HRK.out.b.n2; omega)
      generalize ops.getD k 0 = x at *
      have HDD := Lib.hid (show runR (newR n) ops k = ((runR (newR n) ops k).1, (runR (newR n) ops k).2) from rfl)
      generalize (runR (newR n) ops k).2 = tl at *
      generalize (runR (newR n) ops k).1 = d at *
      obtain ⟨ds, dh, dq⟩ := d
      simp only at HX HR HRK HRL HSM HRS
      have hwx : IntKind.i64.min ≤ x ∧ x ≤ IntKind.i64.max := by simpa [Lit.wf] using HWX.out
      rw [show IntKind.i64.min = -9223372036854775808 from rfl, show IntKind.i64.max = 9223372036854775807 from rfl] at hwx
      obtain ⟨hwx1, hwx2⟩ := hwx
      clear hx HDD
      by_cases h0 : 0 ≤ x
      · have g0 : decide (x ≥ 0) = true := by simpa using h0
        have g1 : decide (0 ≤ x) = true := by simpa using h0
        have hXX := HX.out
        have a0 := hXX.cell 0
        have a1 := hXX.cell 1
        have a2 := hXX.cell 2
        have y0 := hXX.frozen 0
        have y1 := hXX.frozen 1
        have y2 := hXX.frozen 2
        simp only [List.getElem?_cons_zero, List.getElem?_cons_succ] at a0 a1 a2
        clear hXX
        by_cases h5 : x % 2 = 0
        · obtain ⟨ok, hok, hP⟩ := push_step HRK.out h0 h5
          have HC := Lib.hid (show ∀ W, IS W A ds → Calls Try.prog 29 #[.agg #[.slice A ds.length c2, .int .i64 (dh : Nat), .int .i64 (dq : Nat)], .int .i64 x] W (DqOut W (stepR ⟨ds, dh, dq⟩ x).1.s ((stepR ⟨ds, dh, dq⟩ x).1.h : Nat) ((stepR ⟨ds, dh, dq⟩ x).1.q : Nat) (pushV ok)) from fun W hI => by have := sPushLast_any A ds c2 dh dq x W HSM.out hI; rw [hP] at this; exact this)
          have b5 : (x % 2 == 0) = true := by simp [h5]
          have b6 : (x.tmod 2 == 0) = true := by rw [Int.tmod_eq_emod_of_nonneg h0]; simp [h5]
          have x6 : IntKind.i64.wrap (x.tmod 2) = x % 2 := by rw [Int.tmod_eq_emod_of_nonneg h0]; exact IntWalk.i64_in _ (by omega)
          have HTELL0 := Lib.hid hok
          clear hP hok HWX
          generalize hst : stepR ⟨ds, dh, dq⟩ x = st at *
          clear hst h5
          go_wp2_with fail
          have r3 := Kept.rd hcell1
          have hkm : (k : Int) < (m : Int) := by omega
          have hne : Nonempty (Kept w1) := ⟨⟨w1, Below.refl _ _⟩⟩
          replace a0 : wr.drew.cell? ⟨w2.heap.size, 0, none⟩ = _ := a0
          replace a1 : wr.drew.cell? ⟨w2.heap.size, 1, none⟩ = _ := a1
          replace a2 : wr.drew.cell? ⟨w2.heap.size, 2, none⟩ = _ := a2
          clear y0 y1 y2 hcell hcell1
          refine wp_region_stages [1, 0, 0, 0, 0, 3, 4, 4, 4, 5, 7] 3 (fun w' => ∃ y : Kept w1, w' = y.W) (by kernel_rfl) (by kernel_rfl) (Kept.mk' HBW.out.drew) ?_
          simp only [Stage.stages, Stage.pickC, Nat.reduceBEq, Nat.reduceMul, Nat.reduceAdd, cond_true, cond_false, List.map_cons, List.map_nil]
          refine stage_more ?_
          repeat (go_big_quiet_step (fail))
          refine wpQuiet_nil ?_
          intro K hK
          unfold Chain.mov
          go_simp
          simp only [Chain.movUpon]
          refine hK _ _ ⟨Kept.mk' HBW.out.drew, ?_⟩
          clear hK K a0 a1 a2
          refine stage_more ?_
          refine wpQuiet_nil ?_
          intro K hK
          unfold Chain.mov
          go_simp
          simp only [Chain.movUpon]
          refine (HC.out wr.drew (show IS wr.drew A ds from HR.out.is)).mono ?_
          rintro e w6 ⟨hb6', A2, c3, rfl, hlo6, hcc6, hrow6⟩
          have hb6 : Below wr.heap.size wr w6 := (Below.refl _ wr).drew.trans (hb6'.mono (Nat.le_refl _))
          have hz6 := hb6.size
          have H6X := Lib.hid (HX.out.below hb6 hlx)
          have H6R := Lib.hid hrow6
          have H6O := Lib.hid (ownsRow_keep HOW.out hb6)
          have H6B := Lib.hid (HBW.out.trans (hb6.mono HBW.out.size))
          have HAL7 := Lib.hid (show ∀ b, A2.map (·.block) = some b → w1.heap.size ≤ b ∧ u8.ownBlock ≠ some b from fun b hb => ⟨by have := hlo6 b hb; have := HBW.out.size; simp at *; omega, fun e => by have h7 := hlo6 b hb; have h8 := (HOW.out.lt _ e).2; simp at h7; omega⟩)
          have HAC7 := Lib.hid hcc6
          refine ⟨_, rfl, hK _ _ ⟨Kept.mk' H6B.out, ?_⟩⟩
          clear hK K hb6 hb6' hlo6 hcc6 hrow6 r3
          refine stage_more ?_
          simp only [pushV]
          repeat (go_big_quiet_step (fail))
          refine wpQuiet_nil ?_
          have hXX := H6X.out
          have a0 := hXX.cell 0
          have a1 := hXX.cell 1
          have a2 := hXX.cell 2
          have y0 := hXX.frozen 0
          have y1 := hXX.frozen 1
          have y2 := hXX.frozen 2
          simp only [List.getElem?_cons_zero, List.getElem?_cons_succ] at a0 a1 a2
          clear hXX
          intro K hK
          unfold Chain.mov
          go_simp
          simp only [Chain.movUpon]
          have HX7 := Lib.hid (box_put H6X.out (.slice A2 st.1.s.length c3) (.int .i64 (st.1.h : Nat)) (.int .i64 (st.1.q : Nat)))
          have hgb := box_grown w6 w2.heap.size (.slice A2 st.1.s.length c3) (.int .i64 (st.1.h : Nat)) (.int .i64 (st.1.q : Nat))
          have HR7 := Lib.hid (H6R.out.grown hgb (H6R.out.ne_blk H6X.out (by decide)))
          have HO7 := Lib.hid (H6O.out.kept hgb (.inr (fun e => by have := (H6O.out.lt _ e).1; omega)))
          have HB7 := Lib.hid (H6B.out.grown hgb H6B.out.size (fun j hj => by injection hj; omega))
          have hz7 := hgb.size
          clear hgb
          generalize ((w6.setCell ⟨w2.heap.size, 0, none⟩ (.slice A2 st.1.s.length c3)).setCell ⟨w2.heap.size, 1, none⟩ (.int .i64 (st.1.h : Nat))).setCell ⟨w2.heap.size, 2, none⟩ (.int .i64 (st.1.q : Nat)) = w7 at *
          refine hK _ _ ⟨Kept.mk' HB7.out, ?_⟩
          clear hK K a0 a1 a2 y0 y1 y2 hne
          refine stage_last ?_
          refine wpQuiet_nil ?_
          cases ok
          · have HTELL := Lib.hid (show (0 : Int) = st.2 from HTELL0.out)
            go_wp2_with (at_builtin; refine wpList_append_own_at _ rfl _ _ 24 rfl w3.heap.size 3 i0 (.int .i64 0) 1 8 Try.underlying24 hi hz0 hz1 hz2 rfl (by decide) _ _ _ rfl (HO7.out.alloc _) ⟨w7.heap.size, 0, none⟩ 1 1 [_] rfl rfl (cell_one_new _ _ _) (by simp [Value.oneCell']) (by simp only [maxLen]; omega) (by omega) (by simp; omega) ?_)
            intro v8 w8 hown8 hgrow8 _ hat8
            have hA8 := (Below.refl w7.heap.size w7).alloc (Nat.le_refl _) (.cells #[.int .i64 0] 3)
            have HX8 := Lib.hid ((HX7.out.alloc (.cells #[.int .i64 0] 3)).grown hgrow8 (fun e => by have := (HO7.out.lt _ e.symm).1; omega))
            have HR8 := Lib.hid ((HR7.out.below hA8).grown hgrow8 (fun b hb e => (HAL7.out b hb).2 e.symm))
            have HO8 := Lib.hid hown8
            have HB8 := Lib.hid ((HB7.out.alloc (by omega) (.cells #[.int .i64 0] 3)).grown hgrow8 (by simp; omega) (fun j hj => by have := (HO7.out.lt j hj).1; omega))
            have hz8 := hgrow8.size
            have HAL8 := Lib.hid (show ∀ b, Option.map (·.block) A2 = some b → w1.heap.size ≤ b ∧ v8.ownBlock ≠ some b from fun b hb => ⟨(HAL7.out b hb).1, fun e => by
              rcases hat8 with h5 | h5
              · rw [h5] at e; exact (HAL7.out b hb).2 e
              · rw [h5] at e
                injection e with e
                have := HR7.out.lt b hb
                simp at *
                omega⟩)
            clear hown8 hgrow8 hat8 hA8
            go_wp2_with fail
            go_roundw
            case rel =>
              refine ⟨k + 1, A2, c3, by omega, by go_num, ?_, ?_, HAL8.out, HAC7.out, ?_, HB8.out, by simp at hz8; omega⟩
              · rw [HRS.out]; exact HX8.out
              · rw [HRS.out]; exact HR8.out
              · rw [HRS.out]
                have e : nums tl ++ [Value.int .i64 0] = nums (tl ++ [st.2]) := by rw [← HTELL.out]; simp [nums]
                dsimp only
                rw [← e]; simpa only [hz3] using HO8.out
            case measure => simp [intOf]; omega
          · have HTELL := Lib.hid (show (1 : Int) = st.2 from HTELL0.out)
            go_wp2_with (at_builtin; refine wpList_append_own_at _ rfl _ _ 24 rfl w3.heap.size 3 i0 (.int .i64 0) 1 8 Try.underlying24 hi hz0 hz1 hz2 rfl (by decide) _ _ _ rfl (HO7.out.alloc _) ⟨w7.heap.size, 0, none⟩ 1 1 [_] rfl rfl (cell_one_new _ _ _) (by simp [Value.oneCell']) (by simp only [maxLen]; omega) (by omega) (by simp; omega) ?_)
            intro v8 w8 hown8 hgrow8 _ hat8
            have hA8 := (Below.refl w7.heap.size w7).alloc (Nat.le_refl _) (.cells #[.int .i64 1] 3)
            have HX8 := Lib.hid ((HX7.out.alloc (.cells #[.int .i64 1] 3)).grown hgrow8 (fun e => by have := (HO7.out.lt _ e.symm).1; omega))
            have HR8 := Lib.hid ((HR7.out.below hA8).grown hgrow8 (fun b hb e => (HAL7.out b hb).2 e.symm))
            have HO8 := Lib.hid hown8
            have HB8 := Lib.hid ((HB7.out.alloc (by omega) (.cells #[.int .i64 1] 3)).grown hgrow8 (by simp; omega) (fun j hj => by have := (HO7.out.lt j hj).1; omega))
            have hz8 := hgrow8.size
            have HAL8 := Lib.hid (show ∀ b, Option.map (·.block) A2 = some b → w1.heap.size ≤ b ∧ v8.ownBlock ≠ some b from fun b hb => ⟨(HAL7.out b hb).1, fun e => by
              rcases hat8 with h5 | h5
              · rw [h5] at e; exact (HAL7.out b hb).2 e
              · rw [h5] at e
                injection e with e
                have := HR7.out.lt b hb
                simp at *
                omega⟩)
            clear hown8 hgrow8 hat8 hA8
            go_wp2_with fail
            go_roundw
            case rel =>
              refine ⟨k + 1, A2, c3, by omega, by go_num, ?_, ?_, HAL8.out, HAC7.out, ?_, HB8.out, by simp at hz8; omega⟩
              · rw [HRS.out]; exact HX8.out
              · rw [HRS.out]; exact HR8.out
              · rw [HRS.out]
                have e : nums tl ++ [Value.int .i64 1] = nums (tl ++ [st.2]) := by rw [← HTELL.out]; simp [nums]
                dsimp only
                rw [← e]; simpa only [hz3] using HO8.out
            case measure => simp [intOf]; omega
        · obtain ⟨ok, hok, hP⟩ := pushF_step HRK.out h0 h5
          have HC := Lib.hid (show ∀ W, IS W A ds → Calls Try.prog 31 #[.agg #[.slice A ds.length c2, .int .i64 (dh : Nat), .int .i64 (dq : Nat)], .int .i64 x] W (DqOut W (stepR ⟨ds, dh, dq⟩ x).1.s ((stepR ⟨ds, dh, dq⟩ x).1.h : Nat) ((stepR ⟨ds, dh, dq⟩ x).1.q : Nat) (pushV ok)) from fun W hI => by have := sPushFirst_any A ds c2 dh dq x W HSM.out hI; rw [hP] at this; exact this)
          have b5 : (x % 2 == 0) = false := by simp [h5]
          have b6 : (x.tmod 2 == 0) = false := by rw [Int.tmod_eq_emod_of_nonneg h0]; simp [h5]
          have x6 : IntKind.i64.wrap (x.tmod 2) = x % 2 := by rw [Int.tmod_eq_emod_of_nonneg h0]; exact IntWalk.i64_in _ (by omega)
          have HTELL0 := Lib.hid hok
          clear hP hok HWX
          generalize hst : stepR ⟨ds, dh, dq⟩ x = st at *
          clear hst h5
          go_wp2_with fail
          have r3 := Kept.rd hcell1
          have hkm : (k : Int) < (m : Int) := by omega
          have hne : Nonempty (Kept w1) := ⟨⟨w1, Below.refl _ _⟩⟩
          replace a0 : wr.drew.cell? ⟨w2.heap.size, 0, none⟩ = _ := a0
          replace a1 : wr.drew.cell? ⟨w2.heap.size, 1, none⟩ = _ := a1
          replace a2 : wr.drew.cell? ⟨w2.heap.size, 2, none⟩ = _ := a2
          clear y0 y1 y2 hcell hcell1
          refine wp_region_stages [1, 0, 0, 0, 0, 3, 4, 4, 4, 5, 7] 3 (fun w' => ∃ y : Kept w1, w' = y.W) (by kernel_rfl) (by kernel_rfl) (Kept.mk' HBW.out.drew) ?_
          simp only [Stage.stages, Stage.pickC, Nat.reduceBEq, Nat.reduceMul, Nat.reduceAdd, cond_true, cond_false, List.map_cons, List.map_nil]
          refine stage_more ?_
          repeat (go_big_quiet_step (fail))
          refine wpQuiet_nil ?_
          intro K hK
          unfold Chain.mov
          go_simp
          simp only [Chain.movUpon]
          refine hK _ _ ⟨Kept.mk' HBW.out.drew, ?_⟩
          clear hK K a0 a1 a2
          refine stage_more ?_
          refine wpQuiet_nil ?_
          intro K hK
          unfold Chain.mov
          go_simp
          simp only [Chain.movUpon]
          refine (HC.out wr.drew (show IS wr.drew A ds from HR.out.is)).mono ?_
          rintro e w6 ⟨hb6', A2, c3, rfl, hlo6, hcc6, hrow6⟩
          have hb6 : Below wr.heap.size wr w6 := (Below.refl _ wr).drew.trans (hb6'.mono (Nat.le_refl _))
          have hz6 := hb6.size
          have H6X := Lib.hid (HX.out.below hb6 hlx)
          have H6R := Lib.hid hrow6
          have H6O := Lib.hid (ownsRow_keep HOW.out hb6)
          have H6B := Lib.hid (HBW.out.trans (hb6.mono HBW.out.size))
          have HAL7 := Lib.hid (show ∀ b, A2.map (·.block) = some b → w1.heap.size ≤ b ∧ u8.ownBlock ≠ some b from fun b hb => ⟨by have := hlo6 b hb; have := HBW.out.size; simp at *; omega, fun e => by have h7 := hlo6 b hb; have h8 := (HOW.out.lt _ e).2; simp at h7; omega⟩)
          have HAC7 := Lib.hid hcc6
          refine ⟨_, rfl, hK _ _ ⟨Kept.mk' H6B.out, ?_⟩⟩
          clear hK K hb6 hb6' hlo6 hcc6 hrow6 r3
          refine stage_more ?_
          simp only [pushV]
          repeat (go_big_quiet_step (fail))
          refine wpQuiet_nil ?_
          have hXX := H6X.out
          have a0 := hXX.cell 0
          have a1 := hXX.cell 1
          have a2 := hXX.cell 2
          have y0 := hXX.frozen 0
          have y1 := hXX.frozen 1
          have y2 := hXX.frozen 2
          simp only [List.getElem?_cons_zero, List.getElem?_cons_succ] at a0 a1 a2
          clear hXX
          intro K hK
          unfold Chain.mov
          go_simp
          simp only [Chain.movUpon]
          have HX7 := Lib.hid (box_put H6X.out (.slice A2 st.1.s.length c3) (.int .i64 (st.1.h : Nat)) (.int .i64 (st.1.q : Nat)))
          have hgb := box_grown w6 w2.heap.size (.slice A2 st.1.s.length c3) (.int .i64 (st.1.h : Nat)) (.int .i64 (st.1.q : Nat))
          have HR7 := Lib.hid (H6R.out.grown hgb (H6R.out.ne_blk H6X.out (by decide)))
          have HO7 := Lib.hid (H6O.out.kept hgb (.inr (fun e => by have := (H6O.out.lt _ e).1; omega)))
          have HB7 := Lib.hid (H6B.out.grown hgb H6B.out.size (fun j hj => by injection hj; omega))
          have hz7 := hgb.size
          clear hgb
          generalize ((w6.setCell ⟨w2.heap.size, 0, none⟩ (.slice A2 st.1.s.length c3)).setCell ⟨w2.heap.size, 1, none⟩ (.int .i64 (st.1.h : Nat))).setCell ⟨w2.heap.size, 2, none⟩ (.int .i64 (st.1.q : Nat)) = w7 at *
          refine hK _ _ ⟨Kept.mk' HB7.out, ?_⟩
          clear hK K a0 a1 a2 y0 y1 y2 hne
          refine stage_last ?_
          refine wpQuiet_nil ?_
          cases ok
          · have HTELL := Lib.hid (show (0 : Int) = st.2 from HTELL0.out)
            go_wp2_with (at_builtin; refine wpList_append_own_at _ rfl _ _ 24 rfl w3.heap.size 3 i0 (.int .i64 0) 1 8 Try.underlying24 hi hz0 hz1 hz2 rfl (by decide) _ _ _ rfl (HO7.out.alloc _) ⟨w7.heap.size, 0, none⟩ 1 1 [_] rfl rfl (cell_one_new _ _ _) (by simp [Value.oneCell']) (by simp only [maxLen]; omega) (by omega) (by simp; omega) ?_)
            intro v8 w8 hown8 hgrow8 _ hat8
            have hA8 := (Below.refl w7.heap.size w7).alloc (Nat.le_refl _) (.cells #[.int .i64 0] 3)
            have HX8 := Lib.hid ((HX7.out.alloc (.cells #[.int .i64 0] 3)).grown hgrow8 (fun e => by have := (HO7.out.lt _ e.symm).1; omega))
            have HR8 := Lib.hid ((HR7.out.below hA8).grown hgrow8 (fun b hb e => (HAL7.out b hb).2 e.symm))
            have HO8 := Lib.hid hown8
            have HB8 := Lib.hid ((HB7.out.alloc (by omega) (.cells #[.int .i64 0] 3)).grown hgrow8 (by simp; omega) (fun j hj => by have := (HO7.out.lt j hj).1; omega))
            have hz8 := hgrow8.size
            have HAL8 := Lib.hid (show ∀ b, Option.map (·.block) A2 = some b → w1.heap.size ≤ b ∧ v8.ownBlock ≠ some b from fun b hb => ⟨(HAL7.out b hb).1, fun e => by
              rcases hat8 with h5 | h5
              · rw [h5] at e; exact (HAL7.out b hb).2 e
              · rw [h5] at e
                injection e with e
                have := HR7.out.lt b hb
                simp at *
                omega⟩)
            clear hown8 hgrow8 hat8 hA8
            go_wp2_with fail
            go_roundw
            case rel =>
              refine ⟨k + 1, A2, c3, by omega, by go_num, ?_, ?_, HAL8.out, HAC7.out, ?_, HB8.out, by simp at hz8; omega⟩
              · rw [HRS.out]; exact HX8.out
              · rw [HRS.out]; exact HR8.out
              · rw [HRS.out]
                have e : nums tl ++ [Value.int .i64 0] = nums (tl ++ [st.2]) := by rw [← HTELL.out]; simp [nums]
                dsimp only
                rw [← e]; simpa only [hz3] using HO8.out
            case measure => simp [intOf]; omega
          · have HTELL := Lib.hid (show (1 : Int) = st.2 from HTELL0.out)
            go_wp2_with (at_builtin; refine wpList_append_own_at _ rfl _ _ 24 rfl w3.heap.size 3 i0 (.int .i64 0) 1 8 Try.underlying24 hi hz0 hz1 hz2 rfl (by decide) _ _ _ rfl (HO7.out.alloc _) ⟨w7.heap.size, 0, none⟩ 1 1 [_] rfl rfl (cell_one_new _ _ _) (by simp [Value.oneCell']) (by simp only [maxLen]; omega) (by omega) (by simp; omega) ?_)
            intro v8 w8 hown8 hgrow8 _ hat8
            have hA8 := (Below.refl w7.heap.size w7).alloc (Nat.le_refl _) (.cells #[.int .i64 1] 3)
            have HX8 := Lib.hid ((HX7.out.alloc (.cells #[.int .i64 1] 3)).grown hgrow8 (fun e => by have := (HO7.out.lt _ e.symm).1; omega))
            have HR8 := Lib.hid ((HR7.out.below hA8).grown hgrow8 (fun b hb e => (HAL7.out b hb).2 e.symm))
            have HO8 := Lib.hid hown8
            have HB8 := Lib.hid ((HB7.out.alloc (by omega) (.cells #[.int .i64 1] 3)).grown hgrow8 (by simp; omega) (fun j hj => by have := (HO7.out.lt j hj).1; omega))
            have hz8 := hgrow8.size
            have HAL8 := Lib.hid (show ∀ b, Option.map (·.block) A2 = some b → w1.heap.size ≤ b ∧ v8.ownBlock ≠ some b from fun b hb => ⟨(HAL7.out b hb).1, fun e => by
              rcases hat8 with h5 | h5
              · rw [h5] at e; exact (HAL7.out b hb).2 e
              · rw [h5] at e
                injection e with e
                have := HR7.out.lt b hb
                simp at *
                omega⟩)
            clear hown8 hgrow8 hat8 hA8
            go_wp2_with fail
            go_roundw
            case rel =>
              refine ⟨k + 1, A2, c3, by omega, by go_num, ?_, ?_, HAL8.out, HAC7.out, ?_, HB8.out, by simp at hz8; omega⟩
              · rw [HRS.out]; exact HX8.out
              · rw [HRS.out]; exact HR8.out
              · rw [HRS.out]
                have e : nums tl ++ [Value.int .i64 1] = nums (tl ++ [st.2]) := by rw [← HTELL.out]; simp [nums]
                dsimp only
                rw [← e]; simpa only [hz3] using HO8.out
            case measure => simp [intOf]; omega
      · have g0 : decide (x ≥ 0) = false := by simpa using h0
        have g1 : decide (0 ≤ x) = false := by simpa using h0
        have hXX := HX.out
        have a0 := hXX.cell 0
        have a1 := hXX.cell 1
        have a2 := hXX.cell 2
        have y0 := hXX.frozen 0
        have y1 := hXX.frozen 1
        have y2 := hXX.frozen 2
        simp only [List.getElem?_cons_zero, List.getElem?_cons_succ] at a0 a1 a2
        clear hXX
        by_cases e1 : x = -1
        · subst e1
          clear g0 g1 h0 hwx1 hwx2
          obtain ⟨y, ok, hok, hP⟩ := popF_step HRK.out
          have HC := Lib.hid (show ∀ W, IS W A ds → Calls Try.prog 33 #[.agg #[.slice A ds.length c2, .int .i64 (dh : Nat), .int .i64 (dq : Nat)]] W (DqOut W (stepR ⟨ds, dh, dq⟩ (-1)).1.s ((stepR ⟨ds, dh, dq⟩ (-1)).1.h : Nat) ((stepR ⟨ds, dh, dq⟩ (-1)).1.q : Nat) (popV y ok)) from fun W hI => by have := sPopFirst_any A ds c2 dh dq W HSM.out hI; rw [hP] at this; exact this)
          have HTELL0 := Lib.hid hok
          clear hP hok HWX
          generalize hst : stepR ⟨ds, dh, dq⟩ (-1) = st at *
          clear hst
          go_wp2_with fail
          refine (HC.out _ HR.out.is).mono ?_
          rintro e w6 ⟨hb6, A2, c3, rfl, hlo6, hcc6, hrow6⟩
          have hz6 := hb6.size
          have H6X := Lib.hid (HX.out.below hb6 hlx)
          have H6R := Lib.hid hrow6
          have H6O := Lib.hid (ownsRow_keep HOW.out hb6)
          have H6B := Lib.hid (HBW.out.trans (hb6.mono HBW.out.size))
          have HAL7 := Lib.hid (show ∀ b, A2.map (·.block) = some b → w1.heap.size ≤ b ∧ u8.ownBlock ≠ some b from fun b hb => ⟨by have := hlo6 b hb; have := HBW.out.size; omega, fun e => by have h7 := hlo6 b hb; have h8 := (HOW.out.lt _ e).2; omega⟩)
          have HAC7 := Lib.hid hcc6
          clear hb6 hlo6 hcc6 hrow6 a0 a1 a2 y0 y1 y2 hcell hcell1
          simp only [popV]
          have hXX := H6X.out
          have a0 := hXX.cell 0
          have a1 := hXX.cell 1
          have a2 := hXX.cell 2
          have y0 := hXX.frozen 0
          have y1 := hXX.frozen 1
          have y2 := hXX.frozen 2
          simp only [List.getElem?_cons_zero, List.getElem?_cons_succ] at a0 a1 a2
          clear hXX
          cases ok
          · have HTELL := Lib.hid (show ((-1) : Int) = st.2 from HTELL0.out)
            go_upto_region 25 with (fail)
            clear a0 a1 a2 y0 y1 y2
            have HX7 := Lib.hid (box_put H6X.out (.slice A2 st.1.s.length c3) (.int .i64 (st.1.h : Nat)) (.int .i64 (st.1.q : Nat)))
            have hgb := box_grown w6 w2.heap.size (.slice A2 st.1.s.length c3) (.int .i64 (st.1.h : Nat)) (.int .i64 (st.1.q : Nat))
            have HR7 := Lib.hid (H6R.out.grown hgb (H6R.out.ne_blk H6X.out (by decide)))
            have HO7 := Lib.hid (H6O.out.kept hgb (.inr (fun e => by have := (H6O.out.lt _ e).1; omega)))
            have HB7 := Lib.hid (H6B.out.grown hgb H6B.out.size (fun j hj => by injection hj; omega))
            have hz7 := hgb.size
            clear hgb
            generalize ((w6.setCell ⟨w2.heap.size, 0, none⟩ (.slice A2 st.1.s.length c3)).setCell ⟨w2.heap.size, 1, none⟩ (.int .i64 (st.1.h : Nat))).setCell ⟨w2.heap.size, 2, none⟩ (.int .i64 (st.1.q : Nat)) = w7 at *
            go_wp2_with (at_builtin; refine wpList_append_own_at _ rfl _ _ 24 rfl w3.heap.size 3 i0 (.int .i64 0) 1 8 Try.underlying24 hi hz0 hz1 hz2 rfl (by decide) _ _ _ rfl (HO7.out.alloc _) ⟨w7.heap.size, 0, none⟩ 1 1 [_] rfl rfl (cell_one_new _ _ _) (by simp [Value.oneCell']) (by simp only [maxLen]; omega) (by omega) (by simp; omega) ?_)
            intro v8 w8 hown8 hgrow8 _ hat8
            have hA8 := (Below.refl w7.heap.size w7).alloc (Nat.le_refl _) (.cells #[.int .i64 (-1)] 3)
            have HX8 := Lib.hid ((HX7.out.alloc (.cells #[.int .i64 (-1)] 3)).grown hgrow8 (fun e => by have := (HO7.out.lt _ e.symm).1; omega))
            have HR8 := Lib.hid ((HR7.out.below hA8).grown hgrow8 (fun b hb e => (HAL7.out b hb).2 e.symm))
            have HO8 := Lib.hid hown8
            have HB8 := Lib.hid ((HB7.out.alloc (by omega) (.cells #[.int .i64 (-1)] 3)).grown hgrow8 (by simp; omega) (fun j hj => by have := (HO7.out.lt j hj).1; omega))
            have hz8 := hgrow8.size
            have HAL8 := Lib.hid (show ∀ b, Option.map (·.block) A2 = some b → w1.heap.size ≤ b ∧ v8.ownBlock ≠ some b from fun b hb => ⟨(HAL7.out b hb).1, fun e => by
              rcases hat8 with h5 | h5
              · rw [h5] at e; exact (HAL7.out b hb).2 e
              · rw [h5] at e
                injection e with e
                have := HR7.out.lt b hb
                simp at *
                omega⟩)
            clear hown8 hgrow8 hat8 hA8
            go_wp2_with fail
            go_roundw
            case rel =>
              refine ⟨k + 1, A2, c3, by omega, by go_num, ?_, ?_, HAL8.out, HAC7.out, ?_, HB8.out, by simp at hz8; omega⟩
              · rw [HRS.out]; exact HX8.out
              · rw [HRS.out]; exact HR8.out
              · rw [HRS.out]
                have e : nums tl ++ [Value.int .i64 (-1)] = nums (tl ++ [st.2]) := by rw [← HTELL.out]; simp [nums]
                dsimp only
                rw [← e]; simpa only [hz3] using HO8.out
            case measure => simp [intOf]; omega
          · have HTELL := Lib.hid (show (y : Int) = st.2 from HTELL0.out)
            go_upto_region 25 with (fail)
            clear a0 a1 a2 y0 y1 y2
            have HX7 := Lib.hid (box_put H6X.out (.slice A2 st.1.s.length c3) (.int .i64 (st.1.h : Nat)) (.int .i64 (st.1.q : Nat)))
            have hgb := box_grown w6 w2.heap.size (.slice A2 st.1.s.length c3) (.int .i64 (st.1.h : Nat)) (.int .i64 (st.1.q : Nat))
            have HR7 := Lib.hid (H6R.out.grown hgb (H6R.out.ne_blk H6X.out (by decide)))
            have HO7 := Lib.hid (H6O.out.kept hgb (.inr (fun e => by have := (H6O.out.lt _ e).1; omega)))
            have HB7 := Lib.hid (H6B.out.grown hgb H6B.out.size (fun j hj => by injection hj; omega))
            have hz7 := hgb.size
            clear hgb
            generalize ((w6.setCell ⟨w2.heap.size, 0, none⟩ (.slice A2 st.1.s.length c3)).setCell ⟨w2.heap.size, 1, none⟩ (.int .i64 (st.1.h : Nat))).setCell ⟨w2.heap.size, 2, none⟩ (.int .i64 (st.1.q : Nat)) = w7 at *
            go_wp2_with (at_builtin; refine wpList_append_own_at _ rfl _ _ 24 rfl w3.heap.size 3 i0 (.int .i64 0) 1 8 Try.underlying24 hi hz0 hz1 hz2 rfl (by decide) _ _ _ rfl (HO7.out.alloc _) ⟨w7.heap.size, 0, none⟩ 1 1 [_] rfl rfl (cell_one_new _ _ _) (by simp [Value.oneCell']) (by simp only [maxLen]; omega) (by omega) (by simp; omega) ?_)
            intro v8 w8 hown8 hgrow8 _ hat8
            have hA8 := (Below.refl w7.heap.size w7).alloc (Nat.le_refl _) (.cells #[.int .i64 y] 3)
            have HX8 := Lib.hid ((HX7.out.alloc (.cells #[.int .i64 y] 3)).grown hgrow8 (fun e => by have := (HO7.out.lt _ e.symm).1; omega))
            have HR8 := Lib.hid ((HR7.out.below hA8).grown hgrow8 (fun b hb e => (HAL7.out b hb).2 e.symm))
            have HO8 := Lib.hid hown8
            have HB8 := Lib.hid ((HB7.out.alloc (by omega) (.cells #[.int .i64 y] 3)).grown hgrow8 (by simp; omega) (fun j hj => by have := (HO7.out.lt j hj).1; omega))
            have hz8 := hgrow8.size
            have HAL8 := Lib.hid (show ∀ b, Option.map (·.block) A2 = some b → w1.heap.size ≤ b ∧ v8.ownBlock ≠ some b from fun b hb => ⟨(HAL7.out b hb).1, fun e => by
              rcases hat8 with h5 | h5
              · rw [h5] at e; exact (HAL7.out b hb).2 e
              · rw [h5] at e
                injection e with e
                have := HR7.out.lt b hb
                simp at *
                omega⟩)
            clear hown8 hgrow8 hat8 hA8
            go_wp2_with fail
            go_roundw
            case rel =>
              refine ⟨k + 1, A2, c3, by omega, by go_num, ?_, ?_, HAL8.out, HAC7.out, ?_, HB8.out, by simp at hz8; omega⟩
              · rw [HRS.out]; exact HX8.out
              · rw [HRS.out]; exact HR8.out
              · rw [HRS.out]
                have e : nums tl ++ [Value.int .i64 y] = nums (tl ++ [st.2]) := by rw [← HTELL.out]; simp [nums]
                dsimp only
                rw [← e]; simpa only [hz3] using HO8.out
            case measure => simp [intOf]; omega
        by_cases e2 : x = -2
        · subst e2
          clear g0 g1 h0 hwx1 hwx2 e1
          obtain ⟨y, ok, hok, hP⟩ := popL_step HRK.out
          have HC := Lib.hid (show ∀ W, IS W A ds → Calls Try.prog 35 #[.agg #[.slice A ds.length c2, .int .i64 (dh : Nat), .int .i64 (dq : Nat)]] W (DqOut W (stepR ⟨ds, dh, dq⟩ (-2)).1.s ((stepR ⟨ds, dh, dq⟩ (-2)).1.h : Nat) ((stepR ⟨ds, dh, dq⟩ (-2)).1.q : Nat) (popV y ok)) from fun W hI => by have := sPopLast_any A ds c2 dh dq W HSM.out hI; rw [hP] at this; exact this)
          have HTELL0 := Lib.hid hok
          clear hP hok HWX
          generalize hst : stepR ⟨ds, dh, dq⟩ (-2) = st at *
          clear hst
          go_wp2_with fail
          refine (HC.out _ HR.out.is).mono ?_
          rintro e w6 ⟨hb6, A2, c3, rfl, hlo6, hcc6, hrow6⟩
          have hz6 := hb6.size
          have H6X := Lib.hid (HX.out.below hb6 hlx)
          have H6R := Lib.hid hrow6
          have H6O := Lib.hid (ownsRow_keep HOW.out hb6)
          have H6B := Lib.hid (HBW.out.trans (hb6.mono HBW.out.size))
          have HAL7 := Lib.hid (show ∀ b, A2.map (·.block) = some b → w1.heap.size ≤ b ∧ u8.ownBlock ≠ some b from fun b hb => ⟨by have := hlo6 b hb; have := HBW.out.size; omega, fun e => by have h7 := hlo6 b hb; have h8 := (HOW.out.lt _ e).2; omega⟩)
          have HAC7 := Lib.hid hcc6
          clear hb6 hlo6 hcc6 hrow6 a0 a1 a2 y0 y1 y2 hcell hcell1
          simp only [popV]
          have hXX := H6X.out
          have a0 := hXX.cell 0
          have a1 := hXX.cell 1
          have a2 := hXX.cell 2
          have y0 := hXX.frozen 0
          have y1 := hXX.frozen 1
          have y2 := hXX.frozen 2
          simp only [List.getElem?_cons_zero, List.getElem?_cons_succ] at a0 a1 a2
          clear hXX
          cases ok
          · have HTELL := Lib.hid (show ((-1) : Int) = st.2 from HTELL0.out)
            go_upto_region 25 with (fail)
            clear a0 a1 a2 y0 y1 y2
            have HX7 := Lib.hid (box_put H6X.out (.slice A2 st.1.s.length c3) (.int .i64 (st.1.h : Nat)) (.int .i64 (st.1.q : Nat)))
            have hgb := box_grown w6 w2.heap.size (.slice A2 st.1.s.length c3) (.int .i64 (st.1.h : Nat)) (.int .i64 (st.1.q : Nat))
            have HR7 := Lib.hid (H6R.out.grown hgb (H6R.out.ne_blk H6X.out (by decide)))
            have HO7 := Lib.hid (H6O.out.kept hgb (.inr (fun e => by have := (H6O.out.lt _ e).1; omega)))
            have HB7 := Lib.hid (H6B.out.grown hgb H6B.out.size (fun j hj => by injection hj; omega))
            have hz7 := hgb.size
            clear hgb
            generalize ((w6.setCell ⟨w2.heap.size, 0, none⟩ (.slice A2 st.1.s.length c3)).setCell ⟨w2.heap.size, 1, none⟩ (.int .i64 (st.1.h : Nat))).setCell ⟨w2.heap.size, 2, none⟩ (.int .i64 (st.1.q : Nat)) = w7 at *
            go_wp2_with (at_builtin; refine wpList_append_own_at _ rfl _ _ 24 rfl w3.heap.size 3 i0 (.int .i64 0) 1 8 Try.underlying24 hi hz0 hz1 hz2 rfl (by decide) _ _ _ rfl (HO7.out.alloc _) ⟨w7.heap.size, 0, none⟩ 1 1 [_] rfl rfl (cell_one_new _ _ _) (by simp [Value.oneCell']) (by simp only [maxLen]; omega) (by omega) (by simp; omega) ?_)
            intro v8 w8 hown8 hgrow8 _ hat8
            have hA8 := (Below.refl w7.heap.size w7).alloc (Nat.le_refl _) (.cells #[.int .i64 (-1)] 3)
            have HX8 := Lib.hid ((HX7.out.alloc (.cells #[.int .i64 (-1)] 3)).grown hgrow8 (fun e => by have := (HO7.out.lt _ e.symm).1; omega))
            have HR8 := Lib.hid ((HR7.out.below hA8).grown hgrow8 (fun b hb e => (HAL7.out b hb).2 e.symm))
            have HO8 := Lib.hid hown8
            have HB8 := Lib.hid ((HB7.out.alloc (by omega) (.cells #[.int .i64 (-1)] 3)).grown hgrow8 (by simp; omega) (fun j hj => by have := (HO7.out.lt j hj).1; omega))
            have hz8 := hgrow8.size
            have HAL8 := Lib.hid (show ∀ b, Option.map (·.block) A2 = some b → w1.heap.size ≤ b ∧ v8.ownBlock ≠ some b from fun b hb => ⟨(HAL7.out b hb).1, fun e => by
              rcases hat8 with h5 | h5
              · rw [h5] at e; exact (HAL7.out b hb).2 e
              · rw [h5] at e
                injection e with e
                have := HR7.out.lt b hb
                simp at *
                omega⟩)
            clear hown8 hgrow8 hat8 hA8
            go_wp2_with fail
            go_roundw
            case rel =>
              refine ⟨k + 1, A2, c3, by omega, by go_num, ?_, ?_, HAL8.out, HAC7.out, ?_, HB8.out, by simp at hz8; omega⟩
              · rw [HRS.out]; exact HX8.out
              · rw [HRS.out]; exact HR8.out
              · rw [HRS.out]
                have e : nums tl ++ [Value.int .i64 (-1)] = nums (tl ++ [st.2]) := by rw [← HTELL.out]; simp [nums]
                dsimp only
                rw [← e]; simpa only [hz3] using HO8.out
            case measure => simp [intOf]; omega
          · have HTELL := Lib.hid (show (y : Int) = st.2 from HTELL0.out)
            go_upto_region 25 with (fail)
            clear a0 a1 a2 y0 y1 y2
            have HX7 := Lib.hid (box_put H6X.out (.slice A2 st.1.s.length c3) (.int .i64 (st.1.h : Nat)) (.int .i64 (st.1.q : Nat)))
            have hgb := box_grown w6 w2.heap.size (.slice A2 st.1.s.length c3) (.int .i64 (st.1.h : Nat)) (.int .i64 (st.1.q : Nat))
            have HR7 := Lib.hid (H6R.out.grown hgb (H6R.out.ne_blk H6X.out (by decide)))
            have HO7 := Lib.hid (H6O.out.kept hgb (.inr (fun e => by have := (H6O.out.lt _ e).1; omega)))
            have HB7 := Lib.hid (H6B.out.grown hgb H6B.out.size (fun j hj => by injection hj; omega))
            have hz7 := hgb.size
            clear hgb
            generalize ((w6.setCell ⟨w2.heap.size, 0, none⟩ (.slice A2 st.1.s.length c3)).setCell ⟨w2.heap.size, 1, none⟩ (.int .i64 (st.1.h : Nat))).setCell ⟨w2.heap.size, 2, none⟩ (.int .i64 (st.1.q : Nat)) = w7 at *
            go_wp2_with (at_builtin; refine wpList_append_own_at _ rfl _ _ 24 rfl w3.heap.size 3 i0 (.int .i64 0) 1 8 Try.underlying24 hi hz0 hz1 hz2 rfl (by decide) _ _ _ rfl (HO7.out.alloc _) ⟨w7.heap.size, 0, none⟩ 1 1 [_] rfl rfl (cell_one_new _ _ _) (by simp [Value.oneCell']) (by simp only [maxLen]; omega) (by omega) (by simp; omega) ?_)
            intro v8 w8 hown8 hgrow8 _ hat8
            have hA8 := (Below.refl w7.heap.size w7).alloc (Nat.le_refl _) (.cells #[.int .i64 y] 3)
            have HX8 := Lib.hid ((HX7.out.alloc (.cells #[.int .i64 y] 3)).grown hgrow8 (fun e => by have := (HO7.out.lt _ e.symm).1; omega))
            have HR8 := Lib.hid ((HR7.out.below hA8).grown hgrow8 (fun b hb e => (HAL7.out b hb).2 e.symm))
            have HO8 := Lib.hid hown8
            have HB8 := Lib.hid ((HB7.out.alloc (by omega) (.cells #[.int .i64 y] 3)).grown hgrow8 (by simp; omega) (fun j hj => by have := (HO7.out.lt j hj).1; omega))
            have hz8 := hgrow8.size
            have HAL8 := Lib.hid (show ∀ b, Option.map (·.block) A2 = some b → w1.heap.size ≤ b ∧ v8.ownBlock ≠ some b from fun b hb => ⟨(HAL7.out b hb).1, fun e => by
              rcases hat8 with h5 | h5
              · rw [h5] at e; exact (HAL7.out b hb).2 e
              · rw [h5] at e
                injection e with e
                have := HR7.out.lt b hb
                simp at *
                omega⟩)
            clear hown8 hgrow8 hat8 hA8
            go_wp2_with fail
            go_roundw
            case rel =>
              refine ⟨k + 1, A2, c3, by omega, by go_num, ?_, ?_, HAL8.out, HAC7.out, ?_, HB8.out, by simp at hz8; omega⟩
              · rw [HRS.out]; exact HX8.out
              · rw [HRS.out]; exact HR8.out
              · rw [HRS.out]
                have e : nums tl ++ [Value.int .i64 y] = nums (tl ++ [st.2]) := by rw [← HTELL.out]; simp [nums]
                dsimp only
                rw [← e]; simpa only [hz3] using HO8.out
            case measure => simp [intOf]; omega
        have b1 : (x == -1) = false := by simpa using e1
        have b2 : (x == -2) = false := by simpa using e2
        have HST := Lib.hid (show stepR ⟨ds, dh, dq⟩ x = (⟨ds, dh, dq⟩, -9) by simp [stepR, e1, e2]; omega)
        rw [HST.out] at HRS
        generalize hst : ((⟨ds, dh, dq⟩, -9) : Rs × Int) = st at *
        have HTELL := Lib.hid (show (-9 : Int) = st.2 by rw [← hst])
        have HX7 := Lib.hid (show BlkL wr w2.heap.size 28 [.slice A st.1.s.length c2, .int .i64 (st.1.h : Nat), .int .i64 (st.1.q : Nat)] by rw [← hst]; exact HX.out)
        have HR7 := Lib.hid (show IntRow wr A st.1.s by rw [← hst]; exact HR.out)
        have HAL7 := HAL
        have HAC7 := HAC
        have HO7 := HOW
        have HB7 := HBW
        clear hst HST a0 a1 a2 y0 y1 y2 e1 e2 HWX
        go_wp2_with (at_builtin; refine wpList_append_own_at _ rfl _ _ 24 rfl w3.heap.size 3 i0 (.int .i64 0) 1 8 Try.underlying24 hi hz0 hz1 hz2 rfl (by decide) _ _ _ rfl (HO7.out.alloc _) ⟨wr.heap.size, 0, none⟩ 1 1 [_] rfl rfl (cell_one_new _ _ _) (by simp [Value.oneCell']) (by simp only [maxLen]; omega) (by omega) (by simp; omega) ?_)
        intro v8 w8 hown8 hgrow8 _ hat8
        have hA8 := (Below.refl wr.heap.size wr).alloc (Nat.le_refl _) (.cells #[.int .i64 (-9)] 3)
        have HX8 := Lib.hid ((HX7.out.alloc (.cells #[.int .i64 (-9)] 3)).grown hgrow8 (fun e => by have := (HO7.out.lt _ e.symm).1; omega))
        have HR8 := Lib.hid ((HR7.out.below hA8).grown hgrow8 (fun b hb e => (HAL7.out b hb).2 e.symm))
        have HO8 := Lib.hid hown8
        have HB8 := Lib.hid ((HB7.out.alloc (by omega) (.cells #[.int .i64 (-9)] 3)).grown hgrow8 (by simp; omega) (fun j hj => by have := (HO7.out.lt j hj).1; omega))
        have hz8 := hgrow8.size
        have HAL8 := Lib.hid (show ∀ b, Option.map (·.block) A = some b → w1.heap.size ≤ b ∧ v8.ownBlock ≠ some b from fun b hb => ⟨(HAL7.out b hb).1, fun e => by
          rcases hat8 with h5 | h5
          · rw [h5] at e; exact (HAL7.out b hb).2 e
          · rw [h5] at e
            injection e with e
            have := HR7.out.lt b hb
            simp at *
            omega⟩)
        clear hown8 hgrow8 hat8 hA8
        go_wp2_with fail
        go_roundw
        case rel =>
          refine ⟨k + 1, A, c2, by omega, by go_num, ?_, ?_, HAL8.out, HAC7.out, ?_, HB8.out, by simp at hz8; omega⟩
          · rw [HRS.out]; exact HX8.out
          · rw [HRS.out]; exact HR8.out
          · rw [HRS.out]
            have e : nums tl ++ [Value.int .i64 (-9)] = nums (tl ++ [st.2]) := by rw [← HTELL.out]; simp [nums]
            dsimp only
            rw [← e]; simpa only [hz3] using HO8.out
        case measure => simp [intOf]; omega
    · obtain rfl : k = m := by omega
      have HTL := Lib.hid (runR_told (newR n) ops k)
      have HKB := Lib.hid (HK0.out.below HBW.out (by omega))
      have hXX := HX.out
      have a0 := hXX.cell 0
      have a1 := hXX.cell 1
      have a2 := hXX.cell 2
      have y0 := hXX.frozen 0
      have y1 := hXX.frozen 1
      have y2 := hXX.frozen 2
      simp only [List.getElem?_cons_zero, List.getElem?_cons_succ] at a0 a1 a2
      clear hXX
      have kb := HKB.out
      have d0 := kb.cell 0
      have d1 := kb.cell 1
      have d2 := kb.cell 2
      have z0 := kb.frozen 0
      have z1 := kb.frozen 1
      have z2 := kb.frozen 2
      simp only [List.getElem?_cons_zero, List.getElem?_cons_succ] at d0 d1 d2
      obtain ⟨B, cB, rfl, hBb⟩ := own_slice HOW.out
      have HRW := Lib.hid (row_of_own HOW.out)
      have HBB := Lib.hid hBb
      clear kb hBb
      go_wp2
      refine bodyPost_ret (v := .tuple #[.agg #[.slice A (runR (newR n) ops k).1.s.length c2, .int .i64 ((runR (newR n) ops k).1.h : Nat), .int .i64 ((runR (newR n) ops k).1.q : Nat)], .slice B k cB]) (by simp [results, Try.results15, go_sem, d0, d1, d2]) rfl ?_
      refine ⟨?_, A, c2, B, cB, by rw [HTL.out], fun b hb => by have := (HAL.out b hb).1; omega, fun b hb => by have := HRW.out.2.1 b hb; omega, fun b hb e => (HAL.out b hb).2 (by cases B with | none => simp at e | some a => simpa [Value.ownBlock] using e), HAC.out, HRW.out.2.2, ?_, ?_⟩
      · repeat (refine Below.setCell ?_ (by dsimp only; omega) _)
        exact HB0.out.trans (HBW.out.mono (by omega))
      · exact ((HR.out.set (fun b hb => by have := (HAL.out b hb).1; simp; omega) _).set (fun b hb => by have := (HAL.out b hb).1; simp; omega) _).set (fun b hb => by have := (HAL.out b hb).1; simp; omega) _
      · exact ((HRW.out.1.set (fun b hb => by have := HRW.out.2.1 b hb; simp; omega) _).set (fun b hb => by have := HRW.out.2.1 b hb; simp; omega) _).set (fun b hb => by have := HRW.out.2.1 b hb; simp; omega) _
end Go.Proofs.Ytkpkchlbljlbnaa
