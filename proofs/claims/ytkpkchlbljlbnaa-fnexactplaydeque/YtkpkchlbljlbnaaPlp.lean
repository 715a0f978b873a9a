/-
  PlayDeque of the program.
-/
import Derived.Test.YtkpkchlbljlbnaaPly
namespace Go.Proofs.Ytkpkchlbljlbnaa
open Go.RowKit
set_option linter.unusedVariables false

/-- a deque and a list, each in memory of its own. -/
def PlayOut (w : World) (r : Rs × List Int) (e : Ending) (w' : World) : Prop :=
  Below w.heap.size w w' ∧ ∃ A c B cB, e = .returned (.tuple #[.agg #[.slice A r.1.s.length c, .int .i64 r.1.h, .int .i64 r.1.q], .slice B r.2.length cB]) ∧
    (∀ b, A.map (·.block) = some b → w.heap.size ≤ b) ∧ (∀ b, B.map (·.block) = some b → w.heap.size ≤ b) ∧ (∀ b, A.map (·.block) = some b → B.map (·.block) ≠ some b) ∧
    (A = none → c = 0) ∧ (B = none → cB = 0) ∧ IntRow w' A r.1.s ∧ IntRow w' B r.2
theorem play_nil {w w' : World} (h : Below w.heap.size w w') : PlayOut w (⟨[], 0, 0⟩, []) (.returned (.tuple #[.agg #[.slice none 0 0, .int .i64 0, .int .i64 0], .slice none 0 0])) w' :=
  ⟨h, none, 0, none, 0, rfl, fun b hb => by simp at hb, fun b hb => by simp at hb, fun b hb => by simp at hb, fun _ => rfl, fun _ => rfl, .inl ⟨rfl, rfl⟩, .inl ⟨rfl, rfl⟩⟩

/-- what was told of the first k, noughts behind it. -/
def tellTo (d : Rs) (ops : List Int) (m k : Nat) : List Int := (runR d ops k).2 ++ List.replicate (m - k) 0
theorem tellTo_length {d : Rs} {ops : List Int} {m k : Nat} (hk : k ≤ m) : (tellTo d ops m k).length = m := by simp [tellTo, runR_told]; omega
theorem tellTo_set {d : Rs} {ops : List Int} {m k : Nat} (hk : k < m) : (tellTo d ops m k).set k (stepR (runR d ops k).1 (ops.getD k 0)).2 = tellTo d ops m (k + 1) := by
  unfold tellTo
  have e : m - k = (m - (k + 1)) + 1 := by omega
  rw [List.set_append_right _ _ (by rw [runR_told]; omega), runR_told, e, List.replicate_succ, Nat.sub_self, List.set_cons_zero]
  simp [runR]
theorem tellTo_all (d : Rs) (ops : List Int) (m : Nat) : tellTo d ops m m = (runR d ops m).2 := by simp [tellTo]
theorem newS_yes {N : Int} (h : inB N 1 64 = true) : newS N = (newR N.toNat).s := by unfold newS newR; rw [if_pos h]

set_option maxHeartbeats 2000000 in
theorem PlayDeque_no (N : Int) (O : Option Addr) (ops : List Int) (m c : Nat) (w : World) (hn : ops.length = m) (hm : m ≤ 2097152) (hno : plyB N ops = false) :
    Calls Try.prog 16 #[.int .i64 N, .slice O m c] w (PlayOut w (⟨[], 0, 0⟩, [])) := by
  have HN := Lib.hid hn
  have HK0 := Lib.hid (BlkL.new w 28 [.slice none 0 0, .int .i64 0, .int .i64 0])
  have HB0 := Lib.hid ((Below.refl w.heap.size w).alloc (Nat.le_refl _) (.cells #[.slice none 0 0, .int .i64 0, .int .i64 0] 28))
  clear hn
  go_enter Try.func16, Try.ntmps16
  go_wp2_with fail
  generalize hw1 : w.alloc (.cells #[.slice none 0 0, .int .i64 0, .int .i64 0] 28) = w1 at *
  have hz1 : w1.heap.size = w.heap.size + 1 := by rw [← hw1]; simp
  clear hw1
  refine (NewDeque_any N _).mono ?_
  rintro e w2 ⟨hb2, A1, c1, rfl, hlo, hcc, hrow⟩
  have hz2 := hb2.size
  have HB2 := Lib.hid (HB0.out.trans (hb2.mono (by omega)))
  have K2 := HK0.out.below hb2 (by omega)
  have d0 := K2.cell 0
  have d1 := K2.cell 1
  have d2 := K2.cell 2
  have y0 := K2.frozen 0
  have y1 := K2.frozen 1
  have y2 := K2.frozen 2
  have lt0 : w.heap.size < w2.heap.size := by omega
  have n0 : ¬ w2.heap.size = w.heap.size := by omega
  have n1 : ¬ w.heap.size = w2.heap.size := by omega
  simp only [List.getElem?_cons_zero, List.getElem?_cons_succ] at d0 d1 d2
  clear hb2 hlo hcc hrow K2
  cases hN : inB N 1 64
  · clear hno hN
    go_wp2
    refine bodyPost_ret (v := .tuple #[.agg #[.slice none 0 0, .int .i64 0, .int .i64 0], .slice none 0 0]) (by simp [results, Try.results16, go_sem, d0, d1, d2, lt0]) rfl ?_
    refine play_nil ?_
    refine Below.alloc ?_ (by simp [World.setCell]; omega) _
    repeat (refine Below.setCell ?_ (by dsimp only; omega) _)
    exact HB2.out
  · have hlen : 400 < m := by
      simp only [plyB, hN, Bool.true_and, decide_eq_false_iff_not] at hno
      have := HN.out
      omega
    have hl1 : (400 : Int) < (m : Int) := by omega
    clear hno hN
    go_wp2
    refine bodyPost_ret (v := .tuple #[.agg #[.slice none 0 0, .int .i64 0, .int .i64 0], .slice none 0 0]) (by simp [results, Try.results16, go_sem, d0, d1, d2, lt0]) rfl ?_
    refine play_nil ?_
    refine Below.alloc ?_ (by simp [World.setCell]; omega) _
    repeat (refine Below.setCell ?_ (by dsimp only; omega) _)
    exact HB2.out

set_option maxHeartbeats 4000000 in
theorem PlayDeque_yes (n : Nat) (O : Option Addr) (ops : List Int) (m c : Nat) (w : World) (hn : ops.length = m) (h1 : 1 ≤ n) (h2 : n ≤ 64) (h4 : m ≤ 400) (hO : IS w O ops) (hw : ∀ x ∈ ops, (Lit.int .i64 x).wf = true) :
    Calls Try.prog 16 #[.int .i64 n, .slice O m c] w (PlayOut w (runR (newR n) ops m)) := by
  have HN := Lib.hid hn
  have HW := Lib.hid hw
  have hin : inB (n : Int) 1 64 = true := inB_true.2 (by omega)
  have HS := Lib.hid (show newS (n : Int) = (newR n).s by simpa using newS_yes hin)
  have HIN := Lib.hid hin
  have HOK := Lib.hid (newR_ok h1 h2)
  have HLO := Lib.hid hO.lo
  have HNEW := Lib.hid (fun w => NewDeque_any (n : Int) w)
  have hn4 : decide ((400 : Int) < (m : Int)) = false := by simp; omega
  have hK0 := BlkL.new w 28 [.slice none 0 0, .int .i64 0, .int .i64 0]
  have hB0 := (Below.refl w.heap.size w).alloc (Nat.le_refl _) (.cells #[.slice none 0 0, .int .i64 0, .int .i64 0] 28)
  have HK0 := Lib.hid hK0
  have HB0 := Lib.hid hB0
  have HO1 := Lib.hid (hO.below hB0)
  clear hn hw hin hO hK0 hB0
  go_enter Try.func16, Try.ntmps16
  go_wp2_with fail
  generalize hw1 : w.alloc (.cells #[.slice none 0 0, .int .i64 0, .int .i64 0] 28) = w1 at *
  have hz1 : w1.heap.size = w.heap.size + 1 := by rw [← hw1]; simp
  clear hw1
  refine (HNEW.out _).mono ?_
  rw [HS.out, HIN.out]
  rintro e w2 ⟨hb2, A1, c1, rfl, hlo, hcc, hrow⟩
  have hz2 := hb2.size
  have HB2 := Lib.hid hb2
  have HI2 := Lib.hid hrow.is
  have lt0 : w.heap.size < w2.heap.size := by omega
  clear hb2 hlo hcc hrow
  go_wp2_with fail
  have hbA := (Below.refl w2.heap.size w2).alloc (Nat.le_refl _) (.cells #[.slice A1 (newR n).s.length c1, .int .i64 0, .int .i64 0] 28)
  have HI3 := Lib.hid (HI2.out.below hbA)
  have HB3 := Lib.hid (HB2.out.trans (hbA.mono (by omega)))
  generalize hw3 : w2.alloc (.cells #[.slice A1 (newR n).s.length c1, .int .i64 0, .int .i64 0] 28) = w3 at *
  have hz3 : w3.heap.size = w2.heap.size + 1 := by rw [← hw3]; simp
  clear hbA hw3 HI2 HB2
  refine (ringOf_any A1 (newR n).s c1 0 0 _ (by have := HOK.out.b.n2; omega) HI3.out).mono ?_
  rintro e w4 ⟨hb4, ⟨hR, rfl⟩ | ⟨h', q', b, eh, eq, B, rfl, hlo, hM⟩⟩
  · exfalso
    have := inR_of HOK.out.b
    simp only [newR] at this hR
    rw [show ((0 : Nat) : Int) = 0 from rfl] at this
    rw [this] at hR
    cases hR
  · have e1 : h' = 0 := by omega
    have e2 : q' = 0 := by omega
    subst e1 e2
    have hz4 := hb4.size
    have HB4 := Lib.hid (HB3.out.trans (hb4.mono (by omega)))
    have HM4 := Lib.hid (show RgM w4 b (newR n).s (newR n).h (newR n).q from hM)
    have hbl := hM.lt
    clear hb4 hM B eh eq HI3 HB3
    have hmk := mkInts m (by omega) w4
    go_wp2_with fail
    have hbT := (Below.refl w4.heap.size w4).alloc (Nat.le_refl _) (.cells (nums (List.replicate m 0)).toArray 3)
    have HM5 := Lib.hid (HM4.out.below hbT hbl)
    have HB5 := Lib.hid (HB4.out.trans (hbT.mono (by omega)))
    have HT5 := Lib.hid (BlkL.new w4 3 (nums (List.replicate m 0)))
    generalize hw5 : w4.alloc (.cells (nums (List.replicate m 0)).toArray 3) = w5 at *
    have hz5 : w5.heap.size = w4.heap.size + 1 := by rw [← hw5]; simp
    clear hbT hw5 HM4 HB4 hmk
    go_loopw [36] (fun i wr => ∃ k : Nat, k ≤ m ∧ i = .int .i64 k ∧ RgM wr b (runR (newR n) ops k).1.s (runR (newR n) ops k).1.h (runR (newR n) ops k).1.q ∧ BlkL wr w4.heap.size 3 (nums (tellTo (newR n) ops m k)) ∧ Below w1.heap.size w1 wr ∧ w5.heap.size ≤ wr.heap.size) (fun i _ => m - (intOf i).toNat)
    case atStart => exact ⟨0, Nat.zero_le _, rfl, HM5.out, by simpa [tellTo, runR] using HT5.out, HB5.out, Nat.le_refl _⟩
    case round =>
      obtain ⟨k, hk, rfl, hM, hT, hbw, hzr⟩ := hrel
      have HM := Lib.hid hM
      have HT := Lib.hid hT
      have HBW := Lib.hid hbw
      have HRK := Lib.hid (runR_ok HOK.out ops k).1
      have hlen := tellTo_length (d := newR n) (ops := ops) hk
      have HLEN := Lib.hid hlen
      clear hM hT hbw HM5 HB5 HT5 hlen
      by_cases hlt : k < m
      · have hkl : k < ops.length := by have := HN.out; omega
        have hx := getD_some hkl
        have HWX := Lib.hid (HW.out (ops.getD k 0) (List.mem_of_getElem? hx))
        have HSET := Lib.hid (tellTo_set (d := newR n) (ops := ops) hlt)
        have HRS := Lib.hid (show (runR (newR n) ops (k + 1)).1 = (stepR (runR (newR n) ops k).1 (ops.getD k 0)).1 from rfl)
        obtain ⟨g, rfl, hgl, hcell⟩ := (HO1.out.below HBW.out) k _ hx
        generalize ops.getD k 0 = x at *
        generalize (runR (newR n) ops k).1 = d at *
        clear hx
        go_wp2_with fail
        refine (play_any b d.s d.h d.q x _ HRK.out.b HM.out HWX.out).mono ?_
        rintro e w6 ⟨rfl, hM6, hg6⟩
        have HM6 := Lib.hid hM6
        have HT6 := Lib.hid (HT.out.grown hg6 (by intro e; injection e; omega))
        have HB6 := Lib.hid (HBW.out.grown hg6 HBW.out.size (fun j hj => by injection hj; omega))
        have hz6 := hg6.size
        clear hM6 hg6 HM HT HBW
        have hcell2 : ∃ u, w6.cell? ⟨w4.heap.size, k, none⟩ = some u := HT6.out.some_ (by rw [nums_length, HLEN.out]; omega)
        obtain ⟨u, hu⟩ := hcell2
        have hf := HT6.out.frozen k
        generalize hst : stepR d x = st at *
        have HST := Lib.hid hst
        clear hst
        go_wp2
        go_roundw
        case rel =>
          refine ⟨k + 1, by omega, by go_num, ?_, ?_, HB6.out.setCell (p := ⟨w4.heap.size, k, none⟩) (by dsimp only; omega) _, by simp [World.setCell]; omega⟩
          · rw [HRS.out]
            exact BlkL.far HM6.out (by dsimp only; omega) _
          · have h7 := HT6.out.set k (.int .i64 st.2)
            have e1 : (nums (tellTo (newR n) ops m k)).set k (.int .i64 st.2) = nums (tellTo (newR n) ops m (k + 1)) := by rw [← HSET.out]; simp [nums]
            rw [e1] at h7
            exact h7
        case measure => simp [intOf]; omega
      · obtain rfl : k = m := by omega
        have HTT := Lib.hid (tellTo_all (newR n) ops k)
        have HTL := Lib.hid (runR_told (newR n) ops k)
        have HKB := Lib.hid (HK0.out.below HBW.out (by omega))
        go_wp2_with fail
        refine (dequeOf_any b _ _ _ _ HRK.out.b HM.out).mono ?_
        rintro e w6 ⟨hb6, A2, c2, rfl, hlo2, hcc2, hrow2⟩
        have hz6 := hb6.size
        have HB6 := Lib.hid ((HB0.out.trans (HBW.out.mono (by omega))).trans (hb6.mono (by omega)))
        have HT6 := Lib.hid (HT.out.below hb6 (by omega))
        have HLO2 := Lib.hid hlo2
        have HCC2 := Lib.hid hcc2
        have HR2 := Lib.hid hrow2
        have kb := HKB.out.below hb6 (by omega)
        have d0 := kb.cell 0
        have d1 := kb.cell 1
        have d2 := kb.cell 2
        have y0 := kb.frozen 0
        have y1 := kb.frozen 1
        have y2 := kb.frozen 2
        simp only [List.getElem?_cons_zero, List.getElem?_cons_succ] at d0 d1 d2
        clear hb6 hlo2 hcc2 hrow2 kb HM HT HBW
        go_wp2
        refine bodyPost_ret (v := .tuple #[.agg #[.slice A2 (runR (newR n) ops k).1.s.length c2, .int .i64 ((runR (newR n) ops k).1.h : Nat), .int .i64 ((runR (newR n) ops k).1.q : Nat)], .slice (some ⟨w4.heap.size, 0, none⟩) k k]) (by simp [results, Try.results16, go_sem, d0, d1, d2]) rfl ?_
        refine ⟨?_, A2, c2, some ⟨w4.heap.size, 0, none⟩, k, by rw [HTL.out], fun b hb => by have := HLO2.out b hb; omega, fun b hb => by simp at hb; omega, fun b hb e => by have := HLO2.out b hb; simp at e; omega, HCC2.out, (fun h => by cases h), ?_, .inr ⟨w4.heap.size, [], rfl, ?_⟩⟩
        · repeat (refine Below.setCell ?_ (by dsimp only; omega) _)
          exact HB6.out
        · exact ((HR2.out.set (fun b hb => by have := HLO2.out b hb; simp; omega) _).set (fun b hb => by have := HLO2.out b hb; simp; omega) _).set (fun b hb => by have := HLO2.out b hb; simp; omega) _
        · rw [List.append_nil, ← HTT.out]
          repeat (refine BlkL.far ?_ (by dsimp only; omega) _)
          exact HT6.out
end Go.Proofs.Ytkpkchlbljlbnaa
