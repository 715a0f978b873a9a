/-
  PushLast, PushFirst, PopFirst and PopLast of the model.
-/
import Derived.Test.YtkpkchlbljlbnaaDqp
namespace Go.Proofs.Ytkpkchlbljlbnaa
open Go.RowKit
set_option linter.unusedVariables false

set_option maxHeartbeats 2000000 in
theorem sPushLast_any (A : Option Addr) (s : List Int) (c : Nat) (H Q x : Int) (w : World) (hm : s.length ≤ 2097152) (HI : IS w A s) :
    Calls Try.prog 29 #[.agg #[.slice A s.length c, .int .i64 H, .int .i64 Q], .int .i64 x] w (DqOut w (pushL s H Q x).s (pushL s H Q x).h (pushL s H Q x).q (pushV (pushL s H Q x).ok)) := by
  have HB0 := Lib.hid (((Below.refl w.heap.size w).alloc (Nat.le_refl _) (.cells #[.slice A s.length c, .int .i64 H, .int .i64 Q] 28)).alloc (by simp) (.cells #[.slice none 0 0, .int .i64 0, .int .i64 0] 28))
  have HI1 := Lib.hid (HI.below HB0.out)
  have K0 := (BlkL.new w 28 [.slice A s.length c, .int .i64 H, .int .i64 Q]).alloc (.cells #[.slice none 0 0, .int .i64 0, .int .i64 0] 28)
  have K1 := BlkL.new (w.alloc (.cells #[.slice A s.length c, .int .i64 H, .int .i64 Q] 28)) 28 [.slice none 0 0, .int .i64 0, .int .i64 0]
  simp only [World.size_alloc] at K1
  have HK0 := Lib.hid K0
  have HK1 := Lib.hid K1
  clear HI K0 K1
  go_enter Try.func29, Try.ntmps29
  go_wp2_with fail
  generalize hw1 : (w.alloc (.cells #[.slice A s.length c, .int .i64 H, .int .i64 Q] 28)).alloc (.cells #[.slice none 0 0, .int .i64 0, .int .i64 0] 28) = w1 at *
  have hz1 : w1.heap.size = w.heap.size + 1 + 1 := by rw [← hw1]; simp
  clear hw1
  refine (l04Copy_any A s c H Q _ hm HI1.out).mono ?_
  rintro e w2 ⟨hb2, A1, c1, rfl, hlo, hcc, hrow⟩
  have hz2 := hb2.size
  have HKA := Lib.hid (HK0.out.below hb2 (by omega))
  have HKB := Lib.hid (HK1.out.below hb2 (by omega))
  have HI2 := Lib.hid (HI1.out.below hb2)
  have HB2 := Lib.hid (HB0.out.trans (hb2.mono (by omega)))
  have HLO := Lib.hid hlo
  have HLT := Lib.hid hrow.lt
  have HCC := Lib.hid hcc
  have HR2 := Lib.hid hrow
  clear hb2 hlo hcc hrow
  have ak := HKA.out
  have a0 := ak.cell 0
  have a1 := ak.cell 1
  have a2 := ak.cell 2
  simp only [List.getElem?_cons_zero, List.getElem?_cons_succ] at a0 a1 a2
  clear ak
  have lta : w.heap.size < w2.heap.size := by omega
  go_wp2_with fail
  clear a0 a1 a2 lta
  have hbA := (Below.refl w2.heap.size w2).alloc (Nat.le_refl _) (.cells #[.slice A1 s.length c1, .int .i64 H, .int .i64 Q] 28)
  have HKC := Lib.hid (BlkL.new w2 28 [.slice A1 s.length c1, .int .i64 H, .int .i64 Q])
  have HKA3 := Lib.hid (HKA.out.below hbA (by omega))
  have HKB3 := Lib.hid (HKB.out.below hbA (by omega))
  have HI3 := Lib.hid (HI2.out.below hbA)
  have HR3 := Lib.hid (HR2.out.below hbA)
  have HB3 := Lib.hid (HB2.out.trans (hbA.mono (by omega)))
  generalize hw3 : w2.alloc (.cells #[.slice A1 s.length c1, .int .i64 H, .int .i64 Q] 28) = w3 at *
  have hz3 : w3.heap.size = w2.heap.size + 1 := by rw [← hw3]; simp
  clear hbA hw3 HKA HKB HI2 HR2 HB2
  refine (sDequeOk_any A s c H Q _ hm HI3.out).mono ?_
  rintro e w4 ⟨rfl, hb4⟩
  have hz4 := hb4.size
  have HKA4 := Lib.hid (HKA3.out.below hb4 (by omega))
  have HKB4 := Lib.hid (HKB3.out.below hb4 (by omega))
  have HKC4 := Lib.hid (HKC.out.below hb4 (by omega))
  have HI4 := Lib.hid (HI3.out.below hb4)
  have HR := Lib.hid (HR3.out.below hb4)
  have HB4 := Lib.hid (HB3.out.trans (hb4.mono (by omega)))
  clear hb4 HKA3 HKB3 HKC HI3 HR3 HB3
  have lt0 : w.heap.size < w2.heap.size := by omega
  have lt1 : w.heap.size + 1 < w2.heap.size := by omega
  have n0 : ¬ w2.heap.size = w.heap.size := by omega
  have n1' : ¬ w2.heap.size = w.heap.size + 1 := by omega
  have n2' : ¬ w.heap.size = w2.heap.size := by omega
  have n3' : ¬ w.heap.size + 1 = w2.heap.size := by omega
  have ak := HKA4.out
  have a0 := ak.cell 0
  have a1 := ak.cell 1
  have a2 := ak.cell 2
  simp only [List.getElem?_cons_zero, List.getElem?_cons_succ] at a0 a1 a2
  clear ak
  have dk := HKB4.out
  have d0 := dk.cell 0
  have d1 := dk.cell 1
  have d2 := dk.cell 2
  have y0 := dk.frozen 0
  have y1 := dk.frozen 1
  have y2 := dk.frozen 2
  simp only [List.getElem?_cons_zero, List.getElem?_cons_succ] at d0 d1 d2
  clear dk
  have ok := HKC4.out
  have o0 := ok.cell 0
  have o1 := ok.cell 1
  have o2 := ok.cell 2
  have z0 := ok.frozen 0
  have z1 := ok.frozen 1
  have z2 := ok.frozen 2
  simp only [List.getElem?_cons_zero, List.getElem?_cons_succ] at o0 o1 o2
  clear ok
  generalize w2.heap.size = g2 at *
  cases hd : dqB s H Q
  · have HE := Lib.hid (show pushL s H Q x = ⟨s, H, Q, 0, false⟩ from pushL_no (.inl hd))
    clear hd
    go_wp2
    rw [HE.out]
    refine bodyPost_ret (v := pushV false (.agg #[.slice A1 s.length c1, .int .i64 H, .int .i64 Q])) (by simp [results, Try.results29, go_sem, d0, d1, d2, pushV]) rfl ?_
    refine ⟨?_, A1, c1, rfl, fun b hb => by have := HLO.out b hb; omega, HCC.out, ?_⟩
    · repeat (refine Below.setCell ?_ (by dsimp only; omega) _)
      exact HB4.out
    · exact ((HR.out.set (fun b hb => by have := HLO.out b hb; simp; omega) _).set (fun b hb => by have := HLO.out b hb; simp; omega) _).set (fun b hb => by have := HLO.out b hb; simp; omega) _
  · have hd' := hd
    simp only [dqB, Bool.and_eq_true] at hd'
    obtain ⟨h, q, rfl, rfl, B⟩ := inR_true hd'.1
    have hr : restB s h q = true := by simpa using hd'.2
    clear hd hd'
    obtain ⟨n1, n2, h1, q1⟩ := B
    have B : RgB s h q := ⟨n1, n2, h1, q1⟩
    by_cases hq : q = s.length
    · have HE := Lib.hid (show pushL s h q x = ⟨s, h, q, 0, false⟩ from pushL_no (.inr (by omega)))
      have e1 : ((q : Int) == (s.length : Int)) = true := by simp; omega
      have e2 : (q == s.length) = true := by simp; omega
      clear hr B hq
      go_wp2
      rw [HE.out]
      refine bodyPost_ret (v := pushV false (.agg #[.slice A1 s.length c1, .int .i64 (h : Int), .int .i64 (q : Int)])) (by simp [results, Try.results29, go_sem, d0, d1, d2, pushV]) rfl ?_
      refine ⟨?_, A1, c1, rfl, fun b hb => by have := HLO.out b hb; omega, HCC.out, ?_⟩
      · repeat (refine Below.setCell ?_ (by dsimp only; omega) _)
        exact HB4.out
      · exact ((HR.out.set (fun b hb => by have := HLO.out b hb; simp; omega) _).set (fun b hb => by have := HLO.out b hb; simp; omega) _).set (fun b hb => by have := HLO.out b hb; simp; omega) _
    · have HE := Lib.hid (pushL_yes (x := x) B hr (by omega))
      have e1 : ((q : Int) == (s.length : Int)) = false := by simp; omega
      have e2 : (q == s.length) = false := by simp; omega
      clear hr B
      obtain ⟨g, rest, rfl, hg⟩ : ∃ g rest, A1 = some ⟨g, 0, none⟩ ∧ BlkL w4 g 3 (nums s ++ rest) := by
        rcases HR.out with ⟨_, hnil⟩ | ⟨g, rest, e, hg⟩
        · exfalso; rw [hnil] at n1; simp at n1
        · exact ⟨g, rest, e, hg⟩
      have HG := Lib.hid hg
      have hgl := HLO.out g rfl
      have hgu := HLT.out g rfl
      have m0 : ¬ g = w.heap.size := by omega
      have m1 : ¬ g = w.heap.size + 1 := by omega
      have m2 : ¬ g = g2 := by omega
      have m3 : ¬ w.heap.size = g := by omega
      have m4 : ¬ w.heap.size + 1 = g := by omega
      have m5 : ¬ g2 = g := by omega
      clear hg
      have hpl := plc_lt h q n1
      have hcell : ∃ u, w4.cell? ⟨g, plc s.length h q, none⟩ = some u := ⟨_, (HG.out.cell _).trans ((List.getElem?_append_left (by rw [nums_length]; omega)).trans (nums_at (getD_some (by omega))))⟩
      obtain ⟨u, hu⟩ := hcell
      have hf := HG.out.frozen (plc s.length h q)
      have x1 : IntKind.i64.wrap ((h : Int) + q) = h + q := IntWalk.i64_in _ (by omega)
      have x2 := plc_mod (k := q) n1 h1 (by omega) n2
      have x4 : ((h : Int) + q) % (s.length : Int) = (plc s.length h q : Nat) := by unfold plc; simp
      have HQ := Lib.hid hpl
      have hp1 : ((plc s.length h q : Nat) : Int) < (s.length : Int) := by omega
      have hlen : (s.set (plc s.length h q) x).length = s.length := List.length_set
      have HLEN := Lib.hid hlen
      clear hlen
      generalize plc s.length h q = p at *
      generalize hsl : s.length = n at *
      have HSL := Lib.hid hsl
      clear hsl
      have x3 : ((n : Int) == 0) = false := by simp; omega
      go_wp2
      refine wp_region_tail 11 (fun w' => ∃ m, w' = w4.drewN m) (by kernel_rfl) (by kernel_rfl) ⟨1, rfl⟩ ?_
      simp only [List.take_succ_cons, List.take_zero, List.drop_succ_cons, List.drop_zero]
      repeat (go_big_quiet_step (fail))
      refine wpQuiet_nil ?_
      rintro w5 ⟨m, rfl⟩
      go_wp2
      rw [HE.out]
      refine bodyPost_ret (v := pushV true (.agg #[.slice (some ⟨g, 0, none⟩) n c1, .int .i64 (h : Int), .int .i64 ((q + 1 : Nat) : Int)])) (by simp [results, Try.results29, go_sem, d0, d1, d2, pushV]) rfl ?_
      refine ⟨?_, some ⟨g, 0, none⟩, c1, by first | rfl | (dsimp only; rw [HLEN.out]), fun b hb => by have := HLO.out b hb; omega, HCC.out, ?_⟩
      · repeat (refine Below.setCell ?_ (by dsimp only; omega) _)
        first | exact HB4.out | exact below_drewN HB4.out _
      · refine .inr ⟨g, rest, rfl, ?_⟩
        rw [← nums_set_app _ _ (by have := HSL.out; have := HQ.out; omega) _]
        repeat (refine BlkL.far ?_ (by dsimp only; omega) _)
        refine BlkL.set ?_ _ _
        repeat (refine BlkL.far ?_ (by dsimp only; omega) _)
        first | exact HG.out | exact HG.out.drewN _

set_option maxHeartbeats 2000000 in
theorem sPushFirst_any (A : Option Addr) (s : List Int) (c : Nat) (H Q x : Int) (w : World) (hm : s.length ≤ 2097152) (HI : IS w A s) :
    Calls Try.prog 31 #[.agg #[.slice A s.length c, .int .i64 H, .int .i64 Q], .int .i64 x] w (DqOut w (pushF s H Q x).s (pushF s H Q x).h (pushF s H Q x).q (pushV (pushF s H Q x).ok)) := by
  have HB0 := Lib.hid (((Below.refl w.heap.size w).alloc (Nat.le_refl _) (.cells #[.slice A s.length c, .int .i64 H, .int .i64 Q] 28)).alloc (by simp) (.cells #[.slice none 0 0, .int .i64 0, .int .i64 0] 28))
  have HI1 := Lib.hid (HI.below HB0.out)
  have K0 := (BlkL.new w 28 [.slice A s.length c, .int .i64 H, .int .i64 Q]).alloc (.cells #[.slice none 0 0, .int .i64 0, .int .i64 0] 28)
  have K1 := BlkL.new (w.alloc (.cells #[.slice A s.length c, .int .i64 H, .int .i64 Q] 28)) 28 [.slice none 0 0, .int .i64 0, .int .i64 0]
  simp only [World.size_alloc] at K1
  have HK0 := Lib.hid K0
  have HK1 := Lib.hid K1
  clear HI K0 K1
  go_enter Try.func31, Try.ntmps31
  go_wp2_with fail
  generalize hw1 : (w.alloc (.cells #[.slice A s.length c, .int .i64 H, .int .i64 Q] 28)).alloc (.cells #[.slice none 0 0, .int .i64 0, .int .i64 0] 28) = w1 at *
  have hz1 : w1.heap.size = w.heap.size + 1 + 1 := by rw [← hw1]; simp
  clear hw1
  refine (l04Copy_any A s c H Q _ hm HI1.out).mono ?_
  rintro e w2 ⟨hb2, A1, c1, rfl, hlo, hcc, hrow⟩
  have hz2 := hb2.size
  have HKA := Lib.hid (HK0.out.below hb2 (by omega))
  have HKB := Lib.hid (HK1.out.below hb2 (by omega))
  have HI2 := Lib.hid (HI1.out.below hb2)
  have HB2 := Lib.hid (HB0.out.trans (hb2.mono (by omega)))
  have HLO := Lib.hid hlo
  have HLT := Lib.hid hrow.lt
  have HCC := Lib.hid hcc
  have HR2 := Lib.hid hrow
  clear hb2 hlo hcc hrow
  have ak := HKA.out
  have a0 := ak.cell 0
  have a1 := ak.cell 1
  have a2 := ak.cell 2
  simp only [List.getElem?_cons_zero, List.getElem?_cons_succ] at a0 a1 a2
  clear ak
  have lta : w.heap.size < w2.heap.size := by omega
  go_wp2_with fail
  clear a0 a1 a2 lta
  have hbA := (Below.refl w2.heap.size w2).alloc (Nat.le_refl _) (.cells #[.slice A1 s.length c1, .int .i64 H, .int .i64 Q] 28)
  have HKC := Lib.hid (BlkL.new w2 28 [.slice A1 s.length c1, .int .i64 H, .int .i64 Q])
  have HKA3 := Lib.hid (HKA.out.below hbA (by omega))
  have HKB3 := Lib.hid (HKB.out.below hbA (by omega))
  have HI3 := Lib.hid (HI2.out.below hbA)
  have HR3 := Lib.hid (HR2.out.below hbA)
  have HB3 := Lib.hid (HB2.out.trans (hbA.mono (by omega)))
  generalize hw3 : w2.alloc (.cells #[.slice A1 s.length c1, .int .i64 H, .int .i64 Q] 28) = w3 at *
  have hz3 : w3.heap.size = w2.heap.size + 1 := by rw [← hw3]; simp
  clear hbA hw3 HKA HKB HI2 HR2 HB2
  refine (sDequeOk_any A s c H Q _ hm HI3.out).mono ?_
  rintro e w4 ⟨rfl, hb4⟩
  have hz4 := hb4.size
  have HKA4 := Lib.hid (HKA3.out.below hb4 (by omega))
  have HKB4 := Lib.hid (HKB3.out.below hb4 (by omega))
  have HKC4 := Lib.hid (HKC.out.below hb4 (by omega))
  have HI4 := Lib.hid (HI3.out.below hb4)
  have HR := Lib.hid (HR3.out.below hb4)
  have HB4 := Lib.hid (HB3.out.trans (hb4.mono (by omega)))
  clear hb4 HKA3 HKB3 HKC HI3 HR3 HB3
  have lt0 : w.heap.size < w2.heap.size := by omega
  have lt1 : w.heap.size + 1 < w2.heap.size := by omega
  have n0 : ¬ w2.heap.size = w.heap.size := by omega
  have n1' : ¬ w2.heap.size = w.heap.size + 1 := by omega
  have n2' : ¬ w.heap.size = w2.heap.size := by omega
  have n3' : ¬ w.heap.size + 1 = w2.heap.size := by omega
  have ak := HKA4.out
  have a0 := ak.cell 0
  have a1 := ak.cell 1
  have a2 := ak.cell 2
  simp only [List.getElem?_cons_zero, List.getElem?_cons_succ] at a0 a1 a2
  clear ak
  have dk := HKB4.out
  have d0 := dk.cell 0
  have d1 := dk.cell 1
  have d2 := dk.cell 2
  have y0 := dk.frozen 0
  have y1 := dk.frozen 1
  have y2 := dk.frozen 2
  simp only [List.getElem?_cons_zero, List.getElem?_cons_succ] at d0 d1 d2
  clear dk
  have ok := HKC4.out
  have o0 := ok.cell 0
  have o1 := ok.cell 1
  have o2 := ok.cell 2
  have z0 := ok.frozen 0
  have z1 := ok.frozen 1
  have z2 := ok.frozen 2
  simp only [List.getElem?_cons_zero, List.getElem?_cons_succ] at o0 o1 o2
  clear ok
  generalize w2.heap.size = g2 at *
  cases hd : dqB s H Q
  · have HE := Lib.hid (show pushF s H Q x = ⟨s, H, Q, 0, false⟩ from pushF_no (.inl hd))
    clear hd
    go_wp2
    rw [HE.out]
    refine bodyPost_ret (v := pushV false (.agg #[.slice A1 s.length c1, .int .i64 H, .int .i64 Q])) (by simp [results, Try.results31, go_sem, d0, d1, d2, pushV]) rfl ?_
    refine ⟨?_, A1, c1, rfl, fun b hb => by have := HLO.out b hb; omega, HCC.out, ?_⟩
    · repeat (refine Below.setCell ?_ (by dsimp only; omega) _)
      exact HB4.out
    · exact ((HR.out.set (fun b hb => by have := HLO.out b hb; simp; omega) _).set (fun b hb => by have := HLO.out b hb; simp; omega) _).set (fun b hb => by have := HLO.out b hb; simp; omega) _
  · have hd' := hd
    simp only [dqB, Bool.and_eq_true] at hd'
    obtain ⟨h, q, rfl, rfl, B⟩ := inR_true hd'.1
    have hr : restB s h q = true := by simpa using hd'.2
    clear hd hd'
    obtain ⟨n1, n2, h1, q1⟩ := B
    have B : RgB s h q := ⟨n1, n2, h1, q1⟩
    by_cases hq : q = s.length
    · have HE := Lib.hid (show pushF s h q x = ⟨s, h, q, 0, false⟩ from pushF_no (.inr (by omega)))
      have e1 : ((q : Int) == (s.length : Int)) = true := by simp; omega
      have e2 : (q == s.length) = true := by simp; omega
      clear hr B hq
      go_wp2
      rw [HE.out]
      refine bodyPost_ret (v := pushV false (.agg #[.slice A1 s.length c1, .int .i64 (h : Int), .int .i64 (q : Int)])) (by simp [results, Try.results31, go_sem, d0, d1, d2, pushV]) rfl ?_
      refine ⟨?_, A1, c1, rfl, fun b hb => by have := HLO.out b hb; omega, HCC.out, ?_⟩
      · repeat (refine Below.setCell ?_ (by dsimp only; omega) _)
        exact HB4.out
      · exact ((HR.out.set (fun b hb => by have := HLO.out b hb; simp; omega) _).set (fun b hb => by have := HLO.out b hb; simp; omega) _).set (fun b hb => by have := HLO.out b hb; simp; omega) _
    · have HE := Lib.hid (pushF_yes (x := x) B hr (by omega))
      have e1 : ((q : Int) == (s.length : Int)) = false := by simp; omega
      have e2 : (q == s.length) = false := by simp; omega
      clear hr B
      obtain ⟨g, rest, rfl, hg⟩ : ∃ g rest, A1 = some ⟨g, 0, none⟩ ∧ BlkL w4 g 3 (nums s ++ rest) := by
        rcases HR.out with ⟨_, hnil⟩ | ⟨g, rest, e, hg⟩
        · exfalso; rw [hnil] at n1; simp at n1
        · exact ⟨g, rest, e, hg⟩
      have HG := Lib.hid hg
      have hgl := HLO.out g rfl
      have hgu := HLT.out g rfl
      have m0 : ¬ g = w.heap.size := by omega
      have m1 : ¬ g = w.heap.size + 1 := by omega
      have m2 : ¬ g = g2 := by omega
      have m3 : ¬ w.heap.size = g := by omega
      have m4 : ¬ w.heap.size + 1 = g := by omega
      have m5 : ¬ g2 = g := by omega
      clear hg
      have hpl := plc_lt h (s.length - 1) n1
      have hcell : ∃ u, w4.cell? ⟨g, plc s.length h (s.length - 1), none⟩ = some u := ⟨_, (HG.out.cell _).trans ((List.getElem?_append_left (by rw [nums_length]; omega)).trans (nums_at (getD_some (by omega))))⟩
      obtain ⟨u, hu⟩ := hcell
      have hf := HG.out.frozen (plc s.length h (s.length - 1))
      have x4 : ((h : Int) + (s.length : Int) - 1) % (s.length : Int) = (plc s.length h (s.length - 1) : Nat) := by unfold plc; rw [show (h : Int) + s.length - 1 = ((h + (s.length - 1) : Nat) : Int) by omega]; simp
      have x2 : IntKind.i64.wrap (((h : Int) + (s.length : Int) - 1).tmod (s.length : Int)) = (plc s.length h (s.length - 1) : Nat) := by rw [Int.tmod_eq_emod_of_nonneg (by omega), x4]; exact IntWalk.i64_in _ (by omega)
      have x1 : IntKind.i64.wrap ((h : Int) + (s.length : Int)) = h + s.length := IntWalk.i64_in _ (by omega)
      have x5 : IntKind.i64.wrap ((h : Int) + (s.length : Int) - 1) = h + s.length - 1 := IntWalk.i64_in _ (by omega)
      have HQ := Lib.hid hpl
      have hp1 : ((plc s.length h (s.length - 1) : Nat) : Int) < (s.length : Int) := by omega
      have HLEN := Lib.hid (show (s.set (plc s.length h (s.length - 1)) x).length = s.length from List.length_set)
      generalize plc s.length h (s.length - 1) = p at *
      generalize hsl : s.length = n at *
      have HSL := Lib.hid hsl
      clear hsl
      have x3 : ((n : Int) == 0) = false := by simp; omega
      go_wp2
      rw [HE.out]
      refine bodyPost_ret (v := pushV true (.agg #[.slice (some ⟨g, 0, none⟩) n c1, .int .i64 (p : Int), .int .i64 ((q + 1 : Nat) : Int)])) (by simp [results, Try.results31, go_sem, d0, d1, d2, pushV]) rfl ?_
      refine ⟨?_, some ⟨g, 0, none⟩, c1, by first | rfl | (dsimp only; rw [HLEN.out]), fun b hb => by have := HLO.out b hb; omega, HCC.out, ?_⟩
      · repeat (refine Below.setCell ?_ (by dsimp only; omega) _)
        first | exact HB4.out | exact below_drewN HB4.out _
      · refine .inr ⟨g, rest, rfl, ?_⟩
        rw [← nums_set_app _ _ (by have := HSL.out; have := HQ.out; omega) _]
        repeat (refine BlkL.far ?_ (by dsimp only; omega) _)
        refine BlkL.set ?_ _ _
        repeat (refine BlkL.far ?_ (by dsimp only; omega) _)
        first | exact HG.out | exact HG.out.drewN _

set_option maxHeartbeats 2000000 in
theorem sPopFirst_any (A : Option Addr) (s : List Int) (c : Nat) (H Q : Int) (w : World) (hm : s.length ≤ 2097152) (HI : IS w A s) :
    Calls Try.prog 33 #[.agg #[.slice A s.length c, .int .i64 H, .int .i64 Q]] w (DqOut w (popF s H Q).s (popF s H Q).h (popF s H Q).q (popV (popF s H Q).x (popF s H Q).ok)) := by
  have HB0 := Lib.hid (((Below.refl w.heap.size w).alloc (Nat.le_refl _) (.cells #[.slice A s.length c, .int .i64 H, .int .i64 Q] 28)).alloc (by simp) (.cells #[.slice none 0 0, .int .i64 0, .int .i64 0] 28))
  have HI1 := Lib.hid (HI.below HB0.out)
  have K0 := (BlkL.new w 28 [.slice A s.length c, .int .i64 H, .int .i64 Q]).alloc (.cells #[.slice none 0 0, .int .i64 0, .int .i64 0] 28)
  have K1 := BlkL.new (w.alloc (.cells #[.slice A s.length c, .int .i64 H, .int .i64 Q] 28)) 28 [.slice none 0 0, .int .i64 0, .int .i64 0]
  simp only [World.size_alloc] at K1
  have HK0 := Lib.hid K0
  have HK1 := Lib.hid K1
  clear HI K0 K1
  go_enter Try.func33, Try.ntmps33
  go_wp2_with fail
  generalize hw1 : (w.alloc (.cells #[.slice A s.length c, .int .i64 H, .int .i64 Q] 28)).alloc (.cells #[.slice none 0 0, .int .i64 0, .int .i64 0] 28) = w1 at *
  have hz1 : w1.heap.size = w.heap.size + 1 + 1 := by rw [← hw1]; simp
  clear hw1
  refine (l04Copy_any A s c H Q _ hm HI1.out).mono ?_
  rintro e w2 ⟨hb2, A1, c1, rfl, hlo, hcc, hrow⟩
  have hz2 := hb2.size
  have HKA := Lib.hid (HK0.out.below hb2 (by omega))
  have HKB := Lib.hid (HK1.out.below hb2 (by omega))
  have HI2 := Lib.hid (HI1.out.below hb2)
  have HB2 := Lib.hid (HB0.out.trans (hb2.mono (by omega)))
  have HLO := Lib.hid hlo
  have HLT := Lib.hid hrow.lt
  have HCC := Lib.hid hcc
  have HR2 := Lib.hid hrow
  clear hb2 hlo hcc hrow
  have ak := HKA.out
  have a0 := ak.cell 0
  have a1 := ak.cell 1
  have a2 := ak.cell 2
  simp only [List.getElem?_cons_zero, List.getElem?_cons_succ] at a0 a1 a2
  clear ak
  have lta : w.heap.size < w2.heap.size := by omega
  go_wp2_with fail
  clear a0 a1 a2 lta
  have hbA := (Below.refl w2.heap.size w2).alloc (Nat.le_refl _) (.cells #[.slice A1 s.length c1, .int .i64 H, .int .i64 Q] 28)
  have HKC := Lib.hid (BlkL.new w2 28 [.slice A1 s.length c1, .int .i64 H, .int .i64 Q])
  have HKA3 := Lib.hid (HKA.out.below hbA (by omega))
  have HKB3 := Lib.hid (HKB.out.below hbA (by omega))
  have HI3 := Lib.hid (HI2.out.below hbA)
  have HR3 := Lib.hid (HR2.out.below hbA)
  have HB3 := Lib.hid (HB2.out.trans (hbA.mono (by omega)))
  generalize hw3 : w2.alloc (.cells #[.slice A1 s.length c1, .int .i64 H, .int .i64 Q] 28) = w3 at *
  have hz3 : w3.heap.size = w2.heap.size + 1 := by rw [← hw3]; simp
  clear hbA hw3 HKA HKB HI2 HR2 HB2
  refine (sDequeOk_any A s c H Q _ hm HI3.out).mono ?_
  rintro e w4 ⟨rfl, hb4⟩
  have hz4 := hb4.size
  have HKA4 := Lib.hid (HKA3.out.below hb4 (by omega))
  have HKB4 := Lib.hid (HKB3.out.below hb4 (by omega))
  have HKC4 := Lib.hid (HKC.out.below hb4 (by omega))
  have HI4 := Lib.hid (HI3.out.below hb4)
  have HR := Lib.hid (HR3.out.below hb4)
  have HB4 := Lib.hid (HB3.out.trans (hb4.mono (by omega)))
  clear hb4 HKA3 HKB3 HKC HI3 HR3 HB3
  have lt0 : w.heap.size < w2.heap.size := by omega
  have lt1 : w.heap.size + 1 < w2.heap.size := by omega
  have n0 : ¬ w2.heap.size = w.heap.size := by omega
  have n1' : ¬ w2.heap.size = w.heap.size + 1 := by omega
  have n2' : ¬ w.heap.size = w2.heap.size := by omega
  have n3' : ¬ w.heap.size + 1 = w2.heap.size := by omega
  have ak := HKA4.out
  have a0 := ak.cell 0
  have a1 := ak.cell 1
  have a2 := ak.cell 2
  simp only [List.getElem?_cons_zero, List.getElem?_cons_succ] at a0 a1 a2
  clear ak
  have dk := HKB4.out
  have d0 := dk.cell 0
  have d1 := dk.cell 1
  have d2 := dk.cell 2
  have y0 := dk.frozen 0
  have y1 := dk.frozen 1
  have y2 := dk.frozen 2
  simp only [List.getElem?_cons_zero, List.getElem?_cons_succ] at d0 d1 d2
  clear dk
  have ok := HKC4.out
  have o0 := ok.cell 0
  have o1 := ok.cell 1
  have o2 := ok.cell 2
  have z0 := ok.frozen 0
  have z1 := ok.frozen 1
  have z2 := ok.frozen 2
  simp only [List.getElem?_cons_zero, List.getElem?_cons_succ] at o0 o1 o2
  clear ok
  generalize w2.heap.size = g2 at *
  cases hd : dqB s H Q
  · have HE := Lib.hid (show popF s H Q = ⟨s, H, Q, 0, false⟩ from popF_no (.inl hd))
    clear hd
    go_wp2
    rw [HE.out]
    refine bodyPost_ret (v := popV 0 false (.agg #[.slice A1 s.length c1, .int .i64 H, .int .i64 Q])) (by simp [results, Try.results33, go_sem, d0, d1, d2, popV]) rfl ?_
    refine ⟨?_, A1, c1, rfl, fun b hb => by have := HLO.out b hb; omega, HCC.out, ?_⟩
    · repeat (refine Below.setCell ?_ (by dsimp only; omega) _)
      exact HB4.out
    · exact ((HR.out.set (fun b hb => by have := HLO.out b hb; simp; omega) _).set (fun b hb => by have := HLO.out b hb; simp; omega) _).set (fun b hb => by have := HLO.out b hb; simp; omega) _
  · have hd' := hd
    simp only [dqB, Bool.and_eq_true] at hd'
    obtain ⟨h, q, rfl, rfl, B⟩ := inR_true hd'.1
    have hr : restB s h q = true := by simpa using hd'.2
    clear hd hd'
    obtain ⟨n1, n2, h1, q1⟩ := B
    have B : RgB s h q := ⟨n1, n2, h1, q1⟩
    cases q with
    | zero =>
      have HE := Lib.hid (show popF s h ((0 : Nat) : Int) = ⟨s, h, 0, 0, false⟩ from popF_no (.inr rfl))
      clear hr B
      go_wp2
      rw [HE.out]
      refine bodyPost_ret (v := popV 0 false (.agg #[.slice A1 s.length c1, .int .i64 (h : Int), .int .i64 0])) (by simp [results, Try.results33, go_sem, d0, d1, d2, popV]) rfl ?_
      refine ⟨?_, A1, c1, rfl, fun b hb => by have := HLO.out b hb; omega, HCC.out, ?_⟩
      · repeat (refine Below.setCell ?_ (by dsimp only; omega) _)
        exact HB4.out
      · exact ((HR.out.set (fun b hb => by have := HLO.out b hb; simp; omega) _).set (fun b hb => by have := HLO.out b hb; simp; omega) _).set (fun b hb => by have := HLO.out b hb; simp; omega) _
    | succ q =>
      have HE := Lib.hid (popF_yes B hr)
      have e1 : (((q : Int) + 1) == 0) = false := by simp; omega
      have e2 : (((q + 1 : Nat) : Int) == 0) = false := by simp; omega
      clear hr B
      obtain ⟨g, rest, rfl, hg⟩ : ∃ g rest, A1 = some ⟨g, 0, none⟩ ∧ BlkL w4 g 3 (nums s ++ rest) := by
        rcases HR.out with ⟨_, hnil⟩ | ⟨g, rest, e, hg⟩
        · exfalso; rw [hnil] at n1; simp at n1
        · exact ⟨g, rest, e, hg⟩
      have HG := Lib.hid hg
      have hgl := HLO.out g rfl
      have hgu := HLT.out g rfl
      have m0 : ¬ g = w.heap.size := by omega
      have m1 : ¬ g = w.heap.size + 1 := by omega
      have m2 : ¬ g = g2 := by omega
      have m3 : ¬ w.heap.size = g := by omega
      have m4 : ¬ w.heap.size + 1 = g := by omega
      have m5 : ¬ g2 = g := by omega
      clear hg
      have hpl := plc_lt h 1 n1
      have hx := getD_some h1
      have hcell : ∃ u, w4.cell? ⟨g, h, none⟩ = some u := ⟨_, (HG.out.cell _).trans ((List.getElem?_append_left (by rw [nums_length]; omega)).trans (nums_at (getD_some (by omega))))⟩
      obtain ⟨u, hu⟩ := hcell
      have hf := HG.out.frozen (h)
      have x4 : ((h : Int) + 1) % (s.length : Int) = (plc s.length h 1 : Nat) := by unfold plc; simp
      have x2 : IntKind.i64.wrap (((h : Int) + 1).tmod (s.length : Int)) = (plc s.length h 1 : Nat) := by rw [Int.tmod_eq_emod_of_nonneg (by omega), x4]; exact IntWalk.i64_in _ (by omega)
      have x1 : IntKind.i64.wrap ((h : Int) + 1) = h + 1 := IntWalk.i64_in _ (by omega)
      have hp1 : ((plc s.length h 1 : Nat) : Int) < (s.length : Int) := by omega
      have HLEN := Lib.hid (show (s.set h 0).length = s.length from List.length_set)
      generalize s.getD h 0 = x at *
      obtain ⟨ga, rfl, hga, hca⟩ := HI4.out h x hx
      clear hx
      generalize plc s.length h 1 = p at *
      generalize hsl : s.length = n at *
      have HSL := Lib.hid hsl
      clear hsl
      have x3 : ((n : Int) == 0) = false := by simp; omega
      go_wp2
      rw [HE.out]
      refine bodyPost_ret (v := popV x true (.agg #[.slice (some ⟨g, 0, none⟩) n c1, .int .i64 (p : Int), .int .i64 (q : Int)])) (by simp [results, Try.results33, go_sem, d0, d1, d2, popV]) rfl ?_
      refine ⟨?_, some ⟨g, 0, none⟩, c1, by first | rfl | (dsimp only; rw [HLEN.out]), fun b hb => by have := HLO.out b hb; omega, HCC.out, ?_⟩
      · repeat (refine Below.setCell ?_ (by dsimp only; omega) _)
        first | exact HB4.out | exact below_drewN HB4.out _
      · refine .inr ⟨g, rest, rfl, ?_⟩
        rw [← nums_set_app _ _ (by have := HSL.out; omega) _]
        repeat (refine BlkL.far ?_ (by dsimp only; omega) _)
        refine BlkL.set ?_ _ _
        repeat (refine BlkL.far ?_ (by dsimp only; omega) _)
        first | exact HG.out | exact HG.out.drewN _

set_option maxHeartbeats 2000000 in
theorem sPopLast_any (A : Option Addr) (s : List Int) (c : Nat) (H Q : Int) (w : World) (hm : s.length ≤ 2097152) (HI : IS w A s) :
    Calls Try.prog 35 #[.agg #[.slice A s.length c, .int .i64 H, .int .i64 Q]] w (DqOut w (popL s H Q).s (popL s H Q).h (popL s H Q).q (popV (popL s H Q).x (popL s H Q).ok)) := by
  have HB0 := Lib.hid (((Below.refl w.heap.size w).alloc (Nat.le_refl _) (.cells #[.slice A s.length c, .int .i64 H, .int .i64 Q] 28)).alloc (by simp) (.cells #[.slice none 0 0, .int .i64 0, .int .i64 0] 28))
  have HI1 := Lib.hid (HI.below HB0.out)
  have K0 := (BlkL.new w 28 [.slice A s.length c, .int .i64 H, .int .i64 Q]).alloc (.cells #[.slice none 0 0, .int .i64 0, .int .i64 0] 28)
  have K1 := BlkL.new (w.alloc (.cells #[.slice A s.length c, .int .i64 H, .int .i64 Q] 28)) 28 [.slice none 0 0, .int .i64 0, .int .i64 0]
  simp only [World.size_alloc] at K1
  have HK0 := Lib.hid K0
  have HK1 := Lib.hid K1
  clear HI K0 K1
  go_enter Try.func35, Try.ntmps35
  go_wp2_with fail
  generalize hw1 : (w.alloc (.cells #[.slice A s.length c, .int .i64 H, .int .i64 Q] 28)).alloc (.cells #[.slice none 0 0, .int .i64 0, .int .i64 0] 28) = w1 at *
  have hz1 : w1.heap.size = w.heap.size + 1 + 1 := by rw [← hw1]; simp
  clear hw1
  refine (l04Copy_any A s c H Q _ hm HI1.out).mono ?_
  rintro e w2 ⟨hb2, A1, c1, rfl, hlo, hcc, hrow⟩
  have hz2 := hb2.size
  have HKA := Lib.hid (HK0.out.below hb2 (by omega))
  have HKB := Lib.hid (HK1.out.below hb2 (by omega))
  have HI2 := Lib.hid (HI1.out.below hb2)
  have HB2 := Lib.hid (HB0.out.trans (hb2.mono (by omega)))
  have HLO := Lib.hid hlo
  have HLT := Lib.hid hrow.lt
  have HCC := Lib.hid hcc
  have HR2 := Lib.hid hrow
  clear hb2 hlo hcc hrow
  have ak := HKA.out
  have a0 := ak.cell 0
  have a1 := ak.cell 1
  have a2 := ak.cell 2
  simp only [List.getElem?_cons_zero, List.getElem?_cons_succ] at a0 a1 a2
  clear ak
  have lta : w.heap.size < w2.heap.size := by omega
  go_wp2_with fail
  clear a0 a1 a2 lta
  have hbA := (Below.refl w2.heap.size w2).alloc (Nat.le_refl _) (.cells #[.slice A1 s.length c1, .int .i64 H, .int .i64 Q] 28)
  have HKC := Lib.hid (BlkL.new w2 28 [.slice A1 s.length c1, .int .i64 H, .int .i64 Q])
  have HKA3 := Lib.hid (HKA.out.below hbA (by omega))
  have HKB3 := Lib.hid (HKB.out.below hbA (by omega))
  have HI3 := Lib.hid (HI2.out.below hbA)
  have HR3 := Lib.hid (HR2.out.below hbA)
  have HB3 := Lib.hid (HB2.out.trans (hbA.mono (by omega)))
  generalize hw3 : w2.alloc (.cells #[.slice A1 s.length c1, .int .i64 H, .int .i64 Q] 28) = w3 at *
  have hz3 : w3.heap.size = w2.heap.size + 1 := by rw [← hw3]; simp
  clear hbA hw3 HKA HKB HI2 HR2 HB2
  refine (sDequeOk_any A s c H Q _ hm HI3.out).mono ?_
  rintro e w4 ⟨rfl, hb4⟩
  have hz4 := hb4.size
  have HKA4 := Lib.hid (HKA3.out.below hb4 (by omega))
  have HKB4 := Lib.hid (HKB3.out.below hb4 (by omega))
  have HKC4 := Lib.hid (HKC.out.below hb4 (by omega))
  have HI4 := Lib.hid (HI3.out.below hb4)
  have HR := Lib.hid (HR3.out.below hb4)
  have HB4 := Lib.hid (HB3.out.trans (hb4.mono (by omega)))
  clear hb4 HKA3 HKB3 HKC HI3 HR3 HB3
  have lt0 : w.heap.size < w2.heap.size := by omega
  have lt1 : w.heap.size + 1 < w2.heap.size := by omega
  have n0 : ¬ w2.heap.size = w.heap.size := by omega
  have n1' : ¬ w2.heap.size = w.heap.size + 1 := by omega
  have n2' : ¬ w.heap.size = w2.heap.size := by omega
  have n3' : ¬ w.heap.size + 1 = w2.heap.size := by omega
  have ak := HKA4.out
  have a0 := ak.cell 0
  have a1 := ak.cell 1
  have a2 := ak.cell 2
  simp only [List.getElem?_cons_zero, List.getElem?_cons_succ] at a0 a1 a2
  clear ak
  have dk := HKB4.out
  have d0 := dk.cell 0
  have d1 := dk.cell 1
  have d2 := dk.cell 2
  have y0 := dk.frozen 0
  have y1 := dk.frozen 1
  have y2 := dk.frozen 2
  simp only [List.getElem?_cons_zero, List.getElem?_cons_succ] at d0 d1 d2
  clear dk
  have ok := HKC4.out
  have o0 := ok.cell 0
  have o1 := ok.cell 1
  have o2 := ok.cell 2
  have z0 := ok.frozen 0
  have z1 := ok.frozen 1
  have z2 := ok.frozen 2
  simp only [List.getElem?_cons_zero, List.getElem?_cons_succ] at o0 o1 o2
  clear ok
  generalize w2.heap.size = g2 at *
  cases hd : dqB s H Q
  · have HE := Lib.hid (show popL s H Q = ⟨s, H, Q, 0, false⟩ from popL_no (.inl hd))
    clear hd
    go_wp2
    rw [HE.out]
    refine bodyPost_ret (v := popV 0 false (.agg #[.slice A1 s.length c1, .int .i64 H, .int .i64 Q])) (by simp [results, Try.results35, go_sem, d0, d1, d2, popV]) rfl ?_
    refine ⟨?_, A1, c1, rfl, fun b hb => by have := HLO.out b hb; omega, HCC.out, ?_⟩
    · repeat (refine Below.setCell ?_ (by dsimp only; omega) _)
      exact HB4.out
    · exact ((HR.out.set (fun b hb => by have := HLO.out b hb; simp; omega) _).set (fun b hb => by have := HLO.out b hb; simp; omega) _).set (fun b hb => by have := HLO.out b hb; simp; omega) _
  · have hd' := hd
    simp only [dqB, Bool.and_eq_true] at hd'
    obtain ⟨h, q, rfl, rfl, B⟩ := inR_true hd'.1
    have hr : restB s h q = true := by simpa using hd'.2
    clear hd hd'
    obtain ⟨n1, n2, h1, q1⟩ := B
    have B : RgB s h q := ⟨n1, n2, h1, q1⟩
    cases q with
    | zero =>
      have HE := Lib.hid (show popL s h ((0 : Nat) : Int) = ⟨s, h, 0, 0, false⟩ from popL_no (.inr rfl))
      clear hr B
      go_wp2
      rw [HE.out]
      refine bodyPost_ret (v := popV 0 false (.agg #[.slice A1 s.length c1, .int .i64 (h : Int), .int .i64 0])) (by simp [results, Try.results35, go_sem, d0, d1, d2, popV]) rfl ?_
      refine ⟨?_, A1, c1, rfl, fun b hb => by have := HLO.out b hb; omega, HCC.out, ?_⟩
      · repeat (refine Below.setCell ?_ (by dsimp only; omega) _)
        exact HB4.out
      · exact ((HR.out.set (fun b hb => by have := HLO.out b hb; simp; omega) _).set (fun b hb => by have := HLO.out b hb; simp; omega) _).set (fun b hb => by have := HLO.out b hb; simp; omega) _
    | succ q =>
      have HE := Lib.hid (popL_yes B hr)
      have e1 : (((q : Int) + 1) == 0) = false := by simp; omega
      have e2 : (((q + 1 : Nat) : Int) == 0) = false := by simp; omega
      clear hr B
      obtain ⟨g, rest, rfl, hg⟩ : ∃ g rest, A1 = some ⟨g, 0, none⟩ ∧ BlkL w4 g 3 (nums s ++ rest) := by
        rcases HR.out with ⟨_, hnil⟩ | ⟨g, rest, e, hg⟩
        · exfalso; rw [hnil] at n1; simp at n1
        · exact ⟨g, rest, e, hg⟩
      have HG := Lib.hid hg
      have hgl := HLO.out g rfl
      have hgu := HLT.out g rfl
      have m0 : ¬ g = w.heap.size := by omega
      have m1 : ¬ g = w.heap.size + 1 := by omega
      have m2 : ¬ g = g2 := by omega
      have m3 : ¬ w.heap.size = g := by omega
      have m4 : ¬ w.heap.size + 1 = g := by omega
      have m5 : ¬ g2 = g := by omega
      clear hg
      have hpl := plc_lt h q n1
      have hx := getD_some hpl
      have hcell : ∃ u, w4.cell? ⟨g, plc s.length h q, none⟩ = some u := ⟨_, (HG.out.cell _).trans ((List.getElem?_append_left (by rw [nums_length]; omega)).trans (nums_at (getD_some (by omega))))⟩
      obtain ⟨u, hu⟩ := hcell
      have hf := HG.out.frozen (plc s.length h q)
      have x4 : ((h : Int) + q) % (s.length : Int) = (plc s.length h q : Nat) := by unfold plc; simp
      have x6 : ((h : Int) + (q + 1) - 1) % (s.length : Int) = (plc s.length h q : Nat) := by rw [show (h : Int) + (q + 1) - 1 = h + q by omega]; exact x4
      have x2 : IntKind.i64.wrap (((h : Int) + q).tmod (s.length : Int)) = (plc s.length h q : Nat) := plc_mod n1 h1 (by omega) n2
      have x7 : IntKind.i64.wrap (((h : Int) + (q + 1) - 1).tmod (s.length : Int)) = (plc s.length h q : Nat) := by rw [show (h : Int) + (q + 1) - 1 = h + q by omega]; exact x2
      have x1 : IntKind.i64.wrap ((h : Int) + (q + 1)) = h + (q + 1) := IntWalk.i64_in _ (by omega)
      have x5 : IntKind.i64.wrap ((h : Int) + (q + 1) - 1) = h + (q + 1) - 1 := IntWalk.i64_in _ (by omega)
      have HQ := Lib.hid hpl
      have hp1 : ((plc s.length h q : Nat) : Int) < (s.length : Int) := by omega
      have HLEN := Lib.hid (show (s.set (plc s.length h q) 0).length = s.length from List.length_set)
      generalize s.getD (plc s.length h q) 0 = x at *
      obtain ⟨ga, rfl, hga, hca⟩ := HI4.out (plc s.length h q) x hx
      clear hx
      generalize plc s.length h q = p at *
      generalize hsl : s.length = n at *
      have HSL := Lib.hid hsl
      clear hsl
      have x3 : ((n : Int) == 0) = false := by simp; omega
      go_wp2
      rw [HE.out]
      refine bodyPost_ret (v := popV x true (.agg #[.slice (some ⟨g, 0, none⟩) n c1, .int .i64 (h : Int), .int .i64 (q : Int)])) (by simp [results, Try.results35, go_sem, d0, d1, d2, popV]) rfl ?_
      refine ⟨?_, some ⟨g, 0, none⟩, c1, by first | rfl | (dsimp only; rw [HLEN.out]), fun b hb => by have := HLO.out b hb; omega, HCC.out, ?_⟩
      · repeat (refine Below.setCell ?_ (by dsimp only; omega) _)
        first | exact HB4.out | exact below_drewN HB4.out _
      · refine .inr ⟨g, rest, rfl, ?_⟩
        rw [← nums_set_app _ _ (by have := HSL.out; have := HQ.out; omega) _]
        repeat (refine BlkL.far ?_ (by dsimp only; omega) _)
        refine BlkL.set ?_ _ _
        repeat (refine BlkL.far ?_ (by dsimp only; omega) _)
        first | exact HG.out | exact HG.out.drewN _
end Go.Proofs.Ytkpkchlbljlbnaa
