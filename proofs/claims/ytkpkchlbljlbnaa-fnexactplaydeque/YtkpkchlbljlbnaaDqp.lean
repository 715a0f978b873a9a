/-
  PushLast, PushFirst, PopFirst and PopLast of the program.
-/
import Derived.Test.YtkpkchlbljlbnaaDqh
namespace Go.Proofs.Ytkpkchlbljlbnaa
open Go.RowKit
set_option linter.unusedVariables false

/-- what is left of a deque behind a push or a pop, what was popped, and whether it was done. -/
structure Res where
  s : List Int
  h : Int
  q : Int
  x : Int
  ok : Bool
def pushL (s : List Int) (H Q x : Int) : Res := if (dqB s H Q && !decide (Q = s.length)) = true then ⟨s.set (plc s.length H.toNat Q.toNat) x, H, Q + 1, 0, true⟩ else ⟨s, H, Q, 0, false⟩
def pushF (s : List Int) (H Q x : Int) : Res := if (dqB s H Q && !decide (Q = s.length)) = true then ⟨s.set (plc s.length H.toNat (s.length - 1)) x, (plc s.length H.toNat (s.length - 1) : Nat), Q + 1, 0, true⟩ else ⟨s, H, Q, 0, false⟩
def popF (s : List Int) (H Q : Int) : Res := if (dqB s H Q && !decide (Q = 0)) = true then ⟨s.set H.toNat 0, (plc s.length H.toNat 1 : Nat), Q - 1, s.getD H.toNat 0, true⟩ else ⟨s, H, Q, 0, false⟩
def popL (s : List Int) (H Q : Int) : Res := if (dqB s H Q && !decide (Q = 0)) = true then ⟨s.set (plc s.length H.toNat (Q.toNat - 1)) 0, H, Q - 1, s.getD (plc s.length H.toNat (Q.toNat - 1)) 0, true⟩ else ⟨s, H, Q, 0, false⟩
theorem pushL_no {s : List Int} {H Q x : Int} (h : dqB s H Q = false ∨ Q = s.length) : pushL s H Q x = ⟨s, H, Q, 0, false⟩ := if_neg (by rcases h with h | h <;> simp [h])
theorem pushF_no {s : List Int} {H Q x : Int} (h : dqB s H Q = false ∨ Q = s.length) : pushF s H Q x = ⟨s, H, Q, 0, false⟩ := if_neg (by rcases h with h | h <;> simp [h])
theorem popF_no {s : List Int} {H Q : Int} (h : dqB s H Q = false ∨ Q = 0) : popF s H Q = ⟨s, H, Q, 0, false⟩ := if_neg (by rcases h with h | h <;> simp [h])
theorem popL_no {s : List Int} {H Q : Int} (h : dqB s H Q = false ∨ Q = 0) : popL s H Q = ⟨s, H, Q, 0, false⟩ := if_neg (by rcases h with h | h <;> simp [h])
theorem dq_yes {s : List Int} {h q m : Nat} (B : RgB s h q) (hr : restB s h q = true) (hq : q ≠ m) : (dqB s h q && !decide ((q : Int) = (m : Int))) = true := by
  rw [dqB_of B, hr]; simp; omega
theorem pushL_yes {s : List Int} {h q : Nat} {x : Int} (B : RgB s h q) (hr : restB s h q = true) (hq : q < s.length) : pushL s h q x = ⟨s.set (plc s.length h q) x, h, ((q + 1 : Nat) : Int), 0, true⟩ := by
  unfold pushL; rw [if_pos (dq_yes B hr (by omega))]; simp
theorem pushF_yes {s : List Int} {h q : Nat} {x : Int} (B : RgB s h q) (hr : restB s h q = true) (hq : q < s.length) : pushF s h q x = ⟨s.set (plc s.length h (s.length - 1)) x, (plc s.length h (s.length - 1) : Nat), ((q + 1 : Nat) : Int), 0, true⟩ := by
  unfold pushF; rw [if_pos (dq_yes B hr (by omega))]; simp
theorem popF_yes {s : List Int} {h q : Nat} (B : RgB s h (q + 1)) (hr : restB s h (q + 1) = true) : popF s h ((q + 1 : Nat) : Int) = ⟨s.set h 0, (plc s.length h 1 : Nat), (q : Int), s.getD h 0, true⟩ := by
  unfold popF; rw [if_pos (show (dqB s h ((q + 1 : Nat) : Int) && !decide (((q + 1 : Nat) : Int) = 0)) = true from dq_yes (m := 0) B hr (by omega))]; simp
theorem popL_yes {s : List Int} {h q : Nat} (B : RgB s h (q + 1)) (hr : restB s h (q + 1) = true) : popL s h ((q + 1 : Nat) : Int) = ⟨s.set (plc s.length h q) 0, h, (q : Int), s.getD (plc s.length h q) 0, true⟩ := by
  unfold popL; rw [if_pos (show (dqB s h ((q + 1 : Nat) : Int) && !decide (((q + 1 : Nat) : Int) = 0)) = true from dq_yes (m := 0) B hr (by omega))]; simp
theorem pushL_len (s : List Int) (H Q x : Int) : (pushL s H Q x).s.length = s.length := by unfold pushL; split <;> simp
theorem pushF_len (s : List Int) (H Q x : Int) : (pushF s H Q x).s.length = s.length := by unfold pushF; split <;> simp
theorem popF_len (s : List Int) (H Q : Int) : (popF s H Q).s.length = s.length := by unfold popF; split <;> simp
theorem popL_len (s : List Int) (H Q : Int) : (popL s H Q).s.length = s.length := by unfold popL; split <;> simp
def pushV (ok : Bool) (v : Value) : Value := .tuple #[v, .bool ok]
def popV (x : Int) (ok : Bool) (v : Value) : Value := .tuple #[v, .int .i64 x, .bool ok]
theorem IS.far {w w' : World} {A : Option Addr} {l : List Int} {B b : Nat} (h : IS w A l) (hA : ∀ (i : Nat) (x : Int), l[i]? = some x → ∃ g, A = some ⟨g, 0, none⟩ ∧ g < B) (hb : B ≤ b) (hg : w.grownBy w' (some b)) : IS w' A l := by
  intro i x hx
  obtain ⟨g, e, hl, hc⟩ := h i x hx
  obtain ⟨g', e', hl'⟩ := hA i x hx
  rw [e] at e'
  injection e' with e'
  injection e' with e'
  subst e'
  exact ⟨g, e, Nat.lt_of_lt_of_le hl hg.size, (World.cell?_of_block (hg.block g hl (fun e => by injection e; omega))).trans hc⟩
theorem IS.lo {w : World} {A : Option Addr} {l : List Int} (h : IS w A l) : ∀ (i : Nat) (x : Int), l[i]? = some x → ∃ g, A = some ⟨g, 0, none⟩ ∧ g < w.heap.size := fun i x hx => by
  obtain ⟨g, e, hl, _⟩ := h i x hx
  exact ⟨g, e, hl⟩

set_option maxHeartbeats 2000000 in
theorem pushedL_in (A : Option Addr) (s : List Int) (c : Nat) (H Q x : Int) (w : World) (hm : s.length ≤ 2097152) (HI : IS w A s) :
    Calls Try.prog 58 #[.agg #[.slice A s.length c, .int .i64 H, .int .i64 Q], .int .i64 x, .func (.func 59) #[] #[]] w (DqOut w (pushL s H Q x).s (pushL s H Q x).h (pushL s H Q x).q (pushV (pushL s H Q x).ok)) := by
  have HB0 := Lib.hid (((Below.refl w.heap.size w).alloc (Nat.le_refl _) (.cells #[.slice A s.length c, .int .i64 H, .int .i64 Q] 28)).alloc (by simp) (.cells #[.slice none 0 0, .int .i64 0, .int .i64 0] 28))
  have HI1 := Lib.hid (HI.below HB0.out)
  have HL := Lib.hid HI.lo
  have K0 := (BlkL.new w 28 [.slice A s.length c, .int .i64 H, .int .i64 Q]).alloc (.cells #[.slice none 0 0, .int .i64 0, .int .i64 0] 28)
  have K1 := BlkL.new (w.alloc (.cells #[.slice A s.length c, .int .i64 H, .int .i64 Q] 28)) 28 [.slice none 0 0, .int .i64 0, .int .i64 0]
  simp only [World.size_alloc] at K1
  have HK0 := Lib.hid K0
  have HK1 := Lib.hid K1
  clear HI K0 K1
  go_enter Try.func58, Try.ntmps58
  go_wp2_with fail
  generalize hw1 : (w.alloc (.cells #[.slice A s.length c, .int .i64 H, .int .i64 Q] 28)).alloc (.cells #[.slice none 0 0, .int .i64 0, .int .i64 0] 28) = w1 at *
  have hz1 : w1.heap.size = w.heap.size + 1 + 1 := by rw [← hw1]; simp
  clear hw1
  refine (ringOf_any A s c H Q _ hm HI1.out).mono ?_
  rintro e w2 ⟨hb, ⟨hR, rfl⟩ | ⟨h, q, b, rfl, rfl, B, rfl, hlo, hM⟩⟩
  · have HE := Lib.hid (show pushL s H Q x = ⟨s, H, Q, 0, false⟩ from pushL_no (.inl (by simp [dqB, hR])))
    have HI2 := Lib.hid (HI1.out.below hb)
    have HB2 := Lib.hid (HB0.out.trans (hb.mono (by omega)))
    have HKA := Lib.hid (HK0.out.below hb (by omega))
    have HKB := Lib.hid (HK1.out.below hb (by omega))
    have hz2 := hb.size
    clear hb hR
    have ka := HKA.out
    have a0 := ka.cell 0
    have a1 := ka.cell 1
    have a2 := ka.cell 2
    simp only [List.getElem?_cons_zero, List.getElem?_cons_succ] at a0 a1 a2
    clear ka
    go_wp2_with fail
    clear a0 a1 a2
    refine (asItWas_any A s c _ _ _ hm HI2.out).mono ?_
    rintro e w3 ⟨hb4, A1, c1, rfl, hlo4, hcc, hrow⟩
    have kb := HKB.out.below hb4 (by omega)
    have d0 := kb.cell 0
    have d1 := kb.cell 1
    have d2 := kb.cell 2
    have y0 := kb.frozen 0
    have y1 := kb.frozen 1
    have y2 := kb.frozen 2
    simp only [List.getElem?_cons_zero, List.getElem?_cons_succ] at d0 d1 d2
    have HB4 := Lib.hid (HB2.out.trans (hb4.mono HB2.out.size))
    have HLO := Lib.hid hlo4
    have HCC := Lib.hid hcc
    have HR := Lib.hid hrow
    clear hb4 hlo4 hcc hrow kb
    go_wp2
    rw [HE.out]
    refine bodyPost_ret (v := pushV false (.agg #[.slice A1 s.length c1, .int .i64 H, .int .i64 Q])) (by simp [results, Try.results58, go_sem, d0, d1, d2, pushV]) rfl ?_
    refine ⟨((HB4.out.setCell (p := ⟨w.heap.size + 1, 0, none⟩) (by simp) _).setCell (p := ⟨w.heap.size + 1, 1, none⟩) (by simp) _).setCell (p := ⟨w.heap.size + 1, 2, none⟩) (by simp) _, A1, c1, rfl, fun b hb => by have := HLO.out b hb; omega, HCC.out, ?_⟩
    exact ((HR.out.set (fun b hb => by have := HLO.out b hb; simp; omega) _).set (fun b hb => by have := HLO.out b hb; simp; omega) _).set (fun b hb => by have := HLO.out b hb; simp; omega) _
  · have HB := Lib.hid B
    have HM := Lib.hid hM
    have HI2 := Lib.hid (HI1.out.below hb)
    have HB2 := Lib.hid (HB0.out.trans (hb.mono (by omega)))
    have HKA := Lib.hid (HK0.out.below hb (by omega))
    have HKB := Lib.hid (HK1.out.below hb (by omega))
    have hz2 := hb.size
    have hlo' : w.heap.size + 1 + 1 ≤ b := by omega
    clear hb hM
    cases hr : restB s h q
    · have HE := Lib.hid (show pushL s h q x = ⟨s, h, q, 0, false⟩ from pushL_no (.inl (by rw [dqB_of B, hr])))
      clear hr B
      have ka := HKA.out
      have a0 := ka.cell 0
      have a1 := ka.cell 1
      have a2 := ka.cell 2
      simp only [List.getElem?_cons_zero, List.getElem?_cons_succ] at a0 a1 a2
      clear ka
      go_wp2_with fail
      clear a0 a1 a2
      refine (asItWas_any A s c _ _ _ hm HI2.out).mono ?_
      rintro e w3 ⟨hb4, A1, c1, rfl, hlo4, hcc, hrow⟩
      have kb := HKB.out.below hb4 (by omega)
      have d0 := kb.cell 0
      have d1 := kb.cell 1
      have d2 := kb.cell 2
      have y0 := kb.frozen 0
      have y1 := kb.frozen 1
      have y2 := kb.frozen 2
      simp only [List.getElem?_cons_zero, List.getElem?_cons_succ] at d0 d1 d2
      have HB4 := Lib.hid (HB2.out.trans (hb4.mono HB2.out.size))
      have HLO := Lib.hid hlo4
      have HCC := Lib.hid hcc
      have HR := Lib.hid hrow
      clear hb4 hlo4 hcc hrow kb
      go_wp2
      rw [HE.out]
      refine bodyPost_ret (v := pushV false (.agg #[.slice A1 s.length c1, .int .i64 (h : Int), .int .i64 (q : Int)])) (by simp [results, Try.results58, go_sem, d0, d1, d2, pushV]) rfl ?_
      refine ⟨((HB4.out.setCell (p := ⟨w.heap.size + 1, 0, none⟩) (by simp) _).setCell (p := ⟨w.heap.size + 1, 1, none⟩) (by simp) _).setCell (p := ⟨w.heap.size + 1, 2, none⟩) (by simp) _, A1, c1, rfl, fun b hb => by have := HLO.out b hb; omega, HCC.out, ?_⟩
      exact ((HR.out.set (fun b hb => by have := HLO.out b hb; simp; omega) _).set (fun b hb => by have := HLO.out b hb; simp; omega) _).set (fun b hb => by have := HLO.out b hb; simp; omega) _
    · by_cases hq : q = s.length
      · subst hq
        have HE := Lib.hid (show pushL s h (s.length : Nat) x = ⟨s, h, (s.length : Nat), 0, false⟩ from pushL_no (.inr rfl))
        clear hr B
        go_wp2_with fail
        refine (pushLast_full b s h x _ HB.out HM.out).mono ?_
        rintro e w3 ⟨rfl, hM3, hg3⟩
        have HI3 := Lib.hid (HI2.out.far HL.out (by omega) hg3)
        have HB3 := Lib.hid (HB2.out.grown hg3 HB2.out.size (fun k hk => by injection hk; omega))
        have HKA3 := Lib.hid (HKA.out.grown hg3 (by intro e; injection e; omega))
        have HKB3 := Lib.hid (HKB.out.grown hg3 (by intro e; injection e; omega))
        have hz3 := hg3.size
        clear hM3 hg3 HM
        have ka := HKA3.out
        have a0 := ka.cell 0
        have a1 := ka.cell 1
        have a2 := ka.cell 2
        simp only [List.getElem?_cons_zero, List.getElem?_cons_succ] at a0 a1 a2
        clear ka
        go_wp2_with fail
        clear a0 a1 a2
        refine (asItWas_any A s c _ _ _ hm HI3.out).mono ?_
        rintro e w4 ⟨hb4, A1, c1, rfl, hlo4, hcc, hrow⟩
        have kb := HKB3.out.below hb4 (by omega)
        have d0 := kb.cell 0
        have d1 := kb.cell 1
        have d2 := kb.cell 2
        have y0 := kb.frozen 0
        have y1 := kb.frozen 1
        have y2 := kb.frozen 2
        simp only [List.getElem?_cons_zero, List.getElem?_cons_succ] at d0 d1 d2
        have HB4 := Lib.hid (HB3.out.trans (hb4.mono HB3.out.size))
        have HLO := Lib.hid hlo4
        have HCC := Lib.hid hcc
        have HR := Lib.hid hrow
        clear hb4 hlo4 hcc hrow kb
        go_wp2
        rw [HE.out]
        refine bodyPost_ret (v := pushV false (.agg #[.slice A1 s.length c1, .int .i64 (h : Int), .int .i64 ((s.length : Nat) : Int)])) (by simp [results, Try.results58, go_sem, d0, d1, d2, pushV]) rfl ?_
        refine ⟨((HB4.out.setCell (p := ⟨w.heap.size + 1, 0, none⟩) (by simp) _).setCell (p := ⟨w.heap.size + 1, 1, none⟩) (by simp) _).setCell (p := ⟨w.heap.size + 1, 2, none⟩) (by simp) _, A1, c1, rfl, fun b hb => by have := HLO.out b hb; omega, HCC.out, ?_⟩
        exact ((HR.out.set (fun b hb => by have := HLO.out b hb; simp; omega) _).set (fun b hb => by have := HLO.out b hb; simp; omega) _).set (fun b hb => by have := HLO.out b hb; simp; omega) _
      · have hq1 := B.q1
        have HE := Lib.hid (pushL_yes (x := x) B hr (by omega))
        have n1 := B.n1
        have n2 := B.n2
        have hh := B.h1
        have hpa := plc_lt h (s.length - 1) n1
        clear hr B
        go_wp2_with fail
        refine (pushLast_room b s h q x _ (by omega) HB.out HM.out).mono ?_
        rintro e w3 ⟨rfl, hM3, hg3⟩
        have HB3 := Lib.hid (HB2.out.grown hg3 HB2.out.size (fun k hk => by injection hk; omega))
        have HKB3 := Lib.hid (HKB.out.grown hg3 (by intro e; injection e; omega))
        have HM3 := Lib.hid hM3
        have hz3 := hg3.size
        clear hM3 hg3 HM
        go_wp2_with fail
        refine (dequeOf_any b (s.set (plc s.length h q) x) h (q + 1) _ ⟨by rw [List.length_set]; omega, by rw [List.length_set]; omega, by rw [List.length_set]; omega, by rw [List.length_set]; omega⟩ HM3.out).mono ?_
        rintro e w4 ⟨hb4, A1, c1, rfl, hlo4, hcc, hrow⟩
        have kb := HKB3.out.below hb4 (by omega)
        have d0 := kb.cell 0
        have d1 := kb.cell 1
        have d2 := kb.cell 2
        have y0 := kb.frozen 0
        have y1 := kb.frozen 1
        have y2 := kb.frozen 2
        simp only [List.getElem?_cons_zero, List.getElem?_cons_succ] at d0 d1 d2
        have HB4 := Lib.hid (HB3.out.trans (hb4.mono HB3.out.size))
        have HLO := Lib.hid hlo4
        have HCC := Lib.hid hcc
        have HR := Lib.hid hrow
        clear hb4 hlo4 hcc hrow kb
        go_wp2
        rw [HE.out]
        refine bodyPost_ret (v := pushV true (.agg #[.slice A1 ((s.set (plc s.length h q) x)).length c1, .int .i64 h, .int .i64 ((q + 1 : Nat) : Int)])) (by simp [results, Try.results58, go_sem, d0, d1, d2, pushV]) rfl ?_
        refine ⟨((HB4.out.setCell (p := ⟨w.heap.size + 1, 0, none⟩) (by simp) _).setCell (p := ⟨w.heap.size + 1, 1, none⟩) (by simp) _).setCell (p := ⟨w.heap.size + 1, 2, none⟩) (by simp) _, A1, c1, rfl, fun b hb => by have := HLO.out b hb; omega, HCC.out, ?_⟩
        exact ((HR.out.set (fun b hb => by have := HLO.out b hb; simp; omega) _).set (fun b hb => by have := HLO.out b hb; simp; omega) _).set (fun b hb => by have := HLO.out b hb; simp; omega) _

set_option maxHeartbeats 2000000 in
theorem pushedF_in (A : Option Addr) (s : List Int) (c : Nat) (H Q x : Int) (w : World) (hm : s.length ≤ 2097152) (HI : IS w A s) :
    Calls Try.prog 58 #[.agg #[.slice A s.length c, .int .i64 H, .int .i64 Q], .int .i64 x, .func (.func 60) #[] #[]] w (DqOut w (pushF s H Q x).s (pushF s H Q x).h (pushF s H Q x).q (pushV (pushF s H Q x).ok)) := by
  have HB0 := Lib.hid (((Below.refl w.heap.size w).alloc (Nat.le_refl _) (.cells #[.slice A s.length c, .int .i64 H, .int .i64 Q] 28)).alloc (by simp) (.cells #[.slice none 0 0, .int .i64 0, .int .i64 0] 28))
  have HI1 := Lib.hid (HI.below HB0.out)
  have HL := Lib.hid HI.lo
  have K0 := (BlkL.new w 28 [.slice A s.length c, .int .i64 H, .int .i64 Q]).alloc (.cells #[.slice none 0 0, .int .i64 0, .int .i64 0] 28)
  have K1 := BlkL.new (w.alloc (.cells #[.slice A s.length c, .int .i64 H, .int .i64 Q] 28)) 28 [.slice none 0 0, .int .i64 0, .int .i64 0]
  simp only [World.size_alloc] at K1
  have HK0 := Lib.hid K0
  have HK1 := Lib.hid K1
  clear HI K0 K1
  go_enter Try.func58, Try.ntmps58
  go_wp2_with fail
  generalize hw1 : (w.alloc (.cells #[.slice A s.length c, .int .i64 H, .int .i64 Q] 28)).alloc (.cells #[.slice none 0 0, .int .i64 0, .int .i64 0] 28) = w1 at *
  have hz1 : w1.heap.size = w.heap.size + 1 + 1 := by rw [← hw1]; simp
  clear hw1
  refine (ringOf_any A s c H Q _ hm HI1.out).mono ?_
  rintro e w2 ⟨hb, ⟨hR, rfl⟩ | ⟨h, q, b, rfl, rfl, B, rfl, hlo, hM⟩⟩
  · have HE := Lib.hid (show pushF s H Q x = ⟨s, H, Q, 0, false⟩ from pushF_no (.inl (by simp [dqB, hR])))
    have HI2 := Lib.hid (HI1.out.below hb)
    have HB2 := Lib.hid (HB0.out.trans (hb.mono (by omega)))
    have HKA := Lib.hid (HK0.out.below hb (by omega))
    have HKB := Lib.hid (HK1.out.below hb (by omega))
    have hz2 := hb.size
    clear hb hR
    have ka := HKA.out
    have a0 := ka.cell 0
    have a1 := ka.cell 1
    have a2 := ka.cell 2
    simp only [List.getElem?_cons_zero, List.getElem?_cons_succ] at a0 a1 a2
    clear ka
    go_wp2_with fail
    clear a0 a1 a2
    refine (asItWas_any A s c _ _ _ hm HI2.out).mono ?_
    rintro e w3 ⟨hb4, A1, c1, rfl, hlo4, hcc, hrow⟩
    have kb := HKB.out.below hb4 (by omega)
    have d0 := kb.cell 0
    have d1 := kb.cell 1
    have d2 := kb.cell 2
    have y0 := kb.frozen 0
    have y1 := kb.frozen 1
    have y2 := kb.frozen 2
    simp only [List.getElem?_cons_zero, List.getElem?_cons_succ] at d0 d1 d2
    have HB4 := Lib.hid (HB2.out.trans (hb4.mono HB2.out.size))
    have HLO := Lib.hid hlo4
    have HCC := Lib.hid hcc
    have HR := Lib.hid hrow
    clear hb4 hlo4 hcc hrow kb
    go_wp2
    rw [HE.out]
    refine bodyPost_ret (v := pushV false (.agg #[.slice A1 s.length c1, .int .i64 H, .int .i64 Q])) (by simp [results, Try.results58, go_sem, d0, d1, d2, pushV]) rfl ?_
    refine ⟨((HB4.out.setCell (p := ⟨w.heap.size + 1, 0, none⟩) (by simp) _).setCell (p := ⟨w.heap.size + 1, 1, none⟩) (by simp) _).setCell (p := ⟨w.heap.size + 1, 2, none⟩) (by simp) _, A1, c1, rfl, fun b hb => by have := HLO.out b hb; omega, HCC.out, ?_⟩
    exact ((HR.out.set (fun b hb => by have := HLO.out b hb; simp; omega) _).set (fun b hb => by have := HLO.out b hb; simp; omega) _).set (fun b hb => by have := HLO.out b hb; simp; omega) _
  · have HB := Lib.hid B
    have HM := Lib.hid hM
    have HI2 := Lib.hid (HI1.out.below hb)
    have HB2 := Lib.hid (HB0.out.trans (hb.mono (by omega)))
    have HKA := Lib.hid (HK0.out.below hb (by omega))
    have HKB := Lib.hid (HK1.out.below hb (by omega))
    have hz2 := hb.size
    have hlo' : w.heap.size + 1 + 1 ≤ b := by omega
    clear hb hM
    cases hr : restB s h q
    · have HE := Lib.hid (show pushF s h q x = ⟨s, h, q, 0, false⟩ from pushF_no (.inl (by rw [dqB_of B, hr])))
      clear hr B
      have ka := HKA.out
      have a0 := ka.cell 0
      have a1 := ka.cell 1
      have a2 := ka.cell 2
      simp only [List.getElem?_cons_zero, List.getElem?_cons_succ] at a0 a1 a2
      clear ka
      go_wp2_with fail
      clear a0 a1 a2
      refine (asItWas_any A s c _ _ _ hm HI2.out).mono ?_
      rintro e w3 ⟨hb4, A1, c1, rfl, hlo4, hcc, hrow⟩
      have kb := HKB.out.below hb4 (by omega)
      have d0 := kb.cell 0
      have d1 := kb.cell 1
      have d2 := kb.cell 2
      have y0 := kb.frozen 0
      have y1 := kb.frozen 1
      have y2 := kb.frozen 2
      simp only [List.getElem?_cons_zero, List.getElem?_cons_succ] at d0 d1 d2
      have HB4 := Lib.hid (HB2.out.trans (hb4.mono HB2.out.size))
      have HLO := Lib.hid hlo4
      have HCC := Lib.hid hcc
      have HR := Lib.hid hrow
      clear hb4 hlo4 hcc hrow kb
      go_wp2
      rw [HE.out]
      refine bodyPost_ret (v := pushV false (.agg #[.slice A1 s.length c1, .int .i64 (h : Int), .int .i64 (q : Int)])) (by simp [results, Try.results58, go_sem, d0, d1, d2, pushV]) rfl ?_
      refine ⟨((HB4.out.setCell (p := ⟨w.heap.size + 1, 0, none⟩) (by simp) _).setCell (p := ⟨w.heap.size + 1, 1, none⟩) (by simp) _).setCell (p := ⟨w.heap.size + 1, 2, none⟩) (by simp) _, A1, c1, rfl, fun b hb => by have := HLO.out b hb; omega, HCC.out, ?_⟩
      exact ((HR.out.set (fun b hb => by have := HLO.out b hb; simp; omega) _).set (fun b hb => by have := HLO.out b hb; simp; omega) _).set (fun b hb => by have := HLO.out b hb; simp; omega) _
    · by_cases hq : q = s.length
      · subst hq
        have HE := Lib.hid (show pushF s h (s.length : Nat) x = ⟨s, h, (s.length : Nat), 0, false⟩ from pushF_no (.inr rfl))
        clear hr B
        go_wp2_with fail
        refine (pushFirst_full b s h x _ HB.out HM.out).mono ?_
        rintro e w3 ⟨rfl, hM3, hg3⟩
        have HI3 := Lib.hid (HI2.out.far HL.out (by omega) hg3)
        have HB3 := Lib.hid (HB2.out.grown hg3 HB2.out.size (fun k hk => by injection hk; omega))
        have HKA3 := Lib.hid (HKA.out.grown hg3 (by intro e; injection e; omega))
        have HKB3 := Lib.hid (HKB.out.grown hg3 (by intro e; injection e; omega))
        have hz3 := hg3.size
        clear hM3 hg3 HM
        have ka := HKA3.out
        have a0 := ka.cell 0
        have a1 := ka.cell 1
        have a2 := ka.cell 2
        simp only [List.getElem?_cons_zero, List.getElem?_cons_succ] at a0 a1 a2
        clear ka
        go_wp2_with fail
        clear a0 a1 a2
        refine (asItWas_any A s c _ _ _ hm HI3.out).mono ?_
        rintro e w4 ⟨hb4, A1, c1, rfl, hlo4, hcc, hrow⟩
        have kb := HKB3.out.below hb4 (by omega)
        have d0 := kb.cell 0
        have d1 := kb.cell 1
        have d2 := kb.cell 2
        have y0 := kb.frozen 0
        have y1 := kb.frozen 1
        have y2 := kb.frozen 2
        simp only [List.getElem?_cons_zero, List.getElem?_cons_succ] at d0 d1 d2
        have HB4 := Lib.hid (HB3.out.trans (hb4.mono HB3.out.size))
        have HLO := Lib.hid hlo4
        have HCC := Lib.hid hcc
        have HR := Lib.hid hrow
        clear hb4 hlo4 hcc hrow kb
        go_wp2
        rw [HE.out]
        refine bodyPost_ret (v := pushV false (.agg #[.slice A1 s.length c1, .int .i64 (h : Int), .int .i64 ((s.length : Nat) : Int)])) (by simp [results, Try.results58, go_sem, d0, d1, d2, pushV]) rfl ?_
        refine ⟨((HB4.out.setCell (p := ⟨w.heap.size + 1, 0, none⟩) (by simp) _).setCell (p := ⟨w.heap.size + 1, 1, none⟩) (by simp) _).setCell (p := ⟨w.heap.size + 1, 2, none⟩) (by simp) _, A1, c1, rfl, fun b hb => by have := HLO.out b hb; omega, HCC.out, ?_⟩
        exact ((HR.out.set (fun b hb => by have := HLO.out b hb; simp; omega) _).set (fun b hb => by have := HLO.out b hb; simp; omega) _).set (fun b hb => by have := HLO.out b hb; simp; omega) _
      · have hq1 := B.q1
        have HE := Lib.hid (pushF_yes (x := x) B hr (by omega))
        have n1 := B.n1
        have n2 := B.n2
        have hh := B.h1
        have hpa := plc_lt h (s.length - 1) n1
        clear hr B
        go_wp2_with fail
        refine (pushFirst_room b s h q x _ (by omega) HB.out HM.out).mono ?_
        rintro e w3 ⟨rfl, hM3, hg3⟩
        have HB3 := Lib.hid (HB2.out.grown hg3 HB2.out.size (fun k hk => by injection hk; omega))
        have HKB3 := Lib.hid (HKB.out.grown hg3 (by intro e; injection e; omega))
        have HM3 := Lib.hid hM3
        have hz3 := hg3.size
        clear hM3 hg3 HM
        go_wp2_with fail
        refine (dequeOf_any b (s.set (plc s.length h (s.length - 1)) x) (plc s.length h (s.length - 1)) (q + 1) _ ⟨by rw [List.length_set]; omega, by rw [List.length_set]; omega, by rw [List.length_set]; omega, by rw [List.length_set]; omega⟩ HM3.out).mono ?_
        rintro e w4 ⟨hb4, A1, c1, rfl, hlo4, hcc, hrow⟩
        have kb := HKB3.out.below hb4 (by omega)
        have d0 := kb.cell 0
        have d1 := kb.cell 1
        have d2 := kb.cell 2
        have y0 := kb.frozen 0
        have y1 := kb.frozen 1
        have y2 := kb.frozen 2
        simp only [List.getElem?_cons_zero, List.getElem?_cons_succ] at d0 d1 d2
        have HB4 := Lib.hid (HB3.out.trans (hb4.mono HB3.out.size))
        have HLO := Lib.hid hlo4
        have HCC := Lib.hid hcc
        have HR := Lib.hid hrow
        clear hb4 hlo4 hcc hrow kb
        go_wp2
        rw [HE.out]
        refine bodyPost_ret (v := pushV true (.agg #[.slice A1 ((s.set (plc s.length h (s.length - 1)) x)).length c1, .int .i64 (plc s.length h (s.length - 1)), .int .i64 ((q + 1 : Nat) : Int)])) (by simp [results, Try.results58, go_sem, d0, d1, d2, pushV]) rfl ?_
        refine ⟨((HB4.out.setCell (p := ⟨w.heap.size + 1, 0, none⟩) (by simp) _).setCell (p := ⟨w.heap.size + 1, 1, none⟩) (by simp) _).setCell (p := ⟨w.heap.size + 1, 2, none⟩) (by simp) _, A1, c1, rfl, fun b hb => by have := HLO.out b hb; omega, HCC.out, ?_⟩
        exact ((HR.out.set (fun b hb => by have := HLO.out b hb; simp; omega) _).set (fun b hb => by have := HLO.out b hb; simp; omega) _).set (fun b hb => by have := HLO.out b hb; simp; omega) _

set_option maxHeartbeats 2000000 in
theorem poppedF_in (A : Option Addr) (s : List Int) (c : Nat) (H Q : Int) (w : World) (hm : s.length ≤ 2097152) (HI : IS w A s) :
    Calls Try.prog 61 #[.agg #[.slice A s.length c, .int .i64 H, .int .i64 Q], .func (.func 62) #[] #[]] w (DqOut w (popF s H Q).s (popF s H Q).h (popF s H Q).q (popV (popF s H Q).x (popF s H Q).ok)) := by
  have HB0 := Lib.hid (((Below.refl w.heap.size w).alloc (Nat.le_refl _) (.cells #[.slice A s.length c, .int .i64 H, .int .i64 Q] 28)).alloc (by simp) (.cells #[.slice none 0 0, .int .i64 0, .int .i64 0] 28))
  have HI1 := Lib.hid (HI.below HB0.out)
  have HL := Lib.hid HI.lo
  have K0 := (BlkL.new w 28 [.slice A s.length c, .int .i64 H, .int .i64 Q]).alloc (.cells #[.slice none 0 0, .int .i64 0, .int .i64 0] 28)
  have K1 := BlkL.new (w.alloc (.cells #[.slice A s.length c, .int .i64 H, .int .i64 Q] 28)) 28 [.slice none 0 0, .int .i64 0, .int .i64 0]
  simp only [World.size_alloc] at K1
  have HK0 := Lib.hid K0
  have HK1 := Lib.hid K1
  clear HI K0 K1
  go_enter Try.func61, Try.ntmps61
  go_wp2_with fail
  generalize hw1 : (w.alloc (.cells #[.slice A s.length c, .int .i64 H, .int .i64 Q] 28)).alloc (.cells #[.slice none 0 0, .int .i64 0, .int .i64 0] 28) = w1 at *
  have hz1 : w1.heap.size = w.heap.size + 1 + 1 := by rw [← hw1]; simp
  clear hw1
  refine (ringOf_any A s c H Q _ hm HI1.out).mono ?_
  rintro e w2 ⟨hb, ⟨hR, rfl⟩ | ⟨h, q, b, rfl, rfl, B, rfl, hlo, hM⟩⟩
  · have HE := Lib.hid (show popF s H Q = ⟨s, H, Q, 0, false⟩ from popF_no (.inl (by simp [dqB, hR])))
    have HI2 := Lib.hid (HI1.out.below hb)
    have HB2 := Lib.hid (HB0.out.trans (hb.mono (by omega)))
    have HKA := Lib.hid (HK0.out.below hb (by omega))
    have HKB := Lib.hid (HK1.out.below hb (by omega))
    have hz2 := hb.size
    clear hb hR
    have ka := HKA.out
    have a0 := ka.cell 0
    have a1 := ka.cell 1
    have a2 := ka.cell 2
    simp only [List.getElem?_cons_zero, List.getElem?_cons_succ] at a0 a1 a2
    clear ka
    go_wp2_with fail
    clear a0 a1 a2
    refine (asItWas_any A s c _ _ _ hm HI2.out).mono ?_
    rintro e w3 ⟨hb4, A1, c1, rfl, hlo4, hcc, hrow⟩
    have kb := HKB.out.below hb4 (by omega)
    have d0 := kb.cell 0
    have d1 := kb.cell 1
    have d2 := kb.cell 2
    have y0 := kb.frozen 0
    have y1 := kb.frozen 1
    have y2 := kb.frozen 2
    simp only [List.getElem?_cons_zero, List.getElem?_cons_succ] at d0 d1 d2
    have HB4 := Lib.hid (HB2.out.trans (hb4.mono HB2.out.size))
    have HLO := Lib.hid hlo4
    have HCC := Lib.hid hcc
    have HR := Lib.hid hrow
    clear hb4 hlo4 hcc hrow kb
    go_wp2
    rw [HE.out]
    refine bodyPost_ret (v := popV 0 false (.agg #[.slice A1 s.length c1, .int .i64 H, .int .i64 Q])) (by simp [results, Try.results61, go_sem, d0, d1, d2, popV]) rfl ?_
    refine ⟨((HB4.out.setCell (p := ⟨w.heap.size + 1, 0, none⟩) (by simp) _).setCell (p := ⟨w.heap.size + 1, 1, none⟩) (by simp) _).setCell (p := ⟨w.heap.size + 1, 2, none⟩) (by simp) _, A1, c1, rfl, fun b hb => by have := HLO.out b hb; omega, HCC.out, ?_⟩
    exact ((HR.out.set (fun b hb => by have := HLO.out b hb; simp; omega) _).set (fun b hb => by have := HLO.out b hb; simp; omega) _).set (fun b hb => by have := HLO.out b hb; simp; omega) _
  · have HB := Lib.hid B
    have HM := Lib.hid hM
    have HI2 := Lib.hid (HI1.out.below hb)
    have HB2 := Lib.hid (HB0.out.trans (hb.mono (by omega)))
    have HKA := Lib.hid (HK0.out.below hb (by omega))
    have HKB := Lib.hid (HK1.out.below hb (by omega))
    have hz2 := hb.size
    have hlo' : w.heap.size + 1 + 1 ≤ b := by omega
    clear hb hM
    cases hr : restB s h q
    · have HE := Lib.hid (show popF s h q = ⟨s, h, q, 0, false⟩ from popF_no (.inl (by rw [dqB_of B, hr])))
      clear hr B
      have ka := HKA.out
      have a0 := ka.cell 0
      have a1 := ka.cell 1
      have a2 := ka.cell 2
      simp only [List.getElem?_cons_zero, List.getElem?_cons_succ] at a0 a1 a2
      clear ka
      go_wp2_with fail
      clear a0 a1 a2
      refine (asItWas_any A s c _ _ _ hm HI2.out).mono ?_
      rintro e w3 ⟨hb4, A1, c1, rfl, hlo4, hcc, hrow⟩
      have kb := HKB.out.below hb4 (by omega)
      have d0 := kb.cell 0
      have d1 := kb.cell 1
      have d2 := kb.cell 2
      have y0 := kb.frozen 0
      have y1 := kb.frozen 1
      have y2 := kb.frozen 2
      simp only [List.getElem?_cons_zero, List.getElem?_cons_succ] at d0 d1 d2
      have HB4 := Lib.hid (HB2.out.trans (hb4.mono HB2.out.size))
      have HLO := Lib.hid hlo4
      have HCC := Lib.hid hcc
      have HR := Lib.hid hrow
      clear hb4 hlo4 hcc hrow kb
      go_wp2
      rw [HE.out]
      refine bodyPost_ret (v := popV 0 false (.agg #[.slice A1 s.length c1, .int .i64 (h : Int), .int .i64 (q : Int)])) (by simp [results, Try.results61, go_sem, d0, d1, d2, popV]) rfl ?_
      refine ⟨((HB4.out.setCell (p := ⟨w.heap.size + 1, 0, none⟩) (by simp) _).setCell (p := ⟨w.heap.size + 1, 1, none⟩) (by simp) _).setCell (p := ⟨w.heap.size + 1, 2, none⟩) (by simp) _, A1, c1, rfl, fun b hb => by have := HLO.out b hb; omega, HCC.out, ?_⟩
      exact ((HR.out.set (fun b hb => by have := HLO.out b hb; simp; omega) _).set (fun b hb => by have := HLO.out b hb; simp; omega) _).set (fun b hb => by have := HLO.out b hb; simp; omega) _
    · cases q with
      | zero =>
        have HE := Lib.hid (show popF s h ((0 : Nat) : Int) = ⟨s, h, 0, 0, false⟩ from popF_no (.inr rfl))
        clear hr B
        go_wp2_with fail
        refine (popFirst_none b s h _ HB.out HM.out).mono ?_
        rintro e w3 ⟨rfl, hM3, hg3⟩
        have HB3 := Lib.hid (HB2.out.grown hg3 HB2.out.size (fun k hk => by injection hk; omega))
        have HKB3 := Lib.hid (HKB.out.grown hg3 (by intro e; injection e; omega))
        have HM3 := Lib.hid hM3
        have hz3 := hg3.size
        clear hM3 hg3 HM
        go_wp2_with fail
        refine (dequeOf_any b s h 0 _ HB.out HM3.out).mono ?_
        rintro e w4 ⟨hb4, A1, c1, rfl, hlo4, hcc, hrow⟩
        have kb := HKB3.out.below hb4 (by omega)
        have d0 := kb.cell 0
        have d1 := kb.cell 1
        have d2 := kb.cell 2
        have y0 := kb.frozen 0
        have y1 := kb.frozen 1
        have y2 := kb.frozen 2
        simp only [List.getElem?_cons_zero, List.getElem?_cons_succ] at d0 d1 d2
        have HB4 := Lib.hid (HB3.out.trans (hb4.mono HB3.out.size))
        have HLO := Lib.hid hlo4
        have HCC := Lib.hid hcc
        have HR := Lib.hid hrow
        clear hb4 hlo4 hcc hrow kb
        go_wp2
        rw [HE.out]
        refine bodyPost_ret (v := popV 0 false (.agg #[.slice A1 s.length c1, .int .i64 (h : Int), .int .i64 0])) (by simp [results, Try.results61, go_sem, d0, d1, d2, popV]) rfl ?_
        refine ⟨((HB4.out.setCell (p := ⟨w.heap.size + 1, 0, none⟩) (by simp) _).setCell (p := ⟨w.heap.size + 1, 1, none⟩) (by simp) _).setCell (p := ⟨w.heap.size + 1, 2, none⟩) (by simp) _, A1, c1, rfl, fun b hb => by have := HLO.out b hb; omega, HCC.out, ?_⟩
        exact ((HR.out.set (fun b hb => by have := HLO.out b hb; simp; omega) _).set (fun b hb => by have := HLO.out b hb; simp; omega) _).set (fun b hb => by have := HLO.out b hb; simp; omega) _
      | succ q =>
        have hq1 := B.q1
        have n1 := B.n1
        have n2 := B.n2
        have hh := B.h1
        have HE := Lib.hid (popF_yes B hr)
        have hpa := plc_lt h q n1
        have hpb := plc_lt h 1 n1
        have HX := Lib.hid (getD_some (s := s) (p := h) (by first | exact hpa | exact hh))
        clear hr B
        generalize s.getD h 0 = x at *
        go_wp2_with fail
        refine (popFirst_one b s h q x _ HB.out HM.out HX.out).mono ?_
        rintro e w3 ⟨rfl, hM3, hg3⟩
        have HB3 := Lib.hid (HB2.out.grown hg3 HB2.out.size (fun k hk => by injection hk; omega))
        have HKB3 := Lib.hid (HKB.out.grown hg3 (by intro e; injection e; omega))
        have HM3 := Lib.hid hM3
        have hz3 := hg3.size
        clear hM3 hg3 HM
        go_wp2_with fail
        refine (dequeOf_any b (s.set h 0) (plc s.length h 1) q _ ⟨by rw [List.length_set]; omega, by rw [List.length_set]; omega, by rw [List.length_set]; omega, by rw [List.length_set]; omega⟩ HM3.out).mono ?_
        rintro e w4 ⟨hb4, A1, c1, rfl, hlo4, hcc, hrow⟩
        have kb := HKB3.out.below hb4 (by omega)
        have d0 := kb.cell 0
        have d1 := kb.cell 1
        have d2 := kb.cell 2
        have y0 := kb.frozen 0
        have y1 := kb.frozen 1
        have y2 := kb.frozen 2
        simp only [List.getElem?_cons_zero, List.getElem?_cons_succ] at d0 d1 d2
        have HB4 := Lib.hid (HB3.out.trans (hb4.mono HB3.out.size))
        have HLO := Lib.hid hlo4
        have HCC := Lib.hid hcc
        have HR := Lib.hid hrow
        clear hb4 hlo4 hcc hrow kb
        go_wp2
        rw [HE.out]
        refine bodyPost_ret (v := popV x true (.agg #[.slice A1 ((s.set h 0)).length c1, .int .i64 (plc s.length h 1), .int .i64 (q : Int)])) (by simp [results, Try.results61, go_sem, d0, d1, d2, popV]) rfl ?_
        refine ⟨((HB4.out.setCell (p := ⟨w.heap.size + 1, 0, none⟩) (by simp) _).setCell (p := ⟨w.heap.size + 1, 1, none⟩) (by simp) _).setCell (p := ⟨w.heap.size + 1, 2, none⟩) (by simp) _, A1, c1, rfl, fun b hb => by have := HLO.out b hb; omega, HCC.out, ?_⟩
        exact ((HR.out.set (fun b hb => by have := HLO.out b hb; simp; omega) _).set (fun b hb => by have := HLO.out b hb; simp; omega) _).set (fun b hb => by have := HLO.out b hb; simp; omega) _

set_option maxHeartbeats 2000000 in
theorem poppedL_in (A : Option Addr) (s : List Int) (c : Nat) (H Q : Int) (w : World) (hm : s.length ≤ 2097152) (HI : IS w A s) :
    Calls Try.prog 61 #[.agg #[.slice A s.length c, .int .i64 H, .int .i64 Q], .func (.func 63) #[] #[]] w (DqOut w (popL s H Q).s (popL s H Q).h (popL s H Q).q (popV (popL s H Q).x (popL s H Q).ok)) := by
  have HB0 := Lib.hid (((Below.refl w.heap.size w).alloc (Nat.le_refl _) (.cells #[.slice A s.length c, .int .i64 H, .int .i64 Q] 28)).alloc (by simp) (.cells #[.slice none 0 0, .int .i64 0, .int .i64 0] 28))
  have HI1 := Lib.hid (HI.below HB0.out)
  have HL := Lib.hid HI.lo
  have K0 := (BlkL.new w 28 [.slice A s.length c, .int .i64 H, .int .i64 Q]).alloc (.cells #[.slice none 0 0, .int .i64 0, .int .i64 0] 28)
  have K1 := BlkL.new (w.alloc (.cells #[.slice A s.length c, .int .i64 H, .int .i64 Q] 28)) 28 [.slice none 0 0, .int .i64 0, .int .i64 0]
  simp only [World.size_alloc] at K1
  have HK0 := Lib.hid K0
  have HK1 := Lib.hid K1
  clear HI K0 K1
  go_enter Try.func61, Try.ntmps61
  go_wp2_with fail
  generalize hw1 : (w.alloc (.cells #[.slice A s.length c, .int .i64 H, .int .i64 Q] 28)).alloc (.cells #[.slice none 0 0, .int .i64 0, .int .i64 0] 28) = w1 at *
  have hz1 : w1.heap.size = w.heap.size + 1 + 1 := by rw [← hw1]; simp
  clear hw1
  refine (ringOf_any A s c H Q _ hm HI1.out).mono ?_
  rintro e w2 ⟨hb, ⟨hR, rfl⟩ | ⟨h, q, b, rfl, rfl, B, rfl, hlo, hM⟩⟩
  · have HE := Lib.hid (show popL s H Q = ⟨s, H, Q, 0, false⟩ from popL_no (.inl (by simp [dqB, hR])))
    have HI2 := Lib.hid (HI1.out.below hb)
    have HB2 := Lib.hid (HB0.out.trans (hb.mono (by omega)))
    have HKA := Lib.hid (HK0.out.below hb (by omega))
    have HKB := Lib.hid (HK1.out.below hb (by omega))
    have hz2 := hb.size
    clear hb hR
    have ka := HKA.out
    have a0 := ka.cell 0
    have a1 := ka.cell 1
    have a2 := ka.cell 2
    simp only [List.getElem?_cons_zero, List.getElem?_cons_succ] at a0 a1 a2
    clear ka
    go_wp2_with fail
    clear a0 a1 a2
    refine (asItWas_any A s c _ _ _ hm HI2.out).mono ?_
    rintro e w3 ⟨hb4, A1, c1, rfl, hlo4, hcc, hrow⟩
    have kb := HKB.out.below hb4 (by omega)
    have d0 := kb.cell 0
    have d1 := kb.cell 1
    have d2 := kb.cell 2
    have y0 := kb.frozen 0
    have y1 := kb.frozen 1
    have y2 := kb.frozen 2
    simp only [List.getElem?_cons_zero, List.getElem?_cons_succ] at d0 d1 d2
    have HB4 := Lib.hid (HB2.out.trans (hb4.mono HB2.out.size))
    have HLO := Lib.hid hlo4
    have HCC := Lib.hid hcc
    have HR := Lib.hid hrow
    clear hb4 hlo4 hcc hrow kb
    go_wp2
    rw [HE.out]
    refine bodyPost_ret (v := popV 0 false (.agg #[.slice A1 s.length c1, .int .i64 H, .int .i64 Q])) (by simp [results, Try.results61, go_sem, d0, d1, d2, popV]) rfl ?_
    refine ⟨((HB4.out.setCell (p := ⟨w.heap.size + 1, 0, none⟩) (by simp) _).setCell (p := ⟨w.heap.size + 1, 1, none⟩) (by simp) _).setCell (p := ⟨w.heap.size + 1, 2, none⟩) (by simp) _, A1, c1, rfl, fun b hb => by have := HLO.out b hb; omega, HCC.out, ?_⟩
    exact ((HR.out.set (fun b hb => by have := HLO.out b hb; simp; omega) _).set (fun b hb => by have := HLO.out b hb; simp; omega) _).set (fun b hb => by have := HLO.out b hb; simp; omega) _
  · have HB := Lib.hid B
    have HM := Lib.hid hM
    have HI2 := Lib.hid (HI1.out.below hb)
    have HB2 := Lib.hid (HB0.out.trans (hb.mono (by omega)))
    have HKA := Lib.hid (HK0.out.below hb (by omega))
    have HKB := Lib.hid (HK1.out.below hb (by omega))
    have hz2 := hb.size
    have hlo' : w.heap.size + 1 + 1 ≤ b := by omega
    clear hb hM
    cases hr : restB s h q
    · have HE := Lib.hid (show popL s h q = ⟨s, h, q, 0, false⟩ from popL_no (.inl (by rw [dqB_of B, hr])))
      clear hr B
      have ka := HKA.out
      have a0 := ka.cell 0
      have a1 := ka.cell 1
      have a2 := ka.cell 2
      simp only [List.getElem?_cons_zero, List.getElem?_cons_succ] at a0 a1 a2
      clear ka
      go_wp2_with fail
      clear a0 a1 a2
      refine (asItWas_any A s c _ _ _ hm HI2.out).mono ?_
      rintro e w3 ⟨hb4, A1, c1, rfl, hlo4, hcc, hrow⟩
      have kb := HKB.out.below hb4 (by omega)
      have d0 := kb.cell 0
      have d1 := kb.cell 1
      have d2 := kb.cell 2
      have y0 := kb.frozen 0
      have y1 := kb.frozen 1
      have y2 := kb.frozen 2
      simp only [List.getElem?_cons_zero, List.getElem?_cons_succ] at d0 d1 d2
      have HB4 := Lib.hid (HB2.out.trans (hb4.mono HB2.out.size))
      have HLO := Lib.hid hlo4
      have HCC := Lib.hid hcc
      have HR := Lib.hid hrow
      clear hb4 hlo4 hcc hrow kb
      go_wp2
      rw [HE.out]
      refine bodyPost_ret (v := popV 0 false (.agg #[.slice A1 s.length c1, .int .i64 (h : Int), .int .i64 (q : Int)])) (by simp [results, Try.results61, go_sem, d0, d1, d2, popV]) rfl ?_
      refine ⟨((HB4.out.setCell (p := ⟨w.heap.size + 1, 0, none⟩) (by simp) _).setCell (p := ⟨w.heap.size + 1, 1, none⟩) (by simp) _).setCell (p := ⟨w.heap.size + 1, 2, none⟩) (by simp) _, A1, c1, rfl, fun b hb => by have := HLO.out b hb; omega, HCC.out, ?_⟩
      exact ((HR.out.set (fun b hb => by have := HLO.out b hb; simp; omega) _).set (fun b hb => by have := HLO.out b hb; simp; omega) _).set (fun b hb => by have := HLO.out b hb; simp; omega) _
    · cases q with
      | zero =>
        have HE := Lib.hid (show popL s h ((0 : Nat) : Int) = ⟨s, h, 0, 0, false⟩ from popL_no (.inr rfl))
        clear hr B
        go_wp2_with fail
        refine (popLast_none b s h _ HB.out HM.out).mono ?_
        rintro e w3 ⟨rfl, hM3, hg3⟩
        have HB3 := Lib.hid (HB2.out.grown hg3 HB2.out.size (fun k hk => by injection hk; omega))
        have HKB3 := Lib.hid (HKB.out.grown hg3 (by intro e; injection e; omega))
        have HM3 := Lib.hid hM3
        have hz3 := hg3.size
        clear hM3 hg3 HM
        go_wp2_with fail
        refine (dequeOf_any b s h 0 _ HB.out HM3.out).mono ?_
        rintro e w4 ⟨hb4, A1, c1, rfl, hlo4, hcc, hrow⟩
        have kb := HKB3.out.below hb4 (by omega)
        have d0 := kb.cell 0
        have d1 := kb.cell 1
        have d2 := kb.cell 2
        have y0 := kb.frozen 0
        have y1 := kb.frozen 1
        have y2 := kb.frozen 2
        simp only [List.getElem?_cons_zero, List.getElem?_cons_succ] at d0 d1 d2
        have HB4 := Lib.hid (HB3.out.trans (hb4.mono HB3.out.size))
        have HLO := Lib.hid hlo4
        have HCC := Lib.hid hcc
        have HR := Lib.hid hrow
        clear hb4 hlo4 hcc hrow kb
        go_wp2
        rw [HE.out]
        refine bodyPost_ret (v := popV 0 false (.agg #[.slice A1 s.length c1, .int .i64 (h : Int), .int .i64 0])) (by simp [results, Try.results61, go_sem, d0, d1, d2, popV]) rfl ?_
        refine ⟨((HB4.out.setCell (p := ⟨w.heap.size + 1, 0, none⟩) (by simp) _).setCell (p := ⟨w.heap.size + 1, 1, none⟩) (by simp) _).setCell (p := ⟨w.heap.size + 1, 2, none⟩) (by simp) _, A1, c1, rfl, fun b hb => by have := HLO.out b hb; omega, HCC.out, ?_⟩
        exact ((HR.out.set (fun b hb => by have := HLO.out b hb; simp; omega) _).set (fun b hb => by have := HLO.out b hb; simp; omega) _).set (fun b hb => by have := HLO.out b hb; simp; omega) _
      | succ q =>
        have hq1 := B.q1
        have n1 := B.n1
        have n2 := B.n2
        have hh := B.h1
        have HE := Lib.hid (popL_yes B hr)
        have hpa := plc_lt h q n1
        have hpb := plc_lt h 1 n1
        have HX := Lib.hid (getD_some (s := s) (p := (plc s.length h q)) (by first | exact hpa | exact hh))
        clear hr B
        generalize s.getD (plc s.length h q) 0 = x at *
        go_wp2_with fail
        refine (popLast_one b s h q x _ HB.out HM.out HX.out).mono ?_
        rintro e w3 ⟨rfl, hM3, hg3⟩
        have HB3 := Lib.hid (HB2.out.grown hg3 HB2.out.size (fun k hk => by injection hk; omega))
        have HKB3 := Lib.hid (HKB.out.grown hg3 (by intro e; injection e; omega))
        have HM3 := Lib.hid hM3
        have hz3 := hg3.size
        clear hM3 hg3 HM
        go_wp2_with fail
        refine (dequeOf_any b (s.set (plc s.length h q) 0) h q _ ⟨by rw [List.length_set]; omega, by rw [List.length_set]; omega, by rw [List.length_set]; omega, by rw [List.length_set]; omega⟩ HM3.out).mono ?_
        rintro e w4 ⟨hb4, A1, c1, rfl, hlo4, hcc, hrow⟩
        have kb := HKB3.out.below hb4 (by omega)
        have d0 := kb.cell 0
        have d1 := kb.cell 1
        have d2 := kb.cell 2
        have y0 := kb.frozen 0
        have y1 := kb.frozen 1
        have y2 := kb.frozen 2
        simp only [List.getElem?_cons_zero, List.getElem?_cons_succ] at d0 d1 d2
        have HB4 := Lib.hid (HB3.out.trans (hb4.mono HB3.out.size))
        have HLO := Lib.hid hlo4
        have HCC := Lib.hid hcc
        have HR := Lib.hid hrow
        clear hb4 hlo4 hcc hrow kb
        go_wp2
        rw [HE.out]
        refine bodyPost_ret (v := popV x true (.agg #[.slice A1 ((s.set (plc s.length h q) 0)).length c1, .int .i64 h, .int .i64 (q : Int)])) (by simp [results, Try.results61, go_sem, d0, d1, d2, popV]) rfl ?_
        refine ⟨((HB4.out.setCell (p := ⟨w.heap.size + 1, 0, none⟩) (by simp) _).setCell (p := ⟨w.heap.size + 1, 1, none⟩) (by simp) _).setCell (p := ⟨w.heap.size + 1, 2, none⟩) (by simp) _, A1, c1, rfl, fun b hb => by have := HLO.out b hb; omega, HCC.out, ?_⟩
        exact ((HR.out.set (fun b hb => by have := HLO.out b hb; simp; omega) _).set (fun b hb => by have := HLO.out b hb; simp; omega) _).set (fun b hb => by have := HLO.out b hb; simp; omega) _

set_option maxHeartbeats 2000000 in
theorem PushLast_any (A : Option Addr) (s : List Int) (c : Nat) (H Q x : Int) (w : World) (hm : s.length ≤ 2097152) (HI : IS w A s) :
    Calls Try.prog 30 #[.agg #[.slice A s.length c, .int .i64 H, .int .i64 Q], .int .i64 x] w (DqOut w (pushL s H Q x).s (pushL s H Q x).h (pushL s H Q x).q (pushV (pushL s H Q x).ok)) := by
  have HB0 := Lib.hid (((Below.refl w.heap.size w).alloc (Nat.le_refl _) (.cells #[.slice A s.length c, .int .i64 H, .int .i64 Q] 28)).alloc (by simp) (.cells #[.slice none 0 0, .int .i64 0, .int .i64 0] 28))
  have HI1 := Lib.hid (HI.below HB0.out)
  have K1 := BlkL.new (w.alloc (.cells #[.slice A s.length c, .int .i64 H, .int .i64 Q] 28)) 28 [.slice none 0 0, .int .i64 0, .int .i64 0]
  simp only [World.size_alloc] at K1
  have HK1 := Lib.hid K1
  have HC := Lib.hid (fun w (hi : IS w A s) => pushedL_in A s c H Q x w hm hi)
  clear HI K1
  generalize pushL s H Q x = r at *
  go_enter Try.func30, Try.ntmps30
  go_wp2_with fail
  generalize hw1 : (w.alloc (.cells #[.slice A s.length c, .int .i64 H, .int .i64 Q] 28)).alloc (.cells #[.slice none 0 0, .int .i64 0, .int .i64 0] 28) = w1 at *
  have hz1 : w1.heap.size = w.heap.size + 1 + 1 := by rw [← hw1]; simp
  clear hw1
  refine (HC.out _ HI1.out).mono ?_
  rintro e w2 ⟨hb4, A1, c1, rfl, hlo4, hcc, hrow⟩
  have kb := HK1.out.below hb4 (by omega)
  have d0 := kb.cell 0
  have d1 := kb.cell 1
  have d2 := kb.cell 2
  have y0 := kb.frozen 0
  have y1 := kb.frozen 1
  have y2 := kb.frozen 2
  simp only [List.getElem?_cons_zero, List.getElem?_cons_succ] at d0 d1 d2
  have HB4 := Lib.hid (HB0.out.trans (hb4.mono (by omega)))
  have HLO := Lib.hid hlo4
  have HCC := Lib.hid hcc
  have HR := Lib.hid hrow
  clear hb4 hlo4 hcc hrow kb
  simp only [pushV]
  go_wp2
  refine bodyPost_ret (v := pushV r.ok (.agg #[.slice A1 r.s.length c1, .int .i64 r.h, .int .i64 r.q])) (by simp [results, Try.results30, go_sem, d0, d1, d2, pushV]) rfl ?_
  refine ⟨((HB4.out.setCell (p := ⟨w.heap.size + 1, 0, none⟩) (by simp) _).setCell (p := ⟨w.heap.size + 1, 1, none⟩) (by simp) _).setCell (p := ⟨w.heap.size + 1, 2, none⟩) (by simp) _, A1, c1, rfl, fun b hb => by have := HLO.out b hb; omega, HCC.out, ?_⟩
  exact ((HR.out.set (fun b hb => by have := HLO.out b hb; simp; omega) _).set (fun b hb => by have := HLO.out b hb; simp; omega) _).set (fun b hb => by have := HLO.out b hb; simp; omega) _

set_option maxHeartbeats 2000000 in
theorem PushFirst_any (A : Option Addr) (s : List Int) (c : Nat) (H Q x : Int) (w : World) (hm : s.length ≤ 2097152) (HI : IS w A s) :
    Calls Try.prog 32 #[.agg #[.slice A s.length c, .int .i64 H, .int .i64 Q], .int .i64 x] w (DqOut w (pushF s H Q x).s (pushF s H Q x).h (pushF s H Q x).q (pushV (pushF s H Q x).ok)) := by
  have HB0 := Lib.hid (((Below.refl w.heap.size w).alloc (Nat.le_refl _) (.cells #[.slice A s.length c, .int .i64 H, .int .i64 Q] 28)).alloc (by simp) (.cells #[.slice none 0 0, .int .i64 0, .int .i64 0] 28))
  have HI1 := Lib.hid (HI.below HB0.out)
  have K1 := BlkL.new (w.alloc (.cells #[.slice A s.length c, .int .i64 H, .int .i64 Q] 28)) 28 [.slice none 0 0, .int .i64 0, .int .i64 0]
  simp only [World.size_alloc] at K1
  have HK1 := Lib.hid K1
  have HC := Lib.hid (fun w (hi : IS w A s) => pushedF_in A s c H Q x w hm hi)
  clear HI K1
  generalize pushF s H Q x = r at *
  go_enter Try.func32, Try.ntmps32
  go_wp2_with fail
  generalize hw1 : (w.alloc (.cells #[.slice A s.length c, .int .i64 H, .int .i64 Q] 28)).alloc (.cells #[.slice none 0 0, .int .i64 0, .int .i64 0] 28) = w1 at *
  have hz1 : w1.heap.size = w.heap.size + 1 + 1 := by rw [← hw1]; simp
  clear hw1
  refine (HC.out _ HI1.out).mono ?_
  rintro e w2 ⟨hb4, A1, c1, rfl, hlo4, hcc, hrow⟩
  have kb := HK1.out.below hb4 (by omega)
  have d0 := kb.cell 0
  have d1 := kb.cell 1
  have d2 := kb.cell 2
  have y0 := kb.frozen 0
  have y1 := kb.frozen 1
  have y2 := kb.frozen 2
  simp only [List.getElem?_cons_zero, List.getElem?_cons_succ] at d0 d1 d2
  have HB4 := Lib.hid (HB0.out.trans (hb4.mono (by omega)))
  have HLO := Lib.hid hlo4
  have HCC := Lib.hid hcc
  have HR := Lib.hid hrow
  clear hb4 hlo4 hcc hrow kb
  simp only [pushV]
  go_wp2
  refine bodyPost_ret (v := pushV r.ok (.agg #[.slice A1 r.s.length c1, .int .i64 r.h, .int .i64 r.q])) (by simp [results, Try.results32, go_sem, d0, d1, d2, pushV]) rfl ?_
  refine ⟨((HB4.out.setCell (p := ⟨w.heap.size + 1, 0, none⟩) (by simp) _).setCell (p := ⟨w.heap.size + 1, 1, none⟩) (by simp) _).setCell (p := ⟨w.heap.size + 1, 2, none⟩) (by simp) _, A1, c1, rfl, fun b hb => by have := HLO.out b hb; omega, HCC.out, ?_⟩
  exact ((HR.out.set (fun b hb => by have := HLO.out b hb; simp; omega) _).set (fun b hb => by have := HLO.out b hb; simp; omega) _).set (fun b hb => by have := HLO.out b hb; simp; omega) _

set_option maxHeartbeats 2000000 in
theorem PopFirst_any (A : Option Addr) (s : List Int) (c : Nat) (H Q : Int) (w : World) (hm : s.length ≤ 2097152) (HI : IS w A s) :
    Calls Try.prog 34 #[.agg #[.slice A s.length c, .int .i64 H, .int .i64 Q]] w (DqOut w (popF s H Q).s (popF s H Q).h (popF s H Q).q (popV (popF s H Q).x (popF s H Q).ok)) := by
  have HB0 := Lib.hid (((Below.refl w.heap.size w).alloc (Nat.le_refl _) (.cells #[.slice A s.length c, .int .i64 H, .int .i64 Q] 28)).alloc (by simp) (.cells #[.slice none 0 0, .int .i64 0, .int .i64 0] 28))
  have HI1 := Lib.hid (HI.below HB0.out)
  have K1 := BlkL.new (w.alloc (.cells #[.slice A s.length c, .int .i64 H, .int .i64 Q] 28)) 28 [.slice none 0 0, .int .i64 0, .int .i64 0]
  simp only [World.size_alloc] at K1
  have HK1 := Lib.hid K1
  have HC := Lib.hid (fun w (hi : IS w A s) => poppedF_in A s c H Q w hm hi)
  clear HI K1
  generalize popF s H Q = r at *
  go_enter Try.func34, Try.ntmps34
  go_wp2_with fail
  generalize hw1 : (w.alloc (.cells #[.slice A s.length c, .int .i64 H, .int .i64 Q] 28)).alloc (.cells #[.slice none 0 0, .int .i64 0, .int .i64 0] 28) = w1 at *
  have hz1 : w1.heap.size = w.heap.size + 1 + 1 := by rw [← hw1]; simp
  clear hw1
  refine (HC.out _ HI1.out).mono ?_
  rintro e w2 ⟨hb4, A1, c1, rfl, hlo4, hcc, hrow⟩
  have kb := HK1.out.below hb4 (by omega)
  have d0 := kb.cell 0
  have d1 := kb.cell 1
  have d2 := kb.cell 2
  have y0 := kb.frozen 0
  have y1 := kb.frozen 1
  have y2 := kb.frozen 2
  simp only [List.getElem?_cons_zero, List.getElem?_cons_succ] at d0 d1 d2
  have HB4 := Lib.hid (HB0.out.trans (hb4.mono (by omega)))
  have HLO := Lib.hid hlo4
  have HCC := Lib.hid hcc
  have HR := Lib.hid hrow
  clear hb4 hlo4 hcc hrow kb
  simp only [popV]
  go_wp2
  refine bodyPost_ret (v := popV r.x r.ok (.agg #[.slice A1 r.s.length c1, .int .i64 r.h, .int .i64 r.q])) (by simp [results, Try.results34, go_sem, d0, d1, d2, popV]) rfl ?_
  refine ⟨((HB4.out.setCell (p := ⟨w.heap.size + 1, 0, none⟩) (by simp) _).setCell (p := ⟨w.heap.size + 1, 1, none⟩) (by simp) _).setCell (p := ⟨w.heap.size + 1, 2, none⟩) (by simp) _, A1, c1, rfl, fun b hb => by have := HLO.out b hb; omega, HCC.out, ?_⟩
  exact ((HR.out.set (fun b hb => by have := HLO.out b hb; simp; omega) _).set (fun b hb => by have := HLO.out b hb; simp; omega) _).set (fun b hb => by have := HLO.out b hb; simp; omega) _

set_option maxHeartbeats 2000000 in
theorem PopLast_any (A : Option Addr) (s : List Int) (c : Nat) (H Q : Int) (w : World) (hm : s.length ≤ 2097152) (HI : IS w A s) :
    Calls Try.prog 36 #[.agg #[.slice A s.length c, .int .i64 H, .int .i64 Q]] w (DqOut w (popL s H Q).s (popL s H Q).h (popL s H Q).q (popV (popL s H Q).x (popL s H Q).ok)) := by
  have HB0 := Lib.hid (((Below.refl w.heap.size w).alloc (Nat.le_refl _) (.cells #[.slice A s.length c, .int .i64 H, .int .i64 Q] 28)).alloc (by simp) (.cells #[.slice none 0 0, .int .i64 0, .int .i64 0] 28))
  have HI1 := Lib.hid (HI.below HB0.out)
  have K1 := BlkL.new (w.alloc (.cells #[.slice A s.length c, .int .i64 H, .int .i64 Q] 28)) 28 [.slice none 0 0, .int .i64 0, .int .i64 0]
  simp only [World.size_alloc] at K1
  have HK1 := Lib.hid K1
  have HC := Lib.hid (fun w (hi : IS w A s) => poppedL_in A s c H Q w hm hi)
  clear HI K1
  generalize popL s H Q = r at *
  go_enter Try.func36, Try.ntmps36
  go_wp2_with fail
  generalize hw1 : (w.alloc (.cells #[.slice A s.length c, .int .i64 H, .int .i64 Q] 28)).alloc (.cells #[.slice none 0 0, .int .i64 0, .int .i64 0] 28) = w1 at *
  have hz1 : w1.heap.size = w.heap.size + 1 + 1 := by rw [← hw1]; simp
  clear hw1
  refine (HC.out _ HI1.out).mono ?_
  rintro e w2 ⟨hb4, A1, c1, rfl, hlo4, hcc, hrow⟩
  have kb := HK1.out.below hb4 (by omega)
  have d0 := kb.cell 0
  have d1 := kb.cell 1
  have d2 := kb.cell 2
  have y0 := kb.frozen 0
  have y1 := kb.frozen 1
  have y2 := kb.frozen 2
  simp only [List.getElem?_cons_zero, List.getElem?_cons_succ] at d0 d1 d2
  have HB4 := Lib.hid (HB0.out.trans (hb4.mono (by omega)))
  have HLO := Lib.hid hlo4
  have HCC := Lib.hid hcc
  have HR := Lib.hid hrow
  clear hb4 hlo4 hcc hrow kb
  simp only [popV]
  go_wp2
  refine bodyPost_ret (v := popV r.x r.ok (.agg #[.slice A1 r.s.length c1, .int .i64 r.h, .int .i64 r.q])) (by simp [results, Try.results36, go_sem, d0, d1, d2, popV]) rfl ?_
  refine ⟨((HB4.out.setCell (p := ⟨w.heap.size + 1, 0, none⟩) (by simp) _).setCell (p := ⟨w.heap.size + 1, 1, none⟩) (by simp) _).setCell (p := ⟨w.heap.size + 1, 2, none⟩) (by simp) _, A1, c1, rfl, fun b hb => by have := HLO.out b hb; omega, HCC.out, ?_⟩
  exact ((HR.out.set (fun b hb => by have := HLO.out b hb; simp; omega) _).set (fun b hb => by have := HLO.out b hb; simp; omega) _).set (fun b hb => by have := HLO.out b hb; simp; omega) _
end Go.Proofs.Ytkpkchlbljlbnaa
