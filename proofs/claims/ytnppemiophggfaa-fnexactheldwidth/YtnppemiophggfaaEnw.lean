/-
  HeldWidth of the program and of the model.
-/
import Derived.Test.YtnppemiophggfaaEnr
namespace Go.Proofs.Ytnppemiophggfaa
open Go.RowKit
set_option linter.unusedVariables false
noncomputable def hwI (e : En) : Int := if engB e = true then (match e.it with | [] => 0 | h :: _ => e.tot - h.st) else -1
theorem hwI_no {e : En} (h : engB e = false) : hwI e = -1 := if_neg (by rw [h]; decide)
theorem hwI_nil {e : En} (h : engB e = true) (hn : ¬ 0 < e.it.length) : hwI e = 0 := by
  unfold hwI; rw [if_pos h]
  cases hi : e.it with
  | nil => rfl
  | cons a r => rw [hi] at hn; simp at hn
theorem hwI_some {e : En} {t : Hd} (h : engB e = true) (ht : e.it[0]? = some t) : hwI e = e.tot - t.st ∧ 0 ≤ e.tot - t.st ∧ e.tot - t.st ≤ 1000000 := by
  have hk := engB_ok h
  have h1 := (hk.helds 0 t ht).st
  have h2 := hk.tot
  refine ⟨?_, by omega, by have : (0 : Int) ≤ t.st := h1.1; omega⟩
  unfold hwI; rw [if_pos h]
  cases hi : e.it with
  | nil => rw [hi] at ht; simp at ht
  | cons a r => rw [hi] at ht; simp at ht; subst ht; rfl
set_option maxHeartbeats 400000 in
set_option maxRecDepth 100000 in
theorem widthHeld_any (e : En) (A2 : Option Addr) (c2 : Nat) (w : World) (hi : HS w A2 e.it) (hl : e.it.length ≤ 400) (he : engB e = true) :
    Calls Try.prog 52 #[.slice A2 e.it.length c2, .int .i64 e.tot] w fun r w' => r = .returned (.int .i64 (hwI e)) ∧ Below w.heap.size w w' := by
  by_cases h0 : 0 < e.it.length
  · obtain ⟨t, b, o, ht, rfl, hbl, f0, f1, f2, f3, f4, f5, f6⟩ := HS.sev hi (k := 0) h0
    obtain ⟨h1, h2, h3⟩ := hwI_some he ht
    rw [Nat.zero_mul, Nat.add_zero] at f0 f1 f2 f3 f4 f5 f6
    have H1 := Lib.hid h1
    have hb0 : ((e.it.length : Int) == 0) = false := by rw [beq_eq_false_iff_ne]; omega
    have hd0 : decide ((0 : Int) < (e.it.length : Int)) = true := by simp; omega
    clear h1 he
    go_enter Try.func52, Try.ntmps52
    go_wp2
    go_ret
    rw [H1.out]
    exact ⟨rfl, Below.refl _ _⟩
  · have H1 := Lib.hid (hwI_nil he h0)
    have hb0 : ((e.it.length : Int) == 0) = true := by rw [beq_iff_eq]; omega
    clear he
    go_enter Try.func52, Try.ntmps52
    go_wp2
    go_ret
    rw [H1.out]
    exact ⟨rfl, Below.refl _ _⟩
set_option maxHeartbeats 400000 in
set_option maxRecDepth 100000 in
theorem HeldWidth_any (e : En) (v : Value) (w : World) (hm : e.ms.length ≤ maxLen) (hi : e.it.length ≤ maxLen) (hf : Fits (tks e.it)) (h : EngR w v e) :
    Calls Try.prog 24 #[v] w fun r w' => r = .returned (.int .i64 (hwI e)) ∧ Below w.heap.size w w' := by
  have HE := Lib.hid h
  obtain ⟨A, c, A2, c2, rfl, m1, i1⟩ := h
  have I1 := Lib.hid i1
  have HF := Lib.hid hf
  clear m1 i1 hf
  unfold ev at *
  go_enter Try.func24, Try.ntmps24
  go_wp2_with fail
  have hX1 := BlkL.new w 25 (ecs e (.slice A e.ms.length c) (.slice A2 e.it.length c2))
  have hB1 := (Below.refl w.heap.size w).alloc (Nat.le_refl _) (.cells (ecs e (.slice A e.ms.length c) (.slice A2 e.it.length c2)).toArray 25)
  change Calls _ _ _ (w.alloc (.cells (ecs e (.slice A e.ms.length c) (.slice A2 e.it.length c2)).toArray 25)) _
  generalize w.alloc (.cells (ecs e (.slice A e.ms.length c) (.slice A2 e.it.length c2)).toArray 25) = w1 at *
  refine (EngineOk_any e _ w1 hm hi HF.out (HE.out.below hB1)).mono ?_
  rintro r w2 ⟨rfl, hb2⟩
  have HB2 := Lib.hid (hB1.trans (hb2.mono hB1.size))
  have hX2 := hX1.below hb2 hX1.lt
  have x4 : w2.cell? ⟨w.heap.size, 4, none⟩ = some (.slice A2 e.it.length c2) := (hX2.cell 4).trans rfl
  have x5 : w2.cell? ⟨w.heap.size, 5, none⟩ = some (.int .i64 e.tot) := (hX2.cell 5).trans rfl
  have xl := hX2.lt
  clear hX1 hX2 hb2 hB1
  cases he : engB e
  · have H1 := Lib.hid (hwI_no he)
    go_wp2
    go_ret
    rw [H1.out]
    exact ⟨rfl, HB2.out⟩
  · have HEB := Lib.hid he
    clear he
    go_wp2_with fail
    refine (widthHeld_any e A2 c2 w2 (RS.below I1.out HB2.out) (engB_ok HEB.out).nit HEB.out).mono ?_
    rintro r w3 ⟨rfl, hb3⟩
    have HB3 := Lib.hid (HB2.out.trans (hb3.mono HB2.out.size))
    clear hb3
    go_wp2
    go_ret
    exact ⟨rfl, HB3.out⟩
set_option maxHeartbeats 400000 in
set_option maxRecDepth 100000 in
theorem sHeldWidth_any (e : En) (v : Value) (w : World) (hm : e.ms.length ≤ maxLen) (hi : e.it.length ≤ maxLen) (hf : Fits (tks e.it)) (h : EngR w v e) :
    Calls Try.prog 23 #[v] w fun r w' => r = .returned (.int .i64 (hwI e)) ∧ Below w.heap.size w w' := by
  have HE := Lib.hid h
  obtain ⟨A, c, A2, c2, rfl, m1, i1⟩ := h
  have I1 := Lib.hid i1
  have HF := Lib.hid hf
  clear m1 i1 hf
  unfold ev at *
  go_enter Try.func23, Try.ntmps23
  go_wp2_with fail
  have hX1 := BlkL.new w 25 (ecs e (.slice A e.ms.length c) (.slice A2 e.it.length c2))
  have hB1 := (Below.refl w.heap.size w).alloc (Nat.le_refl _) (.cells (ecs e (.slice A e.ms.length c) (.slice A2 e.it.length c2)).toArray 25)
  change Calls _ _ _ (w.alloc (.cells (ecs e (.slice A e.ms.length c) (.slice A2 e.it.length c2)).toArray 25)) _
  generalize w.alloc (.cells (ecs e (.slice A e.ms.length c) (.slice A2 e.it.length c2)).toArray 25) = w1 at *
  refine (sEngineOk_any e _ w1 hm hi HF.out (HE.out.below hB1)).mono ?_
  rintro r w2 ⟨rfl, hb2⟩
  have HB2 := Lib.hid (hB1.trans (hb2.mono hB1.size))
  have hX2 := hX1.below hb2 hX1.lt
  have x4 : w2.cell? ⟨w.heap.size, 4, none⟩ = some (.slice A2 e.it.length c2) := (hX2.cell 4).trans rfl
  have x5 : w2.cell? ⟨w.heap.size, 5, none⟩ = some (.int .i64 e.tot) := (hX2.cell 5).trans rfl
  have xl := hX2.lt
  clear hX1 hX2 hb2 hB1
  cases he : engB e
  · have H1 := Lib.hid (hwI_no he)
    go_wp2
    go_ret
    rw [H1.out]
    exact ⟨rfl, HB2.out⟩
  · have I2 := Lib.hid (RS.below I1.out HB2.out)
    have hnit := (engB_ok he).nit
    by_cases h0 : 0 < e.it.length
    · obtain ⟨t, b, o, ht, rfl, hbl, f0, f1, f2, f3, f4, f5, f6⟩ := HS.sev I2.out (k := 0) h0
      obtain ⟨h1, h2, h3⟩ := hwI_some he ht
      rw [Nat.zero_mul, Nat.add_zero] at f0 f1 f2 f3 f4 f5 f6
      have H1 := Lib.hid h1
      have hb0 : ((e.it.length : Int) == 0) = false := by rw [beq_eq_false_iff_ne]; omega
      have hd0 : decide ((0 : Int) < (e.it.length : Int)) = true := by simp; omega
      clear h1 he
      go_wp2
      go_region
      go_wp2
      go_ret
      rw [H1.out]
      exact ⟨rfl, HB2.out.drew⟩
    · have H1 := Lib.hid (hwI_nil he h0)
      have hb0 : ((e.it.length : Int) == 0) = true := by rw [beq_iff_eq]; omega
      clear he
      go_wp2
      go_ret
      rw [H1.out]
      exact ⟨rfl, HB2.out⟩
end Go.Proofs.Ytnppemiophggfaa
