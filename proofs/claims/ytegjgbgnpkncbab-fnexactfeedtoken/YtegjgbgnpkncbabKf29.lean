/-
  HeldWidth of the program and of the model.
-/
import Derived.Test.YtegjgbgnpkncbabKf28
namespace Go.Proofs.Ytegjgbgnpkncbab
open Go.RowKit
set_option linter.unusedVariables false
theorem hdsB_true {tot : Int} {l : List Hd} {k : Nat} : hdsB tot l k = true ↔ ∀ i h, i < k → l[i]? = some h → hdB h = true ∧ inB h.st (lstN l i) tot = true := by
  induction k with
  | zero => simp [hdsB]
  | succ k ih =>
    simp only [hdsB, Bool.and_eq_true, ih]
    constructor
    · rintro ⟨h1, h2⟩ i h hi he
      by_cases hik : i < k
      · exact h1 i h hik he
      · obtain rfl : i = k := by omega
        rw [he] at h2
        simpa using h2
    · intro h1
      refine ⟨fun i h hi he => h1 i h (by omega) he, ?_⟩
      cases hk : l[k]? with
      | none => rfl
      | some h => simpa using h1 k h (by omega) hk
theorem stkN_true {n : Nat} {l : List Tk} {k : Nat} : stkN n l k = true ↔ ∀ i, i < k → inB ((n : Int) + opN l (i + 1)) 1 13 = true := by
  induction k with
  | zero => simp [stkN]
  | succ k ih =>
    simp only [stkN, Bool.and_eq_true, ih]
    constructor
    · rintro ⟨h1, h2⟩ i hi
      by_cases hik : i < k
      · exact h1 i hik
      · obtain rfl : i = k := by omega
        exact h2
    · intro h1
      exact ⟨fun i hi => h1 i (by omega), h1 k (by omega)⟩
theorem hdB_true {h : Hd} : hdB h = true ↔ h.t.ok = true ∧ (0 ≤ h.lv ∧ h.lv ≤ 12) ∧ (-1 ≤ h.sz ∧ h.sz ≤ 1000000) ∧ (h.sz = -1 → h.t.k = 2 ∨ h.t.k = 1) := by
  unfold hdB
  by_cases hs : h.sz = -1
  · rw [if_pos hs]
    simp only [Bool.and_eq_true, inB_true, Bool.or_eq_true, decide_eq_true_eq]
    constructor
    · rintro ⟨a, b, c⟩; exact ⟨a, b, by omega, fun _ => c⟩
    · rintro ⟨a, b, _, c⟩; exact ⟨a, b, c hs⟩
  · rw [if_neg hs]
    simp only [Bool.and_eq_true, inB_true]
    constructor
    · rintro ⟨a, b, c⟩; exact ⟨a, b, by omega, fun h => absurd h hs⟩
    · rintro ⟨a, b, c, _⟩; exact ⟨a, b, by omega⟩
theorem all_at {α : Type} {p : α → Bool} {l : List α} : l.all p = true ↔ ∀ (i : Nat) (t : α), l[i]? = some t → p t = true := by
  rw [List.all_eq_true]
  constructor
  · intro h i t ht; exact h t (List.mem_of_getElem? ht)
  · intro h t ht; obtain ⟨i, hi⟩ := List.getElem?_of_mem ht; exact h i t hi
theorem engB_eq (e : En) : engB e = (inB e.W 1 200 && (colB e.col e.pend e.ms && (mksOkB e.ms && (inB e.tot 0 1000000 && (inB e.lev 0 12 && (helB e.tot e.it && stkB e.ms.length (tks e.it) e.lev)))))) := by
  rw [Bool.eq_iff_iff]
  constructor
  · intro h
    have h := engB_ok h
    simp only [Bool.and_eq_true]
    refine ⟨inB_true.2 h.w, ?_, ?_, inB_true.2 h.tot, inB_true.2 h.lev, ?_, ?_⟩
    · simp only [colB, Bool.and_eq_true]
      exact ⟨all_at.2 fun i t ht => inB_true.2 (h.cols i t ht), inB_true.2 h.col, inB_true.2 h.pend⟩
    · simp only [mksOkB, Bool.and_eq_true]
      exact ⟨all_at.2 fun i t ht => inB_true.2 (h.kinds i t ht), inB_true.2 (by have := h.nms; omega)⟩
    · simp only [helB, Bool.and_eq_true, decide_eq_true_eq]
      refine ⟨h.nit, hdsB_true.2 fun i t _ ht => ?_⟩
      have := h.helds i t ht
      exact ⟨hdB_true.2 ⟨this.tok, this.lv, this.sz, this.un⟩, inB_true.2 this.st⟩
    · simp only [stkB, Bool.and_eq_true, decide_eq_true_eq, tks_length]
      exact ⟨stkN_true.2 fun i hi => inB_true.2 (h.stack i hi), h.fin⟩
  · intro h
    simp only [Bool.and_eq_true, colB, mksOkB, helB, stkB, decide_eq_true_eq, tks_length] at h
    obtain ⟨h1, ⟨h2, h3, h4⟩, ⟨h5, h6⟩, h7, h8, ⟨h9, h10⟩, h11, h12⟩ := h
    refine engB_yes ⟨inB_true.1 h1, inB_true.1 h3, inB_true.1 h4, inB_true.1 h7, inB_true.1 h8, by have := inB_true.1 h6; omega, h9, fun i m hm => inB_true.1 (all_at.1 h5 i m hm), fun i m hm => inB_true.1 (all_at.1 h2 i m hm), fun i h hh => ?_, fun i hi => inB_true.1 (stkN_true.1 h11 i hi), h12⟩
    have := hdsB_true.1 h10 i h (List.getElem?_eq_some_iff.1 hh).1 hh
    have hd := hdB_true.1 this.1
    exact ⟨hd.1, hd.2.1, inB_true.1 this.2, hd.2.2.1, hd.2.2.2⟩
set_option maxHeartbeats 1000000 in
set_option maxRecDepth 100000 in
theorem EngineOk_any (e : En) (v : Value) (w : World) (hm : e.ms.length ≤ maxLen) (hi : e.it.length ≤ maxLen) (hf : Fits (tks e.it)) (h : EngR w v e) :
    Calls Try.prog 56 #[v] w fun r w' => r = .returned (.bool (engB e)) ∧ Below w.heap.size w w' := by
  obtain ⟨A, c, A2, c2, rfl, m1, i1⟩ := h
  unfold ev
  have M1 := Lib.hid m1
  have I1 := Lib.hid i1
  have HF := Lib.hid hf
  clear m1 i1 hf
  go_enter Try.func56, Try.ntmps56
  have hX1 := BlkL.new w 47 (ecs e (.slice A e.ms.length c) (.slice A2 e.it.length c2))
  have hB1 := (Below.refl w.heap.size w).alloc (Nat.le_refl _) (.cells (ecs e (.slice A e.ms.length c) (.slice A2 e.it.length c2)).toArray 47)
  have HEQ := Lib.hid (engB_eq e)
  go_wp2_with fail
  change Calls _ _ _ (w.alloc (.cells (ecs e (.slice A e.ms.length c) (.slice A2 e.it.length c2)).toArray 47)) _
  generalize w.alloc (.cells (ecs e (.slice A e.ms.length c) (.slice A2 e.it.length c2)).toArray 47) = w1 at *
  have HX1 := Lib.hid hX1
  have HB1 := Lib.hid hB1
  have x0 : w1.cell? ⟨w.heap.size, 0, none⟩ = some (.int .i64 e.W) := (hX1.cell 0).trans rfl
  have x1 : w1.cell? ⟨w.heap.size, 1, none⟩ = some (.int .i64 e.col) := (hX1.cell 1).trans rfl
  have x2 : w1.cell? ⟨w.heap.size, 2, none⟩ = some (.int .i64 e.pend) := (hX1.cell 2).trans rfl
  have x3 : w1.cell? ⟨w.heap.size, 3, none⟩ = some (.slice A e.ms.length c) := (hX1.cell 3).trans rfl
  have x4 : w1.cell? ⟨w.heap.size, 4, none⟩ = some (.slice A2 e.it.length c2) := (hX1.cell 4).trans rfl
  have x5 : w1.cell? ⟨w.heap.size, 5, none⟩ = some (.int .i64 e.tot) := (hX1.cell 5).trans rfl
  have x6 : w1.cell? ⟨w.heap.size, 6, none⟩ = some (.int .i64 e.lev) := (hX1.cell 6).trans rfl
  have xl := hX1.lt
  clear hX1 hB1
  refine (within_any _ _ _ _).mono ?_
  rintro r w' ⟨rfl, rfl⟩
  cases h1 : inB e.W 1 200
  · rw [h1] at HEQ
    rw [Bool.false_and] at HEQ
    clear h1
    go_wp2
    go_ret
    rw [HEQ.out]
    exact ⟨rfl, HB1.out⟩
  · rw [h1] at HEQ
    rw [Bool.true_and] at HEQ
    clear h1
    go_wp2_with fail
    refine (columnsOk_any _ _ A e.ms _ c w1 rfl hm (RS.below M1.out HB1.out)).mono ?_
    rintro r w2 ⟨rfl, hb2⟩
    have HB2 := Lib.hid (HB1.out.trans (hb2.mono HB1.out.size))
    have hX2 := HX1.out.below hb2 HX1.out.lt
    have HX2 := Lib.hid hX2
    clear x0 x1 x2 x3 x4 x5 x6 xl
    have x0 : w2.cell? ⟨w.heap.size, 0, none⟩ = some (.int .i64 e.W) := (hX2.cell 0).trans rfl
    have x1 : w2.cell? ⟨w.heap.size, 1, none⟩ = some (.int .i64 e.col) := (hX2.cell 1).trans rfl
    have x2 : w2.cell? ⟨w.heap.size, 2, none⟩ = some (.int .i64 e.pend) := (hX2.cell 2).trans rfl
    have x3 : w2.cell? ⟨w.heap.size, 3, none⟩ = some (.slice A e.ms.length c) := (hX2.cell 3).trans rfl
    have x4 : w2.cell? ⟨w.heap.size, 4, none⟩ = some (.slice A2 e.it.length c2) := (hX2.cell 4).trans rfl
    have x5 : w2.cell? ⟨w.heap.size, 5, none⟩ = some (.int .i64 e.tot) := (hX2.cell 5).trans rfl
    have x6 : w2.cell? ⟨w.heap.size, 6, none⟩ = some (.int .i64 e.lev) := (hX2.cell 6).trans rfl
    have xl := hX2.lt
    clear hX2 hb2
    cases h2 : colB e.col e.pend e.ms
    · rw [h2] at HEQ
      rw [Bool.false_and] at HEQ
      clear h2
      go_wp2
      go_ret
      rw [HEQ.out]
      exact ⟨rfl, HB2.out⟩
    · rw [h2] at HEQ
      rw [Bool.true_and] at HEQ
      clear h2
      go_wp2_with fail
      refine (marksOk_any A e.ms _ c w2 rfl hm (RS.below M1.out HB2.out)).mono ?_
      rintro r w3 ⟨rfl, hb3⟩
      have HB3 := Lib.hid (HB2.out.trans (hb3.mono HB2.out.size))
      have hX3 := HX2.out.below hb3 HX2.out.lt
      have HX3 := Lib.hid hX3
      clear x0 x1 x2 x3 x4 x5 x6 xl
      have x0 : w3.cell? ⟨w.heap.size, 0, none⟩ = some (.int .i64 e.W) := (hX3.cell 0).trans rfl
      have x1 : w3.cell? ⟨w.heap.size, 1, none⟩ = some (.int .i64 e.col) := (hX3.cell 1).trans rfl
      have x2 : w3.cell? ⟨w.heap.size, 2, none⟩ = some (.int .i64 e.pend) := (hX3.cell 2).trans rfl
      have x3 : w3.cell? ⟨w.heap.size, 3, none⟩ = some (.slice A e.ms.length c) := (hX3.cell 3).trans rfl
      have x4 : w3.cell? ⟨w.heap.size, 4, none⟩ = some (.slice A2 e.it.length c2) := (hX3.cell 4).trans rfl
      have x5 : w3.cell? ⟨w.heap.size, 5, none⟩ = some (.int .i64 e.tot) := (hX3.cell 5).trans rfl
      have x6 : w3.cell? ⟨w.heap.size, 6, none⟩ = some (.int .i64 e.lev) := (hX3.cell 6).trans rfl
      have xl := hX3.lt
      clear hX3 hb3
      cases h3 : mksOkB e.ms
      · rw [h3] at HEQ
        rw [Bool.false_and] at HEQ
        clear h3
        go_wp2
        go_ret
        rw [HEQ.out]
        exact ⟨rfl, HB3.out⟩
      · rw [h3] at HEQ
        rw [Bool.true_and] at HEQ
        have hm13 : e.ms.length ≤ 13 := by simp only [mksOkB, Bool.and_eq_true] at h3; have := inB_true.1 h3.2; omega
        clear h3
        go_wp2_with fail
        refine (within_any _ _ _ _).mono ?_
        rintro r w' ⟨rfl, rfl⟩
        cases h4 : inB e.tot 0 1000000
        · rw [h4] at HEQ
          rw [Bool.false_and] at HEQ
          clear h4
          go_wp2
          go_ret
          rw [HEQ.out]
          exact ⟨rfl, HB3.out⟩
        · rw [h4] at HEQ
          rw [Bool.true_and] at HEQ
          clear h4
          go_wp2_with fail
          refine (within_any _ _ _ _).mono ?_
          rintro r w' ⟨rfl, rfl⟩
          cases h5 : inB e.lev 0 12
          · rw [h5] at HEQ
            rw [Bool.false_and] at HEQ
            clear h5
            go_wp2
            go_ret
            rw [HEQ.out]
            exact ⟨rfl, HB3.out⟩
          · rw [h5] at HEQ
            rw [Bool.true_and] at HEQ
            have hlv := inB_true.1 h5
            clear h5
            go_wp2_with fail
            refine (heldsOk_any A2 e.it _ c2 e.tot w3 rfl hi (RS.below I1.out HB3.out) HF.out).mono ?_
            rintro r w4 ⟨rfl, hb4⟩
            have HB4 := Lib.hid (HB3.out.trans (hb4.mono HB3.out.size))
            have hX4 := HX3.out.below hb4 HX3.out.lt
            have HX4 := Lib.hid hX4
            clear x0 x1 x2 x3 x4 x5 x6 xl
            have x0 : w4.cell? ⟨w.heap.size, 0, none⟩ = some (.int .i64 e.W) := (hX4.cell 0).trans rfl
            have x1 : w4.cell? ⟨w.heap.size, 1, none⟩ = some (.int .i64 e.col) := (hX4.cell 1).trans rfl
            have x2 : w4.cell? ⟨w.heap.size, 2, none⟩ = some (.int .i64 e.pend) := (hX4.cell 2).trans rfl
            have x3 : w4.cell? ⟨w.heap.size, 3, none⟩ = some (.slice A e.ms.length c) := (hX4.cell 3).trans rfl
            have x4 : w4.cell? ⟨w.heap.size, 4, none⟩ = some (.slice A2 e.it.length c2) := (hX4.cell 4).trans rfl
            have x5 : w4.cell? ⟨w.heap.size, 5, none⟩ = some (.int .i64 e.tot) := (hX4.cell 5).trans rfl
            have x6 : w4.cell? ⟨w.heap.size, 6, none⟩ = some (.int .i64 e.lev) := (hX4.cell 6).trans rfl
            have xl := hX4.lt
            clear hX4 hb4
            cases h6 : helB e.tot e.it
            · rw [h6] at HEQ
              rw [Bool.false_and] at HEQ
              clear h6
              go_wp2
              go_ret
              rw [HEQ.out]
              exact ⟨rfl, HB4.out⟩
            · rw [h6] at HEQ
              rw [Bool.true_and] at HEQ
              have hi4 : e.it.length ≤ 400 := by simp only [helB, Bool.and_eq_true, decide_eq_true_eq] at h6; exact h6.1
              clear h6
              go_wp2_with fail
              refine (stackOk_any e A c A2 c2 w4 hm13 hi4 hlv (RS.below I1.out HB4.out)).mono ?_
              rintro r w5 ⟨rfl, hb5⟩
              have HB5 := Lib.hid (HB4.out.trans (hb5.mono HB4.out.size))
              clear hb5
              go_wp2
              go_ret
              rw [HEQ.out]
              exact ⟨rfl, HB5.out⟩
end Go.Proofs.Ytegjgbgnpkncbab
