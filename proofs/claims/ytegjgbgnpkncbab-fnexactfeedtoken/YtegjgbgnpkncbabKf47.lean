/-
  FeedToken of the program.
-/
import Derived.Test.YtegjgbgnpkncbabKf43
import Derived.Test.YtegjgbgnpkncbabKf46
namespace Go.Proofs.Ytegjgbgnpkncbab
open Go.RowKit
set_option linter.unusedVariables false

/-- what FeedToken answers. -/
noncomputable def fedB (e : En) (t : Tk) : Bool := engB e && (scB e.tot e.lev t && decide (e.it.length ≠ 400))
def fedF (e : En) (t : Tk) : Pr × List Hd := flu e.W (e.tot + t.wid) (startP e) (fedI e.tot (newH e.tot e.lev t) e.it)
noncomputable def fedE (e : En) (t : Tk) : En := if fedB e t = true then ⟨e.W, (fedF e t).1.col, (fedF e t).1.pend, (fedF e t).1.ms, (fedF e t).2, e.tot + t.wid, e.lev + t.opn⟩ else e
noncomputable def fedT (e : En) (t : Tk) : ByteArray := if fedB e t = true then ⟨(fedF e t).1.out.toArray⟩ else ByteArray.empty
theorem scB_true {tot lev : Int} {t : Tk} (h : scB tot lev t = true) : t.ok = true ∧ (0 ≤ lev + t.opn ∧ lev + t.opn ≤ 12) ∧ tot + t.wid ≤ 1000000 := by
  unfold scB at h
  simp only [Bool.and_eq_true, decide_eq_true_eq] at h
  exact ⟨h.1, inB_true.1 h.2.1, h.2.2⟩
theorem tks_fedI (tot : Int) (h : Hd) (its : List Hd) : tks (fedI tot h its) = tks its ++ [h.t] := by
  unfold fedI brk1
  split
  · unfold tks
    rw [List.map_append]
    have := tks_endS tot h.lv (decide (h.t.k = 4)) its
    unfold tks at this
    rw [this]
    rfl
  · simp [tks]
theorem opN_app {l m : List Tk} {i : Nat} (hi : i ≤ l.length) : opN (l ++ m) i = opN l i := by
  unfold opN
  rw [List.take_append_of_le_length hi]
theorem EnOk.fineF {e : En} (h : EnOk e) {t : Tk} (hs : scB e.tot e.lev t = true) (hl : e.it.length ≠ 400) : Fine (startP e) (fedI e.tot (newH e.tot e.lev t) e.it) := by
  obtain ⟨h1, h2, h3⟩ := scB_true hs
  have hn := h.nit
  refine ⟨h.bd0, by rw [fedI_length]; omega, fun i x hx => ?_, fun i hi => ?_⟩
  · have ht := tks_at hx
    rw [tks_fedI] at ht
    by_cases hi : i < e.it.length
    · rw [List.getElem?_append_left (by rw [tks_length]; exact hi)] at ht
      simp only [tks, List.getElem?_map, Option.map_eq_some_iff] at ht
      obtain ⟨y, hy, e1⟩ := ht
      rw [← e1]
      exact (h.helds i y hy).tok
    · have hl' := (List.getElem?_eq_some_iff.1 hx).1
      rw [fedI_length] at hl'
      rw [List.getElem?_append_right (by rw [tks_length]; omega), tks_length, show i - e.it.length = 0 by omega] at ht
      simp at ht
      rw [← ht]
      exact h1
  · rw [tks_fedI]
    rw [fedI_length] at hi
    by_cases hi' : i ≤ e.it.length
    · rw [opN_app (by rw [tks_length]; exact hi')]
      exact h.stk i hi'
    · obtain rfl : i = e.it.length + 1 := by omega
      have e1 : (tks e.it ++ [(newH e.tot e.lev t).t])[e.it.length]? = some t := by
        rw [List.getElem?_append_right (by rw [tks_length]; omega), tks_length]
        simp [newH]
      rw [opN_succ e1, opN_app (by rw [tks_length]; omega)]
      have := h.fin
      show 1 ≤ (e.ms.length : Int) + _ ∧ _
      have e2 : (startP e).ms.length = e.ms.length := rfl
      rw [e2]
      omega
theorem feed_no {w : World} {B p : Nat} {W : Int} {s : Pr} {vI : Value} {its : List Hd} {tot lev : Int} (h : Hd) (hx : PX w B p W s vI its tot lev) (hl : its.length = 400) :
    Calls Try.prog 60 #[.pointer (some ⟨p, 0, none⟩), .agg #[.int .i64 h.t.k, .string h.t.s, .int .i64 h.t.d, .int .i64 h.t.o, .int .i64 h.lv, .int .i64 h.st, .int .i64 h.sz]] w fun r w' => r = .returned (.bool false) ∧ Below w.heap.size w w' := by
  obtain ⟨vW, vM, hpa, hown⟩ := hx
  obtain ⟨AI, cI, rfl⟩ := own_form hown
  have x5 : w.cell? ⟨p, 5, none⟩ = some (.slice AI its.length cI) := (hpa.blk.cell 5).trans rfl
  have xl := hpa.blk.lt
  rw [hl] at x5
  clear hpa hown hl
  go_enter Try.func60, Try.ntmps60
  go_wp2
  go_ret
  exact ⟨rfl, (Below.refl _ _).alloc (Nat.le_refl _) _⟩
end Go.Proofs.Ytegjgbgnpkncbab
