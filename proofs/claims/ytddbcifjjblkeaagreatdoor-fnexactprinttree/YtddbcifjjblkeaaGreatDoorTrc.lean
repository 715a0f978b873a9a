/-
  The small functions of the program's trees: marks, the root, what may hold, going up.
-/
import Derived.Test.YtddbcifjjblkeaaGreatDoorTrb
import Derived.Test.YtddbcifjjblkeaaGreatDoorBwd
namespace Go.Proofs.YtddbcifjjblkeaaGreatDoor
open Go.RowKit
set_option linter.unusedVariables false

/-- what a node without a Text is written as. -/
def mkS (k : Int) : ByteArray := if k = 3 then ⟨#[40, 41]⟩ else if k = 4 then ⟨#[91, 93]⟩ else if k = 5 then ⟨#[123, 125]⟩ else if k = 6 then ⟨#[39]⟩ else ByteArray.empty
set_option maxHeartbeats 400000 in
theorem marksOf_any (k : Int) (w : World) :
    Calls Tryz.prog 96 #[.int .i64 k] w fun e w' => e = .returned (.string (mkS k)) ∧ w = w' := by
  by_cases h3 : k = 3
  · subst h3
    go_enter Tryz.func96, Tryz.ntmps96
    go_wp2
    go_ret
    exact ⟨rfl, rfl⟩
  by_cases h4 : k = 4
  · subst h4
    go_enter Tryz.func96, Tryz.ntmps96
    go_wp2
    go_ret
    exact ⟨rfl, rfl⟩
  by_cases h5 : k = 5
  · subst h5
    go_enter Tryz.func96, Tryz.ntmps96
    go_wp2
    go_ret
    exact ⟨rfl, rfl⟩
  by_cases h6 : k = 6
  · subst h6
    go_enter Tryz.func96, Tryz.ntmps96
    go_wp2
    go_ret
    exact ⟨rfl, rfl⟩
  have hI := Lib.hid (show mkS k = ByteArray.empty by simp [mkS, h3, h4, h5, h6])
  have b3 : (k == 3) = false := by simpa using h3
  have b4 : (k == 4) = false := by simpa using h4
  have b5 : (k == 5) = false := by simpa using h5
  have b6 : (k == 6) = false := by simpa using h6
  clear h3 h4 h5 h6
  go_enter Tryz.func96, Tryz.ntmps96
  go_wp2
  go_ret
  rw [hI.out]
  exact ⟨rfl, rfl⟩
theorem mkS_toList (k : Int) : ((mkS k).toList == []) = !(inB k 3 6) := by
  unfold mkS
  repeat' split
  · rename_i h; subst h; kernel_rfl
  · rename_i h; subst h; kernel_rfl
  · rename_i h; subst h; kernel_rfl
  · rename_i h; subst h; kernel_rfl
  · have : inB k 3 6 = false := by
      cases e : inB k 3 6
      · rfl
      · have := inB_true.1 e; omega
    rw [this, Bool.not_false]
    exact (show (ByteArray.empty.toList == []) = true by simp)
set_option maxHeartbeats 400000 in
theorem newRoot_any (w : World) :
    Calls Tryz.prog 72 #[] w fun e w' => e = .returned (ptr w.heap.size) ∧ BlkL w' w.heap.size 72 [.int .i64 (-1), .int .i64 (-1), .string ByteArray.empty, .int .i64 (-1), .pointer none, .slice none 0 0] ∧ Below w.heap.size w w' := by
  go_enter Tryz.func72, Tryz.ntmps72
  go_wp2
  go_ret
  exact ⟨rfl, BlkL.new _ _ _, (Below.refl _ _).alloc (Nat.le_refl _) _⟩
set_option maxHeartbeats 400000 in
theorem holds_any (p : Nat) (k : Int) (w : World) (h : w.cell? ⟨p, 1, none⟩ = some (.int .i64 k)) :
    Calls Tryz.prog 75 #[ptr p] w fun e w' => e = .returned (.bool (decide (k = -1) || inB k 3 6)) ∧ w = w' := by
  unfold ptr
  have hl := World.block_lt_of_cell? _ _ h
  by_cases h1 : k = -1
  · subst h1
    go_enter Tryz.func75, Tryz.ntmps75
    go_wp2
    go_ret
    exact ⟨rfl, rfl⟩
  · have hI := Lib.hid (show (decide (k = -1) || inB k 3 6) = inB k 3 6 by simp [h1])
    have b1 : (k == -1) = false := by simpa using h1
    have HK := Lib.hid (mkS_toList k)
    clear h1
    go_enter Tryz.func75, Tryz.ntmps75
    go_wp2_with fail
    refine (marksOf_any _ _).mono ?_
    rintro e w' ⟨rfl, rfl⟩
    cases hq : inB k 3 6
    · have hh := HK.out
      rw [hq] at hh
      have hh' : ((mkS k).toList != []) = false := by unfold bne; rw [hh]; rfl
      have HQ := Lib.hid hq
      clear hq
      go_wp2
      go_ret
      rw [hI.out, HQ.out]
      exact ⟨rfl, rfl⟩
    · have hh := HK.out
      rw [hq] at hh
      have hh' : ((mkS k).toList != []) = true := by unfold bne; rw [hh]; rfl
      have HQ := Lib.hid hq
      clear hq
      go_wp2
      go_ret
      rw [hI.out, HQ.out]
      exact ⟨rfl, rfl⟩
/-- the place of a branch, by its pointer. -/
def rank (ps : Nat → Nat) (k : Nat) (v : Value) : Nat := fst (fun i => ps i == (match v with | .pointer (some a) => a.block | _ => 0)) (k + 1)
theorem Fo.rank {w : World} {B k : Nat} {l : List Nd} {ps : Nat → Nat} {vs : Nat → Value} (h : Fo w B l k ps vs) {i : Nat} (hi : i ≤ k) : rank ps k (ptr (ps i)) = i := by
  unfold Go.Proofs.YtddbcifjjblkeaaGreatDoor.rank ptr
  refine fst_at (by omega) (by simp) fun j hj => ?_
  simp only [beq_eq_false_iff_ne]
  intro e
  have := h.dif j i (by omega) hi e
  omega
set_option maxHeartbeats 1000000 in
theorem climbed_any {w : World} {B k : Nat} {l : List Nd} {ps : Nat → Nat} {vs : Nat → Value} (h : Fo w B l k ps vs) (b : Nat) (hb : b ≤ k) (d : Int) :
    Calls Tryz.prog 73 #[ptr (ps b), .int .i64 d] w fun e w' => e = .returned (ptr (ps (climb l d b))) ∧ w = w' := by
  have H := Lib.hid h
  clear h
  unfold ptr
  go_enter Tryz.func73, Tryz.ntmps73
  go_wp2
  go_loopw [0] (fun v wr => ∃ c : Nat, c ≤ k ∧ v = ptr (ps c) ∧ climb l d b = climb l d c ∧ wr = w) (fun v _ => Go.Proofs.YtddbcifjjblkeaaGreatDoor.rank ps k v)
  case atStart => exact ⟨b, hb, rfl, rfl, rfl⟩
  case round =>
    obtain ⟨c, hc, rfl, he, rfl⟩ := hrel
    have HE := Lib.hid he
    clear he
    have hr := H.out.rank hc
    unfold ptr at hr ⊢
    obtain ⟨c0, c1, c2, c3, c4, c5, cl⟩ := H.out.cells hc
    by_cases hd : d ≤ dep l c
    · have hd1 : decide (d ≤ dep l c) = true := by simpa using hd
      cases c with
      | zero =>
        have c4' : wr.cell? ⟨ps 0, 4, none⟩ = some (.pointer none) := c4
        have HR := Lib.hid (show climb l d b = 0 from HE.out)
        clear c1 c2 c3 c4 c5 hd
        go_wp2
        go_ret
        rw [HR.out]
        exact ⟨rfl, rfl⟩
      | succ c =>
        have c4' : wr.cell? ⟨ps (c + 1), 4, none⟩ = some (.pointer (some ⟨ps (par l c), 0, none⟩)) := c4
        have hp := par_le l c
        have HR := Lib.hid (show climb l d b = climb l d (par l c) from HE.out.trans (climb_par hd))
        have hr2 := H.out.rank (show par l c ≤ k by omega)
        unfold ptr at hr2
        clear c1 c2 c3 c4 c5 hd
        go_wp2
        go_roundw
        case rel => exact ⟨par l c, by omega, rfl, HR.out, trivial⟩
        case measure => rw [hr, hr2]; omega
    · have hd1 : decide (d ≤ dep l c) = false := by simpa using hd
      have HR := Lib.hid (show climb l d b = c from HE.out.trans (climb_stop (by omega)))
      clear c1 c2 c3 c4 c5 hd
      go_wp2
      go_ret
      rw [HR.out]
      exact ⟨rfl, rfl⟩
end Go.Proofs.YtddbcifjjblkeaaGreatDoor
