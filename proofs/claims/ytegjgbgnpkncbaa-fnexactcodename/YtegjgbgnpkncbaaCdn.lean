/-
  CodeName on both sides.
-/
import Derived.Test.YtegjgbgnpkncbaaTok
import Derived.Lib.Hide
import Derived.Below
namespace Go.Proofs.Ytegjgbgnpkncbaa
open Go.RowKit
set_option linter.unusedVariables false

/-- the nine names. -/
def cdS : List ByteArray := [⟨#[102, 105, 110, 101]⟩, ⟨#[108, 101, 120]⟩, ⟨#[115, 104, 117, 116]⟩, ⟨#[111, 112, 101, 110]⟩, ⟨#[113, 117, 111, 116, 101]⟩, ⟨#[111, 100, 100]⟩, ⟨#[100, 101, 101, 112]⟩, ⟨#[119, 105, 100, 116, 104]⟩, ⟨#[98, 105, 103]⟩]
def cdN (c : Int) : ByteArray := if 0 ≤ c ∧ c ≤ 8 then cdS.getD c.toNat ByteArray.empty else ByteArray.empty
theorem cdN_no {c : Int} (h : ¬ (0 ≤ c ∧ c ≤ 8)) : cdN c = ByteArray.empty := if_neg h
set_option maxHeartbeats 2000000 in
set_option maxRecDepth 100000 in
theorem CodeName_any (c : Int) (w : World) :
    Calls Try.prog 8 #[.int .i64 c] w fun e w' => e = .returned (.string (cdN c)) ∧ Below w.heap.size w w' := by
  by_cases hc : 0 ≤ c ∧ c ≤ 8
  · obtain h | h | h | h | h | h | h | h | h : c = 0 ∨ c = 1 ∨ c = 2 ∨ c = 3 ∨ c = 4 ∨ c = 5 ∨ c = 6 ∨ c = 7 ∨ c = 8 := by omega
    all_goals
      subst h
      clear hc
      go_enter Try.func8, Try.ntmps8
      go_wp2_with fail
      go_enter Try.func10, Try.ntmps10
      go_wp2
      go_ret
      exact ⟨rfl, (Below.refl _ _).alloc (Nat.le_refl _) _⟩
  · have HC := Lib.hid (cdN_no hc)
    by_cases h0 : 0 ≤ c
    · have h0b : decide (0 ≤ c) = true := by simp [h0]
      have h8b : decide (c ≤ 8) = false := by simp; omega
      clear hc h0
      go_enter Try.func8, Try.ntmps8
      go_wp2_with fail
      go_enter Try.func10, Try.ntmps10
      go_wp2
      go_ret
      rw [HC.out]
      exact ⟨rfl, (Below.refl _ _).alloc (Nat.le_refl _) _⟩
    · have h0b : decide (0 ≤ c) = false := by simp; omega
      clear hc h0
      go_enter Try.func8, Try.ntmps8
      go_wp2_with fail
      go_enter Try.func10, Try.ntmps10
      go_wp2
      go_ret
      rw [HC.out]
      exact ⟨rfl, (Below.refl _ _).alloc (Nat.le_refl _) _⟩
set_option maxHeartbeats 2000000 in
set_option maxRecDepth 100000 in
theorem sCodeName_any (c : Int) (w : World) :
    Calls Try.prog 7 #[.int .i64 c] w fun e w' => e = .returned (.string (cdN c)) ∧ Below w.heap.size w w' := by
  by_cases hc : 0 ≤ c ∧ c ≤ 8
  · obtain h | h | h | h | h | h | h | h | h : c = 0 ∨ c = 1 ∨ c = 2 ∨ c = 3 ∨ c = 4 ∨ c = 5 ∨ c = 6 ∨ c = 7 ∨ c = 8 := by omega
    all_goals
      subst h
      clear hc
      go_enter Try.func7, Try.ntmps7
      go_wp2_with fail
      go_enter Try.func9, Try.ntmps9
      go_wp2
      go_ret
      exact ⟨rfl, (Below.refl _ _).alloc (Nat.le_refl _) _⟩
  · have HC := Lib.hid (cdN_no hc)
    by_cases h0 : 0 ≤ c
    · have h0b : decide (0 ≤ c) = true := by simp [h0]
      have h8b : decide (c ≤ 8) = false := by simp; omega
      clear hc h0
      go_enter Try.func7, Try.ntmps7
      go_wp2_with fail
      go_enter Try.func9, Try.ntmps9
      go_wp2
      go_ret
      rw [HC.out]
      exact ⟨rfl, (Below.refl _ _).alloc (Nat.le_refl _) _⟩
    · have h0b : decide (0 ≤ c) = false := by simp; omega
      clear hc h0
      go_enter Try.func7, Try.ntmps7
      go_wp2_with fail
      go_enter Try.func9, Try.ntmps9
      go_wp2
      go_ret
      rw [HC.out]
      exact ⟨rfl, (Below.refl _ _).alloc (Nat.le_refl _) _⟩
end Go.Proofs.Ytegjgbgnpkncbaa
