/-
  CountText on both sides.
-/
import Derived.Test.YtegjgbgnpkncbaaTok
import Derived.Test.YtegjgbgnpkncbaaLxm
import Derived.Lib.Hide
import Derived.IntWalk
namespace Go.Proofs.Ytegjgbgnpkncbaa
open Go.RowKit
set_option linter.unusedVariables false

/-- how many of the first k bytes are b. -/
def cntB (s : ByteArray) (b : Int) : Nat → Nat
  | 0 => 0
  | k + 1 => cntB s b k + (if (bt s k : Int) = b then 1 else 0)
theorem cntB_le (s : ByteArray) (b : Int) : ∀ k, cntB s b k ≤ k
  | 0 => Nat.le_refl _
  | k + 1 => by
    have := cntB_le s b k
    simp only [cntB]
    split <;> omega
theorem cntB_yes {s : ByteArray} {b : Int} {k : Nat} (hk : k < s.size) (h : (s[k].toNat : Int) = b) : cntB s b (k + 1) = cntB s b k + 1 := by
  simp only [cntB, bt_at hk, h, if_true]
theorem cntB_no {s : ByteArray} {b : Int} {k : Nat} (hk : k < s.size) (h : (s[k].toNat : Int) ≠ b) : cntB s b (k + 1) = cntB s b k := by
  simp only [cntB, bt_at hk, if_neg h, Nat.add_zero]
set_option maxHeartbeats 1000000 in
set_option maxRecDepth 100000 in
theorem sCountText_any (s : ByteArray) (b : Int) (w : World) (hs : s.size ≤ 1048576) :
    Calls Try.prog 5 #[.string s, .int .i64 b] w fun e w' => e = .returned (.int .i64 (cntB s b s.size)) ∧ w = w' := by
  go_enter Try.func5, Try.ntmps5
  go_wp2
  go_loopw [5, 6] (fun v iv wr => ∃ k : Nat, k ≤ s.size ∧ iv = .int .i64 k ∧ v = .int .i64 (cntB s b k) ∧ w = wr) (fun _ iv _ => s.size - (intOf iv).toNat)
  case atStart => exact ⟨0, Nat.zero_le _, rfl, rfl, rfl⟩
  case round =>
    obtain ⟨k, hk, rfl, rfl, rfl⟩ := hrel
    have hle := cntB_le s b k
    by_cases hkl : k < s.size
    · have hlt := UInt8.toNat_lt s[k]
      have hw : IntKind.i64.wrap (s[k].toNat : Int) = (s[k].toNat : Int) := IntWalk.i64_in _ (by omega)
      by_cases he : (s[k].toNat : Int) = b
      · have heb : ((s[k].toNat : Int) == b) = true := by simp [he]
        have HC := Lib.hid (cntB_yes hkl he)
        clear he
        go_wp2
        go_roundw
        case rel => exact ⟨k + 1, by omega, by go_num, by rw [HC.out]; go_num, trivial⟩
        case measure => simp [intOf]; omega
      · have heb : ((s[k].toNat : Int) == b) = false := by simp [he]
        have HC := Lib.hid (cntB_no hkl he)
        clear he
        go_wp2
        go_roundw
        case rel => exact ⟨k + 1, by omega, by go_num, by rw [HC.out], trivial⟩
        case measure => simp [intOf]; omega
    · obtain rfl : k = s.size := by omega
      go_wp2
      go_ret
      exact ⟨rfl, rfl⟩
set_option maxHeartbeats 1000000 in
set_option maxRecDepth 100000 in
theorem CountText_any (s : ByteArray) (b : Int) (w : World) (hs : s.size ≤ 1048576) :
    Calls Try.prog 6 #[.string s, .int .i64 b] w fun e w' => e = .returned (.int .i64 (cntB s b s.size)) ∧ w = w' := by
  go_enter Try.func6, Try.ntmps6
  go_wp2
  go_loopw [5, 9] (fun v iv wr => ∃ k : Nat, k ≤ s.size ∧ iv = .int .i64 k ∧ v = .int .i64 (cntB s b k) ∧ w = wr) (fun _ iv _ => s.size - (intOf iv).toNat)
  case atStart => exact ⟨0, Nat.zero_le _, rfl, rfl, rfl⟩
  case round =>
    obtain ⟨k, hk, rfl, rfl, rfl⟩ := hrel
    have hle := cntB_le s b k
    by_cases hkl : k < s.size
    · have hlt := UInt8.toNat_lt s[k]
      have hw : IntKind.i64.wrap (s[k].toNat : Int) = (s[k].toNat : Int) := IntWalk.i64_in _ (by omega)
      by_cases he : (s[k].toNat : Int) = b
      · have heb : ((s[k].toNat : Int) == b) = true := by simp [he]
        have HC := Lib.hid (cntB_yes hkl he)
        clear he
        go_wp2
        go_roundw
        case rel => exact ⟨k + 1, by omega, by go_num, by rw [HC.out]; go_num, trivial⟩
        case measure => simp [intOf]; omega
      · have heb : ((s[k].toNat : Int) == b) = false := by simp [he]
        have HC := Lib.hid (cntB_no hkl he)
        clear he
        go_wp2
        go_roundw
        case rel => exact ⟨k + 1, by omega, by go_num, by rw [HC.out], trivial⟩
        case measure => simp [intOf]; omega
    · obtain rfl : k = s.size := by omega
      go_wp2
      go_ret
      exact ⟨rfl, rfl⟩
end Go.Proofs.Ytegjgbgnpkncbaa
