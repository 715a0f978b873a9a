/-
  strings.Repeat of two blanks, a few times over.
-/
import Derived.Test.YtddbcifjjblkeabTok
import Derived.Test.YtddbcifjjblkeabMem
import Derived.WalkSpells
import Derived.WalkLawsBesides
namespace Go.Proofs.Ytddbcifjjblkeab
open Go.RowKit
set_option linter.unusedVariables false

def spB (n : Nat) : ByteArray := ⟨(List.replicate n 32).toArray⟩
theorem first32 : ((((⟨#[32, 32]⟩ : ByteArray)[0]'(by decide)).toNat : Int) == 32) = true := by kernel_rfl
set_option maxRecDepth 100000 in
theorem prefixSpaces (w : World) : Calls Try.prog 40 #[.string (spB 128), .string ⟨#[32, 32]⟩] w fun e w' => e = .returned (.bool true) ∧ w = w' := by
  have hz : (spB 128).size = 128 := rfl
  have he : (((spB 128).extract 0 2).toList == [32, 32]) = true := by decide +kernel
  go_enter Try.func40, Try.ntmps40
  go_wp2
  go_ret
  exact ⟨rfl, rfl⟩
set_option maxHeartbeats 1000000 in
set_option maxRecDepth 100000 in
theorem repeat2_0 (w : World) : Calls Try.prog 33 #[.string ⟨#[32, 32]⟩, .int .i64 0] w fun e w' => e = .returned (.string (spB 0)) ∧ w = w' := by
  go_enter Try.func33, Try.ntmps33
  go_wp2
  go_ret
  exact ⟨rfl, rfl⟩
set_option maxHeartbeats 1000000 in
set_option maxRecDepth 100000 in
theorem repeat2_1 (w : World) : Calls Try.prog 33 #[.string ⟨#[32, 32]⟩, .int .i64 1] w fun e w' => e = .returned (.string (spB 2)) ∧ w = w' := by
  go_enter Try.func33, Try.ntmps33
  go_wp2
  go_ret
  exact ⟨rfl, rfl⟩
set_option maxHeartbeats 400000 in
theorem mul2_2 (w : World) : Calls Try.prog 39 #[.int .u64 2, .int .u64 2] w fun e w' => e = .returned (.tuple #[.int .u64 0, .int .u64 4]) ∧ w = w' := by
  go_enter Try.func39, Try.ntmps39
  go_wp2
  go_ret2
  exact ⟨by kernel_rfl, rfl⟩
set_option maxHeartbeats 1000000 in
set_option maxRecDepth 100000 in
theorem repeat2_2 (w : World) : Calls Try.prog 33 #[.string ⟨#[32, 32]⟩, .int .i64 2] w fun e w' => e = .returned (.string (spB 4)) ∧ w = w' := by
  have q32 := first32
  have hx : (spB 128).extract 0 4 = spB 4 := by decide +kernel
  have hz : (spB 128).size = 128 := rfl
  go_enter Try.func33, Try.ntmps33
  go_wp2_with fail
  refine (mul2_2 w).mono ?_
  rintro e w' ⟨rfl, rfl⟩
  go_wp2_with fail
  refine (prefixSpaces w).mono ?_
  rintro e w' ⟨rfl, rfl⟩
  go_wp2
  go_ret
  exact ⟨by rw [← hx]; rfl, rfl⟩
set_option maxHeartbeats 400000 in
theorem mul2_3 (w : World) : Calls Try.prog 39 #[.int .u64 2, .int .u64 3] w fun e w' => e = .returned (.tuple #[.int .u64 0, .int .u64 6]) ∧ w = w' := by
  go_enter Try.func39, Try.ntmps39
  go_wp2
  go_ret2
  exact ⟨by kernel_rfl, rfl⟩
set_option maxHeartbeats 1000000 in
set_option maxRecDepth 100000 in
theorem repeat2_3 (w : World) : Calls Try.prog 33 #[.string ⟨#[32, 32]⟩, .int .i64 3] w fun e w' => e = .returned (.string (spB 6)) ∧ w = w' := by
  have q32 := first32
  have hx : (spB 128).extract 0 6 = spB 6 := by decide +kernel
  have hz : (spB 128).size = 128 := rfl
  go_enter Try.func33, Try.ntmps33
  go_wp2_with fail
  refine (mul2_3 w).mono ?_
  rintro e w' ⟨rfl, rfl⟩
  go_wp2_with fail
  refine (prefixSpaces w).mono ?_
  rintro e w' ⟨rfl, rfl⟩
  go_wp2
  go_ret
  exact ⟨by rw [← hx]; rfl, rfl⟩
set_option maxHeartbeats 400000 in
theorem mul2_4 (w : World) : Calls Try.prog 39 #[.int .u64 2, .int .u64 4] w fun e w' => e = .returned (.tuple #[.int .u64 0, .int .u64 8]) ∧ w = w' := by
  go_enter Try.func39, Try.ntmps39
  go_wp2
  go_ret2
  exact ⟨by kernel_rfl, rfl⟩
set_option maxHeartbeats 1000000 in
set_option maxRecDepth 100000 in
theorem repeat2_4 (w : World) : Calls Try.prog 33 #[.string ⟨#[32, 32]⟩, .int .i64 4] w fun e w' => e = .returned (.string (spB 8)) ∧ w = w' := by
  have q32 := first32
  have hx : (spB 128).extract 0 8 = spB 8 := by decide +kernel
  have hz : (spB 128).size = 128 := rfl
  go_enter Try.func33, Try.ntmps33
  go_wp2_with fail
  refine (mul2_4 w).mono ?_
  rintro e w' ⟨rfl, rfl⟩
  go_wp2_with fail
  refine (prefixSpaces w).mono ?_
  rintro e w' ⟨rfl, rfl⟩
  go_wp2
  go_ret
  exact ⟨by rw [← hx]; rfl, rfl⟩
set_option maxHeartbeats 400000 in
theorem mul2_5 (w : World) : Calls Try.prog 39 #[.int .u64 2, .int .u64 5] w fun e w' => e = .returned (.tuple #[.int .u64 0, .int .u64 10]) ∧ w = w' := by
  go_enter Try.func39, Try.ntmps39
  go_wp2
  go_ret2
  exact ⟨by kernel_rfl, rfl⟩
set_option maxHeartbeats 1000000 in
set_option maxRecDepth 100000 in
theorem repeat2_5 (w : World) : Calls Try.prog 33 #[.string ⟨#[32, 32]⟩, .int .i64 5] w fun e w' => e = .returned (.string (spB 10)) ∧ w = w' := by
  have q32 := first32
  have hx : (spB 128).extract 0 10 = spB 10 := by decide +kernel
  have hz : (spB 128).size = 128 := rfl
  go_enter Try.func33, Try.ntmps33
  go_wp2_with fail
  refine (mul2_5 w).mono ?_
  rintro e w' ⟨rfl, rfl⟩
  go_wp2_with fail
  refine (prefixSpaces w).mono ?_
  rintro e w' ⟨rfl, rfl⟩
  go_wp2
  go_ret
  exact ⟨by rw [← hx]; rfl, rfl⟩
set_option maxHeartbeats 400000 in
theorem mul2_6 (w : World) : Calls Try.prog 39 #[.int .u64 2, .int .u64 6] w fun e w' => e = .returned (.tuple #[.int .u64 0, .int .u64 12]) ∧ w = w' := by
  go_enter Try.func39, Try.ntmps39
  go_wp2
  go_ret2
  exact ⟨by kernel_rfl, rfl⟩
set_option maxHeartbeats 1000000 in
set_option maxRecDepth 100000 in
theorem repeat2_6 (w : World) : Calls Try.prog 33 #[.string ⟨#[32, 32]⟩, .int .i64 6] w fun e w' => e = .returned (.string (spB 12)) ∧ w = w' := by
  have q32 := first32
  have hx : (spB 128).extract 0 12 = spB 12 := by decide +kernel
  have hz : (spB 128).size = 128 := rfl
  go_enter Try.func33, Try.ntmps33
  go_wp2_with fail
  refine (mul2_6 w).mono ?_
  rintro e w' ⟨rfl, rfl⟩
  go_wp2_with fail
  refine (prefixSpaces w).mono ?_
  rintro e w' ⟨rfl, rfl⟩
  go_wp2
  go_ret
  exact ⟨by rw [← hx]; rfl, rfl⟩
set_option maxHeartbeats 400000 in
theorem mul2_7 (w : World) : Calls Try.prog 39 #[.int .u64 2, .int .u64 7] w fun e w' => e = .returned (.tuple #[.int .u64 0, .int .u64 14]) ∧ w = w' := by
  go_enter Try.func39, Try.ntmps39
  go_wp2
  go_ret2
  exact ⟨by kernel_rfl, rfl⟩
set_option maxHeartbeats 1000000 in
set_option maxRecDepth 100000 in
theorem repeat2_7 (w : World) : Calls Try.prog 33 #[.string ⟨#[32, 32]⟩, .int .i64 7] w fun e w' => e = .returned (.string (spB 14)) ∧ w = w' := by
  have q32 := first32
  have hx : (spB 128).extract 0 14 = spB 14 := by decide +kernel
  have hz : (spB 128).size = 128 := rfl
  go_enter Try.func33, Try.ntmps33
  go_wp2_with fail
  refine (mul2_7 w).mono ?_
  rintro e w' ⟨rfl, rfl⟩
  go_wp2_with fail
  refine (prefixSpaces w).mono ?_
  rintro e w' ⟨rfl, rfl⟩
  go_wp2
  go_ret
  exact ⟨by rw [← hx]; rfl, rfl⟩
set_option maxHeartbeats 400000 in
theorem mul2_8 (w : World) : Calls Try.prog 39 #[.int .u64 2, .int .u64 8] w fun e w' => e = .returned (.tuple #[.int .u64 0, .int .u64 16]) ∧ w = w' := by
  go_enter Try.func39, Try.ntmps39
  go_wp2
  go_ret2
  exact ⟨by kernel_rfl, rfl⟩
set_option maxHeartbeats 1000000 in
set_option maxRecDepth 100000 in
theorem repeat2_8 (w : World) : Calls Try.prog 33 #[.string ⟨#[32, 32]⟩, .int .i64 8] w fun e w' => e = .returned (.string (spB 16)) ∧ w = w' := by
  have q32 := first32
  have hx : (spB 128).extract 0 16 = spB 16 := by decide +kernel
  have hz : (spB 128).size = 128 := rfl
  go_enter Try.func33, Try.ntmps33
  go_wp2_with fail
  refine (mul2_8 w).mono ?_
  rintro e w' ⟨rfl, rfl⟩
  go_wp2_with fail
  refine (prefixSpaces w).mono ?_
  rintro e w' ⟨rfl, rfl⟩
  go_wp2
  go_ret
  exact ⟨by rw [← hx]; rfl, rfl⟩
set_option maxHeartbeats 400000 in
theorem mul2_9 (w : World) : Calls Try.prog 39 #[.int .u64 2, .int .u64 9] w fun e w' => e = .returned (.tuple #[.int .u64 0, .int .u64 18]) ∧ w = w' := by
  go_enter Try.func39, Try.ntmps39
  go_wp2
  go_ret2
  exact ⟨by kernel_rfl, rfl⟩
set_option maxHeartbeats 1000000 in
set_option maxRecDepth 100000 in
theorem repeat2_9 (w : World) : Calls Try.prog 33 #[.string ⟨#[32, 32]⟩, .int .i64 9] w fun e w' => e = .returned (.string (spB 18)) ∧ w = w' := by
  have q32 := first32
  have hx : (spB 128).extract 0 18 = spB 18 := by decide +kernel
  have hz : (spB 128).size = 128 := rfl
  go_enter Try.func33, Try.ntmps33
  go_wp2_with fail
  refine (mul2_9 w).mono ?_
  rintro e w' ⟨rfl, rfl⟩
  go_wp2_with fail
  refine (prefixSpaces w).mono ?_
  rintro e w' ⟨rfl, rfl⟩
  go_wp2
  go_ret
  exact ⟨by rw [← hx]; rfl, rfl⟩
set_option maxHeartbeats 400000 in
theorem mul2_10 (w : World) : Calls Try.prog 39 #[.int .u64 2, .int .u64 10] w fun e w' => e = .returned (.tuple #[.int .u64 0, .int .u64 20]) ∧ w = w' := by
  go_enter Try.func39, Try.ntmps39
  go_wp2
  go_ret2
  exact ⟨by kernel_rfl, rfl⟩
set_option maxHeartbeats 1000000 in
set_option maxRecDepth 100000 in
theorem repeat2_10 (w : World) : Calls Try.prog 33 #[.string ⟨#[32, 32]⟩, .int .i64 10] w fun e w' => e = .returned (.string (spB 20)) ∧ w = w' := by
  have q32 := first32
  have hx : (spB 128).extract 0 20 = spB 20 := by decide +kernel
  have hz : (spB 128).size = 128 := rfl
  go_enter Try.func33, Try.ntmps33
  go_wp2_with fail
  refine (mul2_10 w).mono ?_
  rintro e w' ⟨rfl, rfl⟩
  go_wp2_with fail
  refine (prefixSpaces w).mono ?_
  rintro e w' ⟨rfl, rfl⟩
  go_wp2
  go_ret
  exact ⟨by rw [← hx]; rfl, rfl⟩
set_option maxHeartbeats 400000 in
theorem mul2_11 (w : World) : Calls Try.prog 39 #[.int .u64 2, .int .u64 11] w fun e w' => e = .returned (.tuple #[.int .u64 0, .int .u64 22]) ∧ w = w' := by
  go_enter Try.func39, Try.ntmps39
  go_wp2
  go_ret2
  exact ⟨by kernel_rfl, rfl⟩
set_option maxHeartbeats 1000000 in
set_option maxRecDepth 100000 in
theorem repeat2_11 (w : World) : Calls Try.prog 33 #[.string ⟨#[32, 32]⟩, .int .i64 11] w fun e w' => e = .returned (.string (spB 22)) ∧ w = w' := by
  have q32 := first32
  have hx : (spB 128).extract 0 22 = spB 22 := by decide +kernel
  have hz : (spB 128).size = 128 := rfl
  go_enter Try.func33, Try.ntmps33
  go_wp2_with fail
  refine (mul2_11 w).mono ?_
  rintro e w' ⟨rfl, rfl⟩
  go_wp2_with fail
  refine (prefixSpaces w).mono ?_
  rintro e w' ⟨rfl, rfl⟩
  go_wp2
  go_ret
  exact ⟨by rw [← hx]; rfl, rfl⟩
set_option maxHeartbeats 400000 in
theorem mul2_12 (w : World) : Calls Try.prog 39 #[.int .u64 2, .int .u64 12] w fun e w' => e = .returned (.tuple #[.int .u64 0, .int .u64 24]) ∧ w = w' := by
  go_enter Try.func39, Try.ntmps39
  go_wp2
  go_ret2
  exact ⟨by kernel_rfl, rfl⟩
set_option maxHeartbeats 1000000 in
set_option maxRecDepth 100000 in
theorem repeat2_12 (w : World) : Calls Try.prog 33 #[.string ⟨#[32, 32]⟩, .int .i64 12] w fun e w' => e = .returned (.string (spB 24)) ∧ w = w' := by
  have q32 := first32
  have hx : (spB 128).extract 0 24 = spB 24 := by decide +kernel
  have hz : (spB 128).size = 128 := rfl
  go_enter Try.func33, Try.ntmps33
  go_wp2_with fail
  refine (mul2_12 w).mono ?_
  rintro e w' ⟨rfl, rfl⟩
  go_wp2_with fail
  refine (prefixSpaces w).mono ?_
  rintro e w' ⟨rfl, rfl⟩
  go_wp2
  go_ret
  exact ⟨by rw [← hx]; rfl, rfl⟩
theorem repeat2_any (d : Int) (h0 : 0 ≤ d) (h1 : d ≤ 12) (w : World) : Calls Try.prog 33 #[.string ⟨#[32, 32]⟩, .int .i64 d] w fun e w' => e = .returned (.string (spB (2 * d.toNat))) ∧ w = w' := by
  obtain h | h | h | h | h | h | h | h | h | h | h | h | h : d = 0 ∨ d = 1 ∨ d = 2 ∨ d = 3 ∨ d = 4 ∨ d = 5 ∨ d = 6 ∨ d = 7 ∨ d = 8 ∨ d = 9 ∨ d = 10 ∨ d = 11 ∨ d = 12 := by omega
  · subst h; exact repeat2_0 w
  · subst h; exact repeat2_1 w
  · subst h; exact repeat2_2 w
  · subst h; exact repeat2_3 w
  · subst h; exact repeat2_4 w
  · subst h; exact repeat2_5 w
  · subst h; exact repeat2_6 w
  · subst h; exact repeat2_7 w
  · subst h; exact repeat2_8 w
  · subst h; exact repeat2_9 w
  · subst h; exact repeat2_10 w
  · subst h; exact repeat2_11 w
  · subst h; exact repeat2_12 w
end Go.Proofs.Ytddbcifjjblkeab
