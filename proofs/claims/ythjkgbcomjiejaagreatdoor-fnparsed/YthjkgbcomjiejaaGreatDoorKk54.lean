/-
  NodeLine on both sides.
-/
import Derived.Test.YthjkgbcomjiejaaGreatDoorKk01
import Derived.Test.YthjkgbcomjiejaaGreatDoorKk03
import Derived.WalkSpells
import Derived.WalkLawsBesides
import Derived.Test.YthjkgbcomjiejaaGreatDoorKk10
import Derived.Test.YthjkgbcomjiejaaGreatDoorKk13
import Derived.Test.YthjkgbcomjiejaaGreatDoorKk16
import Derived.Test.YthjkgbcomjiejaaGreatDoorKk17
import Derived.Test.YthjkgbcomjiejaaGreatDoorKk41
namespace Go.Proofs.YthjkgbcomjiejaaGreatDoor
open Go.RowKit
set_option linter.unusedVariables false

def spB (n : Nat) : ByteArray := ⟨(List.replicate n 32).toArray⟩
theorem first32 : ((((⟨#[32, 32]⟩ : ByteArray)[0]'(by decide)).toNat : Int) == 32) = true := by kernel_rfl
set_option maxRecDepth 100000 in
theorem prefixSpaces (w : World) : Calls Tryz.prog 63 #[.string (spB 128), .string ⟨#[32, 32]⟩] w fun e w' => e = .returned (.bool true) ∧ w = w' := by
  have hz : (spB 128).size = 128 := rfl
  have he : (((spB 128).extract 0 2).toList == [32, 32]) = true := by decide +kernel
  go_enter Tryz.func63, Tryz.ntmps63
  go_wp2
  go_ret
  exact ⟨rfl, rfl⟩
set_option maxHeartbeats 1000000 in
set_option maxRecDepth 100000 in
theorem repeat2_0 (w : World) : Calls Tryz.prog 38 #[.string ⟨#[32, 32]⟩, .int .i64 0] w fun e w' => e = .returned (.string (spB 0)) ∧ w = w' := by
  go_enter Tryz.func38, Tryz.ntmps38
  go_wp2
  go_ret
  exact ⟨rfl, rfl⟩
set_option maxHeartbeats 1000000 in
set_option maxRecDepth 100000 in
theorem repeat2_1 (w : World) : Calls Tryz.prog 38 #[.string ⟨#[32, 32]⟩, .int .i64 1] w fun e w' => e = .returned (.string (spB 2)) ∧ w = w' := by
  go_enter Tryz.func38, Tryz.ntmps38
  go_wp2
  go_ret
  exact ⟨rfl, rfl⟩
set_option maxHeartbeats 400000 in
theorem mul2_2 (w : World) : Calls Tryz.prog 62 #[.int .u64 2, .int .u64 2] w fun e w' => e = .returned (.tuple #[.int .u64 0, .int .u64 4]) ∧ w = w' := by
  go_enter Tryz.func62, Tryz.ntmps62
  go_wp2
  go_ret2
  exact ⟨by kernel_rfl, rfl⟩
set_option maxHeartbeats 1000000 in
set_option maxRecDepth 100000 in
theorem repeat2_2 (w : World) : Calls Tryz.prog 38 #[.string ⟨#[32, 32]⟩, .int .i64 2] w fun e w' => e = .returned (.string (spB 4)) ∧ w = w' := by
  have q32 := first32
  have hx : (spB 128).extract 0 4 = spB 4 := by decide +kernel
  have hz : (spB 128).size = 128 := rfl
  go_enter Tryz.func38, Tryz.ntmps38
  go_wp2_with fail
  refine (mul2_2 w).mono ?_
  rintro e w' ⟨rfl, rfl⟩
  go_wp2_with fail
  refine (prefixSpaces w).mono ?_
  rintro e w' ⟨rfl, rfl⟩
  go_wp2
  go_ret
  exact ⟨by rw [← hx]; rfl, rfl⟩
set_option maxHeartbeats 400000 in
theorem mul2_3 (w : World) : Calls Tryz.prog 62 #[.int .u64 2, .int .u64 3] w fun e w' => e = .returned (.tuple #[.int .u64 0, .int .u64 6]) ∧ w = w' := by
  go_enter Tryz.func62, Tryz.ntmps62
  go_wp2
  go_ret2
  exact ⟨by kernel_rfl, rfl⟩
set_option maxHeartbeats 1000000 in
set_option maxRecDepth 100000 in
theorem repeat2_3 (w : World) : Calls Tryz.prog 38 #[.string ⟨#[32, 32]⟩, .int .i64 3] w fun e w' => e = .returned (.string (spB 6)) ∧ w = w' := by
  have q32 := first32
  have hx : (spB 128).extract 0 6 = spB 6 := by decide +kernel
  have hz : (spB 128).size = 128 := rfl
  go_enter Tryz.func38, Tryz.ntmps38
  go_wp2_with fail
  refine (mul2_3 w).mono ?_
  rintro e w' ⟨rfl, rfl⟩
  go_wp2_with fail
  refine (prefixSpaces w).mono ?_
  rintro e w' ⟨rfl, rfl⟩
  go_wp2
  go_ret
  exact ⟨by rw [← hx]; rfl, rfl⟩
set_option maxHeartbeats 400000 in
theorem mul2_4 (w : World) : Calls Tryz.prog 62 #[.int .u64 2, .int .u64 4] w fun e w' => e = .returned (.tuple #[.int .u64 0, .int .u64 8]) ∧ w = w' := by
  go_enter Tryz.func62, Tryz.ntmps62
  go_wp2
  go_ret2
  exact ⟨by kernel_rfl, rfl⟩
set_option maxHeartbeats 1000000 in
set_option maxRecDepth 100000 in
theorem repeat2_4 (w : World) : Calls Tryz.prog 38 #[.string ⟨#[32, 32]⟩, .int .i64 4] w fun e w' => e = .returned (.string (spB 8)) ∧ w = w' := by
  have q32 := first32
  have hx : (spB 128).extract 0 8 = spB 8 := by decide +kernel
  have hz : (spB 128).size = 128 := rfl
  go_enter Tryz.func38, Tryz.ntmps38
  go_wp2_with fail
  refine (mul2_4 w).mono ?_
  rintro e w' ⟨rfl, rfl⟩
  go_wp2_with fail
  refine (prefixSpaces w).mono ?_
  rintro e w' ⟨rfl, rfl⟩
  go_wp2
  go_ret
  exact ⟨by rw [← hx]; rfl, rfl⟩
set_option maxHeartbeats 400000 in
theorem mul2_5 (w : World) : Calls Tryz.prog 62 #[.int .u64 2, .int .u64 5] w fun e w' => e = .returned (.tuple #[.int .u64 0, .int .u64 10]) ∧ w = w' := by
  go_enter Tryz.func62, Tryz.ntmps62
  go_wp2
  go_ret2
  exact ⟨by kernel_rfl, rfl⟩
set_option maxHeartbeats 1000000 in
set_option maxRecDepth 100000 in
theorem repeat2_5 (w : World) : Calls Tryz.prog 38 #[.string ⟨#[32, 32]⟩, .int .i64 5] w fun e w' => e = .returned (.string (spB 10)) ∧ w = w' := by
  have q32 := first32
  have hx : (spB 128).extract 0 10 = spB 10 := by decide +kernel
  have hz : (spB 128).size = 128 := rfl
  go_enter Tryz.func38, Tryz.ntmps38
  go_wp2_with fail
  refine (mul2_5 w).mono ?_
  rintro e w' ⟨rfl, rfl⟩
  go_wp2_with fail
  refine (prefixSpaces w).mono ?_
  rintro e w' ⟨rfl, rfl⟩
  go_wp2
  go_ret
  exact ⟨by rw [← hx]; rfl, rfl⟩
set_option maxHeartbeats 400000 in
theorem mul2_6 (w : World) : Calls Tryz.prog 62 #[.int .u64 2, .int .u64 6] w fun e w' => e = .returned (.tuple #[.int .u64 0, .int .u64 12]) ∧ w = w' := by
  go_enter Tryz.func62, Tryz.ntmps62
  go_wp2
  go_ret2
  exact ⟨by kernel_rfl, rfl⟩
set_option maxHeartbeats 1000000 in
set_option maxRecDepth 100000 in
theorem repeat2_6 (w : World) : Calls Tryz.prog 38 #[.string ⟨#[32, 32]⟩, .int .i64 6] w fun e w' => e = .returned (.string (spB 12)) ∧ w = w' := by
  have q32 := first32
  have hx : (spB 128).extract 0 12 = spB 12 := by decide +kernel
  have hz : (spB 128).size = 128 := rfl
  go_enter Tryz.func38, Tryz.ntmps38
  go_wp2_with fail
  refine (mul2_6 w).mono ?_
  rintro e w' ⟨rfl, rfl⟩
  go_wp2_with fail
  refine (prefixSpaces w).mono ?_
  rintro e w' ⟨rfl, rfl⟩
  go_wp2
  go_ret
  exact ⟨by rw [← hx]; rfl, rfl⟩
set_option maxHeartbeats 400000 in
theorem mul2_7 (w : World) : Calls Tryz.prog 62 #[.int .u64 2, .int .u64 7] w fun e w' => e = .returned (.tuple #[.int .u64 0, .int .u64 14]) ∧ w = w' := by
  go_enter Tryz.func62, Tryz.ntmps62
  go_wp2
  go_ret2
  exact ⟨by kernel_rfl, rfl⟩
set_option maxHeartbeats 1000000 in
set_option maxRecDepth 100000 in
theorem repeat2_7 (w : World) : Calls Tryz.prog 38 #[.string ⟨#[32, 32]⟩, .int .i64 7] w fun e w' => e = .returned (.string (spB 14)) ∧ w = w' := by
  have q32 := first32
  have hx : (spB 128).extract 0 14 = spB 14 := by decide +kernel
  have hz : (spB 128).size = 128 := rfl
  go_enter Tryz.func38, Tryz.ntmps38
  go_wp2_with fail
  refine (mul2_7 w).mono ?_
  rintro e w' ⟨rfl, rfl⟩
  go_wp2_with fail
  refine (prefixSpaces w).mono ?_
  rintro e w' ⟨rfl, rfl⟩
  go_wp2
  go_ret
  exact ⟨by rw [← hx]; rfl, rfl⟩
set_option maxHeartbeats 400000 in
theorem mul2_8 (w : World) : Calls Tryz.prog 62 #[.int .u64 2, .int .u64 8] w fun e w' => e = .returned (.tuple #[.int .u64 0, .int .u64 16]) ∧ w = w' := by
  go_enter Tryz.func62, Tryz.ntmps62
  go_wp2
  go_ret2
  exact ⟨by kernel_rfl, rfl⟩
set_option maxHeartbeats 1000000 in
set_option maxRecDepth 100000 in
theorem repeat2_8 (w : World) : Calls Tryz.prog 38 #[.string ⟨#[32, 32]⟩, .int .i64 8] w fun e w' => e = .returned (.string (spB 16)) ∧ w = w' := by
  have q32 := first32
  have hx : (spB 128).extract 0 16 = spB 16 := by decide +kernel
  have hz : (spB 128).size = 128 := rfl
  go_enter Tryz.func38, Tryz.ntmps38
  go_wp2_with fail
  refine (mul2_8 w).mono ?_
  rintro e w' ⟨rfl, rfl⟩
  go_wp2_with fail
  refine (prefixSpaces w).mono ?_
  rintro e w' ⟨rfl, rfl⟩
  go_wp2
  go_ret
  exact ⟨by rw [← hx]; rfl, rfl⟩
set_option maxHeartbeats 400000 in
theorem mul2_9 (w : World) : Calls Tryz.prog 62 #[.int .u64 2, .int .u64 9] w fun e w' => e = .returned (.tuple #[.int .u64 0, .int .u64 18]) ∧ w = w' := by
  go_enter Tryz.func62, Tryz.ntmps62
  go_wp2
  go_ret2
  exact ⟨by kernel_rfl, rfl⟩
set_option maxHeartbeats 1000000 in
set_option maxRecDepth 100000 in
theorem repeat2_9 (w : World) : Calls Tryz.prog 38 #[.string ⟨#[32, 32]⟩, .int .i64 9] w fun e w' => e = .returned (.string (spB 18)) ∧ w = w' := by
  have q32 := first32
  have hx : (spB 128).extract 0 18 = spB 18 := by decide +kernel
  have hz : (spB 128).size = 128 := rfl
  go_enter Tryz.func38, Tryz.ntmps38
  go_wp2_with fail
  refine (mul2_9 w).mono ?_
  rintro e w' ⟨rfl, rfl⟩
  go_wp2_with fail
  refine (prefixSpaces w).mono ?_
  rintro e w' ⟨rfl, rfl⟩
  go_wp2
  go_ret
  exact ⟨by rw [← hx]; rfl, rfl⟩
set_option maxHeartbeats 400000 in
theorem mul2_10 (w : World) : Calls Tryz.prog 62 #[.int .u64 2, .int .u64 10] w fun e w' => e = .returned (.tuple #[.int .u64 0, .int .u64 20]) ∧ w = w' := by
  go_enter Tryz.func62, Tryz.ntmps62
  go_wp2
  go_ret2
  exact ⟨by kernel_rfl, rfl⟩
set_option maxHeartbeats 1000000 in
set_option maxRecDepth 100000 in
theorem repeat2_10 (w : World) : Calls Tryz.prog 38 #[.string ⟨#[32, 32]⟩, .int .i64 10] w fun e w' => e = .returned (.string (spB 20)) ∧ w = w' := by
  have q32 := first32
  have hx : (spB 128).extract 0 20 = spB 20 := by decide +kernel
  have hz : (spB 128).size = 128 := rfl
  go_enter Tryz.func38, Tryz.ntmps38
  go_wp2_with fail
  refine (mul2_10 w).mono ?_
  rintro e w' ⟨rfl, rfl⟩
  go_wp2_with fail
  refine (prefixSpaces w).mono ?_
  rintro e w' ⟨rfl, rfl⟩
  go_wp2
  go_ret
  exact ⟨by rw [← hx]; rfl, rfl⟩
set_option maxHeartbeats 400000 in
theorem mul2_11 (w : World) : Calls Tryz.prog 62 #[.int .u64 2, .int .u64 11] w fun e w' => e = .returned (.tuple #[.int .u64 0, .int .u64 22]) ∧ w = w' := by
  go_enter Tryz.func62, Tryz.ntmps62
  go_wp2
  go_ret2
  exact ⟨by kernel_rfl, rfl⟩
set_option maxHeartbeats 1000000 in
set_option maxRecDepth 100000 in
theorem repeat2_11 (w : World) : Calls Tryz.prog 38 #[.string ⟨#[32, 32]⟩, .int .i64 11] w fun e w' => e = .returned (.string (spB 22)) ∧ w = w' := by
  have q32 := first32
  have hx : (spB 128).extract 0 22 = spB 22 := by decide +kernel
  have hz : (spB 128).size = 128 := rfl
  go_enter Tryz.func38, Tryz.ntmps38
  go_wp2_with fail
  refine (mul2_11 w).mono ?_
  rintro e w' ⟨rfl, rfl⟩
  go_wp2_with fail
  refine (prefixSpaces w).mono ?_
  rintro e w' ⟨rfl, rfl⟩
  go_wp2
  go_ret
  exact ⟨by rw [← hx]; rfl, rfl⟩
set_option maxHeartbeats 400000 in
theorem mul2_12 (w : World) : Calls Tryz.prog 62 #[.int .u64 2, .int .u64 12] w fun e w' => e = .returned (.tuple #[.int .u64 0, .int .u64 24]) ∧ w = w' := by
  go_enter Tryz.func62, Tryz.ntmps62
  go_wp2
  go_ret2
  exact ⟨by kernel_rfl, rfl⟩
set_option maxHeartbeats 1000000 in
set_option maxRecDepth 100000 in
theorem repeat2_12 (w : World) : Calls Tryz.prog 38 #[.string ⟨#[32, 32]⟩, .int .i64 12] w fun e w' => e = .returned (.string (spB 24)) ∧ w = w' := by
  have q32 := first32
  have hx : (spB 128).extract 0 24 = spB 24 := by decide +kernel
  have hz : (spB 128).size = 128 := rfl
  go_enter Tryz.func38, Tryz.ntmps38
  go_wp2_with fail
  refine (mul2_12 w).mono ?_
  rintro e w' ⟨rfl, rfl⟩
  go_wp2_with fail
  refine (prefixSpaces w).mono ?_
  rintro e w' ⟨rfl, rfl⟩
  go_wp2
  go_ret
  exact ⟨by rw [← hx]; rfl, rfl⟩
theorem repeat2_any (d : Int) (h0 : 0 ≤ d) (h1 : d ≤ 12) (w : World) : Calls Tryz.prog 38 #[.string ⟨#[32, 32]⟩, .int .i64 d] w fun e w' => e = .returned (.string (spB (2 * d.toNat))) ∧ w = w' := by
  obtain h | h | h | h | h | h | h | h | h | h | h | h | h : d = 0 ∨ d = 1 ∨ d = 2 ∨ d = 3 ∨ d = 4 ∨ d = 5 ∨ d = 6 ∨ d = 7 ∨ d = 8 ∨ d = 9 ∨ d = 10 ∨ d = 11 ∨ d = 12 := by omega
  · subst h; exact repeat2_0 w
  · subst h; exact repeat2_1 w
  · subst h; exact repeat2_2 w
  · subst h; exact repeat2_3 w
  · subst h; exact repeat2_4 w
  · subst h; exact repeat2_5 w
  · subst h; exact repeat2_6 w
  · subst h; exact repeat2_7 w
  · subst h; exact repeat2_8 w
  · subst h; exact repeat2_9 w
  · subst h; exact repeat2_10 w
  · subst h; exact repeat2_11 w
  · subst h; exact repeat2_12 w
end Go.Proofs.YthjkgbcomjiejaaGreatDoor
namespace Go.Proofs.YthjkgbcomjiejaaGreatDoor
open Go.RowKit
set_option linter.unusedVariables false

/-- the marks of a Kind. -/
def mqS (k : Int) : ByteArray := if k = 3 then ⟨#[40, 41]⟩ else if k = 4 then ⟨#[91, 93]⟩ else if k = 5 then ⟨#[123, 125]⟩ else if k = 6 then ⟨#[39]⟩ else ByteArray.empty
def nlB (x : Nd) : ByteArray := if inB x.k 0 6 && inB x.d 0 12 then spB (2 * x.d.toNat) ++ (if 3 ≤ x.k then mqS x.k else x.s) else ByteArray.empty
set_option maxHeartbeats 400000 in
theorem marksQ_any (k : Int) (w : World) :
    Calls Tryz.prog 40 #[.int .i64 k] w fun e w' => e = .returned (.string (mqS k)) ∧ w = w' := by
  by_cases h3 : k = 3
  · subst h3
    go_enter Tryz.func40, Tryz.ntmps40
    go_wp2
    go_ret
    exact ⟨rfl, rfl⟩
  by_cases h4 : k = 4
  · subst h4
    go_enter Tryz.func40, Tryz.ntmps40
    go_wp2
    go_ret
    exact ⟨rfl, rfl⟩
  by_cases h5 : k = 5
  · subst h5
    go_enter Tryz.func40, Tryz.ntmps40
    go_wp2
    go_ret
    exact ⟨rfl, rfl⟩
  by_cases h6 : k = 6
  · subst h6
    go_enter Tryz.func40, Tryz.ntmps40
    go_wp2
    go_ret
    exact ⟨rfl, rfl⟩
  have hI := Lib.hid (show mqS k = ByteArray.empty by simp [mqS, h3, h4, h5, h6])
  have b3 : (k == 3) = false := by simpa using h3
  have b4 : (k == 4) = false := by simpa using h4
  have b5 : (k == 5) = false := by simpa using h5
  have b6 : (k == 6) = false := by simpa using h6
  clear h3 h4 h5 h6
  go_enter Tryz.func40, Tryz.ntmps40
  go_wp2
  go_ret
  rw [hI.out]
  exact ⟨rfl, rfl⟩
set_option maxHeartbeats 400000 in
theorem inRange_any (x : Nd) (w : World) :
    Calls Tryz.prog 37 #[.agg #[.int .i64 x.d, .int .i64 x.k, .string x.s]] w fun e w' => e = .returned (.bool (inB x.k 0 6 && inB x.d 0 12)) ∧ Below w.heap.size w w' := by
  cases h1 : inB x.k 0 6
  · go_enter Tryz.func37, Tryz.ntmps37
    go_wp2_with (go_at_call 35; refine (within_any _ _ _ _).mono ?_; rintro e w' ⟨rfl, rfl⟩; rw [h1])
    go_ret
    exact ⟨rfl, (Below.refl _ _).alloc (Nat.le_refl _) _⟩
  · cases h2 : inB x.d 0 12
    all_goals
      go_enter Tryz.func37, Tryz.ntmps37
      go_wp2_with (go_at_call 35; refine (within_any _ _ _ _).mono ?_; rintro e w' ⟨rfl, rfl⟩; first | rw [h1] | rw [h2])
      go_ret
      exact ⟨rfl, (Below.refl _ _).alloc (Nat.le_refl _) _⟩
/-- the first of two texts that is not empty. -/
def orB (a b : ByteArray) : ByteArray := if a.toList.isEmpty then b else a
set_option maxHeartbeats 1000000 in
set_option maxRecDepth 100000 in
theorem or2_any (g c : Nat) (a b : ByteArray) (w : World) (h0 : w.cell? ⟨g, 0, none⟩ = some (.string a)) (h1 : w.cell? ⟨g, 1, none⟩ = some (.string b)) :
    Calls Tryz.prog 39 #[.slice (some ⟨g, 0, none⟩) 2 c] w fun e w' => e = .returned (.string (orB a b)) ∧ w = w' := by
  go_enter Tryz.func39, Tryz.ntmps39
  go_wp2
  go_loopw [8] (fun iv wr => ∃ k : Nat, k ≤ 2 ∧ iv = .int .i64 k ∧ wr = w ∧ (1 ≤ k → a.toList.isEmpty = true) ∧ (2 ≤ k → b.toList.isEmpty = true)) (fun iv _ => 2 - (intOf iv).toNat)
  case atStart => exact ⟨0, Nat.zero_le _, rfl, rfl, fun h => by omega, fun h => by omega⟩
  case round =>
    obtain ⟨k, hk, rfl, rfl, ha, hb⟩ := hrel
    obtain h | h | h : k = 0 ∨ k = 1 ∨ k = 2 := by omega
    · subst h
      clear ha hb
      cases he : a.toList.isEmpty
      · have HI := Lib.hid (show orB a b = a by rw [orB, he]; rfl)
        go_wp2
        go_ret
        rw [HI.out]
        exact ⟨rfl, rfl⟩
      · have HE := Lib.hid he
        go_wp2
        go_roundw
        case rel => exact ⟨1, by omega, rfl, trivial, fun _ => by first | trivial | exact HE.out, fun h => by omega⟩
        case measure => simp [intOf]
    · subst h
      have HA := Lib.hid (show orB a b = b by rw [orB, ha (Nat.le_refl _)]; rfl)
      have HA2 := Lib.hid (ha (Nat.le_refl _))
      clear ha hb
      cases he : b.toList.isEmpty
      · go_wp2
        go_ret
        rw [HA.out]
        exact ⟨rfl, rfl⟩
      · have HE := Lib.hid he
        go_wp2
        go_roundw
        case rel => exact ⟨2, by omega, rfl, trivial, fun _ => by first | trivial | exact HA2.out, fun _ => by first | trivial | exact HE.out⟩
        case measure => simp [intOf]
    · subst h
      have HA := Lib.hid (show orB a b = ByteArray.empty by
        rw [orB, ha (by omega)]
        have h5 := hb (by omega)
        have h6 : b.toList = [] := List.isEmpty_iff.1 h5
        rw [toList_eq] at h6
        apply ByteArray.ext
        exact Array.toList_eq_nil_iff.1 h6)
      clear ha hb
      go_wp2
      go_ret
      rw [HA.out]
      exact ⟨rfl, rfl⟩
set_option maxHeartbeats 1000000 in
set_option maxRecDepth 100000 in
theorem sBlanks_any (m : Nat) (hm : m ≤ 1000) (w : World) :
    Calls Tryz.prog 41 #[.int .i64 m] w fun e w' => e = .returned (.string (spB m)) ∧ w = w' := by
  go_enter Tryz.func41, Tryz.ntmps41
  go_wp2
  go_loop [3, 4] (fun o i => ∃ k : Nat, k ≤ m ∧ i = .int .i64 k ∧ o = .string (spB k)) (fun _ i => m - (intOf i).toNat)
  case atStart => exact ⟨0, Nat.zero_le _, rfl, rfl⟩
  case round =>
    obtain ⟨k, hk, rfl, rfl⟩ := hrel
    have hz : (spB k).size = k := by simp [spB, ByteArray.size]
    have HS := Lib.hid (show spB k ++ ⟨#[32]⟩ = spB (k + 1) by
      apply ByteArray.ext
      apply Array.ext'
      simp [spB, List.replicate_succ'])
    by_cases hlt : k < m
    · go_wp2
      go_round
      case rel => exact ⟨k + 1, by omega, by go_num, by rw [← HS.out]⟩
      case measure => simp [intOf] <;> omega
    · obtain rfl : k = m := by omega
      go_wp2
      go_ret
      exact ⟨rfl, rfl⟩
theorem sBlanks2_any (m : Nat) (hm : m ≤ 12) (w : World) :
    Calls Tryz.prog 41 #[.int .i64 (2 * (m : Int))] w fun e w' => e = .returned (.string (spB (2 * m))) ∧ w = w' := by
  have := sBlanks_any (2 * m) (by omega) w
  rwa [show ((2 * m : Nat) : Int) = 2 * (m : Int) by omega] at this
set_option maxHeartbeats 1000000 in
set_option maxRecDepth 100000 in
theorem NodeLine_any (x : Nd) (hs : x.s.size ≤ 1048576) (w : World) :
    Calls Tryz.prog 11 #[.agg #[.int .i64 x.d, .int .i64 x.k, .string x.s]] w fun e w' => e = .returned (.string (nlB x)) ∧ Below w.heap.size w w' := by
  go_enter Tryz.func11, Tryz.ntmps11
  go_wp2_with fail
  refine (inRange_any x _).mono ?_
  rintro e w1 ⟨rfl, hb⟩
  have hbA := (Below.refl w.heap.size w).alloc (Nat.le_refl _) (.cells #[.int .i64 x.d, .int .i64 x.k, .string x.s] 31)
  have HB1 := Lib.hid (hbA.trans (hb.mono hbA.size))
  have c0 := (hb.cell (p := ⟨w.heap.size, 0, none⟩) (by simp)).trans (show (w.alloc (.cells #[.int .i64 x.d, .int .i64 x.k, .string x.s] 31)).cell? ⟨w.heap.size, 0, none⟩ = some (.int .i64 x.d) by simp)
  have c1 := (hb.cell (p := ⟨w.heap.size, 1, none⟩) (by simp)).trans (show (w.alloc (.cells #[.int .i64 x.d, .int .i64 x.k, .string x.s] 31)).cell? ⟨w.heap.size, 1, none⟩ = some (.int .i64 x.k) by simp)
  have c2 := (hb.cell (p := ⟨w.heap.size, 2, none⟩) (by simp)).trans (show (w.alloc (.cells #[.int .i64 x.d, .int .i64 x.k, .string x.s] 31)).cell? ⟨w.heap.size, 2, none⟩ = some (.string x.s) by simp)
  have hlt : w.heap.size < w1.heap.size := Nat.lt_of_lt_of_le (by simp) hb.size
  clear hb hbA
  cases hr : (inB x.k 0 6 && inB x.d 0 12)
  · have HI := Lib.hid (show nlB x = ByteArray.empty by unfold nlB; rw [hr]; rfl)
    clear hr
    go_wp2
    go_ret
    rw [HI.out]
    exact ⟨rfl, HB1.out⟩
  have HR := Lib.hid hr
  clear hr
  go_wp2_with fail
  obtain ⟨hk, hd⟩ := Bool.and_eq_true_iff.1 HR.out
  have hd2 := inB_true.1 hd
  have hk2 := inB_true.1 hk
  have HI := Lib.hid (show nlB x = spB (2 * x.d.toNat) ++ orB (mqS x.k) x.s by
    unfold nlB
    rw [HR.out, if_pos rfl]
    congr 1
    unfold orB
    obtain h | h | h | h | h | h | h : x.k = 0 ∨ x.k = 1 ∨ x.k = 2 ∨ x.k = 3 ∨ x.k = 4 ∨ x.k = 5 ∨ x.k = 6 := by omega
    all_goals (rw [h]; first | rfl | (rw [if_pos (by decide), if_neg (by decide +kernel)]) | (rw [if_neg (by decide), if_pos (by decide +kernel)])))
  have HD := Lib.hid hd2
  have hz1 : (spB (2 * x.d.toNat)).size ≤ 24 := by simp [spB, ByteArray.size]; omega
  have hz2 : (orB (mqS x.k) x.s).size ≤ 1048576 := by
    have h3 : (mqS x.k).size ≤ 2 := by unfold mqS; repeat' split
                                       all_goals decide
    unfold orB; split <;> omega
  clear hk hd hd2 hk2 HR
  have r0 := Bw.rd c0
  have r1 := Bw.rd c1
  have r2 := Bw.rd c2
  have hne : Nonempty (Cl (Bw w1)) := ⟨⟨_, Bw.start w1⟩⟩
  refine wp_region_stages [0, 0, 1, 0, 0, 3, 0, 0, 5, 7, 8, 9] 4 (fun w' => ∃ y : Cl (Bw w1), w' = y.W) (by kernel_rfl) (by kernel_rfl) ⟨⟨_, Bw.start w1⟩, rfl⟩ ?_
  simp only [Stage.stages, Stage.pickC, Nat.reduceBEq, Nat.reduceMul, Nat.reduceAdd, cond_true, cond_false, List.map_cons, List.map_nil]
  refine stage_more ?_
  repeat (go_big_quiet_step (fail))
  refine wpQuiet_nil ?_
  intro K hK
  unfold Chain.mov
  go_simp
  simp only [Chain.movUpon]
  refine (repeat2_any x.d HD.out.1 HD.out.2 _).mono ?_
  rintro r w5 ⟨rfl, rfl⟩
  refine ⟨_, rfl, hK _ _ ⟨⟨⟨_, Bw.start w1⟩, rfl⟩, ?_⟩⟩
  clear hK K r0 r1 r2
  refine stage_more ?_
  refine wpQuiet_nil ?_
  intro K hK
  unfold Chain.mov
  go_simp
  simp only [Chain.movUpon]
  refine (marksQ_any x.k _).mono ?_
  rintro r w5 ⟨rfl, rfl⟩
  refine ⟨_, rfl, hK _ _ ⟨⟨⟨_, Bw.start w1⟩, rfl⟩, ?_⟩⟩
  clear hK K
  refine stage_more ?_
  refine wpQuiet_nil ?_
  intro K hK
  unfold Chain.mov
  go_simp
  have hb6 : Below w1.heap.size w1 (w1.alloc (.cells #[.string (mqS x.k), .string x.s] 9)).drew := ((Below.refl _ w1).alloc (Nat.le_refl _) _).drew
  have hN6 : BlkL (w1.alloc (.cells #[.string (mqS x.k), .string x.s] 9)).drew w1.heap.size 9 [.string (mqS x.k), .string x.s] := BlkL.new w1 9 _
  refine hK _ _ ⟨⟨⟨_, hb6⟩, rfl⟩, ?_⟩
  clear hK K
  have HB6 := Lib.hid (HB1.out.trans (hb6.mono HB1.out.size))
  have e0 := (hN6.cell 0).trans rfl
  have e1 := (hN6.cell 1).trans rfl
  change Stage.stageW _ _ _ _ _ _ (w1.alloc (.cells #[.string (mqS x.k), .string x.s] 9)).drew
  generalize (w1.alloc (.cells #[.string (mqS x.k), .string x.s] 9)).drew = V6 at *
  refine stage_more ?_
  refine wpQuiet_nil ?_
  intro K hK
  unfold Chain.mov
  go_simp
  simp only [Chain.movUpon]
  refine (or2_any w1.heap.size 2 (mqS x.k) x.s V6 e0 e1).mono ?_
  rintro r w5 ⟨rfl, rfl⟩
  refine ⟨_, rfl, hK _ _ ⟨⟨⟨_, hb6⟩, rfl⟩, ?_⟩⟩
  clear hK K
  refine stage_last ?_
  repeat (go_big_quiet_step (fail))
  refine wpQuiet_nil ?_
  go_wp2
  go_ret
  rw [HI.out]
  exact ⟨rfl, HB6.out⟩
set_option maxHeartbeats 1000000 in
set_option maxRecDepth 100000 in
theorem sNodeLine_any (x : Nd) (hs : x.s.size ≤ 1048576) (w : World) :
    Calls Tryz.prog 12 #[.agg #[.int .i64 x.d, .int .i64 x.k, .string x.s]] w fun e w' => e = .returned (.string (nlB x)) ∧ Below w.heap.size w w' := by
  have hbA := (Below.refl w.heap.size w).alloc (Nat.le_refl _) (.cells #[.int .i64 x.d, .int .i64 x.k, .string x.s] 31)
  have HBA := Lib.hid hbA
  clear hbA
  go_enter Tryz.func12, Tryz.ntmps12
  go_wp2_with fail
  refine (l01In_any _ _ _ _).mono ?_
  rintro e w1 ⟨rfl, rfl⟩
  cases h0 : inB x.k 0 6
  · have HI := Lib.hid (show nlB x = ByteArray.empty by unfold nlB; rw [h0]; rfl)
    clear h0
    go_wp2
    go_ret
    rw [HI.out]
    exact ⟨rfl, HBA.out⟩
  have H0 := Lib.hid h0
  clear h0
  go_wp2_with fail
  refine (l01In_any _ _ _ _).mono ?_
  rintro e w1 ⟨rfl, rfl⟩
  cases h1 : inB x.d 0 12
  · have HI := Lib.hid (show nlB x = ByteArray.empty by unfold nlB; rw [H0.out, h1]; rfl)
    clear h1
    go_wp2
    go_ret
    rw [HI.out]
    exact ⟨rfl, HBA.out⟩
  have hd2 := inB_true.1 h1
  have hk2 := inB_true.1 H0.out
  have HR := Lib.hid (show (inB x.k 0 6 && inB x.d 0 12) = true by rw [H0.out, h1]; rfl)
  have hz1 : (spB (2 * x.d.toNat)).size ≤ 24 := by simp [spB, ByteArray.size]; omega
  obtain ⟨m, hm⟩ : ∃ m : Nat, x.d = m := ⟨x.d.toNat, by omega⟩
  clear h1
  have hm12 : m ≤ 12 := by omega
  have hd0 : x.d.toNat = m := by omega
  rw [hm] at HBA ⊢
  have HI0 := Lib.hid (show nlB x = spB (2 * m) ++ (if 3 ≤ x.k then mqS x.k else x.s) by unfold nlB; rw [HR.out, if_pos rfl, hd0])
  rw [hd0] at hz1
  have hB2 := HBA.out.alloc HBA.out.size (.cells #[.string ⟨#[40, 41]⟩, .string ⟨#[91, 93]⟩, .string ⟨#[123, 125]⟩, .string ⟨#[39]⟩] 9)
  have hb1 := ((BlkL.new w 31 [.int .i64 (m : Int), .int .i64 x.k, .string x.s]).alloc (.cells #[.string ⟨#[40, 41]⟩, .string ⟨#[91, 93]⟩, .string ⟨#[123, 125]⟩, .string ⟨#[39]⟩] 9))
  have hb2 := BlkL.new (w.alloc (.cells #[.int .i64 (m : Int), .int .i64 x.k, .string x.s] 31)) 9 [.string ⟨#[40, 41]⟩, .string ⟨#[91, 93]⟩, .string ⟨#[123, 125]⟩, .string ⟨#[39]⟩]
  rw [show (w.alloc (.cells #[.int .i64 (m : Int), .int .i64 x.k, .string x.s] 31)).heap.size = w.heap.size + 1 by simp] at hb2
  have H00 := Lib.hid hm
  clear hm hd0 hd2
  by_cases h3 : 3 ≤ x.k
  · rw [if_pos h3] at HI0
    obtain hkk | hkk | hkk | hkk : x.k = 3 ∨ x.k = 4 ∨ x.k = 5 ∨ x.k = 6 := by omega
    all_goals clear h3 hk2
    · rw [hkk, show mqS 3 = ⟨#[40, 41]⟩ from rfl] at HI0
      rw [hkk] at hB2 hb1 hb2
      rw [hkk]
      have HB2 := Lib.hid hB2
      have r0 := Bw.rd ((hb1.cell 0).trans rfl)
      have r1 := Bw.rd ((hb1.cell 1).trans rfl)
      have r3 := Bw.rd ((hb2.cell 0).trans rfl)
      clear hB2 hb1 hb2 hkk
      go_wp2_with fail
      change Code.wp _ _ _ _ ((w.alloc (.cells #[.int .i64 (m : Int), .int .i64 3, .string x.s] 31)).alloc (.cells #[.string ⟨#[40, 41]⟩, .string ⟨#[91, 93]⟩, .string ⟨#[123, 125]⟩, .string ⟨#[39]⟩] 9))
      generalize ((w.alloc (.cells #[.int .i64 (m : Int), .int .i64 3, .string x.s] 31)).alloc (.cells #[.string ⟨#[40, 41]⟩, .string ⟨#[91, 93]⟩, .string ⟨#[123, 125]⟩, .string ⟨#[39]⟩] 9)) = W1 at *
      refine wp_region_class (Bw W1) (by kernel_rfl) (by kernel_rfl) (Bw.start W1) (fun hne => ?_)
      repeat (go_big_quiet_step (fail))
      refine wpQuiet_step (fun K hK => ?_)
      go_simp
      refine ⟨.string (spB (2 * m)), fun x => calls_class x (Bw.keep W1) (same_below (sBlanks2_any m hm12) _), hK _ ?_⟩
      clear hK K
      repeat (go_big_quiet_step (fail))
      refine wpQuiet_nil ?_
      rintro w5 ⟨x5, rfl⟩
      have HB5 := Lib.hid (HB2.out.trans (Below.mono (show Below W1.heap.size W1 x5.W from x5.ok) HB2.out.size))
      go_wp2
      go_ret
      rw [HI0.out]
      exact ⟨rfl, HB5.out⟩
    · rw [hkk, show mqS 4 = ⟨#[91, 93]⟩ from rfl] at HI0
      rw [hkk] at hB2 hb1 hb2
      rw [hkk]
      have HB2 := Lib.hid hB2
      have r0 := Bw.rd ((hb1.cell 0).trans rfl)
      have r1 := Bw.rd ((hb1.cell 1).trans rfl)
      have r3 := Bw.rd ((hb2.cell 1).trans rfl)
      clear hB2 hb1 hb2 hkk
      go_wp2_with fail
      change Code.wp _ _ _ _ ((w.alloc (.cells #[.int .i64 (m : Int), .int .i64 4, .string x.s] 31)).alloc (.cells #[.string ⟨#[40, 41]⟩, .string ⟨#[91, 93]⟩, .string ⟨#[123, 125]⟩, .string ⟨#[39]⟩] 9))
      generalize ((w.alloc (.cells #[.int .i64 (m : Int), .int .i64 4, .string x.s] 31)).alloc (.cells #[.string ⟨#[40, 41]⟩, .string ⟨#[91, 93]⟩, .string ⟨#[123, 125]⟩, .string ⟨#[39]⟩] 9)) = W1 at *
      refine wp_region_class (Bw W1) (by kernel_rfl) (by kernel_rfl) (Bw.start W1) (fun hne => ?_)
      repeat (go_big_quiet_step (fail))
      refine wpQuiet_step (fun K hK => ?_)
      go_simp
      refine ⟨.string (spB (2 * m)), fun x => calls_class x (Bw.keep W1) (same_below (sBlanks2_any m hm12) _), hK _ ?_⟩
      clear hK K
      repeat (go_big_quiet_step (fail))
      refine wpQuiet_nil ?_
      rintro w5 ⟨x5, rfl⟩
      have HB5 := Lib.hid (HB2.out.trans (Below.mono (show Below W1.heap.size W1 x5.W from x5.ok) HB2.out.size))
      go_wp2
      go_ret
      rw [HI0.out]
      exact ⟨rfl, HB5.out⟩
    · rw [hkk, show mqS 5 = ⟨#[123, 125]⟩ from rfl] at HI0
      rw [hkk] at hB2 hb1 hb2
      rw [hkk]
      have HB2 := Lib.hid hB2
      have r0 := Bw.rd ((hb1.cell 0).trans rfl)
      have r1 := Bw.rd ((hb1.cell 1).trans rfl)
      have r3 := Bw.rd ((hb2.cell 2).trans rfl)
      clear hB2 hb1 hb2 hkk
      go_wp2_with fail
      change Code.wp _ _ _ _ ((w.alloc (.cells #[.int .i64 (m : Int), .int .i64 5, .string x.s] 31)).alloc (.cells #[.string ⟨#[40, 41]⟩, .string ⟨#[91, 93]⟩, .string ⟨#[123, 125]⟩, .string ⟨#[39]⟩] 9))
      generalize ((w.alloc (.cells #[.int .i64 (m : Int), .int .i64 5, .string x.s] 31)).alloc (.cells #[.string ⟨#[40, 41]⟩, .string ⟨#[91, 93]⟩, .string ⟨#[123, 125]⟩, .string ⟨#[39]⟩] 9)) = W1 at *
      refine wp_region_class (Bw W1) (by kernel_rfl) (by kernel_rfl) (Bw.start W1) (fun hne => ?_)
      repeat (go_big_quiet_step (fail))
      refine wpQuiet_step (fun K hK => ?_)
      go_simp
      refine ⟨.string (spB (2 * m)), fun x => calls_class x (Bw.keep W1) (same_below (sBlanks2_any m hm12) _), hK _ ?_⟩
      clear hK K
      repeat (go_big_quiet_step (fail))
      refine wpQuiet_nil ?_
      rintro w5 ⟨x5, rfl⟩
      have HB5 := Lib.hid (HB2.out.trans (Below.mono (show Below W1.heap.size W1 x5.W from x5.ok) HB2.out.size))
      go_wp2
      go_ret
      rw [HI0.out]
      exact ⟨rfl, HB5.out⟩
    · rw [hkk, show mqS 6 = ⟨#[39]⟩ from rfl] at HI0
      rw [hkk] at hB2 hb1 hb2
      rw [hkk]
      have HB2 := Lib.hid hB2
      have r0 := Bw.rd ((hb1.cell 0).trans rfl)
      have r1 := Bw.rd ((hb1.cell 1).trans rfl)
      have r3 := Bw.rd ((hb2.cell 3).trans rfl)
      clear hB2 hb1 hb2 hkk
      go_wp2_with fail
      change Code.wp _ _ _ _ ((w.alloc (.cells #[.int .i64 (m : Int), .int .i64 6, .string x.s] 31)).alloc (.cells #[.string ⟨#[40, 41]⟩, .string ⟨#[91, 93]⟩, .string ⟨#[123, 125]⟩, .string ⟨#[39]⟩] 9))
      generalize ((w.alloc (.cells #[.int .i64 (m : Int), .int .i64 6, .string x.s] 31)).alloc (.cells #[.string ⟨#[40, 41]⟩, .string ⟨#[91, 93]⟩, .string ⟨#[123, 125]⟩, .string ⟨#[39]⟩] 9)) = W1 at *
      refine wp_region_class (Bw W1) (by kernel_rfl) (by kernel_rfl) (Bw.start W1) (fun hne => ?_)
      repeat (go_big_quiet_step (fail))
      refine wpQuiet_step (fun K hK => ?_)
      go_simp
      refine ⟨.string (spB (2 * m)), fun x => calls_class x (Bw.keep W1) (same_below (sBlanks2_any m hm12) _), hK _ ?_⟩
      clear hK K
      repeat (go_big_quiet_step (fail))
      refine wpQuiet_nil ?_
      rintro w5 ⟨x5, rfl⟩
      have HB5 := Lib.hid (HB2.out.trans (Below.mono (show Below W1.heap.size W1 x5.W from x5.ok) HB2.out.size))
      go_wp2
      go_ret
      rw [HI0.out]
      exact ⟨rfl, HB5.out⟩
  · rw [if_neg h3] at HI0
    have hd3 : decide (3 ≤ x.k) = false := by simpa using h3
    go_wp2_with fail
    change Code.wp _ _ _ _ ((w.alloc (.cells #[.int .i64 (m : Int), .int .i64 x.k, .string x.s] 31)).alloc (.cells #[.string ⟨#[40, 41]⟩, .string ⟨#[91, 93]⟩, .string ⟨#[123, 125]⟩, .string ⟨#[39]⟩] 9))
    have HB2 := Lib.hid hB2
    have r0 := Bw.rd ((hb1.cell 0).trans rfl)
    have r2 := Bw.rd ((hb1.cell 2).trans rfl)
    clear hB2 hb1 hb2
    generalize ((w.alloc (.cells #[.int .i64 (m : Int), .int .i64 x.k, .string x.s] 31)).alloc (.cells #[.string ⟨#[40, 41]⟩, .string ⟨#[91, 93]⟩, .string ⟨#[123, 125]⟩, .string ⟨#[39]⟩] 9)) = W1 at *
    refine wp_region_class (Bw W1) (by kernel_rfl) (by kernel_rfl) (Bw.start W1) (fun hne => ?_)
    repeat (go_big_quiet_step (fail))
    refine wpQuiet_step (fun K hK => ?_)
    go_simp
    refine ⟨.string (spB (2 * m)), fun x => calls_class x (Bw.keep W1) (same_below (sBlanks2_any m hm12) _), hK _ ?_⟩
    clear hK K
    repeat (go_big_quiet_step (fail))
    refine wpQuiet_nil ?_
    rintro w5 ⟨x5, rfl⟩
    have HB5 := Lib.hid (HB2.out.trans (Below.mono (show Below W1.heap.size W1 x5.W from x5.ok) HB2.out.size))
    go_wp2
    go_ret
    rw [HI0.out]
    exact ⟨rfl, HB5.out⟩
end Go.Proofs.YthjkgbcomjiejaaGreatDoor
