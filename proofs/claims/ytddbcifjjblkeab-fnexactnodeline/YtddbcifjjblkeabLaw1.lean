/-
  WidthOf and IsBreak on both sides; the helpers of the laws over tokens (sizes, copies, comparison); the walks of FnExactTokenOk, FnExactWidthOf and FnExactIsBreak.
-/
import Derived.Test.YtddbcifjjblkeabImpl
namespace Go.Proofs.Ytddbcifjjblkeab
open Go.RowKit

/-- what is left when n more are counted. -/
def szV (left : Int) (n : Nat) : Int := if left < (n : Int) then -1 else left - n
def widB (k : Int) (s : ByteArray) (d o : Int) : Int := if tokB k s d o = true then (if k = 0 then s.size else if k = 1 then d else 0) else -1
def brkB (k : Int) (s : ByteArray) (d o : Int) : Bool := tokB k s d o && (decide (k = 1) || decide (k = 4))

set_option maxHeartbeats 400000 in
theorem szToken_any (k : Int) (s : ByteArray) (d o left : Int) (w : World) (hs : s.size ≤ maxLen) (h0 : 0 ≤ left) (h1 : left ≤ 1048576) :
    Calls Try.prog 24 #[.agg #[.int .i64 k, .string s, .int .i64 d, .int .i64 o], .int .i64 left] w fun e w' => e = .returned (.int .i64 (szV left s.size)) ∧ Below w.heap.size w w' := by
  unfold maxLen at hs
  by_cases h : left < (s.size : Int)
  · have hI := Lib.hid (show szV left s.size = -1 from if_pos h)
    go_enter Try.func24, Try.ntmps24
    go_wp2
    go_ret
    rw [hI.out]
    exact ⟨rfl, (Below.refl _ _).alloc (Nat.le_refl _) _⟩
  · have hI := Lib.hid (show szV left s.size = left - s.size from if_neg h)
    go_enter Try.func24, Try.ntmps24
    go_wp2
    go_ret
    rw [hI.out]
    exact ⟨rfl, (Below.refl _ _).alloc (Nat.le_refl _) _⟩

set_option maxHeartbeats 400000 in
theorem toToken_any (k : Int) (s : ByteArray) (d o : Int) (w : World) :
    Calls Try.prog 26 #[.agg #[.int .i64 k, .string s, .int .i64 d, .int .i64 o]] w fun e w' => e = .returned (.agg #[.int .i64 k, .string s, .int .i64 d, .int .i64 o]) ∧ Below w.heap.size w w' := by
  go_enter Try.func26, Try.ntmps26
  go_wp2
  refine bodyPost_ret (v := .agg #[.int .i64 k, .string s, .int .i64 d, .int .i64 o]) (by simp [results, Try.results26, go_sem]) rfl ⟨rfl, ?_⟩
  exact (((Below.refl _ _).alloc (Nat.le_refl _) _).alloc (by simp) _).alloc (by simp; omega) _

end Go.Proofs.Ytddbcifjjblkeab
