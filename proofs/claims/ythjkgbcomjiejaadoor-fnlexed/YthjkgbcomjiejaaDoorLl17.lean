/-
  White bytes: IsWhite on both sides.
-/
import Derived.Test.YthjkgbcomjiejaaDoorLl15
import Derived.Test.YthjkgbcomjiejaaDoorLl02
import Derived.Test.YthjkgbcomjiejaaDoorLl16
namespace Go.Proofs.YthjkgbcomjiejaaDoor
open Go.RowKit
set_option linter.unusedVariables false

set_option maxHeartbeats 400000 in
theorem sIsWhite_any (b : Int) (w : World) :
    Calls Tryd.prog 16 #[.int .i64 b] w fun e w' => e = .returned (.bool (wtB b)) ∧ w = w' := by
  go_enter Tryd.func16, Tryd.ntmps16
  go_wp2
  all_goals go_ret
  all_goals simp_all [wtB, Bool.or_assoc]
theorem white_small : ∀ n : Nat, n < 128 → decide (0 ≤ Lib.indexByte [32, 9, 10, 13, 44] (n.toUInt8)) = wtB (n : Int) := by decide
theorem conv_byte (b : Int) (h0 : 0 ≤ b) (h1 : b ≤ 127) : IntKind.u8.wrap b = b := by
  simp [IntKind.wrap, IntKind.bits, IntKind.signed]; omega
set_option maxHeartbeats 400000 in
theorem IsWhite_any (b : Int) (w : World) :
    Calls Tryd.prog 38 #[.int .i64 b] w fun e w' => e = .returned (.bool (wtB b)) ∧ w = w' := by
  cases hin : inB b 0 127
  · have hF := Lib.hid (show wtB b = false from by have := inB_false.1 hin; simp [wtB]; omega)
    have HI := Lib.hid hin
    clear hin
    go_enter Tryd.func38, Tryd.ntmps38
    go_wp2_with fail
    refine (within_any _ _ _ _).mono ?_
    rintro e w' ⟨rfl, rfl⟩
    rw [HI.out]
    go_wp2
    go_ret
    rw [hF.out]
    exact ⟨rfl, rfl⟩
  · have hb := inB_true.1 hin
    obtain ⟨n, rfl⟩ := Int.eq_ofNat_of_zero_le hb.1
    have hF := Lib.hid (white_small n (by omega))
    have hw := conv_byte (n : Int) hb.1 hb.2
    have HI := Lib.hid hin
    clear hin
    go_enter Tryd.func38, Tryd.ntmps38
    go_wp2_with fail
    refine (within_any _ _ _ _).mono ?_
    rintro e w' ⟨rfl, rfl⟩
    rw [HI.out]
    go_wp2_with fail
    refine (Tryd.strings_IndexByte _ _ _).mono ?_
    rintro e w' ⟨rfl, rfl⟩
    go_wp2
    go_ret
    rw [← hF.out]
    exact ⟨rfl, rfl⟩
end Go.Proofs.YthjkgbcomjiejaaDoor
