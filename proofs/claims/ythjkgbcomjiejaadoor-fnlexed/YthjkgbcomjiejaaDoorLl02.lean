/-
  Contracts of the functions under TokenOk: ranges and printable texts on both sides, and the model's TokenOk, whatever the token.
-/
import Derived.Test.YthjkgbcomjiejaaDoorRows
import Derived.Test.YthjkgbcomjiejaaDoorLl01
import Derived.WalkKit
import Derived.WalkSpells
import Derived.WalkLawsBesides
import Derived.Lib.Hide
import Derived.Laws.RangeAny
import Derived.LoopTactic
import Derived.Below
namespace Go.Proofs.YthjkgbcomjiejaaDoor
open Go.RowKit
set_option linter.unusedVariables false

set_option maxHeartbeats 400000 in
theorem within_any (x lo hi : Int) (w : World) :
    Calls Tryd.prog 22 #[.int .i64 x, .int .i64 lo, .int .i64 hi] w fun e w' => e = .returned (.bool (inB x lo hi)) ∧ w = w' := by
  by_cases h1 : lo ≤ x <;> by_cases h2 : x ≤ hi
  all_goals
    go_enter Tryd.func22, Tryd.ntmps22
    go_wp2
    go_ret
    simp [inB, h1, h2]

theorem width_pos (s : ByteArray) (pos : Nat) (h : pos < s.size) : 1 ≤ (Utf8.decode s pos).2 := by
  by_cases ha : (s[pos]'h).toNat < 128
  · rw [decode_ascii s pos h ha]
    exact Nat.le_refl _
  · exact (decode_high s pos h (by omega)).2
theorem iter_below (w : World) (s : ByteArray) (p : Nat) : Below w.heap.size w (w.iter s p) := (Below.refl _ _).alloc (Nat.le_refl _) _

set_option maxHeartbeats 400000 in
theorem firstUnprintable_any (s : ByteArray) (w : World) :
    Calls Tryd.prog 50 #[.string s] w fun e w' => e = .returned (.int .i64 (fbI s)) ∧ Below w.heap.size w w' := by
  go_enter Tryd.func50, Tryd.ntmps50
  go_wp2
  go_loopw [] (fun w' => ∃ pos : Nat, w' = w.iter s pos ∧ pos ≤ s.size ∧ prN s pos = true) (fun w' => s.size - w'.iterPos w.heap.size)
  case atStart => exact ⟨0, rfl, Nat.zero_le _, prN_zero s⟩
  case round =>
    obtain ⟨pos, rfl, hle, hp⟩ := hrel
    have HP := Lib.hid hp
    clear hp
    by_cases hlt : pos < s.size
    · by_cases hb : (s[pos].toNat : Int) < 32 ∨ 126 < (s[pos].toNat : Int)
      · have HF := Lib.hid (fbI_at hlt HP.out hb)
        have hnx : ∀ ty, (Instr.next (.pointer (some ⟨w.heap.size, 0, none⟩)) true ty).run Tryd.prog (w.iter s pos) = _ := fun ty => run_next_any w s pos ty hlt
        have hr : ((Utf8.decode s pos).1 : Int) < 32 ∨ 126 < ((Utf8.decode s pos).1 : Int) := by
          by_cases ha : s[pos].toNat < 128
          · rw [decode_ascii s pos hlt ha]; exact hb
          · have := (decode_high s pos hlt (by omega)).1; right; omega
        clear hb
        generalize (Utf8.decode s pos).1 = r at *
        generalize (Utf8.decode s pos).2 = wd at *
        rcases hr with hr | hr
        · go_wp2
          go_ret
          rw [HF.out]
          exact ⟨rfl, iter_below _ _ _⟩
        · have hr2 : ¬ (r : Int) < 32 := by omega
          go_wp2
          go_ret
          rw [HF.out]
          exact ⟨rfl, iter_below _ _ _⟩
      · have hb' : 32 ≤ (s[pos].toNat : Int) ∧ (s[pos].toNat : Int) ≤ 126 := by omega
        have HS := Lib.hid (prN_step s pos hlt HP.out hb'.1 hb'.2)
        have hnx : ∀ ty, (Instr.next (.pointer (some ⟨w.heap.size, 0, none⟩)) true ty).run Tryd.prog (w.iter s pos) = _ := fun ty => run_next_ascii w s pos ty hlt (by omega)
        obtain ⟨h1, h2⟩ := hb'
        clear hb
        generalize s[pos].toNat = r at *
        have h1' : ¬ (r : Int) < 32 := by omega
        have h2' : ¬ 126 < (r : Int) := by omega
        go_wp2
        go_roundw
        case rel => exact ⟨pos + 1, rfl, by omega, HS.out⟩
        case measure => simp; omega
    · have hnx : ∀ ty, (Instr.next (.pointer (some ⟨w.heap.size, 0, none⟩)) true ty).run Tryd.prog (w.iter s pos) = _ := fun ty => run_next_end w s pos ty hlt
      have hk : pos = s.size := by omega
      have HF := Lib.hid (fbI_none (s := s) (hk ▸ HP.out))
      clear hk
      go_wp2
      go_ret
      rw [HF.out]
      exact ⟨rfl, iter_below _ _ _⟩

end Go.Proofs.YthjkgbcomjiejaaDoor
