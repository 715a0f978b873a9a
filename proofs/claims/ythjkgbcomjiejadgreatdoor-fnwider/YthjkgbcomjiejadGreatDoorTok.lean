/-
  Contracts of the functions under TokenOk: ranges and printable texts on both sides, and the model's TokenOk, whatever the token.
-/
import Derived.Test.YthjkgbcomjiejadGreatDoorRows
import Derived.Test.YthjkgbcomjiejadGreatDoorPlain
import Derived.WalkKit
import Derived.WalkSpells
import Derived.WalkLawsBesides
import Derived.Lib.Hide
import Derived.Laws.RangeAny
import Derived.LoopTactic
import Derived.Below
namespace Go.Proofs.YthjkgbcomjiejadGreatDoor
open Go.RowKit
set_option linter.unusedVariables false

set_option maxHeartbeats 400000 in
theorem l01In_any (x lo hi : Int) (w : World) :
    Calls Tryz.prog 40 #[.int .i64 x, .int .i64 lo, .int .i64 hi] w fun e w' => e = .returned (.bool (inB x lo hi)) ∧ w = w' := by
  by_cases h1 : lo ≤ x <;> by_cases h2 : x ≤ hi
  all_goals
    go_enter Tryz.func40, Tryz.ntmps40
    go_wp2
    go_ret
    simp [inB, h1, h2]

set_option maxHeartbeats 400000 in
theorem within_any (x lo hi : Int) (w : World) :
    Calls Tryz.prog 80 #[.int .i64 x, .int .i64 lo, .int .i64 hi] w fun e w' => e = .returned (.bool (inB x lo hi)) ∧ w = w' := by
  by_cases h1 : lo ≤ x <;> by_cases h2 : x ≤ hi
  all_goals
    go_enter Tryz.func80, Tryz.ntmps80
    go_wp2
    go_ret
    simp [inB, h1, h2]

theorem width_pos (s : ByteArray) (pos : Nat) (h : pos < s.size) : 1 ≤ (Utf8.decode s pos).2 := by
  by_cases ha : (s[pos]'h).toNat < 128
  · rw [decode_ascii s pos h ha]
    exact Nat.le_refl _
  · exact (decode_high s pos h (by omega)).2
theorem iter_below (w : World) (s : ByteArray) (p : Nat) : Below w.heap.size w (w.iter s p) := (Below.refl _ _).alloc (Nat.le_refl _) _

set_option maxHeartbeats 400000 in
theorem firstUnprintable_any (s : ByteArray) (w : World) :
    Calls Tryz.prog 200 #[.string s] w fun e w' => e = .returned (.int .i64 (fbI s)) ∧ Below w.heap.size w w' := by
  go_enter Tryz.func200, Tryz.ntmps200
  go_wp2
  go_loopw [] (fun w' => ∃ pos : Nat, w' = w.iter s pos ∧ pos ≤ s.size ∧ prN s pos = true) (fun w' => s.size - w'.iterPos w.heap.size)
  case atStart => exact ⟨0, rfl, Nat.zero_le _, prN_zero s⟩
  case round =>
    obtain ⟨pos, rfl, hle, hp⟩ := hrel
    have HP := Lib.hid hp
    clear hp
    by_cases hlt : pos < s.size
    · by_cases hb : (s[pos].toNat : Int) < 32 ∨ 126 < (s[pos].toNat : Int)
      · have HF := Lib.hid (fbI_at hlt HP.out hb)
        have hnx : ∀ ty, (Instr.next (.pointer (some ⟨w.heap.size, 0, none⟩)) true ty).run Tryz.prog (w.iter s pos) = _ := fun ty => run_next_any w s pos ty hlt
        have hr : ((Utf8.decode s pos).1 : Int) < 32 ∨ 126 < ((Utf8.decode s pos).1 : Int) := by
          by_cases ha : s[pos].toNat < 128
          · rw [decode_ascii s pos hlt ha]; exact hb
          · have := (decode_high s pos hlt (by omega)).1; right; omega
        clear hb
        generalize (Utf8.decode s pos).1 = r at *
        generalize (Utf8.decode s pos).2 = wd at *
        rcases hr with hr | hr
        · go_wp2
          go_ret
          rw [HF.out]
          exact ⟨rfl, iter_below _ _ _⟩
        · have hr2 : ¬ (r : Int) < 32 := by omega
          go_wp2
          go_ret
          rw [HF.out]
          exact ⟨rfl, iter_below _ _ _⟩
      · have hb' : 32 ≤ (s[pos].toNat : Int) ∧ (s[pos].toNat : Int) ≤ 126 := by omega
        have HS := Lib.hid (prN_step s pos hlt HP.out hb'.1 hb'.2)
        have hnx : ∀ ty, (Instr.next (.pointer (some ⟨w.heap.size, 0, none⟩)) true ty).run Tryz.prog (w.iter s pos) = _ := fun ty => run_next_ascii w s pos ty hlt (by omega)
        obtain ⟨h1, h2⟩ := hb'
        clear hb
        generalize s[pos].toNat = r at *
        have h1' : ¬ (r : Int) < 32 := by omega
        have h2' : ¬ 126 < (r : Int) := by omega
        go_wp2
        go_roundw
        case rel => exact ⟨pos + 1, rfl, by omega, HS.out⟩
        case measure => simp; omega
    · have hnx : ∀ ty, (Instr.next (.pointer (some ⟨w.heap.size, 0, none⟩)) true ty).run Tryz.prog (w.iter s pos) = _ := fun ty => run_next_end w s pos ty hlt
      have hk : pos = s.size := by omega
      have HF := Lib.hid (fbI_none (s := s) (hk ▸ HP.out))
      clear hk
      go_wp2
      go_ret
      rw [HF.out]
      exact ⟨rfl, iter_below _ _ _⟩

set_option maxHeartbeats 400000 in
theorem printable_any (s : ByteArray) (w : World) (hs : s.size ≤ maxLen) :
    Calls Tryz.prog 260 #[.string s] w fun e w' => e = .returned (.bool (prN s s.size)) ∧ Below w.heap.size w w' := by
  have hN := fbI_neg s
  go_enter Tryz.func260, Tryz.ntmps260
  go_wp2_with (go_at_call 200; refine (firstUnprintable_any _ _).mono ?_; rintro e w' ⟨rfl, hb⟩)
  go_ret
  exact ⟨rfl, hb⟩

set_option maxHeartbeats 400000 in
theorem l01Text_any (s : ByteArray) (w : World) (hs : s.size ≤ maxLen) :
    Calls Tryz.prog 148 #[.string s] w fun e w' => e = .returned (.bool (txtB s)) ∧ w = w' := by
  unfold maxLen at hs
  by_cases hin : 1 ≤ s.size ∧ s.size ≤ 40
  · have hi := Lib.hid (show inB (s.size : Int) 1 40 = true from inB_true.2 (by omega))
    have hT := Lib.hid (show txtB s = (!((s[0].toNat : Int) == 32) && (!((s[s.size - 1].toNat : Int) == 32) && prN s s.size)) from by simp only [txtB, dif_pos hin])
    obtain ⟨h1, h40⟩ := hin
    by_cases hf : ((s[0].toNat : Int) == 32) = true
    · have hF := Lib.hid (show txtB s = false from by rw [hT.out, hf]; rfl)
      go_enter Tryz.func148, Tryz.ntmps148
      go_wp2_with (go_at_call 40; refine (l01In_any _ _ _ _).mono ?_; rintro e w' ⟨rfl, rfl⟩; rw [hi.out])
      go_ret
      rw [hF.out]
      exact ⟨rfl, rfl⟩
    · have hf' : ((s[0].toNat : Int) == 32) = false := by simpa using hf
      clear hf
      by_cases hl : ((s[s.size - 1].toNat : Int) == 32) = true
      · have hF := Lib.hid (show txtB s = false from by rw [hT.out, hf', hl]; rfl)
        go_enter Tryz.func148, Tryz.ntmps148
        go_wp2_with (go_at_call 40; refine (l01In_any _ _ _ _).mono ?_; rintro e w' ⟨rfl, rfl⟩; rw [hi.out])
        go_ret
        rw [hF.out]
        exact ⟨rfl, rfl⟩
      · have hl' : ((s[s.size - 1].toNat : Int) == 32) = false := by simpa using hl
        clear hl
        have hF := Lib.hid (show txtB s = prN s s.size from by rw [hT.out, hf', hl']; rfl)
        go_enter Tryz.func148, Tryz.ntmps148
        go_wp2_with (go_at_call 40; refine (l01In_any _ _ _ _).mono ?_; rintro e w' ⟨rfl, rfl⟩; rw [hi.out])
        go_loop [3] (fun i => ∃ k : Nat, k ≤ s.size ∧ i = .int .i64 k ∧ prN s k = true) (fun i => s.size - (intOf i).toNat)
        case atStart => exact ⟨0, Nat.zero_le _, rfl, prN_zero s⟩
        case round =>
          obtain ⟨k, hk, rfl, hp⟩ := hrel
          have HP := Lib.hid hp
          clear hp
          by_cases hlt : k < s.size
          · by_cases h1 : (s[k].toNat : Int) < 32
            · have HB := Lib.hid (prN_bad s k hlt (.inl h1))
              go_wp2
              go_ret
              rw [hF.out, HB.out]
              exact ⟨rfl, rfl⟩
            · by_cases h2 : 126 < (s[k].toNat : Int)
              · have HB := Lib.hid (prN_bad s k hlt (.inr h2))
                go_wp2
                go_ret
                rw [hF.out, HB.out]
                exact ⟨rfl, rfl⟩
              · have HS := Lib.hid (prN_step s k hlt HP.out (by omega) (by omega))
                go_wp2
                go_round
                case rel => exact ⟨k + 1, by omega, by go_num, HS.out⟩
                case measure => simp [intOf]; omega
          · go_wp2
            go_ret
            have hk' : k = s.size := by omega
            subst hk'
            rw [hF.out, HP.out]
            exact ⟨rfl, rfl⟩
  · have hi := Lib.hid (show inB (s.size : Int) 1 40 = false from inB_false.2 (by omega))
    have hT := Lib.hid (show txtB s = false from by simp only [txtB, dif_neg hin])
    clear hin
    go_enter Tryz.func148, Tryz.ntmps148
    go_wp2_with (go_at_call 40; refine (l01In_any _ _ _ _).mono ?_; rintro e w' ⟨rfl, rfl⟩; rw [hi.out])
    go_ret
    rw [hT.out]
    exact ⟨rfl, rfl⟩
set_option maxHeartbeats 400000 in
theorem sTokenOk_no (k : Int) (s : ByteArray) (d o : Int) (w : World) (hk : k ≠ 0) (hs0 : s.size ≠ 0) :
    Calls Tryz.prog 109 #[.agg #[.int .i64 k, .string s, .int .i64 d, .int .i64 o]] w fun e w' => e = .returned (.bool (tokB k s d o)) ∧ Below w.heap.size w w' := by
  have hT := Lib.hid (show tokB k s d o = false from by simp [tokB, hk, hs0])
  have hk' : (k != 0) = true := by simpa using hk
  have hE := ne_isEmpty hs0
  clear hk hs0
  go_enter Tryz.func109, Tryz.ntmps109
  go_wp2
  go_ret
  rw [hT.out]
  exact ⟨rfl, (Below.refl _ _).alloc (Nat.le_refl _) _⟩
set_option maxHeartbeats 400000 in
theorem sTokenOk_0 (s : ByteArray) (d o : Int) (w : World) (hs : s.size ≤ maxLen) :
    Calls Tryz.prog 109 #[.agg #[.int .i64 0, .string s, .int .i64 d, .int .i64 o]] w fun e w' => e = .returned (.bool (tokB 0 s d o)) ∧ Below w.heap.size w w' := by
  cases ht : txtB s
  · have hT := Lib.hid (show tokB 0 s d o = false from by simp [tokB, ht])
    have hx := Lib.hid ht
    clear ht
    go_enter Tryz.func109, Tryz.ntmps109
    go_wp2_with (go_at_call 148; refine (l01Text_any _ _ hs).mono ?_; rintro e w' ⟨rfl, rfl⟩; rw [hx.out])
    go_ret
    rw [hT.out]
    exact ⟨rfl, (Below.refl _ _).alloc (Nat.le_refl _) _⟩
  · have hT := Lib.hid (show tokB 0 s d o = (decide (d = 0) && decide (o = 0)) from by simp [tokB, ht])
    have hx := Lib.hid ht
    clear ht
    by_cases h1 : (d == 0) = true
    · by_cases h2 : (o == 0) = true
      · have hF := Lib.hid (show tokB 0 s d o = true from by rw [hT.out]; simp at h1 h2; simp [h1, h2])
        go_enter Tryz.func109, Tryz.ntmps109
        go_wp2_with (go_at_call 148; refine (l01Text_any _ _ hs).mono ?_; rintro e w' ⟨rfl, rfl⟩; rw [hx.out])
        go_ret
        rw [hF.out]
        exact ⟨rfl, (Below.refl _ _).alloc (Nat.le_refl _) _⟩
      · have h2' : (o == 0) = false := by simpa using h2
        clear h2
        have hF := Lib.hid (show tokB 0 s d o = false from by rw [hT.out]; simp at h2'; simp [h2'])
        go_enter Tryz.func109, Tryz.ntmps109
        go_wp2_with (go_at_call 148; refine (l01Text_any _ _ hs).mono ?_; rintro e w' ⟨rfl, rfl⟩; rw [hx.out])
        go_ret
        rw [hF.out]
        exact ⟨rfl, (Below.refl _ _).alloc (Nat.le_refl _) _⟩
    · have h1' : (d == 0) = false := by simpa using h1
      clear h1
      have hF := Lib.hid (show tokB 0 s d o = false from by rw [hT.out]; simp at h1'; simp [h1'])
      go_enter Tryz.func109, Tryz.ntmps109
      go_wp2_with (go_at_call 148; refine (l01Text_any _ _ hs).mono ?_; rintro e w' ⟨rfl, rfl⟩; rw [hx.out])
      go_ret
      rw [hF.out]
      exact ⟨rfl, (Below.refl _ _).alloc (Nat.le_refl _) _⟩
set_option maxHeartbeats 1000000 in
theorem sTokenOk_e (k d o : Int) (w : World) (h0 : (k != 0) = true) (h0' : (k == 0) = false) :
    Calls Tryz.prog 109 #[.agg #[.int .i64 k, .string ByteArray.empty, .int .i64 d, .int .i64 o]] w fun e w' => e = .returned (.bool (tokB k ByteArray.empty d o)) ∧ Below w.heap.size w w' := by
  go_enter Tryz.func109, Tryz.ntmps109
  go_wp2
  all_goals go_ret
  all_goals refine ⟨?_, (Below.refl _ _).alloc (Nat.le_refl _) _⟩
  all_goals simp_all [tokB, inB]
  all_goals first | omega | rfl
theorem sTokenOk_any (k : Int) (s : ByteArray) (d o : Int) (w : World) (hs : s.size ≤ maxLen) :
    Calls Tryz.prog 109 #[.agg #[.int .i64 k, .string s, .int .i64 d, .int .i64 o]] w fun e w' => e = .returned (.bool (tokB k s d o)) ∧ Below w.heap.size w w' := by
  by_cases hk : k = 0
  · subst hk; exact sTokenOk_0 s d o w hs
  · by_cases h0 : s.size = 0
    · rw [size_zero] at h0; subst h0
      exact sTokenOk_e k d o w (by simpa using hk) (by simpa using hk)
    · exact sTokenOk_no k s d o w hk h0
end Go.Proofs.YthjkgbcomjiejadGreatDoor
