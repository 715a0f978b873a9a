/-
  Contracts of the functions under TokenOk: ranges and printable texts on both sides, and the model's TokenOk, whatever the token.
-/
import Derived.Test.YtnppemiophggfaaRows
import Derived.Test.YtnppemiophggfaaPlain
import Derived.WalkKit
import Derived.WalkSpells
import Derived.WalkLawsBesides
import Derived.Lib.Hide
namespace Go.Proofs.Ytnppemiophggfaa
open Go.RowKit

set_option maxHeartbeats 400000 in
theorem l01In_any (x lo hi : Int) (w : World) :
    Calls Try.prog 25 #[.int .i64 x, .int .i64 lo, .int .i64 hi] w fun e w' => e = .returned (.bool (inB x lo hi)) ∧ w = w' := by
  by_cases h1 : lo ≤ x <;> by_cases h2 : x ≤ hi
  all_goals
    go_enter Try.func25, Try.ntmps25
    go_wp2
    go_ret
    simp [inB, h1, h2]

set_option maxHeartbeats 400000 in
theorem within_any (x lo hi : Int) (w : World) :
    Calls Try.prog 26 #[.int .i64 x, .int .i64 lo, .int .i64 hi] w fun e w' => e = .returned (.bool (inB x lo hi)) ∧ w = w' := by
  by_cases h1 : lo ≤ x <;> by_cases h2 : x ≤ hi
  all_goals
    go_enter Try.func26, Try.ntmps26
    go_wp2
    go_ret
    simp [inB, h1, h2]

set_option maxHeartbeats 400000 in
theorem printable_any (s : ByteArray) (w : World) (hs : s.size ≤ maxLen) :
    Calls Try.prog 115 #[.string s] w fun e w' => e = .returned (.bool (prN s s.size)) ∧ w = w' := by
  unfold maxLen at hs
  go_enter Try.func115, Try.ntmps115
  go_wp2
  go_loop [3] (fun i => ∃ k : Nat, k ≤ s.size ∧ i = .int .i64 k ∧ prN s k = true) (fun i => s.size - (intOf i).toNat)
  case atStart => exact ⟨0, Nat.zero_le _, rfl, prN_zero s⟩
  case round =>
    obtain ⟨k, hk, rfl, hp⟩ := hrel
    have HP := Lib.hid hp
    clear hp
    by_cases hlt : k < s.size
    · by_cases h1 : (s[k].toNat : Int) < 32
      · have HB := Lib.hid (prN_bad s k hlt (.inl h1))
        go_wp2
        go_ret
        rw [HB.out]
        exact ⟨rfl, rfl⟩
      · by_cases h2 : 126 < (s[k].toNat : Int)
        · have HB := Lib.hid (prN_bad s k hlt (.inr h2))
          go_wp2
          go_ret
          rw [HB.out]
          exact ⟨rfl, rfl⟩
        · have HS := Lib.hid (prN_step s k hlt HP.out (by omega) (by omega))
          go_wp2
          go_round
          case rel => exact ⟨k + 1, by omega, by go_num, HS.out⟩
          case measure => simp [intOf]; omega
    · go_wp2
      go_ret
      have hk' : k = s.size := by omega
      subst hk'
      rw [HP.out]
      exact ⟨rfl, rfl⟩

set_option maxHeartbeats 400000 in
theorem l01Text_any (s : ByteArray) (w : World) (hs : s.size ≤ maxLen) :
    Calls Try.prog 57 #[.string s] w fun e w' => e = .returned (.bool (txtB s)) ∧ w = w' := by
  unfold maxLen at hs
  by_cases hin : 1 ≤ s.size ∧ s.size ≤ 40
  · have hi := Lib.hid (show inB (s.size : Int) 1 40 = true from inB_true.2 (by omega))
    have hT := Lib.hid (show txtB s = (!((s[0].toNat : Int) == 32) && (!((s[s.size - 1].toNat : Int) == 32) && prN s s.size)) from by simp only [txtB, dif_pos hin])
    obtain ⟨h1, h40⟩ := hin
    by_cases hf : ((s[0].toNat : Int) == 32) = true
    · have hF := Lib.hid (show txtB s = false from by rw [hT.out, hf]; rfl)
      go_enter Try.func57, Try.ntmps57
      go_wp2_with (go_at_call 25; refine (l01In_any _ _ _ _).mono ?_; rintro e w' ⟨rfl, rfl⟩; rw [hi.out])
      go_ret
      rw [hF.out]
      exact ⟨rfl, rfl⟩
    · have hf' : ((s[0].toNat : Int) == 32) = false := by simpa using hf
      clear hf
      by_cases hl : ((s[s.size - 1].toNat : Int) == 32) = true
      · have hF := Lib.hid (show txtB s = false from by rw [hT.out, hf', hl]; rfl)
        go_enter Try.func57, Try.ntmps57
        go_wp2_with (go_at_call 25; refine (l01In_any _ _ _ _).mono ?_; rintro e w' ⟨rfl, rfl⟩; rw [hi.out])
        go_ret
        rw [hF.out]
        exact ⟨rfl, rfl⟩
      · have hl' : ((s[s.size - 1].toNat : Int) == 32) = false := by simpa using hl
        clear hl
        have hF := Lib.hid (show txtB s = prN s s.size from by rw [hT.out, hf', hl']; rfl)
        go_enter Try.func57, Try.ntmps57
        go_wp2_with (go_at_call 25; refine (l01In_any _ _ _ _).mono ?_; rintro e w' ⟨rfl, rfl⟩; rw [hi.out])
        go_loop [3] (fun i => ∃ k : Nat, k ≤ s.size ∧ i = .int .i64 k ∧ prN s k = true) (fun i => s.size - (intOf i).toNat)
        case atStart => exact ⟨0, Nat.zero_le _, rfl, prN_zero s⟩
        case round =>
          obtain ⟨k, hk, rfl, hp⟩ := hrel
          have HP := Lib.hid hp
          clear hp
          by_cases hlt : k < s.size
          · by_cases h1 : (s[k].toNat : Int) < 32
            · have HB := Lib.hid (prN_bad s k hlt (.inl h1))
              go_wp2
              go_ret
              rw [hF.out, HB.out]
              exact ⟨rfl, rfl⟩
            · by_cases h2 : 126 < (s[k].toNat : Int)
              · have HB := Lib.hid (prN_bad s k hlt (.inr h2))
                go_wp2
                go_ret
                rw [hF.out, HB.out]
                exact ⟨rfl, rfl⟩
              · have HS := Lib.hid (prN_step s k hlt HP.out (by omega) (by omega))
                go_wp2
                go_round
                case rel => exact ⟨k + 1, by omega, by go_num, HS.out⟩
                case measure => simp [intOf]; omega
          · go_wp2
            go_ret
            have hk' : k = s.size := by omega
            subst hk'
            rw [hF.out, HP.out]
            exact ⟨rfl, rfl⟩
  · have hi := Lib.hid (show inB (s.size : Int) 1 40 = false from inB_false.2 (by omega))
    have hT := Lib.hid (show txtB s = false from by simp only [txtB, dif_neg hin])
    clear hin
    go_enter Try.func57, Try.ntmps57
    go_wp2_with (go_at_call 25; refine (l01In_any _ _ _ _).mono ?_; rintro e w' ⟨rfl, rfl⟩; rw [hi.out])
    go_ret
    rw [hT.out]
    exact ⟨rfl, rfl⟩
set_option maxHeartbeats 400000 in
theorem sTokenOk_no (k : Int) (s : ByteArray) (d o : Int) (w : World) (hk : k ≠ 0) (hs0 : s.size ≠ 0) :
    Calls Try.prog 35 #[.agg #[.int .i64 k, .string s, .int .i64 d, .int .i64 o]] w fun e w' => e = .returned (.bool (tokB k s d o)) ∧ Below w.heap.size w w' := by
  have hT := Lib.hid (show tokB k s d o = false from by simp [tokB, hk, hs0])
  have hk' : (k != 0) = true := by simpa using hk
  have hE := ne_isEmpty hs0
  clear hk hs0
  go_enter Try.func35, Try.ntmps35
  go_wp2
  go_ret
  rw [hT.out]
  exact ⟨rfl, (Below.refl _ _).alloc (Nat.le_refl _) _⟩
set_option maxHeartbeats 400000 in
theorem sTokenOk_0 (s : ByteArray) (d o : Int) (w : World) (hs : s.size ≤ maxLen) :
    Calls Try.prog 35 #[.agg #[.int .i64 0, .string s, .int .i64 d, .int .i64 o]] w fun e w' => e = .returned (.bool (tokB 0 s d o)) ∧ Below w.heap.size w w' := by
  cases ht : txtB s
  · have hT := Lib.hid (show tokB 0 s d o = false from by simp [tokB, ht])
    have hx := Lib.hid ht
    clear ht
    go_enter Try.func35, Try.ntmps35
    go_wp2_with (go_at_call 57; refine (l01Text_any _ _ hs).mono ?_; rintro e w' ⟨rfl, rfl⟩; rw [hx.out])
    go_ret
    rw [hT.out]
    exact ⟨rfl, (Below.refl _ _).alloc (Nat.le_refl _) _⟩
  · have hT := Lib.hid (show tokB 0 s d o = (decide (d = 0) && decide (o = 0)) from by simp [tokB, ht])
    have hx := Lib.hid ht
    clear ht
    by_cases h1 : (d == 0) = true
    · by_cases h2 : (o == 0) = true
      · have hF := Lib.hid (show tokB 0 s d o = true from by rw [hT.out]; simp at h1 h2; simp [h1, h2])
        go_enter Try.func35, Try.ntmps35
        go_wp2_with (go_at_call 57; refine (l01Text_any _ _ hs).mono ?_; rintro e w' ⟨rfl, rfl⟩; rw [hx.out])
        go_ret
        rw [hF.out]
        exact ⟨rfl, (Below.refl _ _).alloc (Nat.le_refl _) _⟩
      · have h2' : (o == 0) = false := by simpa using h2
        clear h2
        have hF := Lib.hid (show tokB 0 s d o = false from by rw [hT.out]; simp at h2'; simp [h2'])
        go_enter Try.func35, Try.ntmps35
        go_wp2_with (go_at_call 57; refine (l01Text_any _ _ hs).mono ?_; rintro e w' ⟨rfl, rfl⟩; rw [hx.out])
        go_ret
        rw [hF.out]
        exact ⟨rfl, (Below.refl _ _).alloc (Nat.le_refl _) _⟩
    · have h1' : (d == 0) = false := by simpa using h1
      clear h1
      have hF := Lib.hid (show tokB 0 s d o = false from by rw [hT.out]; simp at h1'; simp [h1'])
      go_enter Try.func35, Try.ntmps35
      go_wp2_with (go_at_call 57; refine (l01Text_any _ _ hs).mono ?_; rintro e w' ⟨rfl, rfl⟩; rw [hx.out])
      go_ret
      rw [hF.out]
      exact ⟨rfl, (Below.refl _ _).alloc (Nat.le_refl _) _⟩
set_option maxHeartbeats 1000000 in
theorem sTokenOk_e (k d o : Int) (w : World) (h0 : (k != 0) = true) (h0' : (k == 0) = false) :
    Calls Try.prog 35 #[.agg #[.int .i64 k, .string ByteArray.empty, .int .i64 d, .int .i64 o]] w fun e w' => e = .returned (.bool (tokB k ByteArray.empty d o)) ∧ Below w.heap.size w w' := by
  go_enter Try.func35, Try.ntmps35
  go_wp2
  all_goals go_ret
  all_goals refine ⟨?_, (Below.refl _ _).alloc (Nat.le_refl _) _⟩
  all_goals simp_all [tokB, inB]
  all_goals first | omega | rfl
theorem sTokenOk_any (k : Int) (s : ByteArray) (d o : Int) (w : World) (hs : s.size ≤ maxLen) :
    Calls Try.prog 35 #[.agg #[.int .i64 k, .string s, .int .i64 d, .int .i64 o]] w fun e w' => e = .returned (.bool (tokB k s d o)) ∧ Below w.heap.size w w' := by
  by_cases hk : k = 0
  · subst hk; exact sTokenOk_0 s d o w hs
  · by_cases h0 : s.size = 0
    · rw [size_zero] at h0; subst h0
      exact sTokenOk_e k d o w (by simpa using hk) (by simpa using hk)
    · exact sTokenOk_no k s d o w hk h0
end Go.Proofs.Ytnppemiophggfaa
