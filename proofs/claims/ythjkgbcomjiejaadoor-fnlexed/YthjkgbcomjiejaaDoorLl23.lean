/-
  The model's small functions: what opens, shuts, ends an atom; whether a line's rest is white.
-/
import Derived.Test.YthjkgbcomjiejaaDoorLl22
namespace Go.Proofs.YthjkgbcomjiejaaDoor
open Go.RowKit
set_option linter.unusedVariables false

def opB (c : Int) : Bool := c == 40 || (c == 91 || c == 123)
def shB (c : Int) : Bool := c == 41 || (c == 93 || c == 125)
theorem st_model (c : Int) : stB c = (wtB c || (opB c || (shB c || (c == 34 || c == 59)))) := by
  rcases kd_cases c with ⟨hk, h⟩ | ⟨hk, h⟩ | ⟨hk, h⟩ | ⟨hk, h⟩ | ⟨hk, h⟩ | ⟨hk, h1, h2, h3, h4, h5, h6, h7, h8, h9⟩
  · unfold stB; rw [hk, if_neg (by decide)]; rcases h with rfl | rfl | rfl <;> decide
  · unfold stB; rw [hk, if_neg (by decide)]; rcases h with rfl | rfl | rfl <;> decide
  · subst h; decide
  · subst h; decide
  · subst h; decide
  · unfold stB; rw [if_pos (.inl hk)]
    have e1 : opB c = false := by simp [opB]; omega
    have e2 : shB c = false := by simp [shB]; omega
    have e3 : (c == 34) = false := by simpa using h9
    have e4 : (c == 59) = false := by simpa using h8
    rw [e1, e2, e3, e4]; simp
set_option maxHeartbeats 400000 in
theorem l06Open_any (c : Int) (w : World) : Calls Tryd.prog 34 #[.int .u8 c] w fun e w' => e = .returned (.bool (opB c)) ∧ w = w' := by
  go_enter Tryd.func34, Tryd.ntmps34
  go_wp2
  all_goals go_ret
  all_goals simp_all [opB, Bool.or_assoc]
set_option maxHeartbeats 400000 in
theorem l06Close_any (c : Int) (w : World) : Calls Tryd.prog 35 #[.int .u8 c] w fun e w' => e = .returned (.bool (shB c)) ∧ w = w' := by
  go_enter Tryd.func35, Tryd.ntmps35
  go_wp2
  all_goals go_ret
  all_goals simp_all [shB, Bool.or_assoc]
set_option maxHeartbeats 400000 in
theorem l06Stops_any (c : Int) (h0 : 0 ≤ c) (h1 : c < 256) (w : World) : Calls Tryd.prog 37 #[.int .u8 c] w fun e w' => e = .returned (.bool (stB c)) ∧ w = w' := by
  have hS := Lib.hid (st_model c)
  have hw : IntKind.i64.wrap c = c := IntWalk.i64_in _ (by omega)
  go_enter Tryd.func37, Tryd.ntmps37
  go_wp2_with fail
  refine (sIsWhite_any _ _).mono ?_
  rintro e w' ⟨rfl, rfl⟩
  cases hwt : wtB c
  · go_wp2_with fail
    refine (l06Open_any _ _).mono ?_
    rintro e w' ⟨rfl, rfl⟩
    cases hop : opB c
    · go_wp2_with fail
      refine (l06Close_any _ _).mono ?_
      rintro e w' ⟨rfl, rfl⟩
      cases hsh : shB c
      · cases h34 : (c == 34) <;> cases h59 : (c == 59)
        all_goals
          have hF := Lib.hid (show stB c = _ by rw [hS.out, hwt, hop, hsh, h34, h59])
          go_wp2
          go_ret
          rw [hF.out]
          exact ⟨rfl, rfl⟩
      · have hF := Lib.hid (show stB c = true by rw [hS.out, hwt, hop, hsh]; rfl)
        go_wp2
        go_ret
        rw [hF.out]
        exact ⟨rfl, rfl⟩
    · have hF := Lib.hid (show stB c = true by rw [hS.out, hwt, hop]; rfl)
      go_wp2
      go_ret
      rw [hF.out]
      exact ⟨rfl, rfl⟩
  · have hF := Lib.hid (show stB c = true by rw [hS.out, hwt]; rfl)
    go_wp2
    go_ret
    rw [hF.out]
    exact ⟨rfl, rfl⟩
/-- what l06Rest tells. -/
def ResP (s : ByteArray) (i : Nat) (r : Bool) : Prop :=
  (r = true → ∃ m, i ≤ m ∧ m ≤ s.size ∧ (∀ k, i ≤ k → k < m → wtB (bt s k) = true ∧ bt s k ≠ 10) ∧ (m = s.size ∨ bt s m = 10)) ∧
  (r = false → ∃ k, i ≤ k ∧ k < s.size ∧ (∀ j, i ≤ j → j ≤ k → bt s j ≠ 10) ∧ wtB (bt s k) = false)
def ResE (s : ByteArray) (i : Nat) (w : World) (e : Ending) (w' : World) : Prop := (∃ r : Bool, e = .returned (.bool r) ∧ ResP s i r) ∧ w = w'
set_option maxHeartbeats 1000000 in
theorem l06Rest_any (s : ByteArray) (i : Nat) (hs : s.size ≤ 1048576) (hi : i ≤ s.size) (w : World) :
    Calls Tryd.prog 36 #[.string s, .int .i64 i] w (ResE s i w) := by
  go_enter Tryd.func36, Tryd.ntmps36
  go_wp2
  go_loop [5] (fun v => ∃ k : Nat, i ≤ k ∧ k ≤ s.size ∧ v = .int .i64 k ∧ ∀ j, i ≤ j → j < k → wtB (bt s j) = true ∧ bt s j ≠ 10) (fun v => s.size - (intOf v).toNat)
  case atStart => exact ⟨i, Nat.le_refl _, hi, rfl, fun j h1 h2 => by omega⟩
  case round =>
    obtain ⟨k, hik, hk, rfl, hall⟩ := hrel
    have HA := Lib.hid hall
    clear hall
    by_cases hlt : k < s.size
    · have hb := bt_at hlt
      have hl := bt_lt s k
      by_cases h10 : bt s k = 10
      · have b10 : ((s[k].toNat : Int) == 10) = true := by rw [← hb, h10]; rfl
        have b10' : ((s[k].toNat : Int) != 10) = false := by rw [← hb, h10]; rfl
        have HP := Lib.hid (show ResP s i true from ⟨fun _ => ⟨k, hik, hk, HA.out, .inr h10⟩, fun h => by cases h⟩)
        clear hb h10
        go_wp2
        go_ret
        exact ⟨⟨true, rfl, HP.out⟩, rfl⟩
      · have b10 : ((s[k].toNat : Int) == 10) = false := by rw [← hb]; simp; omega
        have b10' : ((s[k].toNat : Int) != 10) = true := by rw [← hb]; simp; omega
        have hw : IntKind.i64.wrap (s[k].toNat : Int) = s[k].toNat := IntWalk.i64_in _ (by omega)
        have HBE := Lib.hid hb
        clear hb
        go_wp2_with fail
        refine (sIsWhite_any _ _).mono ?_
        rintro e w' ⟨rfl, rfl⟩
        rw [← HBE.out]
        cases hwt : wtB (bt s k)
        · have HP := Lib.hid (show ResP s i false from ⟨fun h => (by cases h), fun _ => ⟨k, hik, hlt, fun j h1 h2 => (by
            by_cases hjk : j = k
            · subst hjk; exact h10
            · exact (HA.out j h1 (by omega)).2), hwt⟩⟩)
          go_wp2
          go_ret
          exact ⟨⟨false, rfl, HP.out⟩, rfl⟩
        · have HN := Lib.hid (show ∀ j, i ≤ j → j < k + 1 → wtB (bt s j) = true ∧ bt s j ≠ 10 from fun j h1 h2 => by
            by_cases hjk : j = k
            · subst hjk; exact ⟨hwt, h10⟩
            · exact HA.out j h1 (by omega))
          clear h10 hwt
          go_wp2
          go_round
          case rel => exact ⟨k + 1, by omega, by omega, by go_num, HN.out⟩
          case measure => simp [intOf]; omega
    · have HP := Lib.hid (show ResP s i true from ⟨fun _ => ⟨k, hik, hk, HA.out, .inl (by omega)⟩, fun h => by cases h⟩)
      go_wp2
      go_ret
      exact ⟨⟨true, rfl, HP.out⟩, rfl⟩
end Go.Proofs.YthjkgbcomjiejaaDoor
