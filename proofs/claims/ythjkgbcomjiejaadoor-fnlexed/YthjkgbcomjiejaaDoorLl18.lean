/-
  The small functions of the program's reader: the Kind of a first byte, what ends an atom, how long an atom, a string and a note are.
-/
import Derived.Test.YthjkgbcomjiejaaDoorLl17
import Derived.Test.YthjkgbcomjiejaaDoorLl06
namespace Go.Proofs.YthjkgbcomjiejaaDoor
open Go.RowKit
set_option linter.unusedVariables false

set_option maxHeartbeats 400000 in
theorem kindOfFirst_any (r : Int) (w : World) :
    Calls Tryd.prog 56 #[.int .i32 r] w fun e w' => e = .returned (.int .i64 (kdI r)) ∧ w = w' := by
  rcases kd_cases r with ⟨hk, h⟩ | ⟨hk, h⟩ | ⟨hk, h⟩ | ⟨hk, h⟩ | ⟨hk, h⟩ | ⟨hk, h1, h2, h3, h4, h5, h6, h7, h8, h9⟩
  · rcases h with rfl | rfl | rfl
    all_goals
      rw [hk]
      go_enter Tryd.func56, Tryd.ntmps56
      go_wp2
      go_ret
      exact ⟨rfl, rfl⟩
  · rcases h with rfl | rfl | rfl
    all_goals
      rw [hk]
      go_enter Tryd.func56, Tryd.ntmps56
      go_wp2
      go_ret
      exact ⟨rfl, rfl⟩
  · subst h
    rw [hk]
    go_enter Tryd.func56, Tryd.ntmps56
    go_wp2
    go_ret
    exact ⟨rfl, rfl⟩
  · subst h
    rw [hk]
    go_enter Tryd.func56, Tryd.ntmps56
    go_wp2
    go_ret
    exact ⟨rfl, rfl⟩
  · subst h
    rw [hk]
    go_enter Tryd.func56, Tryd.ntmps56
    go_wp2
    go_ret
    exact ⟨rfl, rfl⟩
  · rw [hk]
    have b1 : (r == 40) = false := by simpa using h1
    have b2 : (r == 91) = false := by simpa using h2
    have b3 : (r == 123) = false := by simpa using h3
    have b4 : (r == 41) = false := by simpa using h4
    have b5 : (r == 93) = false := by simpa using h5
    have b6 : (r == 125) = false := by simpa using h6
    have b7 : (r == 39) = false := by simpa using h7
    have b8 : (r == 59) = false := by simpa using h8
    have b9 : (r == 34) = false := by simpa using h9
    clear h1 h2 h3 h4 h5 h6 h7 h8 h9 hk
    go_enter Tryd.func56, Tryd.ntmps56
    go_wp2
    go_ret
    exact ⟨rfl, rfl⟩
set_option maxHeartbeats 400000 in
theorem endsAtom_any (r : Int) (h0 : 0 ≤ r) (hr : r ≤ 2147483647) (w : World) :
    Calls Tryd.prog 61 #[.int .i32 r] w fun e w' => e = .returned (.bool (stB r)) ∧ w = w' := by
  have hk := kd_cases r
  have hS := Lib.hid (show stB r = if kdI r = 0 ∨ kdI r = 5 then wtB r else true from rfl)
  go_enter Tryd.func61, Tryd.ntmps61
  go_wp2_with fail
  refine (kindOfFirst_any r w).mono ?_
  rintro e w' ⟨rfl, rfl⟩
  by_cases hc : kdI r = 0 ∨ kdI r = 5
  · have hF := Lib.hid (show stB r = wtB r by rw [hS.out, if_pos hc])
    have hw : IntKind.i64.wrap r = r := IntWalk.i64_in _ (by omega)
    rcases hc with hc | hc
    · rw [hc]
      clear hk hc
      go_wp2_with fail
      refine (IsWhite_any _ _).mono ?_
      rintro e w' ⟨rfl, rfl⟩
      go_wp2
      go_ret
      rw [hF.out]
      exact ⟨rfl, rfl⟩
    · rw [hc]
      clear hk hc
      go_wp2_with fail
      refine (IsWhite_any _ _).mono ?_
      rintro e w' ⟨rfl, rfl⟩
      go_wp2
      go_ret
      rw [hF.out]
      exact ⟨rfl, rfl⟩
  · have hF := Lib.hid (show stB r = true by rw [hS.out, if_neg hc])
    have b0 : (kdI r == 0) = false := by simp; omega
    have b5 : (kdI r == 5) = false := by simp; omega
    clear hk hc
    generalize kdI r = kk at *
    go_wp2
    go_ret
    rw [hF.out]
    exact ⟨rfl, rfl⟩
/-- what atomSize tells: exact where all bytes up to the end may be there. -/
def AtP (b : Nat → Nat) (n sz : Nat) : Prop := sz ≤ n ∧ (fst (evA b) n < n → stB (b (fst (evA b) n)) = false → fst (evA b) n < sz) ∧ (fst (evA b) n = n ∨ stB (b (fst (evA b) n)) = true → sz = fst (evA b) n)
set_option maxHeartbeats 1000000 in
theorem atomSize_any (s : ByteArray) (w : World) (hs : s.size ≤ 1048576) :
    Calls Tryd.prog 57 #[.string s] w fun e w' => (∃ sz : Nat, e = .returned (.int .i64 sz) ∧ AtP (bt s) s.size sz) ∧ Below w.heap.size w w' := by
  go_enter Tryd.func57, Tryd.ntmps57
  go_wp2
  go_loopw [] (fun w' => ∃ pos : Nat, w' = w.iter s pos ∧ ((pos ≤ s.size ∧ ∀ k, k < pos → evA (bt s) k = false) ∨ (fst (evA (bt s)) s.size < s.size ∧ stB (bt s (fst (evA (bt s)) s.size)) = false ∧ fst (evA (bt s)) s.size < pos))) (fun w' => s.size - w'.iterPos w.heap.size)
  case atStart => exact ⟨0, rfl, .inl ⟨Nat.zero_le _, fun k hk => by omega⟩⟩
  case round =>
    obtain ⟨pos, rfl, hinv⟩ := hrel
    have HI := Lib.hid hinv
    clear hinv
    by_cases hlt : pos < s.size
    · have hnx : ∀ ty, (Instr.next (.pointer (some ⟨w.heap.size, 0, none⟩)) true ty).run Tryd.prog (w.iter s pos) = _ := fun ty => run_next_any w s pos ty hlt
      have hwd := width_pos s pos hlt
      have hle := decode_le s pos
      have HR := Lib.hid (show (bt s pos < 128 → (Utf8.decode s pos).1 = bt s pos ∧ (Utf8.decode s pos).2 = 1) ∧ (128 ≤ bt s pos → 128 ≤ (Utf8.decode s pos).1) by
        rw [bt_at hlt]
        constructor
        · intro ha; rw [decode_ascii s pos hlt ha]; exact ⟨rfl, rfl⟩
        · intro ha; exact (decode_high s pos hlt ha).1)
      generalize (Utf8.decode s pos).1 = r at *
      generalize (Utf8.decode s pos).2 = wd at *
      go_wp2_with fail
      refine (endsAtom_any r (by omega) (by omega) _).mono ?_
      rintro e w' ⟨rfl, rfl⟩
      cases hst : stB r
      · have HN := Lib.hid (show ((pos + wd ≤ s.size ∧ ∀ k, k < pos + wd → evA (bt s) k = false) ∨ (fst (evA (bt s)) s.size < s.size ∧ stB (bt s (fst (evA (bt s)) s.size)) = false ∧ fst (evA (bt s)) s.size < pos + wd)) by
          rcases HI.out with ⟨h1, h2⟩ | ⟨h1, h2, h3⟩
          · cases hb : evA (bt s) pos
            · have h128 : bt s pos < 128 := by
                simp [evA, bdB] at hb; omega
              obtain ⟨e1, e2⟩ := HR.out.1 h128
              left
              refine ⟨by omega, fun k hk => ?_⟩
              by_cases hkp : k = pos
              · subst hkp; exact hb
              · exact h2 k (by omega)
            · have hf := fst_at hlt hb h2
              have hns : stB (bt s pos) = false := by
                by_cases h128 : bt s pos < 128
                · rw [← (HR.out.1 h128).1]; exact hst
                · cases hq : stB (bt s pos)
                  · rfl
                  · have := stB_low hq; omega
              right
              rw [hf]
              exact ⟨hlt, hns, by omega⟩
          · exact .inr ⟨h1, h2, by omega⟩)
        go_wp2
        go_roundw
        case rel => exact ⟨pos + wd, rfl, HN.out⟩
        case measure => simp; omega
      · have HP := Lib.hid (show AtP (bt s) s.size pos by
          have hlow := stB_low hst
          have h128 : bt s pos < 128 := by
            rcases Nat.lt_or_ge (bt s pos) 128 with h | h
            · exact h
            · have := HR.out.2 h; omega
          have e1 := (HR.out.1 h128).1
          rcases HI.out with ⟨h1, h2⟩ | ⟨h1, h2, h3⟩
          · have hf : fst (evA (bt s)) s.size = pos := fst_at hlt (by rw [evA, ← e1, hst]; rfl) h2
            unfold AtP
            rw [hf]
            refine ⟨by omega, fun _ h => ?_, fun _ => rfl⟩
            rw [← e1, hst] at h; cases h
          · refine ⟨by omega, fun _ _ => h3, fun h => ?_⟩
            rcases h with h | h
            · omega
            · rw [h2] at h; cases h)
        go_wp2
        go_ret
        exact ⟨⟨pos, rfl, HP.out⟩, iter_below _ _ _⟩
    · have hnx : ∀ ty, (Instr.next (.pointer (some ⟨w.heap.size, 0, none⟩)) true ty).run Tryd.prog (w.iter s pos) = _ := fun ty => run_next_end w s pos ty hlt
      have HP := Lib.hid (show AtP (bt s) s.size s.size by
        rcases HI.out with ⟨h1, h2⟩ | ⟨h1, h2, h3⟩
        · have hf : fst (evA (bt s)) s.size = s.size := fst_none (fun k hk => h2 k (by omega))
          unfold AtP
          rw [hf]
          exact ⟨Nat.le_refl _, fun h => by omega, fun _ => rfl⟩
        · refine ⟨Nat.le_refl _, fun _ _ => h1, fun h => ?_⟩
          rcases h with h | h
          · omega
          · rw [h2] at h; cases h)
      go_wp2
      go_ret
      exact ⟨⟨s.size, rfl, HP.out⟩, iter_below _ _ _⟩
end Go.Proofs.YthjkgbcomjiejaaDoor
