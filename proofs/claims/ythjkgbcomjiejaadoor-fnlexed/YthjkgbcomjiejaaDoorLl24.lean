/-
  The model's l06End (made by gen_lxf.py).
-/
import Derived.Test.YthjkgbcomjiejaaDoorLl23
namespace Go.Proofs.YthjkgbcomjiejaaDoor
open Go.RowKit
set_option linter.unusedVariables false

def EndP (s : ByteArray) (a : Nat) (w : World) (e : Ending) (w' : World) : Prop :=
  ∃ (z k d : Int), e = .returned (.tuple #[.int .i64 z, .int .i64 k, .int .i64 d]) ∧ w = w' ∧
    (match lexO (fun i => bt s (a + i)) (s.size - a) with | (some j, _) => d = (a + j : Nat) | (none, y) => d = -1 ∧ z = (a + y : Nat) ∧ k = kdI (bt s a))
theorem EndP.bad {s : ByteArray} {a j : Nat} {w : World} {z k : Int} (h : ∃ x, lexO (fun i => bt s (a + i)) (s.size - a) = (some j, x)) : EndP s a w (.returned (.tuple #[.int .i64 z, .int .i64 k, .int .i64 ((a : Int) + j)])) w := by
  obtain ⟨x, h⟩ := h
  refine ⟨z, k, _, rfl, rfl, ?_⟩
  rw [h]
  simp
theorem EndP.ok {s : ByteArray} {a y : Nat} {w : World} {k : Int} (h : lexO (fun i => bt s (a + i)) (s.size - a) = (none, y)) (hk : k = kdI (bt s a)) : EndP s a w (.returned (.tuple #[.int .i64 ((a : Int) + y), .int .i64 k, .int .i64 (-1)])) w := by
  refine ⟨_, k, _, rfl, rfl, ?_⟩
  rw [h]
  exact ⟨rfl, by simp, hk⟩
set_option maxHeartbeats 1000000 in
set_option maxRecDepth 100000 in
theorem end_bad (s : ByteArray) (a : Nat) (w : World) (hs : s.size ≤ 1048576) (ha : a < s.size) (hw : wtB (bt s a) = false) (hb : bdB (bt s a) = true) :
    Calls Tryd.prog 17 #[.string s, .int .i64 a] w (EndP s a w) := by
  have h0 : kdI (bt s a) = 0 := by
    rcases kd_cases (bt s a) with ⟨hk, h⟩ | ⟨hk, h⟩ | ⟨hk, h⟩ | ⟨hk, h⟩ | ⟨hk, h⟩ | ⟨hk, _⟩
    · simp [bdB] at hb; omega
    · simp [bdB] at hb; omega
    · simp [bdB] at hb; omega
    · simp [bdB] at hb; omega
    · simp [bdB] at hb; omega
    · exact hk
  have HO := Lib.hid (show ∃ x, lexO (fun i => bt s (a + i)) (s.size - a) = (some 0, x) from ⟨0, by
    have hst : stB (bt s a) = false := by unfold stB; rw [if_pos (.inl h0)]; exact hw
    have hf : fst (evA fun i => bt s (a + i)) (s.size - a) = 0 := fst_at (by omega) (by show (stB (bt s (a + 0)) || bdB (bt s (a + 0))) = true; rw [Nat.add_zero, hb]; simp) (fun k hk => by omega)
    rw [lexO_0 (by exact h0), hf, if_pos ⟨by omega, by exact hst⟩]⟩)
  have hc : (s[a].toNat : Int) < 33 ∨ 126 < (s[a].toNat : Int) := by rw [bt_at ha] at hb; simp [bdB] at hb; omega
  clear hw hb h0
  rcases hc with hc | hc
  · have d1 := decide_eq_true hc
    go_enter Tryd.func17, Tryd.ntmps17
    go_wp2
    refine bodyPost_ret (v := .tuple #[.int .i64 (a), .int .i64 (0), .int .i64 (a)]) (by simp [results, Tryd.results17, go_sem]) rfl ?_
    have := EndP.bad (z := a) (k := 0) (w := w) HO.out
    simpa using this
  · have d0 : ¬ (s[a].toNat : Int) < 33 := by omega
    have d1 := decide_eq_true hc
    have d2 := decide_eq_false d0
    go_enter Tryd.func17, Tryd.ntmps17
    go_wp2
    refine bodyPost_ret (v := .tuple #[.int .i64 (a), .int .i64 (0), .int .i64 (a)]) (by simp [results, Tryd.results17, go_sem]) rfl ?_
    have := EndP.bad (z := a) (k := 0) (w := w) HO.out
    simpa using this
set_option maxHeartbeats 1000000 in
set_option maxRecDepth 100000 in
theorem end_one (s : ByteArray) (a : Nat) (w : World) (hs : s.size ≤ 1048576) (ha : a < s.size) (hw : wtB (bt s a) = false) (hk : kdI (bt s a) = 3 ∨ kdI (bt s a) = 4 ∨ kdI (bt s a) = 5) :
    Calls Tryd.prog 17 #[.string s, .int .i64 a] w (EndP s a w) := by
  have HO := Lib.hid (show lexO (fun i => bt s (a + i)) (s.size - a) = (none, 1) from lexO_3 (by show kdI (bt s (a + 0)) ≠ 0; rw [Nat.add_zero]; omega) (by show kdI (bt s (a + 0)) ≠ 1; rw [Nat.add_zero]; omega) (by show kdI (bt s (a + 0)) ≠ 2; rw [Nat.add_zero]; omega))
  have hkc := kd_cases (bt s a)
  have HBA := Lib.hid (bt_at ha)
  have fin : ∀ k : Int, k = kdI (bt s a) → EndP s a w (.returned (.tuple #[.int .i64 ((a : Int) + 1), .int .i64 k, .int .i64 (-1)])) w := fun k hk => by
    have := EndP.ok (w := w) HO.out hk; simpa using this
  have FIN := Lib.hid fin
  clear fin hw
  have step : ∀ c : Int, (s[a].toNat : Int) = c → (c = 40 ∨ c = 91 ∨ c = 123 ∨ c = 41 ∨ c = 93 ∨ c = 125 ∨ c = 39) → kdI (bt s a) = kdI c → Calls Tryd.prog 17 #[.string s, .int .i64 a] w (EndP s a w) := by
    intro c hc hcs hkk
    have HKK := Lib.hid hkk
    clear hk hkc hkk
    rcases hcs with rfl | rfl | rfl | rfl | rfl | rfl | rfl
    all_goals
      go_enter Tryd.func17, Tryd.ntmps17
      go_wp2_with (first | (go_at_call 34; refine (l06Open_any _ _).mono ?_; rintro e w' ⟨rfl, rfl⟩; simp only [opB, Int.reduceBEq, Bool.or_true, Bool.or_false]) | (go_at_call 35; refine (l06Close_any _ _).mono ?_; rintro e w' ⟨rfl, rfl⟩; simp only [shB, Int.reduceBEq, Bool.or_true, Bool.or_false]))
      refine bodyPost_ret (v := .tuple #[.int .i64 ((a : Int) + 1), .int .i64 (kdI (bt s a)), .int .i64 (-1)]) (by rw [HKK.out]; simp [results, Tryd.results17, go_sem, kdI]) rfl ?_
      exact FIN.out _ rfl
  have hcb := HBA.out
  refine step (bt s a) (by rw [hcb]) (by omega) rfl
end Go.Proofs.YthjkgbcomjiejaaDoor
