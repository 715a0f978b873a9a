/-
  The model's l06End at an atom (made by gen_lxf.py).
-/
import Derived.Test.YthjkgbcomjiejaaGreatDoorKk23
namespace Go.Proofs.YthjkgbcomjiejaaGreatDoor
open Go.RowKit
set_option linter.unusedVariables false

def EndP (s : ByteArray) (a : Nat) (w : World) (e : Ending) (w' : World) : Prop :=
  ∃ (z k d : Int), e = .returned (.tuple #[.int .i64 z, .int .i64 k, .int .i64 d]) ∧ w = w' ∧
    (match lexO (fun i => bt s (a + i)) (s.size - a) with | (some j, _) => d = (a + j : Nat) | (none, y) => d = -1 ∧ z = (a + y : Nat) ∧ k = kdI (bt s a))
theorem EndP.bad {s : ByteArray} {a j : Nat} {w : World} {z k : Int} (h : ∃ x, lexO (fun i => bt s (a + i)) (s.size - a) = (some j, x)) : EndP s a w (.returned (.tuple #[.int .i64 z, .int .i64 k, .int .i64 ((a : Int) + j)])) w := by
  obtain ⟨x, h⟩ := h
  refine ⟨z, k, _, rfl, rfl, ?_⟩
  rw [h]
  simp
theorem EndP.ok {s : ByteArray} {a y : Nat} {w : World} {k : Int} (h : lexO (fun i => bt s (a + i)) (s.size - a) = (none, y)) (hk : k = kdI (bt s a)) : EndP s a w (.returned (.tuple #[.int .i64 ((a : Int) + y), .int .i64 k, .int .i64 (-1)])) w := by
  refine ⟨_, k, _, rfl, rfl, ?_⟩
  rw [h]
  exact ⟨rfl, by simp, hk⟩
set_option maxHeartbeats 1000000 in
set_option maxRecDepth 100000 in
theorem end_bad (s : ByteArray) (a : Nat) (w : World) (hs : s.size ≤ 1048576) (ha : a < s.size) (hw : wtB (bt s a) = false) (hb : bdB (bt s a) = true) :
    Calls Tryz.prog 56 #[.string s, .int .i64 a] w (EndP s a w) := by
  have h0 : kdI (bt s a) = 0 := by
    rcases kd_cases (bt s a) with ⟨hk, h⟩ | ⟨hk, h⟩ | ⟨hk, h⟩ | ⟨hk, h⟩ | ⟨hk, h⟩ | ⟨hk, _⟩
    · simp [bdB] at hb; omega
    · simp [bdB] at hb; omega
    · simp [bdB] at hb; omega
    · simp [bdB] at hb; omega
    · simp [bdB] at hb; omega
    · exact hk
  have HO := Lib.hid (show ∃ x, lexO (fun i => bt s (a + i)) (s.size - a) = (some 0, x) from ⟨0, by
    have hst : stB (bt s a) = false := by unfold stB; rw [if_pos (.inl h0)]; exact hw
    have hf : fst (evA fun i => bt s (a + i)) (s.size - a) = 0 := fst_at (by omega) (by show (stB (bt s (a + 0)) || bdB (bt s (a + 0))) = true; rw [Nat.add_zero, hb]; simp) (fun k hk => by omega)
    rw [lexO_0 (by exact h0), hf, if_pos ⟨by omega, by exact hst⟩]⟩)
  have hc : (s[a].toNat : Int) < 33 ∨ 126 < (s[a].toNat : Int) := by rw [bt_at ha] at hb; simp [bdB] at hb; omega
  clear hw hb h0
  rcases hc with hc | hc
  · have d1 := decide_eq_true hc
    go_enter Tryz.func56, Tryz.ntmps56
    go_wp2
    refine bodyPost_ret (v := .tuple #[.int .i64 (a), .int .i64 (0), .int .i64 (a)]) (by simp [results, Tryz.results56, go_sem]) rfl ?_
    have := EndP.bad (z := a) (k := 0) (w := w) HO.out
    simpa using this
  · have d0 : ¬ (s[a].toNat : Int) < 33 := by omega
    have d1 := decide_eq_true hc
    have d2 := decide_eq_false d0
    go_enter Tryz.func56, Tryz.ntmps56
    go_wp2
    refine bodyPost_ret (v := .tuple #[.int .i64 (a), .int .i64 (0), .int .i64 (a)]) (by simp [results, Tryz.results56, go_sem]) rfl ?_
    have := EndP.bad (z := a) (k := 0) (w := w) HO.out
    simpa using this
set_option maxHeartbeats 1000000 in
set_option maxRecDepth 100000 in
theorem end_one (s : ByteArray) (a : Nat) (w : World) (hs : s.size ≤ 1048576) (ha : a < s.size) (hw : wtB (bt s a) = false) (hk : kdI (bt s a) = 3 ∨ kdI (bt s a) = 4 ∨ kdI (bt s a) = 5) :
    Calls Tryz.prog 56 #[.string s, .int .i64 a] w (EndP s a w) := by
  have HO := Lib.hid (show lexO (fun i => bt s (a + i)) (s.size - a) = (none, 1) from lexO_3 (by show kdI (bt s (a + 0)) ≠ 0; rw [Nat.add_zero]; omega) (by show kdI (bt s (a + 0)) ≠ 1; rw [Nat.add_zero]; omega) (by show kdI (bt s (a + 0)) ≠ 2; rw [Nat.add_zero]; omega))
  have hkc := kd_cases (bt s a)
  have HBA := Lib.hid (bt_at ha)
  have fin : ∀ k : Int, k = kdI (bt s a) → EndP s a w (.returned (.tuple #[.int .i64 ((a : Int) + 1), .int .i64 k, .int .i64 (-1)])) w := fun k hk => by
    have := EndP.ok (w := w) HO.out hk; simpa using this
  have FIN := Lib.hid fin
  clear fin hw
  have step : ∀ c : Int, (s[a].toNat : Int) = c → (c = 40 ∨ c = 91 ∨ c = 123 ∨ c = 41 ∨ c = 93 ∨ c = 125 ∨ c = 39) → kdI (bt s a) = kdI c → Calls Tryz.prog 56 #[.string s, .int .i64 a] w (EndP s a w) := by
    intro c hc hcs hkk
    have HKK := Lib.hid hkk
    clear hk hkc hkk
    rcases hcs with rfl | rfl | rfl | rfl | rfl | rfl | rfl
    all_goals
      go_enter Tryz.func56, Tryz.ntmps56
      go_wp2_with (first | (go_at_call 77; refine (l06Open_any _ _).mono ?_; rintro e w' ⟨rfl, rfl⟩; simp only [opB, Int.reduceBEq, Bool.or_true, Bool.or_false]) | (go_at_call 78; refine (l06Close_any _ _).mono ?_; rintro e w' ⟨rfl, rfl⟩; simp only [shB, Int.reduceBEq, Bool.or_true, Bool.or_false]))
      refine bodyPost_ret (v := .tuple #[.int .i64 ((a : Int) + 1), .int .i64 (kdI (bt s a)), .int .i64 (-1)]) (by rw [HKK.out]; simp [results, Tryz.results56, go_sem, kdI]) rfl ?_
      exact FIN.out _ rfl
  have hcb := HBA.out
  refine step (bt s a) (by rw [hcb]) (by omega) rfl
end Go.Proofs.YthjkgbcomjiejaaGreatDoor
namespace Go.Proofs.YthjkgbcomjiejaaGreatDoor
open Go.RowKit
set_option linter.unusedVariables false
set_option maxHeartbeats 1000000 in
set_option maxRecDepth 100000 in
theorem end_atom (s : ByteArray) (a : Nat) (w : World) (hs : s.size ≤ 1048576) (ha : a < s.size) (hw : wtB (bt s a) = false) (hb : bdB (bt s a) = false) (hk : kdI (bt s a) = 0) :
    Calls Tryz.prog 56 #[.string s, .int .i64 a] w (EndP s a w) := by
  have HBA := Lib.hid (bt_at ha)
  have hcr : 33 ≤ (s[a].toNat : Int) ∧ (s[a].toNat : Int) ≤ 126 := by
    have h1 := HBA.out
    rw [h1] at hb
    have h2 : ¬ s[a].toNat = 32 := by intro e; rw [h1, e] at hw; simp [wtB] at hw
    simp [bdB] at hb
    omega
  have d1 : ¬ (s[a].toNat : Int) < 33 := by omega
  have d2 : ¬ 126 < (s[a].toNat : Int) := by omega
  have e1 := decide_eq_false d1
  have e2 := decide_eq_false d2
  have hkc := kd_cases (bt s a)
  have HOP := Lib.hid (show opB (s[a].toNat : Int) = false by rw [← HBA.out]; simp [opB]; omega)
  have HSH := Lib.hid (show shB (s[a].toNat : Int) = false by rw [← HBA.out]; simp [shB]; omega)
  have b39 : ((s[a].toNat : Int) == 39) = false := by rw [← HBA.out]; simp; omega
  have b59 : ((s[a].toNat : Int) == 59) = false := by rw [← HBA.out]; simp; omega
  have b34 : ((s[a].toNat : Int) == 34) = false := by rw [← HBA.out]; simp; omega
  have HL := Lib.hid (lexO_0 (b := fun i => bt s (a + i)) (n := s.size - a) hk)
  have HK := Lib.hid hk
  clear hkc hk hb hw hcr
  go_enter Tryz.func56, Tryz.ntmps56
  go_wp2_with (first | (go_at_call 77; refine (l06Open_any _ _).mono ?_; rintro e w' ⟨rfl, rfl⟩; rw [HOP.out]) | (go_at_call 78; refine (l06Close_any _ _).mono ?_; rintro e w' ⟨rfl, rfl⟩; rw [HSH.out]))
  go_loop [10] (fun v => ∃ i : Nat, a + i ≤ s.size ∧ v = .int .i64 ((a : Int) + i) ∧ ∀ k, k < i → evA (fun i => bt s (a + i)) k = false) (fun v => s.size - (intOf v).toNat)
  case atStart => exact ⟨0, by omega, by simp, fun k hk => by omega⟩
  case round =>
    obtain ⟨i, hi, rfl, hall⟩ := hrel
    have HA := Lib.hid hall
    clear hall
    rw [show (a : Int) + (i : Int) = ((a + i : Nat) : Int) by omega]
    by_cases hlt : a + i < s.size
    · have hbi := bt_at hlt
      have hli := bt_lt s (a + i)
      have HBI := Lib.hid hbi
      have hl2 : s[a + i].toNat < 256 := by omega
      clear hbi
      go_wp2_with fail
      refine (l06Stops_any _ (by omega) (by omega) _).mono ?_
      rintro e w' ⟨rfl, rfl⟩
      rw [← HBI.out]
      cases hst : stB (bt s (a + i))
      · cases hbd : bdB (bt s (a + i))
        · have h32 : ¬ bt s (a + i) = 32 := by intro e; rw [e] at hst; revert hst; decide
          have HN := Lib.hid (show ∀ k, k < i + 1 → evA (fun i => bt s (a + i)) k = false from fun k hk => by
            by_cases hki : k = i
            · subst hki; show (stB (bt s (a + k)) || bdB (bt s (a + k))) = false; rw [hst, hbd]; rfl
            · exact HA.out k (by omega))
          have g1 : ¬ (s[a + i].toNat : Int) < 33 := by have := HBI.out; simp [bdB] at hbd; omega
          have g2 : ¬ 126 < (s[a + i].toNat : Int) := by have := HBI.out; simp [bdB] at hbd; omega
          clear hst hbd h32
          go_wp2
          go_round
          case rel => exact ⟨i + 1, by omega, by go_num, HN.out⟩
          case measure => simp [intOf]; omega
        · have hf : fst (evA fun i => bt s (a + i)) (s.size - a) = i := fst_at (by omega) (by show (stB (bt s (a + i)) || bdB (bt s (a + i))) = true; rw [hbd]; simp) HA.out
          have HO := Lib.hid (show ∃ x, lexO (fun i => bt s (a + i)) (s.size - a) = (some i, x) from ⟨0, by rw [HL.out, hf, if_pos ⟨by omega, hst⟩]⟩)
          have hor : (s[a + i].toNat : Int) < 33 ∨ 126 < (s[a + i].toNat : Int) := by have := HBI.out; simp [bdB] at hbd; omega
          clear hst hbd hf
          rcases hor with g1 | g1
          · have g3 := decide_eq_true g1
            go_wp2
            refine bodyPost_ret (v := .tuple #[.int .i64 (a), .int .i64 (0), .int .i64 (((a + i : Nat) : Int))]) (by simp [results, Tryz.results56, go_sem]) rfl ?_
            have := EndP.bad (z := a) (k := 0) (w := w) HO.out
            simpa using this
          · have g2 : ¬ (s[a + i].toNat : Int) < 33 := by omega
            have g3 := decide_eq_true g1
            have g4 := decide_eq_false g2
            go_wp2
            refine bodyPost_ret (v := .tuple #[.int .i64 (a), .int .i64 (0), .int .i64 (((a + i : Nat) : Int))]) (by simp [results, Tryz.results56, go_sem]) rfl ?_
            have := EndP.bad (z := a) (k := 0) (w := w) HO.out
            simpa using this
      · have hf : fst (evA fun i => bt s (a + i)) (s.size - a) = i := fst_at (by omega) (by show (stB (bt s (a + i)) || bdB (bt s (a + i))) = true; rw [hst]; rfl) HA.out
        have HO := Lib.hid (show lexO (fun i => bt s (a + i)) (s.size - a) = (none, i) by
          rw [HL.out, hf, if_neg (by intro h; have h2 : stB (bt s (a + i)) = false := h.2; rw [hst] at h2; cases h2)])
        clear hst hf
        go_wp2
        refine bodyPost_ret (v := .tuple #[.int .i64 (((a + i : Nat) : Int)), .int .i64 (0), .int .i64 (-1)]) (by simp [results, Tryz.results56, go_sem]) rfl ?_
        have := EndP.ok (w := w) HO.out HK.out.symm
        simpa using this
    · have hf : fst (evA fun i => bt s (a + i)) (s.size - a) = s.size - a := fst_none fun k hk => HA.out k (by omega)
      have HO := Lib.hid (show lexO (fun i => bt s (a + i)) (s.size - a) = (none, i) by rw [HL.out, hf, if_neg (by omega)]; congr 1; omega)
      clear hf
      go_wp2
      refine bodyPost_ret (v := .tuple #[.int .i64 (((a + i : Nat) : Int)), .int .i64 (0), .int .i64 (-1)]) (by simp [results, Tryz.results56, go_sem]) rfl ?_
      have := EndP.ok (w := w) HO.out HK.out.symm
      simpa using this
end Go.Proofs.YthjkgbcomjiejaaGreatDoor
