/-
  The model's l06End at an atom (made by gen_lxf.py).
-/
import Derived.Test.YthjkgbcomjiejaaDoorLl24
namespace Go.Proofs.YthjkgbcomjiejaaDoor
open Go.RowKit
set_option linter.unusedVariables false
set_option maxHeartbeats 1000000 in
set_option maxRecDepth 100000 in
theorem end_atom (s : ByteArray) (a : Nat) (w : World) (hs : s.size ≤ 1048576) (ha : a < s.size) (hw : wtB (bt s a) = false) (hb : bdB (bt s a) = false) (hk : kdI (bt s a) = 0) :
    Calls Tryd.prog 17 #[.string s, .int .i64 a] w (EndP s a w) := by
  have HBA := Lib.hid (bt_at ha)
  have hcr : 33 ≤ (s[a].toNat : Int) ∧ (s[a].toNat : Int) ≤ 126 := by
    have h1 := HBA.out
    rw [h1] at hb
    have h2 : ¬ s[a].toNat = 32 := by intro e; rw [h1, e] at hw; simp [wtB] at hw
    simp [bdB] at hb
    omega
  have d1 : ¬ (s[a].toNat : Int) < 33 := by omega
  have d2 : ¬ 126 < (s[a].toNat : Int) := by omega
  have e1 := decide_eq_false d1
  have e2 := decide_eq_false d2
  have hkc := kd_cases (bt s a)
  have HOP := Lib.hid (show opB (s[a].toNat : Int) = false by rw [← HBA.out]; simp [opB]; omega)
  have HSH := Lib.hid (show shB (s[a].toNat : Int) = false by rw [← HBA.out]; simp [shB]; omega)
  have b39 : ((s[a].toNat : Int) == 39) = false := by rw [← HBA.out]; simp; omega
  have b59 : ((s[a].toNat : Int) == 59) = false := by rw [← HBA.out]; simp; omega
  have b34 : ((s[a].toNat : Int) == 34) = false := by rw [← HBA.out]; simp; omega
  have HL := Lib.hid (lexO_0 (b := fun i => bt s (a + i)) (n := s.size - a) hk)
  have HK := Lib.hid hk
  clear hkc hk hb hw hcr
  go_enter Tryd.func17, Tryd.ntmps17
  go_wp2_with (first | (go_at_call 34; refine (l06Open_any _ _).mono ?_; rintro e w' ⟨rfl, rfl⟩; rw [HOP.out]) | (go_at_call 35; refine (l06Close_any _ _).mono ?_; rintro e w' ⟨rfl, rfl⟩; rw [HSH.out]))
  go_loop [10] (fun v => ∃ i : Nat, a + i ≤ s.size ∧ v = .int .i64 ((a : Int) + i) ∧ ∀ k, k < i → evA (fun i => bt s (a + i)) k = false) (fun v => s.size - (intOf v).toNat)
  case atStart => exact ⟨0, by omega, by simp, fun k hk => by omega⟩
  case round =>
    obtain ⟨i, hi, rfl, hall⟩ := hrel
    have HA := Lib.hid hall
    clear hall
    rw [show (a : Int) + (i : Int) = ((a + i : Nat) : Int) by omega]
    by_cases hlt : a + i < s.size
    · have hbi := bt_at hlt
      have hli := bt_lt s (a + i)
      have HBI := Lib.hid hbi
      have hl2 : s[a + i].toNat < 256 := by omega
      clear hbi
      go_wp2_with fail
      refine (l06Stops_any _ (by omega) (by omega) _).mono ?_
      rintro e w' ⟨rfl, rfl⟩
      rw [← HBI.out]
      cases hst : stB (bt s (a + i))
      · cases hbd : bdB (bt s (a + i))
        · have h32 : ¬ bt s (a + i) = 32 := by intro e; rw [e] at hst; revert hst; decide
          have HN := Lib.hid (show ∀ k, k < i + 1 → evA (fun i => bt s (a + i)) k = false from fun k hk => by
            by_cases hki : k = i
            · subst hki; show (stB (bt s (a + k)) || bdB (bt s (a + k))) = false; rw [hst, hbd]; rfl
            · exact HA.out k (by omega))
          have g1 : ¬ (s[a + i].toNat : Int) < 33 := by have := HBI.out; simp [bdB] at hbd; omega
          have g2 : ¬ 126 < (s[a + i].toNat : Int) := by have := HBI.out; simp [bdB] at hbd; omega
          clear hst hbd h32
          go_wp2
          go_round
          case rel => exact ⟨i + 1, by omega, by go_num, HN.out⟩
          case measure => simp [intOf]; omega
        · have hf : fst (evA fun i => bt s (a + i)) (s.size - a) = i := fst_at (by omega) (by show (stB (bt s (a + i)) || bdB (bt s (a + i))) = true; rw [hbd]; simp) HA.out
          have HO := Lib.hid (show ∃ x, lexO (fun i => bt s (a + i)) (s.size - a) = (some i, x) from ⟨0, by rw [HL.out, hf, if_pos ⟨by omega, hst⟩]⟩)
          have hor : (s[a + i].toNat : Int) < 33 ∨ 126 < (s[a + i].toNat : Int) := by have := HBI.out; simp [bdB] at hbd; omega
          clear hst hbd hf
          rcases hor with g1 | g1
          · have g3 := decide_eq_true g1
            go_wp2
            refine bodyPost_ret (v := .tuple #[.int .i64 (a), .int .i64 (0), .int .i64 (((a + i : Nat) : Int))]) (by simp [results, Tryd.results17, go_sem]) rfl ?_
            have := EndP.bad (z := a) (k := 0) (w := w) HO.out
            simpa using this
          · have g2 : ¬ (s[a + i].toNat : Int) < 33 := by omega
            have g3 := decide_eq_true g1
            have g4 := decide_eq_false g2
            go_wp2
            refine bodyPost_ret (v := .tuple #[.int .i64 (a), .int .i64 (0), .int .i64 (((a + i : Nat) : Int))]) (by simp [results, Tryd.results17, go_sem]) rfl ?_
            have := EndP.bad (z := a) (k := 0) (w := w) HO.out
            simpa using this
      · have hf : fst (evA fun i => bt s (a + i)) (s.size - a) = i := fst_at (by omega) (by show (stB (bt s (a + i)) || bdB (bt s (a + i))) = true; rw [hst]; rfl) HA.out
        have HO := Lib.hid (show lexO (fun i => bt s (a + i)) (s.size - a) = (none, i) by
          rw [HL.out, hf, if_neg (by intro h; have h2 : stB (bt s (a + i)) = false := h.2; rw [hst] at h2; cases h2)])
        clear hst hf
        go_wp2
        refine bodyPost_ret (v := .tuple #[.int .i64 (((a + i : Nat) : Int)), .int .i64 (0), .int .i64 (-1)]) (by simp [results, Tryd.results17, go_sem]) rfl ?_
        have := EndP.ok (w := w) HO.out HK.out.symm
        simpa using this
    · have hf : fst (evA fun i => bt s (a + i)) (s.size - a) = s.size - a := fst_none fun k hk => HA.out k (by omega)
      have HO := Lib.hid (show lexO (fun i => bt s (a + i)) (s.size - a) = (none, i) by rw [HL.out, hf, if_neg (by omega)]; congr 1; omega)
      clear hf
      go_wp2
      refine bodyPost_ret (v := .tuple #[.int .i64 (((a + i : Nat) : Int)), .int .i64 (0), .int .i64 (-1)]) (by simp [results, Tryd.results17, go_sem]) rfl ?_
      have := EndP.ok (w := w) HO.out HK.out.symm
      simpa using this
end Go.Proofs.YthjkgbcomjiejaaDoor
