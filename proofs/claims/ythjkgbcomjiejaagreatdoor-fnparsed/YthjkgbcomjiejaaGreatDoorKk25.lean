/-
  The model's l06End at a string (made by gen_lxf.py).
-/
import Derived.Test.YthjkgbcomjiejaaGreatDoorKk24
namespace Go.Proofs.YthjkgbcomjiejaaGreatDoor
open Go.RowKit
set_option linter.unusedVariables false
set_option maxHeartbeats 1000000 in
set_option maxRecDepth 100000 in
theorem end_string (s : ByteArray) (a : Nat) (w : World) (hs : s.size ≤ 1048576) (ha : a < s.size) (hw : wtB (bt s a) = false) (hb : bdB (bt s a) = false) (hk : kdI (bt s a) = 1) :
    Calls Tryz.prog 56 #[.string s, .int .i64 a] w (EndP s a w) := by
  have HBA := Lib.hid (bt_at ha)
  have hcr : 33 ≤ (s[a].toNat : Int) ∧ (s[a].toNat : Int) ≤ 126 := by
    have h1 := HBA.out
    rw [h1] at hb
    have h2 : ¬ s[a].toNat = 32 := by intro e; rw [h1, e] at hw; simp [wtB] at hw
    simp [bdB] at hb
    omega
  have d1 : ¬ (s[a].toNat : Int) < 33 := by omega
  have d2 : ¬ 126 < (s[a].toNat : Int) := by omega
  have e1 := decide_eq_false d1
  have e2 := decide_eq_false d2
  have hkc := kd_cases (bt s a)
  have h34 : bt s a = 34 := by omega
  have HOP := Lib.hid (show opB (s[a].toNat : Int) = false by rw [← HBA.out]; simp [opB]; omega)
  have HSH := Lib.hid (show shB (s[a].toNat : Int) = false by rw [← HBA.out]; simp [shB]; omega)
  have b39 : ((s[a].toNat : Int) == 39) = false := by rw [← HBA.out]; simp; omega
  have b59 : ((s[a].toNat : Int) == 59) = false := by rw [← HBA.out]; simp; omega
  have b34 : ((s[a].toNat : Int) == 34) = true := by rw [← HBA.out, h34]; rfl
  have HL := Lib.hid (lexO_1 (b := fun i => bt s (a + i)) (n := s.size - a) hk)
  have HK := Lib.hid hk
  have HB0 := Lib.hid hb
  clear hkc hk hb hw hcr
  go_enter Tryz.func56, Tryz.ntmps56
  go_wp2_with (first | (go_at_call 77; refine (l06Open_any _ _).mono ?_; rintro e w' ⟨rfl, rfl⟩; rw [HOP.out]) | (go_at_call 78; refine (l06Close_any _ _).mono ?_; rintro e w' ⟨rfl, rfl⟩; rw [HSH.out]))
  go_loop [9] (fun v => ∃ i : Nat, 1 ≤ i ∧ a + i ≤ s.size ∧ v = .int .i64 ((a : Int) + i) ∧ (∀ k, k < i → evS (fun i => bt s (a + i)) k = false) ∧ (a + i < s.size → tkN (fun i => bt s (a + i)) i = false)) (fun v => s.size - (intOf v).toNat)
  case atStart =>
    refine ⟨1, Nat.le_refl _, by omega, by simp, fun k hk => ?_, fun _ => rfl⟩
    obtain rfl : k = 0 := by omega
    show (bdB (bt s (a + 0)) || clB _ 0) = false
    rw [Nat.add_zero, HB0.out]
    rfl
  case round =>
    obtain ⟨i, h1i, hi, rfl, hall, htk⟩ := hrel
    have HA := Lib.hid hall
    have HT := Lib.hid htk
    clear hall htk
    rw [show (a : Int) + (i : Int) = ((a + i : Nat) : Int) by omega]
    by_cases hlt : a + i < s.size
    · have htk := HT.out hlt
      have hbi := bt_at hlt
      have hli := bt_lt s (a + i)
      have HBI := Lib.hid hbi
      have hcl : clB (fun i => bt s (a + i)) i = decide (bt s (a + i) = 34) := by unfold clB; rw [htk]; rfl
      have HTK := Lib.hid htk
      clear htk
      by_cases h34i : bt s (a + i) = 34
      · have hf : fst (evS fun i => bt s (a + i)) (s.size - a) = i := fst_at (by omega) (by rw [evS, hcl]; simp [h34i]) HA.out
        have HO := Lib.hid (show lexO (fun i => bt s (a + i)) (s.size - a) = (none, i + 1) by rw [HL.out, hf, if_pos (by omega), hcl, if_pos (by simp [h34i])])
        have g0 : ((s[a + i].toNat : Int) == 34) = true := by rw [← hbi, h34i]; rfl
        have g1 : ((s[a + i].toNat : Int) != 34) = false := by rw [← hbi, h34i]; rfl
        have g2 : ¬ (s.size : Int) ≤ ((a + i : Nat) : Int) := by omega
        clear hf hcl h34i hbi
        go_wp2
        refine bodyPost_ret (v := .tuple #[.int .i64 (((a + i : Nat) : Int) + 1), .int .i64 (1), .int .i64 (-1)]) (by simp [results, Tryz.results56, go_sem]) rfl ?_
        have := EndP.ok (w := w) HO.out HK.out.symm
        rw [show (a : Int) + ((i + 1 : Nat) : Int) = ((a + i : Nat) : Int) + 1 by omega] at this
        exact this
      · have g0 : ((s[a + i].toNat : Int) == 34) = false := by rw [← hbi]; simp; omega
        have g1 : ((s[a + i].toNat : Int) != 34) = true := by rw [← hbi]; simp; omega
        have hcf : clB (fun i => bt s (a + i)) i = false := by rw [hcl]; simp [h34i]
        cases hbd : bdB (bt s (a + i))
        · have hev : evS (fun i => bt s (a + i)) i = false := by show (bdB (bt s (a + i)) || clB (fun i => bt s (a + i)) i) = false; rw [hbd, hcf]; rfl
          have HEV := Lib.hid (show ∀ k, k < i + 1 → evS (fun i => bt s (a + i)) k = false from fun k hk => by
            by_cases hki : k = i
            · subst hki; exact hev
            · exact HA.out k (by omega))
          have q1 : ¬ (s[a + i].toNat : Int) < 32 := by simp [bdB] at hbd; omega
          have q2 : ¬ 126 < (s[a + i].toNat : Int) := by simp [bdB] at hbd; omega
          clear hev hcf hcl hbd
          by_cases h92 : bt s (a + i) = 92
          · have g2 : ((s[a + i].toNat : Int) == 92) = true := by rw [← hbi, h92]; rfl
            have ht1 : tkN (fun i => bt s (a + i)) (i + 1) = true := by simp only [tkN]; rw [HTK.out]; simp [h92]
            by_cases hl1 : a + i + 1 < s.size
            · have g3 : ((a + i : Nat) : Int) + 1 < (s.size : Int) := by omega
              have hbj := bt_at hl1
              have hlj := bt_lt s (a + i + 1)
              have hcj : clB (fun i => bt s (a + i)) (i + 1) = false := by unfold clB; rw [ht1]; rfl
              have ht2 : tkN (fun i => bt s (a + i)) (i + 2) = false := by show (!(tkN (fun i => bt s (a + i)) (i + 1)) && _) = false; rw [ht1]; rfl
              cases hbd1 : bdB (bt s (a + i + 1))
              · have HN := Lib.hid (show ∀ k, k < i + 2 → evS (fun i => bt s (a + i)) k = false from fun k hk => by
                  by_cases hki : k = i + 1
                  · subst hki; show (bdB (bt s (a + (i + 1))) || clB (fun i => bt s (a + i)) (i + 1)) = false; rw [hcj, show a + (i + 1) = a + i + 1 by omega, hbd1]; rfl
                  · exact HEV.out k (by omega))
                have HT2 := Lib.hid ht2
                have r1 : ¬ (s[a + i + 1].toNat : Int) < 32 := by simp [bdB] at hbd1; omega
                have r2 : ¬ 126 < (s[a + i + 1].toNat : Int) := by simp [bdB] at hbd1; omega
                clear hbd1 hcj ht1 ht2 h92 h34i hbi hbj
                go_wp2
                go_round
                case rel => exact ⟨i + 2, by omega, by omega, by go_num, HN.out, fun _ => HT2.out⟩
                case measure => simp [intOf]; omega
              · have hf : fst (evS fun i => bt s (a + i)) (s.size - a) = i + 1 := fst_at (by omega) (by show (bdB (bt s (a + (i + 1))) || _) = true; rw [show a + (i + 1) = a + i + 1 by omega, hbd1]; rfl) (fun k hk => HEV.out k hk)
                have HO := Lib.hid (show ∃ x, lexO (fun i => bt s (a + i)) (s.size - a) = (some (i + 1), x) from ⟨0, by rw [HL.out, hf, if_pos (by omega), hcj, if_neg (by simp)]⟩)
                have hor : (s[a + i + 1].toNat : Int) < 32 ∨ 126 < (s[a + i + 1].toNat : Int) := by simp [bdB] at hbd1; omega
                clear hbd1 hcj ht1 ht2 h92 h34i hbi hbj hf
                rcases hor with r1 | r1
                · have r3 := decide_eq_true r1
                  go_wp2
                  refine bodyPost_ret (v := .tuple #[.int .i64 (a), .int .i64 (0), .int .i64 (((a + i : Nat) : Int) + 1)]) (by simp [results, Tryz.results56, go_sem]) rfl ?_
                  have := EndP.bad (z := a) (k := 0) (w := w) HO.out
                  rw [show (a : Int) + ((i + 1 : Nat) : Int) = ((a + i : Nat) : Int) + 1 by omega] at this
                  exact this
                · have r2 : ¬ (s[a + i + 1].toNat : Int) < 32 := by omega
                  have r3 := decide_eq_true r1
                  have r4 := decide_eq_false r2
                  go_wp2
                  refine bodyPost_ret (v := .tuple #[.int .i64 (a), .int .i64 (0), .int .i64 (((a + i : Nat) : Int) + 1)]) (by simp [results, Tryz.results56, go_sem]) rfl ?_
                  have := EndP.bad (z := a) (k := 0) (w := w) HO.out
                  rw [show (a : Int) + ((i + 1 : Nat) : Int) = ((a + i : Nat) : Int) + 1 by omega] at this
                  exact this
            · have g3 : ¬ ((a + i : Nat) : Int) + 1 < (s.size : Int) := by omega
              clear ht1 h92 h34i hbi
              go_wp2
              go_round
              case rel => exact ⟨i + 1, by omega, by omega, by go_num, HEV.out, fun h => by omega⟩
              case measure => simp [intOf]; omega
          · have g2 : ((s[a + i].toNat : Int) == 92) = false := by rw [← hbi]; simp; omega
            have HT1 := Lib.hid (show tkN (fun i => bt s (a + i)) (i + 1) = false by simp only [tkN]; rw [HTK.out]; simp [h92])
            clear h92 h34i hbi
            go_wp2
            go_round
            case rel => exact ⟨i + 1, by omega, by omega, by go_num, HEV.out, fun _ => HT1.out⟩
            case measure => simp [intOf]; omega
        · have hf : fst (evS fun i => bt s (a + i)) (s.size - a) = i := fst_at (by omega) (by show (bdB (bt s (a + i)) || _) = true; rw [hbd]; rfl) HA.out
          have HO := Lib.hid (show ∃ x, lexO (fun i => bt s (a + i)) (s.size - a) = (some i, x) from ⟨0, by rw [HL.out, hf, if_pos (by omega), hcf, if_neg (by simp)]⟩)
          have hor : (s[a + i].toNat : Int) < 32 ∨ 126 < (s[a + i].toNat : Int) := by simp [bdB] at hbd; omega
          clear hbd hcf hcl h34i hbi hf
          rcases hor with r1 | r1
          · have r3 := decide_eq_true r1
            go_wp2
            refine bodyPost_ret (v := .tuple #[.int .i64 (a), .int .i64 (0), .int .i64 (((a + i : Nat) : Int))]) (by simp [results, Tryz.results56, go_sem]) rfl ?_
            have := EndP.bad (z := a) (k := 0) (w := w) HO.out
            simpa using this
          · have r2 : ¬ (s[a + i].toNat : Int) < 32 := by omega
            have r3 := decide_eq_true r1
            have r4 := decide_eq_false r2
            go_wp2
            refine bodyPost_ret (v := .tuple #[.int .i64 (a), .int .i64 (0), .int .i64 (((a + i : Nat) : Int))]) (by simp [results, Tryz.results56, go_sem]) rfl ?_
            have := EndP.bad (z := a) (k := 0) (w := w) HO.out
            simpa using this
    · have hf : fst (evS fun i => bt s (a + i)) (s.size - a) = s.size - a := fst_none fun k hk => HA.out k (by omega)
      have HO := Lib.hid (show ∃ x, lexO (fun i => bt s (a + i)) (s.size - a) = (some 0, x) from ⟨0, by rw [HL.out, hf, if_neg (by omega)]⟩)
      have g2 : (s.size : Int) ≤ ((a + i : Nat) : Int) := by omega
      have hai : (a + i : Nat) = s.size := by omega
      clear hf
      rw [hai]
      clear hai g2
      go_wp2
      refine bodyPost_ret (v := .tuple #[.int .i64 (a), .int .i64 (0), .int .i64 (a)]) (by simp [results, Tryz.results56, go_sem]) rfl ?_
      have := EndP.bad (z := a) (k := 0) (w := w) HO.out
      simpa using this
end Go.Proofs.YthjkgbcomjiejaaGreatDoor
