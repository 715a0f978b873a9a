/-
  The model's l06End at a note (made by gen_lxf.py).
-/
import Derived.Test.YthjkgbcomjiejaaGreatDoorKk24
namespace Go.Proofs.YthjkgbcomjiejaaGreatDoor
open Go.RowKit
set_option linter.unusedVariables false
set_option maxHeartbeats 1000000 in
set_option maxRecDepth 100000 in
theorem end_note (s : ByteArray) (a : Nat) (w : World) (hs : s.size ≤ 1048576) (ha : a < s.size) (hw : wtB (bt s a) = false) (hb : bdB (bt s a) = false) (hk : kdI (bt s a) = 2) :
    Calls Tryz.prog 56 #[.string s, .int .i64 a] w (EndP s a w) := by
  have HBA := Lib.hid (bt_at ha)
  have hcr : 33 ≤ (s[a].toNat : Int) ∧ (s[a].toNat : Int) ≤ 126 := by
    have h1 := HBA.out
    rw [h1] at hb
    have h2 : ¬ s[a].toNat = 32 := by intro e; rw [h1, e] at hw; simp [wtB] at hw
    simp [bdB] at hb
    omega
  have d1 : ¬ (s[a].toNat : Int) < 33 := by omega
  have d2 : ¬ 126 < (s[a].toNat : Int) := by omega
  have e1 := decide_eq_false d1
  have e2 := decide_eq_false d2
  have hkc := kd_cases (bt s a)
  have h59 : bt s a = 59 := by omega
  have HOP := Lib.hid (show opB (s[a].toNat : Int) = false by rw [← HBA.out]; simp [opB]; omega)
  have HSH := Lib.hid (show shB (s[a].toNat : Int) = false by rw [← HBA.out]; simp [shB]; omega)
  have b39 : ((s[a].toNat : Int) == 39) = false := by rw [← HBA.out]; simp; omega
  have b59 : ((s[a].toNat : Int) == 59) = true := by rw [← HBA.out, h59]; rfl
  have HL := Lib.hid (lexO_2 (b := fun i => bt s (a + i)) (n := s.size - a) hk)
  have HK := Lib.hid hk
  clear hkc hk hb hw hcr
  go_enter Tryz.func56, Tryz.ntmps56
  go_wp2_with (first | (go_at_call 77; refine (l06Open_any _ _).mono ?_; rintro e w' ⟨rfl, rfl⟩; rw [HOP.out]) | (go_at_call 78; refine (l06Close_any _ _).mono ?_; rintro e w' ⟨rfl, rfl⟩; rw [HSH.out]))
  go_loop [8] (fun v => ∃ i : Nat, a + i ≤ s.size ∧ v = .int .i64 ((a : Int) + i) ∧ ∀ k, k < i → bt s (a + k) ≠ 10 ∧ bdB (bt s (a + k)) = false) (fun v => s.size - (intOf v).toNat)
  case atStart => exact ⟨0, by omega, by simp, fun k hk => by omega⟩
  case round =>
    obtain ⟨i, hi, rfl, hall⟩ := hrel
    have HA := Lib.hid hall
    clear hall
    have fin : lnN (fun i => bt s (a + i)) (s.size - a) = i → lexO (fun i => bt s (a + i)) (s.size - a) = (none, trm (fun i => bt s (a + i)) i) := fun h => by
      rw [HL.out, h]
      have hj : fst (fun k => bdB (bt s (a + k))) i = i := fst_none fun k hk => (HA.out k hk).2
      rw [hj, if_neg (by have := trm_le (fun i => bt s (a + i)) i; omega)]
    have FIN := Lib.hid fin
    clear fin
    by_cases hlt : a + i < s.size
    · rw [show (a : Int) + (i : Int) = ((a + i : Nat) : Int) by omega]
      have hbi := bt_at hlt
      have hli := bt_lt s (a + i)
      have HBI := Lib.hid hbi
      have hl2 : s[a + i].toNat < 256 := by omega
      by_cases h10 : bt s (a + i) = 10
      · have g0 : ((s[a + i].toNat : Int) == 10) = true := by rw [← hbi, h10]; rfl
        have g1 : ((s[a + i].toNat : Int) != 10) = false := by rw [← hbi, h10]; rfl
        have HO := Lib.hid (FIN.out (fst_at (by omega) (by simpa using h10) (fun k hk => by simpa using (HA.out k hk).1)))
        clear h10 hbi
        go_wp2
        go_loop [8] (fun v => ∃ m : Nat, a + m ≤ s.size ∧ v = .int .i64 ((a : Int) + m) ∧ trm (fun i => bt s (a + i)) m = trm (fun i => bt s (a + i)) i) (fun v => (intOf v).toNat)
        case atStart => exact ⟨i, hi, by simp, rfl⟩
        case round =>
          obtain ⟨m, hm, rfl, htr⟩ := hrel
          have HTR := Lib.hid htr
          clear htr
          by_cases h0 : 0 < m
          · obtain ⟨q, rfl⟩ : ∃ q, m = q + 1 := ⟨m - 1, by omega⟩
            have hltq : a + q < s.size := by omega
            have hbq := bt_at hltq
            have hlq := bt_lt s (a + q)
            have HBQ := Lib.hid hbq
            have hlq2 : s[a + q].toNat < 256 := by omega
            clear hbq
            rw [show (a : Int) + ((q + 1 : Nat) : Int) = ((a + q : Nat) : Int) + 1 by omega]
            have g1 : (a : Int) < ((a + q : Nat) : Int) + 1 := by omega
            have g2 := decide_eq_true g1
            go_wp2_with fail
            refine (sIsWhite_any _ _).mono ?_
            rintro e w' ⟨rfl, rfl⟩
            rw [← HBQ.out]
            cases hwq : wtB (bt s (a + q))
            · have HTQ := Lib.hid (show trm (fun i => bt s (a + i)) i = q + 1 by rw [← HTR.out]; simp only [trm]; rw [hwq]; simp)
              clear hwq
              go_wp2
              refine bodyPost_ret (v := .tuple #[.int .i64 (((a + q : Nat) : Int) + 1), .int .i64 (2), .int .i64 (-1)]) (by simp [results, Tryz.results56, go_sem]) rfl ?_
              have := EndP.ok (w := w) HO.out HK.out.symm
              rw [HTQ.out, show (a : Int) + ((q + 1 : Nat) : Int) = ((a + q : Nat) : Int) + 1 by omega] at this
              exact this
            · have HN := Lib.hid (show trm (fun i => bt s (a + i)) q = trm (fun i => bt s (a + i)) i by rw [← HTR.out]; simp only [trm]; rw [if_pos hwq])
              clear hwq
              go_wp2
              go_round
              case rel => exact ⟨q, by omega, by go_num, HN.out⟩
              case measure => simp [intOf] <;> omega
          · obtain rfl : m = 0 := by omega
            have g2 : decide ((a : Int) < (a : Int)) = false := by simp
            have HTQ := Lib.hid (show trm (fun i => bt s (a + i)) i = 0 by rw [← HTR.out]; rfl)
            rw [show (a : Int) + ((0 : Nat) : Int) = (a : Int) by omega]
            go_wp2
            refine bodyPost_ret (v := .tuple #[.int .i64 (a), .int .i64 (2), .int .i64 (-1)]) (by simp [results, Tryz.results56, go_sem]) rfl ?_
            have := EndP.ok (w := w) HO.out HK.out.symm
            rw [HTQ.out] at this
            simpa using this
      · have g0 : ((s[a + i].toNat : Int) == 10) = false := by rw [← hbi]; simp; omega
        have g1 : ((s[a + i].toNat : Int) != 10) = true := by rw [← hbi]; simp; omega
        cases hbd : bdB (bt s (a + i))
        · have HN := Lib.hid (show ∀ k, k < i + 1 → bt s (a + k) ≠ 10 ∧ bdB (bt s (a + k)) = false from fun k hk => by
            by_cases hki : k = i
            · subst hki; exact ⟨h10, hbd⟩
            · exact HA.out k (by omega))
          have q1 : ¬ (s[a + i].toNat : Int) < 32 := by simp [bdB] at hbd; omega
          have q2 : ¬ 126 < (s[a + i].toNat : Int) := by simp [bdB] at hbd; omega
          clear h10 hbd hbi
          go_wp2
          go_round
          case rel => exact ⟨i + 1, by omega, by go_num, HN.out⟩
          case measure => simp [intOf]; omega
        · -- a byte that may not be there
          have hln : i < lnN (fun i => bt s (a + i)) (s.size - a) := by
            rcases Nat.lt_or_ge i (lnN (fun i => bt s (a + i)) (s.size - a)) with h | h
            · exact h
            · exfalso
              have hlt2 : lnN (fun i => bt s (a + i)) (s.size - a) < s.size - a := by omega
              have hy := fst_yes (p := fun k => decide (bt s (a + k) = 10)) (n := s.size - a) hlt2
              have e10 : bt s (a + lnN (fun i => bt s (a + i)) (s.size - a)) = 10 := of_decide_eq_true hy
              by_cases he : lnN (fun i => bt s (a + i)) (s.size - a) = i
              · rw [he] at e10; exact h10 e10
              · exact (HA.out _ (by omega)).1 e10
          have hj : fst (fun k => bdB (bt s (a + k))) (lnN (fun i => bt s (a + i)) (s.size - a)) = i := fst_at hln hbd (fun k hk => (HA.out k hk).2)
          have HJ := Lib.hid hj
          have HLN := Lib.hid hln
          have H10 := Lib.hid h10
          have hor : (s[a + i].toNat : Int) < 32 ∨ 126 < (s[a + i].toNat : Int) := by simp [bdB] at hbd; omega
          have bad : (∃ k, i ≤ k ∧ k < lnN (fun i => bt s (a + i)) (s.size - a) ∧ wtB (bt s (a + k)) = false) → ∃ x, lexO (fun i => bt s (a + i)) (s.size - a) = (some i, x) := fun ⟨k, h1, h2, h3⟩ => ⟨0, by
            rw [HL.out, HJ.out, if_pos]
            rcases Nat.lt_or_ge k (trm (fun i => bt s (a + i)) (lnN (fun i => bt s (a + i)) (s.size - a))) with h | h
            · omega
            · have := trm_white (fun i => bt s (a + i)) _ k h h2
              rw [show wtB ((fun i => bt s (a + i)) k) = wtB (bt s (a + k)) from rfl, h3] at this; cases this⟩
          have good : (∀ k, i ≤ k → k < lnN (fun i => bt s (a + i)) (s.size - a) → wtB (bt s (a + k)) = true) → lexO (fun i => bt s (a + i)) (s.size - a) = (none, trm (fun i => bt s (a + i)) i) := fun h => by
            have ht := trm_same (fun i => bt s (a + i)) (k := lnN (fun i => bt s (a + i)) (s.size - a)) (m := i) (by omega) h
            rw [HL.out, HJ.out, ht, if_neg (by have := trm_le (fun i => bt s (a + i)) i; omega)]
          have BAD := Lib.hid bad
          have GOOD := Lib.hid good
          clear hj hln h10 bad good hbd hbi
          have REST0 := Lib.hid (show ResP s (a + i) false → ∃ k, i ≤ k ∧ k < lnN (fun i => bt s (a + i)) (s.size - a) ∧ wtB (bt s (a + k)) = false from fun h => by
            obtain ⟨k, h1, h2, h3, h4⟩ := h.2 rfl
            refine ⟨k - a, by omega, ?_, by rw [show a + (k - a) = k by omega]; exact h4⟩
            rcases Nat.lt_or_ge (k - a) (lnN (fun i => bt s (a + i)) (s.size - a)) with h | h
            · exact h
            · exfalso
              have hlt2 : lnN (fun i => bt s (a + i)) (s.size - a) < s.size - a := by omega
              have e10 : bt s (a + lnN (fun i => bt s (a + i)) (s.size - a)) = 10 := of_decide_eq_true (fst_yes (p := fun k => decide (bt s (a + k) = 10)) (n := s.size - a) hlt2)
              have hln := HLN.out
              exact h3 _ (by omega) (by omega) e10)
          have REST1 := Lib.hid (show ResP s (a + i) true → ∀ k, i ≤ k → k < lnN (fun i => bt s (a + i)) (s.size - a) → wtB (bt s (a + k)) = true from fun h k hk1 hk2 => by
            obtain ⟨m, h1, h2, h3, h4⟩ := h.1 rfl
            have hle := fst_le (fun k => decide (bt s (a + k) = 10)) (s.size - a)
            have hle' : lnN (fun i => bt s (a + i)) (s.size - a) ≤ s.size - a := hle
            rcases Nat.lt_or_ge (a + k) m with h | h
            · exact (h3 (a + k) (by omega) h).1
            · exfalso
              rcases h4 with h4 | h4
              · omega
              · have hb := fst_before (p := fun k => decide (bt s (a + k) = 10)) (n := s.size - a) (k := m - a) (by have : lnN (fun i => bt s (a + i)) (s.size - a) = fst (fun k => decide (bt s (a + k) = 10)) (s.size - a) := rfl; omega)
                simp only [decide_eq_false_iff_not] at hb
                exact hb (by rw [show a + (m - a) = m by omega]; exact h4))
          rcases hor with r1 | r1
          · have r3 := decide_eq_true r1
            go_wp2_with fail
            refine (sIsWhite_any _ _).mono ?_
            rintro e w' ⟨rfl, rfl⟩
            rw [← HBI.out]
            cases hwi : wtB (bt s (a + i))
            · have HO := Lib.hid (BAD.out ⟨i, Nat.le_refl _, HLN.out, hwi⟩)
              clear hwi
              go_wp2
              refine bodyPost_ret (v := .tuple #[.int .i64 (a), .int .i64 (0), .int .i64 (((a + i : Nat) : Int))]) (by simp [results, Tryz.results56, go_sem]) rfl ?_
              have := EndP.bad (z := a) (k := 0) (w := w) HO.out
              simpa using this
            · clear hwi
              go_wp2_with fail
              refine (l06Rest_any s (a + i) hs (by omega) w).mono ?_
              rintro e w' ⟨⟨rr, rfl, hres⟩, rfl⟩
              cases rr
              · have HO := Lib.hid (BAD.out (REST0.out hres))
                clear hres
                go_wp2
                refine bodyPost_ret (v := .tuple #[.int .i64 (a), .int .i64 (0), .int .i64 (((a + i : Nat) : Int))]) (by simp [results, Tryz.results56, go_sem]) rfl ?_
                have := EndP.bad (z := a) (k := 0) (w := w) HO.out
                simpa using this
              · have HO := Lib.hid (GOOD.out (REST1.out hres))
                clear hres
                go_wp2
                go_loop [8] (fun v => ∃ m : Nat, a + m ≤ s.size ∧ v = .int .i64 ((a : Int) + m) ∧ trm (fun i => bt s (a + i)) m = trm (fun i => bt s (a + i)) i) (fun v => (intOf v).toNat)
                case atStart => exact ⟨i, hi, by simp, rfl⟩
                case round =>
                  obtain ⟨m, hm, rfl, htr⟩ := hrel
                  have HTR := Lib.hid htr
                  clear htr
                  by_cases h0 : 0 < m
                  · obtain ⟨q, rfl⟩ : ∃ q, m = q + 1 := ⟨m - 1, by omega⟩
                    have hltq : a + q < s.size := by omega
                    have hbq := bt_at hltq
                    have hlq := bt_lt s (a + q)
                    have HBQ := Lib.hid hbq
                    have hlq2 : s[a + q].toNat < 256 := by omega
                    clear hbq
                    rw [show (a : Int) + ((q + 1 : Nat) : Int) = ((a + q : Nat) : Int) + 1 by omega]
                    have g1 : (a : Int) < ((a + q : Nat) : Int) + 1 := by omega
                    have g2 := decide_eq_true g1
                    go_wp2_with fail
                    refine (sIsWhite_any _ _).mono ?_
                    rintro e w' ⟨rfl, rfl⟩
                    rw [← HBQ.out]
                    cases hwq : wtB (bt s (a + q))
                    · have HTQ := Lib.hid (show trm (fun i => bt s (a + i)) i = q + 1 by rw [← HTR.out]; simp only [trm]; rw [hwq]; simp)
                      clear hwq
                      go_wp2
                      refine bodyPost_ret (v := .tuple #[.int .i64 (((a + q : Nat) : Int) + 1), .int .i64 (2), .int .i64 (-1)]) (by simp [results, Tryz.results56, go_sem]) rfl ?_
                      have := EndP.ok (w := w) HO.out HK.out.symm
                      rw [HTQ.out, show (a : Int) + ((q + 1 : Nat) : Int) = ((a + q : Nat) : Int) + 1 by omega] at this
                      exact this
                    · have HN := Lib.hid (show trm (fun i => bt s (a + i)) q = trm (fun i => bt s (a + i)) i by rw [← HTR.out]; simp only [trm]; rw [if_pos hwq])
                      clear hwq
                      go_wp2
                      go_round
                      case rel => exact ⟨q, by omega, by go_num, HN.out⟩
                      case measure => simp [intOf] <;> omega
                  · obtain rfl : m = 0 := by omega
                    have g2 : decide ((a : Int) < (a : Int)) = false := by simp
                    have HTQ := Lib.hid (show trm (fun i => bt s (a + i)) i = 0 by rw [← HTR.out]; rfl)
                    rw [show (a : Int) + ((0 : Nat) : Int) = (a : Int) by omega]
                    go_wp2
                    refine bodyPost_ret (v := .tuple #[.int .i64 (a), .int .i64 (2), .int .i64 (-1)]) (by simp [results, Tryz.results56, go_sem]) rfl ?_
                    have := EndP.ok (w := w) HO.out HK.out.symm
                    rw [HTQ.out] at this
                    simpa using this
          · have r2 : ¬ (s[a + i].toNat : Int) < 32 := by omega
            have r3 := decide_eq_true r1
            have r4 := decide_eq_false r2
            go_wp2_with fail
            refine (sIsWhite_any _ _).mono ?_
            rintro e w' ⟨rfl, rfl⟩
            rw [← HBI.out]
            cases hwi : wtB (bt s (a + i))
            · have HO := Lib.hid (BAD.out ⟨i, Nat.le_refl _, HLN.out, hwi⟩)
              clear hwi
              go_wp2
              refine bodyPost_ret (v := .tuple #[.int .i64 (a), .int .i64 (0), .int .i64 (((a + i : Nat) : Int))]) (by simp [results, Tryz.results56, go_sem]) rfl ?_
              have := EndP.bad (z := a) (k := 0) (w := w) HO.out
              simpa using this
            · clear hwi
              go_wp2_with fail
              refine (l06Rest_any s (a + i) hs (by omega) w).mono ?_
              rintro e w' ⟨⟨rr, rfl, hres⟩, rfl⟩
              cases rr
              · have HO := Lib.hid (BAD.out (REST0.out hres))
                clear hres
                go_wp2
                refine bodyPost_ret (v := .tuple #[.int .i64 (a), .int .i64 (0), .int .i64 (((a + i : Nat) : Int))]) (by simp [results, Tryz.results56, go_sem]) rfl ?_
                have := EndP.bad (z := a) (k := 0) (w := w) HO.out
                simpa using this
              · have HO := Lib.hid (GOOD.out (REST1.out hres))
                clear hres
                go_wp2
                go_loop [8] (fun v => ∃ m : Nat, a + m ≤ s.size ∧ v = .int .i64 ((a : Int) + m) ∧ trm (fun i => bt s (a + i)) m = trm (fun i => bt s (a + i)) i) (fun v => (intOf v).toNat)
                case atStart => exact ⟨i, hi, by simp, rfl⟩
                case round =>
                  obtain ⟨m, hm, rfl, htr⟩ := hrel
                  have HTR := Lib.hid htr
                  clear htr
                  by_cases h0 : 0 < m
                  · obtain ⟨q, rfl⟩ : ∃ q, m = q + 1 := ⟨m - 1, by omega⟩
                    have hltq : a + q < s.size := by omega
                    have hbq := bt_at hltq
                    have hlq := bt_lt s (a + q)
                    have HBQ := Lib.hid hbq
                    have hlq2 : s[a + q].toNat < 256 := by omega
                    clear hbq
                    rw [show (a : Int) + ((q + 1 : Nat) : Int) = ((a + q : Nat) : Int) + 1 by omega]
                    have g1 : (a : Int) < ((a + q : Nat) : Int) + 1 := by omega
                    have g2 := decide_eq_true g1
                    go_wp2_with fail
                    refine (sIsWhite_any _ _).mono ?_
                    rintro e w' ⟨rfl, rfl⟩
                    rw [← HBQ.out]
                    cases hwq : wtB (bt s (a + q))
                    · have HTQ := Lib.hid (show trm (fun i => bt s (a + i)) i = q + 1 by rw [← HTR.out]; simp only [trm]; rw [hwq]; simp)
                      clear hwq
                      go_wp2
                      refine bodyPost_ret (v := .tuple #[.int .i64 (((a + q : Nat) : Int) + 1), .int .i64 (2), .int .i64 (-1)]) (by simp [results, Tryz.results56, go_sem]) rfl ?_
                      have := EndP.ok (w := w) HO.out HK.out.symm
                      rw [HTQ.out, show (a : Int) + ((q + 1 : Nat) : Int) = ((a + q : Nat) : Int) + 1 by omega] at this
                      exact this
                    · have HN := Lib.hid (show trm (fun i => bt s (a + i)) q = trm (fun i => bt s (a + i)) i by rw [← HTR.out]; simp only [trm]; rw [if_pos hwq])
                      clear hwq
                      go_wp2
                      go_round
                      case rel => exact ⟨q, by omega, by go_num, HN.out⟩
                      case measure => simp [intOf] <;> omega
                  · obtain rfl : m = 0 := by omega
                    have g2 : decide ((a : Int) < (a : Int)) = false := by simp
                    have HTQ := Lib.hid (show trm (fun i => bt s (a + i)) i = 0 by rw [← HTR.out]; rfl)
                    rw [show (a : Int) + ((0 : Nat) : Int) = (a : Int) by omega]
                    go_wp2
                    refine bodyPost_ret (v := .tuple #[.int .i64 (a), .int .i64 (2), .int .i64 (-1)]) (by simp [results, Tryz.results56, go_sem]) rfl ?_
                    have := EndP.ok (w := w) HO.out HK.out.symm
                    rw [HTQ.out] at this
                    simpa using this
    · have hai : a + i = s.size := by omega
      have HO := Lib.hid (FIN.out (by
        have : lnN (fun i => bt s (a + i)) (s.size - a) = s.size - a := fst_none fun k hk => by simpa using (HA.out k (by omega)).1
        omega))
      rw [show (a : Int) + (i : Int) = ((a + i : Nat) : Int) by omega]
      have gN : ¬ ((a + i : Nat) : Int) < (s.size : Int) := by omega
      clear hai
      go_wp2
      go_loop [8] (fun v => ∃ m : Nat, a + m ≤ s.size ∧ v = .int .i64 ((a : Int) + m) ∧ trm (fun i => bt s (a + i)) m = trm (fun i => bt s (a + i)) i) (fun v => (intOf v).toNat)
      case atStart => exact ⟨i, hi, by simp, rfl⟩
      case round =>
        obtain ⟨m, hm, rfl, htr⟩ := hrel
        have HTR := Lib.hid htr
        clear htr
        by_cases h0 : 0 < m
        · obtain ⟨q, rfl⟩ : ∃ q, m = q + 1 := ⟨m - 1, by omega⟩
          have hltq : a + q < s.size := by omega
          have hbq := bt_at hltq
          have hlq := bt_lt s (a + q)
          have HBQ := Lib.hid hbq
          have hlq2 : s[a + q].toNat < 256 := by omega
          clear hbq
          rw [show (a : Int) + ((q + 1 : Nat) : Int) = ((a + q : Nat) : Int) + 1 by omega]
          have g1 : (a : Int) < ((a + q : Nat) : Int) + 1 := by omega
          have g2 := decide_eq_true g1
          go_wp2_with fail
          refine (sIsWhite_any _ _).mono ?_
          rintro e w' ⟨rfl, rfl⟩
          rw [← HBQ.out]
          cases hwq : wtB (bt s (a + q))
          · have HTQ := Lib.hid (show trm (fun i => bt s (a + i)) i = q + 1 by rw [← HTR.out]; simp only [trm]; rw [hwq]; simp)
            clear hwq
            go_wp2
            refine bodyPost_ret (v := .tuple #[.int .i64 (((a + q : Nat) : Int) + 1), .int .i64 (2), .int .i64 (-1)]) (by simp [results, Tryz.results56, go_sem]) rfl ?_
            have := EndP.ok (w := w) HO.out HK.out.symm
            rw [HTQ.out, show (a : Int) + ((q + 1 : Nat) : Int) = ((a + q : Nat) : Int) + 1 by omega] at this
            exact this
          · have HN := Lib.hid (show trm (fun i => bt s (a + i)) q = trm (fun i => bt s (a + i)) i by rw [← HTR.out]; simp only [trm]; rw [if_pos hwq])
            clear hwq
            go_wp2
            go_round
            case rel => exact ⟨q, by omega, by go_num, HN.out⟩
            case measure => simp [intOf] <;> omega
        · obtain rfl : m = 0 := by omega
          have g2 : decide ((a : Int) < (a : Int)) = false := by simp
          have HTQ := Lib.hid (show trm (fun i => bt s (a + i)) i = 0 by rw [← HTR.out]; rfl)
          rw [show (a : Int) + ((0 : Nat) : Int) = (a : Int) by omega]
          go_wp2
          refine bodyPost_ret (v := .tuple #[.int .i64 (a), .int .i64 (2), .int .i64 (-1)]) (by simp [results, Tryz.results56, go_sem]) rfl ?_
          have := EndP.ok (w := w) HO.out HK.out.symm
          rw [HTQ.out] at this
          simpa using this
end Go.Proofs.YthjkgbcomjiejaaGreatDoor
