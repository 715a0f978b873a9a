/-
  One lexeme, as the program reads it: cutLexeme, readLexeme.
-/
import Derived.Test.YthjkgbcomjiejaaGreatDoorKk14
import Derived.Test.YthjkgbcomjiejaaGreatDoorKk09
namespace Go.Proofs.YthjkgbcomjiejaaGreatDoor
open Go.RowKit
set_option linter.unusedVariables false

/-- the first byte below n that is none of 32 .. 126. -/
def fbN (b : Nat → Nat) (n : Nat) : Nat := fst (fun i => bdB (b i)) n
theorem fbN_none {b : Nat → Nat} {n : Nat} (h : ∀ i, i < n → bdB (b i) = false) : fbN b n = n := fst_none h
theorem fbN_at {b : Nat → Nat} {n i : Nat} (hi : i < n) (h : bdB (b i) = true) (hb : ∀ k, k < i → bdB (b k) = false) : fbN b n = i := fst_at hi h hb
theorem prN_of {T : ByteArray} {k : Nat} (hk : k ≤ T.size) (h : ∀ i, i < k → bdB (bt T i) = false) : prN T k = true := by
  induction k with
  | zero => exact prN_zero T
  | succ k ih =>
    have h1 := h k (by omega)
    rw [bt_at (by omega)] at h1
    simp [bdB] at h1
    exact prN_step T k (by omega) (ih (by omega) (fun i hi => h i (by omega))) (by omega) (by omega)
theorem fbI_fst (T : ByteArray) : fbI T = if fbN (bt T) T.size < T.size then (fbN (bt T) T.size : Int) else -1 := by
  split
  · rename_i h
    refine fbI_at h (prN_of (Nat.le_of_lt h) fun i hi => fst_before (p := fun i => bdB (bt T i)) hi) ?_
    have h2 : bdB (bt T (fbN (bt T) T.size)) = true := fst_yes (p := fun i => bdB (bt T i)) h
    rw [bt_at h] at h2
    simp [bdB] at h2
    omega
  · rename_i h
    refine fbI_none (prN_of (Nat.le_refl _) fun i hi => ?_)
    have hle := fst_le (fun i => bdB (bt T i)) T.size
    have e : fbN (bt T) T.size = T.size := by have : fbN (bt T) T.size = fst (fun i => bdB (bt T i)) T.size := rfl; omega
    exact fst_before (p := fun i => bdB (bt T i)) (n := T.size) (k := i) (by have : fst (fun i => bdB (bt T i)) T.size = fbN (bt T) T.size := rfl; omega)
/-- what cutLexeme tells of n bytes. -/
def CutR (b : Nat → Nat) (n sz : Nat) (ends : Bool) : Prop :=
  if kdI (b 0) = 0 then AtP b n sz ∧ ends = true else if kdI (b 0) = 1 then StP b n sz ends else if kdI (b 0) = 2 then sz = trm b (lnN b n) ∧ ends = true else sz = 1 ∧ ends = true
/-- where the lexeme fails, told from its beginning on. -/
def plO (b : Nat → Nat) (n : Nat) : Option Nat := match lexO b n with | (some j, _) => some (if 40 < j then 0 else j) | (none, e) => if 40 < e then some 0 else none
def szO (b : Nat → Nat) (n : Nat) : Nat := (lexO b n).2
def OutR (b : Nat → Nat) (n sz : Nat) (ends : Bool) : Prop :=
  (fbN b sz < sz ∧ fbN b sz ≤ 40 → plO b n = some (fbN b sz)) ∧ (¬ (fbN b sz < sz ∧ fbN b sz ≤ 40) → (ends = false ∨ 40 < sz) → plO b n = some 0) ∧
  (¬ (fbN b sz < sz ∧ fbN b sz ≤ 40) → ends = true → sz ≤ 40 → plO b n = none ∧ szO b n = sz)
theorem OutR.bad {b : Nat → Nat} {n sz j : Nat} {ends : Bool} (hO : ∃ x, lexO b n = (some j, x)) (hj : j < sz) (hf : fbN b sz = j) : OutR b n sz ends := by
  obtain ⟨x, hO⟩ := hO
  have hp : plO b n = some (if 40 < j then 0 else j) := by unfold plO; rw [hO]
  unfold OutR
  rw [hf, hp]
  refine ⟨fun h => by rw [if_neg (by omega)], fun h1 h2 => by rw [if_pos (by omega)], fun h1 h2 h3 => by omega⟩
theorem OutR.ok {b : Nat → Nat} {n sz : Nat} (hO : lexO b n = (none, sz)) (hf : fbN b sz = sz) : OutR b n sz true := by
  have hp : plO b n = if 40 < sz then some 0 else none := by unfold plO; rw [hO]
  have hz : szO b n = sz := by unfold szO; rw [hO]
  unfold OutR
  rw [hf, hp, hz]
  refine ⟨fun h => by omega, fun h1 h2 => ?_, fun h1 h2 h3 => ⟨by rw [if_neg (by omega)], rfl⟩⟩
  rcases h2 with h2 | h2
  · cases h2
  · rw [if_pos h2]
theorem lexO_0 {b : Nat → Nat} {n : Nat} (hk : kdI (b 0) = 0) : lexO b n = if fst (evA b) n < n ∧ stB (b (fst (evA b) n)) = false then (some (fst (evA b) n), 0) else (none, fst (evA b) n) := by
  unfold lexO; rw [if_pos hk]
theorem lexO_1 {b : Nat → Nat} {n : Nat} (hk : kdI (b 0) = 1) : lexO b n = if fst (evS b) n < n then (if clB b (fst (evS b) n) = true then (none, fst (evS b) n + 1) else (some (fst (evS b) n), 0)) else (some 0, 0) := by
  unfold lexO; rw [if_neg (by omega), if_pos hk]
theorem lexO_2 {b : Nat → Nat} {n : Nat} (hk : kdI (b 0) = 2) : lexO b n = if fst (fun i => bdB (b i)) (lnN b n) < trm b (lnN b n) then (some (fst (fun i => bdB (b i)) (lnN b n)), 0) else (none, trm b (lnN b n)) := by
  unfold lexO; rw [if_neg (by omega), if_neg (by omega), if_pos hk]
theorem lexO_3 {b : Nat → Nat} {n : Nat} (h0 : kdI (b 0) ≠ 0) (h1 : kdI (b 0) ≠ 1) (h2 : kdI (b 0) ≠ 2) : lexO b n = (none, 1) := by
  unfold lexO; rw [if_neg h0, if_neg h1, if_neg h2]
theorem CutR.out {b : Nat → Nat} {n sz : Nat} {ends : Bool} (h : CutR b n sz ends) (hn : 0 < n) : OutR b n sz ends := by
  unfold CutR at h
  split at h
  · rename_i hk
    have hL := lexO_0 (n := n) hk
    obtain ⟨⟨h1, h2, h3⟩, rfl⟩ := h
    by_cases hc : fst (evA b) n < n ∧ stB (b (fst (evA b) n)) = false
    · rw [if_pos hc] at hL
      have hb : bdB (b (fst (evA b) n)) = true := by
        have := fst_yes hc.1
        rw [evA, hc.2] at this; simpa using this
      refine OutR.bad ⟨0, hL⟩ (h2 hc.1 hc.2) (fbN_at (h2 hc.1 hc.2) hb fun k hk => ?_)
      have := fst_before hk
      rw [evA] at this
      simp only [Bool.or_eq_false_iff] at this
      exact this.2
    · rw [if_neg hc] at hL
      have hle := fst_le (evA b) n
      have e : sz = fst (evA b) n := h3 (by
        by_cases he : fst (evA b) n = n
        · exact .inl he
        · right
          cases hs : stB (b (fst (evA b) n))
          · exact absurd ⟨by omega, hs⟩ hc
          · rfl)
      subst e
      refine OutR.ok hL (fbN_none fun k hk => ?_)
      have := fst_before hk
      rw [evA] at this
      simp only [Bool.or_eq_false_iff] at this
      exact this.2
  · rename_i hk0
    split at h
    · rename_i hk
      have hL := lexO_1 (n := n) hk
      obtain ⟨h1, h2, h3, h4⟩ := h
      have hev : ∀ k, k < fst (evS b) n → bdB (b k) = false := fun k hk => by
        have := fst_before hk
        rw [evS] at this
        simp only [Bool.or_eq_false_iff] at this
        exact this.1
      by_cases hc : fst (evS b) n < n
      · rw [if_pos hc] at hL
        cases hcl : clB b (fst (evS b) n)
        · rw [hcl, if_neg (by simp)] at hL
          have hb : bdB (b (fst (evS b) n)) = true := by
            have := fst_yes hc
            rw [evS, hcl] at this; simpa using this
          exact OutR.bad ⟨0, hL⟩ (h4 hc hcl) (fbN_at (h4 hc hcl) hb hev)
        · rw [hcl, if_pos rfl] at hL
          obtain ⟨e1, rfl⟩ := h3 hc hcl
          subst e1
          refine OutR.ok hL (fbN_none fun k hk => ?_)
          by_cases hkk : k = fst (evS b) n
          · subst hkk
            unfold clB at hcl
            simp at hcl
            simp [bdB, hcl.2]
          · exact hev k (by omega)
      · rw [if_neg hc] at hL
        have hle := fst_le (evS b) n
        obtain ⟨e1, rfl⟩ := h2 (by omega)
        have hp : plO b n = some 0 := by unfold plO; rw [hL]; rfl
        have hf : fbN b sz = sz := fbN_none fun k hk => hev k (by omega)
        unfold OutR
        rw [hf, hp]
        exact ⟨fun h => by omega, fun _ _ => rfl, fun _ h => by cases h⟩
    · rename_i hk1
      split at h
      · rename_i hk
        have hL := lexO_2 (n := n) hk
        obtain ⟨rfl, rfl⟩ := h
        have hle := trm_le b (lnN b n)
        by_cases hc : fst (fun i => bdB (b i)) (lnN b n) < trm b (lnN b n)
        · rw [if_pos hc] at hL
          exact OutR.bad ⟨0, hL⟩ hc (fbN_at hc (fst_yes (p := fun i => bdB (b i)) (by omega)) fun k hk => fst_before (p := fun i => bdB (b i)) hk)
        · rw [if_neg hc] at hL
          exact OutR.ok hL (fbN_none fun k hk => fst_before (p := fun i => bdB (b i)) (n := lnN b n) (by omega))
      · rename_i hk2
        have hL := lexO_3 (n := n) hk0 hk1 hk2
        obtain ⟨rfl, rfl⟩ := h
        refine OutR.ok hL (fbN_none fun k hk => ?_)
        obtain rfl : k = 0 := by omega
        have := kd_cases (b 0)
        simp [bdB]
        omega
theorem fst_congr {p q : Nat → Bool} {n : Nat} (h : ∀ i, i < n → p i = q i) : fst p n = fst q n := by
  by_cases hl : fst p n < n
  · symm
    exact fst_at hl (by rw [← h _ hl]; exact fst_yes hl) fun k hk => by rw [← h k (by omega)]; exact fst_before hk
  · have := fst_le p n
    have e : fst p n = n := by omega
    rw [e]
    symm
    exact fst_none fun k hk => by rw [← h k hk]; exact fst_before (n := n) (by omega)
theorem tk_congr {b c : Nat → Nat} {n : Nat} (h : ∀ i, i < n → b i = c i) (i : Nat) (hi : i ≤ n) : tkN b i = tkN c i := by
  induction i with
  | zero => rfl
  | succ i ih => simp only [tkN]; rw [ih (by omega), h i (by omega)]
theorem cut_congr {b c : Nat → Nat} {n sz : Nat} {e : Bool} (h : ∀ i, i < n → b i = c i) (hn : 0 < n) (hc : CutR b n sz e) : CutR c n sz e := by
  have hA : fst (evA b) n = fst (evA c) n := fst_congr fun i hi => by simp only [evA]; rw [h i hi]
  have hcl : ∀ i, i < n → clB b i = clB c i := fun i hi => by simp only [clB]; rw [tk_congr h i (by omega), h i hi]
  have hS : fst (evS b) n = fst (evS c) n := fst_congr fun i hi => by simp only [evS]; rw [h i hi, hcl i hi]
  have hL : lnN b n = lnN c n := fst_congr fun i hi => by rw [h i hi]
  have hT : trm b (lnN b n) = trm c (lnN c n) := by rw [hL]; exact trm_congr fun i hi => h i (by have := fst_le (fun i => decide (c i = 10)) n; have e : lnN c n = fst (fun i => decide (c i = 10)) n := rfl; omega)
  unfold CutR at hc ⊢
  rw [h 0 hn, hT] at hc
  split at hc
  · rename_i hk
    rw [if_pos hk]
    obtain ⟨⟨h1, h2, h3⟩, h4⟩ := hc
    rw [hA] at h2 h3
    refine ⟨⟨h1, fun hl => ?_, fun hl => ?_⟩, h4⟩
    · rw [← h _ hl]; exact h2 hl
    · refine h3 ?_
      by_cases he : fst (evA c) n = n
      · exact .inl he
      · have := fst_le (evA c) n
        rw [h _ (by omega)]; exact hl
  · rename_i hk0
    rw [if_neg hk0]
    split at hc
    · rename_i hk
      rw [if_pos hk]
      obtain ⟨h1, h2, h3, h4⟩ := hc
      rw [hS] at h2 h3 h4
      exact ⟨h1, h2, fun hl => by rw [← hcl _ hl]; exact h3 hl, fun hl => by rw [← hcl _ hl]; exact h4 hl⟩
    · rename_i hk1
      rw [if_neg hk1]
      exact hc
set_option maxHeartbeats 1000000 in
theorem cutLexeme_any (s : ByteArray) (a : Nat) (w : World) (hs : s.size ≤ 1048576) (ha : a < s.size) :
    Calls Tryz.prog 105 #[.string s, .int .i64 a] w fun e w' => (∃ (sz : Nat) (b : Bool), e = .returned (.tuple #[.agg #[.int .i64 (kdI (bt s a)), .string (s.extract a (a + sz)), .int .i64 a], .bool b]) ∧ a + sz ≤ s.size ∧ CutR (fun i => bt s (a + i)) (s.size - a) sz b) ∧ Below w.heap.size w w' := by
  have hx0 : 0 < (s.extract a s.size).size := by simp [ByteArray.size_extract]; omega
  have hz : (s.extract a s.size).size = s.size - a := by simp [ByteArray.size_extract]
  have hbe : ∀ i, i < s.size - a → bt (s.extract a s.size) i = bt s (a + i) := fun i hi => bt_extract s a s.size i (Nat.le_refl _) hi
  have hc0 : bt (s.extract a s.size) 0 = bt s a := by have := hbe 0 (by omega); rwa [Nat.add_zero] at this
  have HBE := Lib.hid hbe
  have HZ := Lib.hid hz
  have HC := Lib.hid (show ((s.extract a s.size)[0].toNat : Int) = (bt s a : Int) by rw [← hc0, bt_at hx0])
  have hlt := bt_lt s a
  clear hbe hc0
  go_enter Tryz.func105, Tryz.ntmps105
  go_wp2_with fail
  rw [HC.out, show wrap32 (bt s a : Int) = bt s a by unfold wrap32; omega]
  have hex : ∀ sz, sz ≤ s.size - a → (s.extract a s.size).extract 0 sz = s.extract a (a + sz) := fun sz hsz => by
    rw [ByteArray.extract_extract]; congr 1; omega
  have HEX := Lib.hid hex
  have HCR := Lib.hid (show ∀ sz e, CutR (bt (s.extract a s.size)) (s.size - a) sz e → CutR (fun i => bt s (a + i)) (s.size - a) sz e from fun _ _ h => cut_congr HBE.out (by omega) h)
  have hk0 : bt (s.extract a s.size) 0 = bt s a := by have := HBE.out 0 (by omega); rwa [Nat.add_zero] at this
  have HK0 := Lib.hid hk0
  clear hex hk0 HBE HC
  clear hx0
  generalize (s.extract a s.size) = R at *
  have hRs : R.size ≤ 1048576 := by omega
  refine (kindOfFirst_any _ _).mono ?_
  rintro e w1 ⟨rfl, hw1⟩
  have hB1 : Below w.heap.size w w1 := by rw [← hw1]; exact (Below.refl _ _).alloc (Nat.le_refl _) _
  have hX1 : BlkL w1 w.heap.size 51 [.int .i64 0, .string ⟨#[]⟩, .int .i64 0] := by rw [← hw1]; exact BlkL.new w _ _
  clear hw1
  have HB1 := Lib.hid hB1
  have HX1 := Lib.hid hX1
  have hl1 := hX1.lt
  clear hB1 hX1
  by_cases k0 : kdI (bt s a) = 0
  · have HK := Lib.hid k0
    rw [k0]
    clear k0
    go_wp2_with fail
    refine (atomSize_any R w1 hRs).mono ?_
    rintro e w2 ⟨⟨sz, rfl, hat⟩, hb2⟩
    have hsz : sz ≤ R.size := hat.1
    have hX2 := HX1.out.below hb2 HX1.out.lt
    have HB2 := Lib.hid (HB1.out.trans (hb2.mono HB1.out.size))
    have HA := Lib.hid hat
    clear hb2 hat
    have x0 : w2.cell? ⟨w.heap.size, 0, none⟩ = some (.int .i64 0) := (hX2.cell 0).trans rfl
    have x1 : w2.cell? ⟨w.heap.size, 1, none⟩ = some (.string ⟨#[]⟩) := (hX2.cell 1).trans rfl
    have x2 : w2.cell? ⟨w.heap.size, 2, none⟩ = some (.int .i64 0) := (hX2.cell 2).trans rfl
    have xf := hX2.frozen
    have xl := hX2.lt
    have HX2 := Lib.hid hX2
    clear hX2
    go_wp2
    have hK3 := BlkL.setN [.int .i64 (0), .string (R.extract 0 sz), .int .i64 a] _ _ 0 HX2.out
    have hB3 := below_setN (g := w.heap.size) (Nat.le_refl _) [.int .i64 (0), .string (R.extract 0 sz), .int .i64 a] _ 0 HB2.out
    change bodyPost _ _ _ _ _ (World.setN w2 w.heap.size 0 [.int .i64 (0), .string (R.extract 0 sz), .int .i64 a])
    generalize World.setN w2 w.heap.size 0 [.int .i64 (0), .string (R.extract 0 sz), .int .i64 a] = w3 at *
    have y0 : w3.cell? ⟨w.heap.size, 0, none⟩ = some (.int .i64 (0)) := (hK3.cell 0).trans rfl
    have y1 : w3.cell? ⟨w.heap.size, 1, none⟩ = some (.string (R.extract 0 sz)) := (hK3.cell 1).trans rfl
    have y2 : w3.cell? ⟨w.heap.size, 2, none⟩ = some (.int .i64 a) := (hK3.cell 2).trans rfl
    refine bodyPost_ret (v := .tuple #[.agg #[.int .i64 (0), .string (R.extract 0 sz), .int .i64 a], .bool true]) (by simp [results, Tryz.results105, go_sem, y0, y1, y2]) rfl ?_
    refine ⟨⟨sz, true, by rw [HK.out, HEX.out _ (by omega)], by omega, HCR.out _ _ ?_⟩, hB3⟩
    unfold CutR
    rw [HK0.out, HK.out]
    rw [if_pos rfl, ← HZ.out]
    exact ⟨HA.out, rfl⟩
  by_cases k1 : kdI (bt s a) = 1
  · have HK := Lib.hid k1
    rw [k1]
    clear k0 k1
    go_wp2_with fail
    refine (stringSize_any R w1 hRs).mono ?_
    rintro e w2 ⟨⟨sz, en, rfl, hat⟩, hb2⟩
    have hsz : sz ≤ R.size := hat.1
    have hX2 := HX1.out.below hb2 HX1.out.lt
    have HB2 := Lib.hid (HB1.out.trans (hb2.mono HB1.out.size))
    have HA := Lib.hid hat
    clear hb2 hat
    have x0 : w2.cell? ⟨w.heap.size, 0, none⟩ = some (.int .i64 0) := (hX2.cell 0).trans rfl
    have x1 : w2.cell? ⟨w.heap.size, 1, none⟩ = some (.string ⟨#[]⟩) := (hX2.cell 1).trans rfl
    have x2 : w2.cell? ⟨w.heap.size, 2, none⟩ = some (.int .i64 0) := (hX2.cell 2).trans rfl
    have xf := hX2.frozen
    have xl := hX2.lt
    have HX2 := Lib.hid hX2
    clear hX2
    go_wp2
    have hK3 := BlkL.setN [.int .i64 (1), .string (R.extract 0 sz), .int .i64 a] _ _ 0 HX2.out
    have hB3 := below_setN (g := w.heap.size) (Nat.le_refl _) [.int .i64 (1), .string (R.extract 0 sz), .int .i64 a] _ 0 HB2.out
    change bodyPost _ _ _ _ _ (World.setN w2 w.heap.size 0 [.int .i64 (1), .string (R.extract 0 sz), .int .i64 a])
    generalize World.setN w2 w.heap.size 0 [.int .i64 (1), .string (R.extract 0 sz), .int .i64 a] = w3 at *
    have y0 : w3.cell? ⟨w.heap.size, 0, none⟩ = some (.int .i64 (1)) := (hK3.cell 0).trans rfl
    have y1 : w3.cell? ⟨w.heap.size, 1, none⟩ = some (.string (R.extract 0 sz)) := (hK3.cell 1).trans rfl
    have y2 : w3.cell? ⟨w.heap.size, 2, none⟩ = some (.int .i64 a) := (hK3.cell 2).trans rfl
    refine bodyPost_ret (v := .tuple #[.agg #[.int .i64 (1), .string (R.extract 0 sz), .int .i64 a], .bool en]) (by simp [results, Tryz.results105, go_sem, y0, y1, y2]) rfl ?_
    refine ⟨⟨sz, en, by rw [HK.out, HEX.out _ (by omega)], by omega, HCR.out _ _ ?_⟩, hB3⟩
    unfold CutR
    rw [HK0.out, HK.out]
    rw [if_neg (by decide), if_pos rfl, ← HZ.out]
    exact HA.out
  by_cases k2 : kdI (bt s a) = 2
  · have HK := Lib.hid k2
    rw [k2]
    clear k0 k1 k2
    go_wp2_with fail
    refine (noteSize_any R w1 hRs).mono ?_
    rintro e w2 ⟨rfl, hb2⟩
    have hsz : trm (bt R) (lnN (bt R) R.size) ≤ R.size := Nat.le_trans (trm_le _ _) (fst_le _ _)
    have hX2 := HX1.out.below hb2 HX1.out.lt
    have HB2 := Lib.hid (HB1.out.trans (hb2.mono HB1.out.size))
    clear hb2
    obtain ⟨sz, hszE⟩ : ∃ sz, trm (bt R) (lnN (bt R) R.size) = sz := ⟨_, rfl⟩
    rw [hszE] at hsz ⊢
    have HSE := Lib.hid hszE
    clear hszE
    have x0 : w2.cell? ⟨w.heap.size, 0, none⟩ = some (.int .i64 0) := (hX2.cell 0).trans rfl
    have x1 : w2.cell? ⟨w.heap.size, 1, none⟩ = some (.string ⟨#[]⟩) := (hX2.cell 1).trans rfl
    have x2 : w2.cell? ⟨w.heap.size, 2, none⟩ = some (.int .i64 0) := (hX2.cell 2).trans rfl
    have xf := hX2.frozen
    have xl := hX2.lt
    have HX2 := Lib.hid hX2
    clear hX2
    go_wp2
    have hK3 := BlkL.setN [.int .i64 (2), .string (R.extract 0 sz), .int .i64 a] _ _ 0 HX2.out
    have hB3 := below_setN (g := w.heap.size) (Nat.le_refl _) [.int .i64 (2), .string (R.extract 0 sz), .int .i64 a] _ 0 HB2.out
    change bodyPost _ _ _ _ _ (World.setN w2 w.heap.size 0 [.int .i64 (2), .string (R.extract 0 sz), .int .i64 a])
    generalize World.setN w2 w.heap.size 0 [.int .i64 (2), .string (R.extract 0 sz), .int .i64 a] = w3 at *
    have y0 : w3.cell? ⟨w.heap.size, 0, none⟩ = some (.int .i64 (2)) := (hK3.cell 0).trans rfl
    have y1 : w3.cell? ⟨w.heap.size, 1, none⟩ = some (.string (R.extract 0 sz)) := (hK3.cell 1).trans rfl
    have y2 : w3.cell? ⟨w.heap.size, 2, none⟩ = some (.int .i64 a) := (hK3.cell 2).trans rfl
    refine bodyPost_ret (v := .tuple #[.agg #[.int .i64 (2), .string (R.extract 0 sz), .int .i64 a], .bool true]) (by simp [results, Tryz.results105, go_sem, y0, y1, y2]) rfl ?_
    refine ⟨⟨sz, true, by rw [HK.out, HEX.out _ (by omega)], by omega, HCR.out _ _ ?_⟩, hB3⟩
    unfold CutR
    rw [HK0.out, HK.out]
    rw [if_neg (by decide), if_neg (by decide), if_pos rfl, ← HZ.out]
    exact ⟨HSE.out.symm, rfl⟩
  have b0 : (kdI (bt s a) == 0) = false := by simpa using k0
  have b1 : (kdI (bt s a) == 1) = false := by simpa using k1
  have b2 : (kdI (bt s a) == 2) = false := by simpa using k2
  have hX2 := HX1.out
  have HB2 := HB1
  have hR1 : 1 ≤ R.size := by omega
  obtain ⟨kk, hkk⟩ : ∃ kk, kdI (bt s a) = kk := ⟨_, rfl⟩
  rw [hkk] at k0 k1 k2 b0 b1 b2 ⊢
  have HKE := Lib.hid hkk
  have HN0 := Lib.hid k0
  have HN1 := Lib.hid k1
  have HN2 := Lib.hid k2
  clear k0 k1 k2 hkk
  have x0 : w1.cell? ⟨w.heap.size, 0, none⟩ = some (.int .i64 0) := (hX2.cell 0).trans rfl
  have x1 : w1.cell? ⟨w.heap.size, 1, none⟩ = some (.string ⟨#[]⟩) := (hX2.cell 1).trans rfl
  have x2 : w1.cell? ⟨w.heap.size, 2, none⟩ = some (.int .i64 0) := (hX2.cell 2).trans rfl
  have xf := hX2.frozen
  have xl := hX2.lt
  have HX2 := Lib.hid hX2
  clear hX2
  go_wp2
  have hK3 := BlkL.setN [.int .i64 (kk), .string (R.extract 0 1), .int .i64 a] _ _ 0 HX2.out
  have hB3 := below_setN (g := w.heap.size) (Nat.le_refl _) [.int .i64 (kk), .string (R.extract 0 1), .int .i64 a] _ 0 HB2.out
  change bodyPost _ _ _ _ _ (World.setN w1 w.heap.size 0 [.int .i64 (kk), .string (R.extract 0 1), .int .i64 a])
  generalize World.setN w1 w.heap.size 0 [.int .i64 (kk), .string (R.extract 0 1), .int .i64 a] = w3 at *
  have y0 : w3.cell? ⟨w.heap.size, 0, none⟩ = some (.int .i64 (kk)) := (hK3.cell 0).trans rfl
  have y1 : w3.cell? ⟨w.heap.size, 1, none⟩ = some (.string (R.extract 0 1)) := (hK3.cell 1).trans rfl
  have y2 : w3.cell? ⟨w.heap.size, 2, none⟩ = some (.int .i64 a) := (hK3.cell 2).trans rfl
  refine bodyPost_ret (v := .tuple #[.agg #[.int .i64 (kk), .string (R.extract 0 1), .int .i64 a], .bool true]) (by simp [results, Tryz.results105, go_sem, y0, y1, y2]) rfl ?_
  refine ⟨⟨1, true, by rw [HEX.out _ (by omega), HKE.out], by omega, HCR.out _ _ ?_⟩, hB3⟩
  unfold CutR
  rw [HK0.out]
  rw [HKE.out, if_neg HN0.out, if_neg HN1.out, if_neg HN2.out]
  exact ⟨rfl, rfl⟩
end Go.Proofs.YthjkgbcomjiejaaGreatDoor
