/-
  Plain mathematics of lexemes: what is true of each lexeme of a text, and what the own text of a lexeme is lexed into. It names no function of the program.
-/
import Derived.Test.YthjkgbcomjiejaaDoorLl35
namespace Go.Proofs.YthjkgbcomjiejaaDoor
open Go.RowKit
set_option linter.unusedVariables false

/-- what is true of a lexeme: its kind is that of its first byte, brackets and quotes are one byte long, the others are lexed into themselves. -/
structure LxGd (x : Lx) : Prop where
  kind : x.k = kdI (bt x.s 0)
  pos : 1 ≤ x.s.size
  one : 3 ≤ x.k → x.s.size = 1
  small : x.s.size ≤ 40
  self : x.k ≤ 2 → (lxA x.s).1 = [⟨x.k, x.s, 0⟩]
  a0 : 0 ≤ x.a
  a1 : x.a < 2000
theorem kdI_bd (c : Int) : 0 ≤ kdI c ∧ kdI c ≤ 5 := by
  have := kd_cases c
  omega
theorem LxGd.bd {x : Lx} (h : LxGd x) : 0 ≤ x.k ∧ x.k ≤ 5 := by rw [h.kind]; exact kdI_bd _
theorem evS_congr {b c : Nat → Nat} {n : Nat} (h : ∀ i, i < n → b i = c i) (i : Nat) (hi : i < n) : evS b i = evS c i ∧ clB b i = clB c i := by
  have h1 := tk_congr h i (by omega)
  unfold evS clB
  rw [h i hi, h1]
  exact ⟨rfl, rfl⟩
/-- the own text of what is a lexeme is that lexeme. -/
theorem lexO_own {b c : Nat → Nat} {n z : Nat} (hn : 0 < n) (h : lexO b n = (none, z)) (hz : 0 < z) (hc : ∀ i, i < z → c i = b i) : lexO c z = (none, z) := by
  have hzn := lexO_le hn h
  have h00 : c 0 = b 0 := hc 0 hz
  by_cases h0 : kdI (b 0) = 0
  · rw [lexO_0 h0] at h
    split at h
    · cases h
    · injection h with _ e
      rw [lexO_0 (by rw [h00]; exact h0)]
      have hf : fst (evA c) z = z := by
        refine fst_none fun k hk => ?_
        have := fst_before (p := evA b) (n := n) (k := k) (by omega)
        unfold evA at this ⊢
        rw [hc k hk]; exact this
      rw [hf, if_neg (by omega)]
  · by_cases h1 : kdI (b 0) = 1
    · rw [lexO_1 h1] at h
      split at h
      · rename_i hlt
        split at h
        · rename_i hcl
          injection h with _ e
          have hcc : ∀ i, i < z → b i = c i := fun i hi => (hc i hi).symm
          have hf : fst (evS c) z = fst (evS b) n := by
            refine fst_at (by omega) ?_ fun k hk => ?_
            · rw [← (evS_congr hcc (fst (evS b) n) (by omega)).1]; exact fst_yes hlt
            · rw [← (evS_congr hcc k (by omega)).1]; exact fst_before hk
          rw [lexO_1 (by rw [h00]; exact h1), hf, if_pos (by omega), if_pos (by rw [← (evS_congr hcc (fst (evS b) n) (by omega)).2]; exact hcl), e]
        · cases h
      · cases h
    · by_cases h2 : kdI (b 0) = 2
      · rw [lexO_2 h2] at h
        split at h
        · cases h
        · rename_i hj
          injection h with _ e
          have hL : lnN b n ≤ n := fst_le _ _
          have hzL : z ≤ lnN b n := by rw [← e]; exact trm_le _ _
          have hl : lnN c z = z := by
            refine fst_none fun k hk => ?_
            have := fst_before (p := fun i => decide (b i = 10)) (n := n) (k := k) (by show k < lnN b n; omega)
            simpa [hc k hk] using this
          have ht : trm c z = z := by
            obtain ⟨y, hy⟩ : ∃ y, z = y + 1 := ⟨z - 1, by omega⟩
            have hw := trm_last b (lnN b n) (by omega)
            rw [e] at hw
            subst hy
            simp only [trm]
            rw [hc y (by omega), if_neg (by rw [show y + 1 - 1 = y by omega] at hw; rw [hw]; simp)]
          rw [lexO_2 (by rw [h00]; exact h2), hl, ht, if_neg ?_]
          have hfb : ∀ k, k < z → bdB (c k) = false := by
            intro k hk
            have := fst_before (p := fun i => bdB (b i)) (n := lnN b n) (k := k) (by omega)
            rw [hc k hk]; exact this
          rw [fst_none (p := fun i => bdB (c i)) hfb]
          omega
      · rw [lexO_3 h0 h1 h2] at h
        injection h with _ e
        rw [lexO_3 (by rw [h00]; exact h0) (by rw [h00]; exact h1) (by rw [h00]; exact h2), e]
theorem lxAt_good {s : ByteArray} {a cnt : Nat} (hs : s.size ≤ 2000) (ha : a < s.size) (hw : wtB (bt s a) = false) (hr : rdO s a cnt = none) : LxGd (lxAt s a) := by
  have hz := rdZ_pos ha hw hr
  have hL : lexO (fun i => bt s (a + i)) (s.size - a) = (none, rdZ s a) ∧ rdZ s a ≤ 40 := by
    cases hO : lexO (fun i => bt s (a + i)) (s.size - a) with
    | mk o y =>
      cases o with
      | some j => rw [rd_bad hO] at hr; cases hr
      | none =>
        obtain ⟨e1, e2⟩ := rd_fine (cnt := cnt) hO
        rw [e1] at hr
        split at hr
        · cases hr
        · rw [e2]; exact ⟨rfl, by omega⟩
  obtain ⟨hL, h40⟩ := hL
  have hle := lexO_le (by omega) hL
  have hsz : (s.extract a (a + rdZ s a)).size = rdZ s a := by simp [ByteArray.size_extract]; omega
  have hbt : ∀ i, i < rdZ s a → bt (s.extract a (a + rdZ s a)) i = bt s (a + i) := fun i hi => bt_extract s a (a + rdZ s a) i (by omega) (by omega)
  have hb0 : bt (s.extract a (a + rdZ s a)) 0 = bt s a := hbt 0 (by omega)
  refine ⟨?_, ?_, ?_, ?_, ?_, ?_, ?_⟩
  · show kdI (bt s a) = kdI (bt (s.extract a (a + rdZ s a)) 0)
    rw [hb0]
  · show 1 ≤ (s.extract a (a + rdZ s a)).size
    omega
  · intro hk
    have hk : 3 ≤ kdI (bt s a) := hk
    show (s.extract a (a + rdZ s a)).size = 1
    rw [lexO_3 (by show kdI (bt s (a + 0)) ≠ 0; rw [Nat.add_zero]; omega) (by show kdI (bt s (a + 0)) ≠ 1; rw [Nat.add_zero]; omega) (by show kdI (bt s (a + 0)) ≠ 2; rw [Nat.add_zero]; omega)] at hL
    injection hL with _ e
    omega
  · show (s.extract a (a + rdZ s a)).size ≤ 40
    omega
  · intro _
    show (lxA (s.extract a (a + rdZ s a))).1 = [⟨kdI (bt s a), s.extract a (a + rdZ s a), 0⟩]
    obtain ⟨y, hy⟩ : ∃ y, s.extract a (a + rdZ s a) = y := ⟨_, rfl⟩
    rw [hy] at hsz hbt hb0 ⊢
    have hlx : lexO (fun i => bt y (0 + i)) (y.size - 0) = (none, rdZ s a) := by
      rw [Nat.sub_zero, hsz]
      exact lexO_own (by omega) hL (by omega) (fun i hi => by rw [Nat.zero_add]; exact hbt i hi)
    obtain ⟨e1, e2⟩ := rd_fine (cnt := 0) hlx
    rw [if_neg (by omega)] at e1
    unfold lxA
    rw [if_neg (by omega), LG_ok (by omega) (by rw [hb0]; exact hw) e1, LG_end (by omega), List.nil_append]
    show [lxAt y 0] = _
    unfold lxAt
    rw [e2, hb0, Nat.zero_add]
    have hex : y.extract 0 (rdZ s a) = y := by
      rw [← hsz]
      simp
    rw [hex]
    rfl
  · exact Int.natCast_nonneg _
  · show ((a : Nat) : Int) < 2000
    omega
theorem lxG_good {s : ByteArray} (hs : s.size ≤ 2000) (f : Nat) : ∀ (a : Nat) (out : List Lx), (∀ y ∈ out, LxGd y ∧ y.a < a) → out.Pairwise (fun x y => x.a < y.a) →
    (∀ y ∈ (lxG s f a out).1, LxGd y) ∧ (lxG s f a out).1.Pairwise (fun x y => x.a < y.a) := by
  induction f with
  | zero => intro a out h1 h2; exact ⟨fun y hy => (h1 y hy).1, h2⟩
  | succ f ih =>
    intro a out h1 h2
    simp only [lxG]
    split
    · exact ⟨fun y hy => (h1 y hy).1, h2⟩
    · split
      · exact ih (a + 1) out (fun y hy => ⟨(h1 y hy).1, by have := (h1 y hy).2; omega⟩) h2
      · rename_i ha hw
        cases hr : rdO s a out.length with
        | some p => simp
        | none =>
          have hz := rdZ_pos (by omega) (by simpa using hw) hr
          have hg := lxAt_good hs (by omega) (by simpa using hw) hr
          refine ih _ _ (fun y hy => ?_) ?_
          · rcases List.mem_append.1 hy with h | h
            · exact ⟨(h1 y h).1, by have := (h1 y h).2; omega⟩
            · simp only [List.mem_singleton] at h
              subst h
              exact ⟨hg, by show ((a : Nat) : Int) < _; omega⟩
          · rw [List.pairwise_append]
            refine ⟨h2, by simp, fun x hx y hy => ?_⟩
            simp only [List.mem_singleton] at hy
            subst hy
            exact (h1 x hx).2
theorem lxA_good (s : ByteArray) : (∀ y ∈ (lxA s).1, LxGd y) ∧ (lxA s).1.Pairwise (fun x y => x.a < y.a) := by
  unfold lxA
  split
  · simp
  · exact lxG_good (by omega) _ _ _ (by simp) (by simp)

end Go.Proofs.YthjkgbcomjiejaaDoor
