/-
  Plain mathematics of parsing: what is true of each lexeme of a text, and what the own text of a lexeme is lexed into. It names no function of the program.
-/
import Derived.Test.YthjkgbcomjiejaaGreatDoorKk27
import Derived.Test.YthjkgbcomjiejaaGreatDoorKk33
namespace Go.Proofs.YthjkgbcomjiejaaGreatDoor
open Go.RowKit
set_option linter.unusedVariables false

/-- what is true of a lexeme: its kind is that of its first byte, brackets and quotes are one byte long, the others are lexed into themselves. -/
structure LxGd (x : Lx) : Prop where
  kind : x.k = kdI (bt x.s 0)
  pos : 1 ≤ x.s.size
  one : 3 ≤ x.k → x.s.size = 1
  small : x.s.size ≤ 40
  self : x.k ≤ 2 → (lxA x.s).1 = [⟨x.k, x.s, 0⟩]
  a0 : 0 ≤ x.a
  a1 : x.a < 2000
theorem kdI_bd (c : Int) : 0 ≤ kdI c ∧ kdI c ≤ 5 := by
  have := kd_cases c
  omega
theorem LxGd.bd {x : Lx} (h : LxGd x) : 0 ≤ x.k ∧ x.k ≤ 5 := by rw [h.kind]; exact kdI_bd _
theorem evS_congr {b c : Nat → Nat} {n : Nat} (h : ∀ i, i < n → b i = c i) (i : Nat) (hi : i < n) : evS b i = evS c i ∧ clB b i = clB c i := by
  have h1 := tk_congr h i (by omega)
  unfold evS clB
  rw [h i hi, h1]
  exact ⟨rfl, rfl⟩
/-- the own text of what is a lexeme is that lexeme. -/
theorem lexO_own {b c : Nat → Nat} {n z : Nat} (hn : 0 < n) (h : lexO b n = (none, z)) (hz : 0 < z) (hc : ∀ i, i < z → c i = b i) : lexO c z = (none, z) := by
  have hzn := lexO_le hn h
  have h00 : c 0 = b 0 := hc 0 hz
  by_cases h0 : kdI (b 0) = 0
  · rw [lexO_0 h0] at h
    split at h
    · cases h
    · injection h with _ e
      rw [lexO_0 (by rw [h00]; exact h0)]
      have hf : fst (evA c) z = z := by
        refine fst_none fun k hk => ?_
        have := fst_before (p := evA b) (n := n) (k := k) (by omega)
        unfold evA at this ⊢
        rw [hc k hk]; exact this
      rw [hf, if_neg (by omega)]
  · by_cases h1 : kdI (b 0) = 1
    · rw [lexO_1 h1] at h
      split at h
      · rename_i hlt
        split at h
        · rename_i hcl
          injection h with _ e
          have hcc : ∀ i, i < z → b i = c i := fun i hi => (hc i hi).symm
          have hf : fst (evS c) z = fst (evS b) n := by
            refine fst_at (by omega) ?_ fun k hk => ?_
            · rw [← (evS_congr hcc (fst (evS b) n) (by omega)).1]; exact fst_yes hlt
            · rw [← (evS_congr hcc k (by omega)).1]; exact fst_before hk
          rw [lexO_1 (by rw [h00]; exact h1), hf, if_pos (by omega), if_pos (by rw [← (evS_congr hcc (fst (evS b) n) (by omega)).2]; exact hcl), e]
        · cases h
      · cases h
    · by_cases h2 : kdI (b 0) = 2
      · rw [lexO_2 h2] at h
        split at h
        · cases h
        · rename_i hj
          injection h with _ e
          have hL : lnN b n ≤ n := fst_le _ _
          have hzL : z ≤ lnN b n := by rw [← e]; exact trm_le _ _
          have hl : lnN c z = z := by
            refine fst_none fun k hk => ?_
            have := fst_before (p := fun i => decide (b i = 10)) (n := n) (k := k) (by show k < lnN b n; omega)
            simpa [hc k hk] using this
          have ht : trm c z = z := by
            obtain ⟨y, hy⟩ : ∃ y, z = y + 1 := ⟨z - 1, by omega⟩
            have hw := trm_last b (lnN b n) (by omega)
            rw [e] at hw
            subst hy
            simp only [trm]
            rw [hc y (by omega), if_neg (by rw [show y + 1 - 1 = y by omega] at hw; rw [hw]; simp)]
          rw [lexO_2 (by rw [h00]; exact h2), hl, ht, if_neg ?_]
          have hfb : ∀ k, k < z → bdB (c k) = false := by
            intro k hk
            have := fst_before (p := fun i => bdB (b i)) (n := lnN b n) (k := k) (by omega)
            rw [hc k hk]; exact this
          rw [fst_none (p := fun i => bdB (c i)) hfb]
          omega
      · rw [lexO_3 h0 h1 h2] at h
        injection h with _ e
        rw [lexO_3 (by rw [h00]; exact h0) (by rw [h00]; exact h1) (by rw [h00]; exact h2), e]
theorem lxAt_good {s : ByteArray} {a cnt : Nat} (hs : s.size ≤ 2000) (ha : a < s.size) (hw : wtB (bt s a) = false) (hr : rdO s a cnt = none) : LxGd (lxAt s a) := by
  have hz := rdZ_pos ha hw hr
  have hL : lexO (fun i => bt s (a + i)) (s.size - a) = (none, rdZ s a) ∧ rdZ s a ≤ 40 := by
    cases hO : lexO (fun i => bt s (a + i)) (s.size - a) with
    | mk o y =>
      cases o with
      | some j => rw [rd_bad hO] at hr; cases hr
      | none =>
        obtain ⟨e1, e2⟩ := rd_fine (cnt := cnt) hO
        rw [e1] at hr
        split at hr
        · cases hr
        · rw [e2]; exact ⟨rfl, by omega⟩
  obtain ⟨hL, h40⟩ := hL
  have hle := lexO_le (by omega) hL
  have hsz : (s.extract a (a + rdZ s a)).size = rdZ s a := by simp [ByteArray.size_extract]; omega
  have hbt : ∀ i, i < rdZ s a → bt (s.extract a (a + rdZ s a)) i = bt s (a + i) := fun i hi => bt_extract s a (a + rdZ s a) i (by omega) (by omega)
  have hb0 : bt (s.extract a (a + rdZ s a)) 0 = bt s a := hbt 0 (by omega)
  refine ⟨?_, ?_, ?_, ?_, ?_, ?_, ?_⟩
  · show kdI (bt s a) = kdI (bt (s.extract a (a + rdZ s a)) 0)
    rw [hb0]
  · show 1 ≤ (s.extract a (a + rdZ s a)).size
    omega
  · intro hk
    have hk : 3 ≤ kdI (bt s a) := hk
    show (s.extract a (a + rdZ s a)).size = 1
    rw [lexO_3 (by show kdI (bt s (a + 0)) ≠ 0; rw [Nat.add_zero]; omega) (by show kdI (bt s (a + 0)) ≠ 1; rw [Nat.add_zero]; omega) (by show kdI (bt s (a + 0)) ≠ 2; rw [Nat.add_zero]; omega)] at hL
    injection hL with _ e
    omega
  · show (s.extract a (a + rdZ s a)).size ≤ 40
    omega
  · intro _
    show (lxA (s.extract a (a + rdZ s a))).1 = [⟨kdI (bt s a), s.extract a (a + rdZ s a), 0⟩]
    obtain ⟨y, hy⟩ : ∃ y, s.extract a (a + rdZ s a) = y := ⟨_, rfl⟩
    rw [hy] at hsz hbt hb0 ⊢
    have hlx : lexO (fun i => bt y (0 + i)) (y.size - 0) = (none, rdZ s a) := by
      rw [Nat.sub_zero, hsz]
      exact lexO_own (by omega) hL (by omega) (fun i hi => by rw [Nat.zero_add]; exact hbt i hi)
    obtain ⟨e1, e2⟩ := rd_fine (cnt := 0) hlx
    rw [if_neg (by omega)] at e1
    unfold lxA
    rw [if_neg (by omega), LG_ok (by omega) (by rw [hb0]; exact hw) e1, LG_end (by omega), List.nil_append]
    show [lxAt y 0] = _
    unfold lxAt
    rw [e2, hb0, Nat.zero_add]
    have hex : y.extract 0 (rdZ s a) = y := by
      rw [← hsz]
      simp
    rw [hex]
    rfl
  · exact Int.natCast_nonneg _
  · show ((a : Nat) : Int) < 2000
    omega
theorem lxG_good {s : ByteArray} (hs : s.size ≤ 2000) (f : Nat) : ∀ (a : Nat) (out : List Lx), (∀ y ∈ out, LxGd y ∧ y.a < a) → out.Pairwise (fun x y => x.a < y.a) →
    (∀ y ∈ (lxG s f a out).1, LxGd y) ∧ (lxG s f a out).1.Pairwise (fun x y => x.a < y.a) := by
  induction f with
  | zero => intro a out h1 h2; exact ⟨fun y hy => (h1 y hy).1, h2⟩
  | succ f ih =>
    intro a out h1 h2
    simp only [lxG]
    split
    · exact ⟨fun y hy => (h1 y hy).1, h2⟩
    · split
      · exact ih (a + 1) out (fun y hy => ⟨(h1 y hy).1, by have := (h1 y hy).2; omega⟩) h2
      · rename_i ha hw
        cases hr : rdO s a out.length with
        | some p => simp
        | none =>
          have hz := rdZ_pos (by omega) (by simpa using hw) hr
          have hg := lxAt_good hs (by omega) (by simpa using hw) hr
          refine ih _ _ (fun y hy => ?_) ?_
          · rcases List.mem_append.1 hy with h | h
            · exact ⟨(h1 y h).1, by have := (h1 y h).2; omega⟩
            · simp only [List.mem_singleton] at h
              subst h
              exact ⟨hg, by show ((a : Nat) : Int) < _; omega⟩
          · rw [List.pairwise_append]
            refine ⟨h2, by simp, fun x hx y hy => ?_⟩
            simp only [List.mem_singleton] at hy
            subst hy
            exact (h1 x hx).2
theorem lxA_good (s : ByteArray) : (∀ y ∈ (lxA s).1, LxGd y) ∧ (lxA s).1.Pairwise (fun x y => x.a < y.a) := by
  unfold lxA
  split
  · simp
  · exact lxG_good (by omega) _ _ _ (by simp) (by simp)

end Go.Proofs.YthjkgbcomjiejaaGreatDoor
namespace Go.Proofs.YthjkgbcomjiejaaGreatDoor
open Go.RowKit
set_option linter.unusedVariables false

/-! ### lists of nodes that grow -/
theorem nAt_app {l m : List Nd} {i : Nat} (h : i ≤ l.length) : nAt (l ++ m) i = nAt l i := by
  cases i with
  | zero => rfl
  | succ i => simp only [nAt]; rw [List.getElem?_append_left (by omega)]
theorem dep_app {l m : List Nd} {i : Nat} (h : i ≤ l.length) : dep (l ++ m) i = dep l i := by unfold dep; rw [nAt_app h]
theorem knd_app {l m : List Nd} {i : Nat} (h : i ≤ l.length) : knd (l ++ m) i = knd l i := by unfold knd; rw [nAt_app h]
theorem climb_app {l m : List Nd} {d : Int} : ∀ b, b ≤ l.length → climb (l ++ m) d b = climb l d b
  | 0, _ => rfl
  | b + 1, h => by
    unfold climb
    rw [dep_app h, climb_app b (by omega)]
theorem par_app {l m : List Nd} {i : Nat} (h : i < l.length) : par (l ++ m) i = par l i := by
  unfold par
  rw [dep_app (by omega), climb_app i (by omega)]
theorem kidsN_app {l m : List Nd} {i k : Nat} (h : k ≤ l.length) : kidsN (l ++ m) i k = kidsN l i k := by
  unfold kidsN
  refine List.filter_congr fun j hj => ?_
  have := List.mem_range.1 hj
  rw [par_app (by omega)]
theorem hld_app {l m : List Nd} {i : Nat} (h : i ≤ l.length) : hld (l ++ m) i = hld l i := by unfold hld; rw [knd_app h]
theorem hang_app {l m : List Nd} {i : Nat} (h : i < l.length) : hang (l ++ m) i ↔ hang l i := by
  unfold hang
  have := par_le l i
  rw [par_app h, dep_app (by omega), dep_app (by omega), hld_app (by omega)]
theorem plainN_app {l m : List Nd} {ks : List Nat} (h : ∀ j ∈ ks, j < l.length) : plainN (l ++ m) ks = plainN l ks := by
  unfold plainN
  refine List.countP_congr fun j hj => ?_
  rw [knd_app (by have := h j hj; omega)]
theorem whl_app {l m : List Nd} {i n : Nat} (hi : i ≤ l.length) (hn : n ≤ l.length) : whl (l ++ m) i n = whl l i n := by
  unfold whl
  rw [knd_app hi, kidsN_app hn, plainN_app (fun j hj => by have := (kidsN_mem hj).1; omega)]
theorem UpTo.app {l m : List Nd} {k : Nat} (hk : k ≤ l.length) (h : UpTo l k) : UpTo (l ++ m) k := by
  intro i hi
  obtain ⟨⟨x, hx, hn⟩, hh⟩ := h i hi
  exact ⟨⟨x, by rw [List.getElem?_append_left (by omega)]; exact hx, hn⟩, (hang_app (by omega)).2 hh⟩
/-- up from a place out of the quotes. -/
def unq (l : List Nd) : Nat → Nat
  | 0 => 0
  | t + 1 => if knd l (t + 1) = 6 then unq l (par l t) else t + 1
termination_by t => t
decreasing_by have := par_le l t; omega
theorem unq_zero (l : List Nd) : unq l 0 = 0 := by rw [unq]
theorem unq_stop {l : List Nd} {t : Nat} (h : knd l t ≠ 6) : unq l t = t := by
  cases t with
  | zero => exact unq_zero l
  | succ t => rw [unq, if_neg h]
theorem unq_go {l : List Nd} {t : Nat} (h : knd l (t + 1) = 6) : unq l (t + 1) = unq l (par l t) := by
  rw [unq, if_pos h]
theorem unq_le (l : List Nd) (t : Nat) : unq l t ≤ t := by
  induction t using Nat.strongRecOn with
  | _ t ih =>
    cases t with
    | zero => rw [unq_zero]; exact Nat.le_refl _
    | succ t =>
      have hp := par_le l t
      by_cases h : knd l (t + 1) = 6
      · rw [unq_go h]; have := ih (par l t) (by omega); omega
      · rw [unq_stop h]; exact Nat.le_refl _
theorem unq_knd (l : List Nd) (t : Nat) : knd l (unq l t) ≠ 6 := by
  induction t using Nat.strongRecOn with
  | _ t ih =>
    cases t with
    | zero => rw [unq_zero, knd_zero]; omega
    | succ t =>
      have hp := par_le l t
      by_cases h : knd l (t + 1) = 6
      · rw [unq_go h]; exact ih (par l t) (by omega)
      · rw [unq_stop h]; exact h
theorem unq_app {l m : List Nd} : ∀ t, t ≤ l.length → unq (l ++ m) t = unq l t := by
  intro t
  induction t using Nat.strongRecOn with
  | _ t ih =>
    intro ht
    cases t with
    | zero => rw [unq_zero, unq_zero]
    | succ t =>
      have hp := par_le l t
      by_cases h : knd l (t + 1) = 6
      · rw [unq_go h, unq_go (by rw [knd_app ht]; exact h), par_app (by omega)]
        exact ih (par l t) (by omega) (by omega)
      · rw [unq_stop h, unq_stop (by rw [knd_app ht]; exact h)]
/-- the open places from the outermost to place t, as places in the list; the root is none of them. -/
def anc (l : List Nd) : Nat → List Nat
  | 0 => []
  | t + 1 => anc l (par l t) ++ [t]
termination_by t => t
decreasing_by have := par_le l t; omega
theorem anc_zero (l : List Nd) : anc l 0 = [] := by rw [anc]
theorem anc_succ (l : List Nd) (t : Nat) : anc l (t + 1) = anc l (par l t) ++ [t] := by rw [anc]
theorem anc_app {l m : List Nd} : ∀ t, t ≤ l.length → anc (l ++ m) t = anc l t := by
  intro t
  induction t using Nat.strongRecOn with
  | _ t ih =>
    intro ht
    cases t with
    | zero => rw [anc_zero, anc_zero]
    | succ t =>
      have hp := par_le l t
      rw [anc_succ, anc_succ, par_app (by omega), ih (par l t) (by omega) (by omega)]
theorem anc_lt {l : List Nd} : ∀ t j, j ∈ anc l t → j < t := by
  intro t
  induction t using Nat.strongRecOn with
  | _ t ih =>
    intro j hj
    cases t with
    | zero => rw [anc_zero] at hj; cases hj
    | succ t =>
      have hp := par_le l t
      rw [anc_succ] at hj
      rcases List.mem_append.1 hj with h | h
      · have := ih (par l t) (by omega) j h; omega
      · simp at h; omega
theorem anc_len {l : List Nd} : ∀ t, t ≤ l.length → (∀ i, i < t → hang l i) → ((anc l t).length : Int) = dep l t + 1 := by
  intro t
  induction t using Nat.strongRecOn with
  | _ t ih =>
    intro ht hv
    cases t with
    | zero => rw [anc_zero, dep_zero]; rfl
    | succ t =>
      have hp := par_le l t
      have h1 := ih (par l t) (by omega) (by omega) (fun i hi => hv i (by omega))
      have h2 := (hv t (by omega)).1
      rw [anc_succ, List.length_append]
      simp
      omega
theorem anc_hld {l : List Nd} : ∀ t, (∀ i, i < t → hang l i) → hld l t = true → ∀ j, j ∈ anc l t → hld l (j + 1) = true := by
  intro t
  induction t using Nat.strongRecOn with
  | _ t ih =>
    intro hv hh j hj
    cases t with
    | zero => rw [anc_zero] at hj; cases hj
    | succ t =>
      have hp := par_le l t
      rw [anc_succ] at hj
      rcases List.mem_append.1 hj with h | h
      · exact ih (par l t) (by omega) (fun i hi => hv i (by omega)) (hv t (by omega)).2 j h
      · simp at h; subst h; exact hh
theorem anc_sorted {l : List Nd} : ∀ t, (anc l t).Pairwise (· < ·) := by
  intro t
  induction t using Nat.strongRecOn with
  | _ t ih =>
    cases t with
    | zero => rw [anc_zero]; exact List.Pairwise.nil
    | succ t =>
      have hp := par_le l t
      rw [anc_succ, List.pairwise_append]
      refine ⟨ih (par l t) (by omega), by simp, fun x hx y hy => ?_⟩
      simp at hy
      have := anc_lt _ x hx
      omega
end Go.Proofs.YthjkgbcomjiejaaGreatDoor
