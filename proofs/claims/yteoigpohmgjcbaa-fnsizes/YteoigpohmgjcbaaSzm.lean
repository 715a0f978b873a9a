/-
  Plain mathematics for the law of sizes: matches are of one another; a block's size is no less than that of what begins within it.
-/
import Derived.Test.YteoigpohmgjcbaaSizm
namespace Go.Proofs.Yteoigpohmgjcbaa
open Go.RowKit
set_option linter.unusedVariables false

/-- what fwdF finds: the first place from i on with level L. -/
theorem fwdF_spec (l : List Tk) (L : Int) (n : Nat) (f i : Nat) (hf : f = n - i) (hi : i ≤ n) :
    (fwdF l L (n - i) i = -1 ∧ ∀ j, i ≤ j → j < n → levI l j ≠ L) ∨ ∃ m : Nat, fwdF l L (n - i) i = m ∧ i ≤ m ∧ m < n ∧ levI l m = L ∧ ∀ j, i ≤ j → j < m → levI l j ≠ L := by
  induction f generalizing i with
  | zero =>
    obtain rfl : i = n := by omega
    exact .inl ⟨fwdF_end l L i, fun j h1 h2 => by omega⟩
  | succ f ih =>
    have hlt : i < n := by omega
    by_cases h : levI l i = L
    · exact .inr ⟨i, fwdF_yes hlt h, Nat.le_refl _, hlt, h, fun j h1 h2 => by omega⟩
    · rw [fwdF_no hlt h]
      rcases ih (i + 1) (by omega) (by omega) with ⟨e, hno⟩ | ⟨m, e, h1, h2, h3, h4⟩
      · refine .inl ⟨e, fun j h1 h2 => ?_⟩
        by_cases ej : j = i
        · rw [ej]; exact h
        · exact hno j (by omega) h2
      · refine .inr ⟨m, e, by omega, h2, h3, fun j h5 h6 => ?_⟩
        by_cases ej : j = i
        · rw [ej]; exact h
        · exact h4 j (by omega) h6
theorem bwdF_spec (l : List Tk) (L : Int) (i : Nat) :
    (bwdF l L i = -1 ∧ ∀ j, j < i → levI l j ≠ L) ∨ ∃ m : Nat, bwdF l L i = m ∧ m < i ∧ levI l m = L ∧ ∀ j, m < j → j < i → levI l j ≠ L := by
  induction i with
  | zero => exact .inl ⟨rfl, fun j h => by omega⟩
  | succ i ih =>
    by_cases h : levI l i = L
    · exact .inr ⟨i, bwdF_yes h, by omega, h, fun j h1 h2 => by omega⟩
    · rw [bwdF_no h]
      rcases ih with ⟨e, hno⟩ | ⟨m, e, h1, h2, h3⟩
      · refine .inl ⟨e, fun j hj => ?_⟩
        by_cases ej : j = i
        · rw [ej]; exact h
        · exact hno j (by omega)
      · refine .inr ⟨m, e, by omega, h2, fun j h5 h6 => ?_⟩
        by_cases ej : j = i
        · rw [ej]; exact h
        · exact h3 j h5 (by omega)

theorem lev_lo {l : List Tk} (hS : strB l = true) {k : Nat} (hk : k < l.length) : 0 ≤ levI l k := by
  obtain ⟨_, hok, _⟩ := strB_true hS
  have ht : l[k]? = some l[k] := List.getElem?_eq_getElem hk
  have h1 := (okN_at hok hk ht).2
  have h2 := okN_lo (okN_mono (Nat.le_of_lt hk) hok) (Nat.le_of_lt hk)
  unfold levI; omega
/-- a TokBegin and its TokEnd. -/
theorem match_begin {l : List Tk} (hS : strB l = true) {k : Nat} {t : Tk} (ht : l[k]? = some t) (h2 : t.k = 2) :
    ∃ (m : Nat) (u : Tk), matI l k t = m ∧ k < m ∧ l[m]? = some u ∧ u.k = 3 ∧ matI l m u = k ∧ (∀ j, k < j → j < m → levI l k + 1 ≤ levI l j) := by
  have hkl : k < l.length := (List.getElem?_eq_some_iff.1 ht).1
  obtain ⟨_, hok, h0⟩ := strB_true hS
  have hlo := lev_lo hS hkl
  have hm : matI l k t = fwdF l (levI l k) (l.length - (k + 1)) (k + 1) := if_pos h2
  rcases fwdF_spec l (levI l k) l.length _ (k + 1) rfl (by omega) with ⟨e, hno⟩ | ⟨m, e, h3, h4, h5, h6⟩
  · have := above_fwd ht h2 (i := l.length) (by omega) (fun j h1 h2 => hno j (by omega) h2)
    omega
  · have hu : l[m]? = some l[m] := List.getElem?_eq_getElem h4
    have h6' : ∀ j, k < j → j < m → levI l j ≠ levI l k := fun j h1 h2 => h6 j (by omega) h2
    have hk3 := fwd_kind ht h2 (i := m) (by omega) h6' hu h5
    refine ⟨m, l[m], by rw [hm, e], by omega, hu, hk3, ?_, fun j h1 h7 => ?_⟩
    · unfold matI
      rw [if_neg (by omega), if_pos hk3]
      rcases bwdF_spec l (levI l m) m with ⟨e2, hno⟩ | ⟨q, e2, q1, q2, q3⟩
      · exact absurd h5.symm (hno k (by omega))
      · rw [e2]
        have : q = k := by
          by_cases hqk : q < k
          · exact absurd h5.symm (q3 k hqk (by omega))
          · by_cases hkq : k < q
            · exact absurd (q2.trans h5) (h6' q hkq q1)
            · omega
        rw [this]
    · have a1 := above_fwd ht h2 (i := j) h1 (fun j' g1 g2 => h6' j' g1 (by omega))
      have a2 := above_fwd ht h2 (i := j + 1) (by omega) (fun j' g1 g2 => h6' j' g1 (by omega))
      show levI l k + 1 ≤ min (opN l j) (opN l (j + 1))
      omega
theorem match_end {l : List Tk} (hS : strB l = true) {m : Nat} {u : Tk} (hu : l[m]? = some u) (h3 : u.k = 3) :
    ∃ (k : Nat) (t : Tk), matI l m u = k ∧ k < m ∧ l[k]? = some t ∧ t.k = 2 ∧ matI l k t = m := by
  have hml : m < l.length := (List.getElem?_eq_some_iff.1 hu).1
  have hlo := lev_lo hS hml
  have hm : matI l m u = bwdF l (levI l m) m := by unfold matI; rw [if_neg (by omega), if_pos h3]
  rcases bwdF_spec l (levI l m) m with ⟨e, hno⟩ | ⟨k, e, h4, h5, h6⟩
  · have := above_bwd hu h3 (i := 0) (by omega) (fun j h1 h2 => hno j h2)
    rw [opN_zero] at this
    omega
  · have hkl : k < l.length := by omega
    have ht : l[k]? = some l[k] := List.getElem?_eq_getElem hkl
    have hk2 := bwd_kind hu h3 (i := k) h4 h6 ht h5
    obtain ⟨m', u', e1, g1, g2, g3, g4, g5⟩ := match_begin hS ht hk2
    refine ⟨k, l[k], by rw [hm, e], h4, ht, hk2, ?_⟩
    rw [e1]
    have : m' = m := by
      by_cases q1 : m < m'
      · have := g5 m h4 q1; omega
      · by_cases q2 : m' < m
        · have hm'3 : matI l k l[k] = fwdF l (levI l k) (l.length - (k + 1)) (k + 1) := if_pos hk2
          rcases fwdF_spec l (levI l k) l.length _ (k + 1) rfl (by omega) with ⟨e2, _⟩ | ⟨q, e2, _, _, e3, _⟩
          · omega
          · have hq : q = m' := by omega
            subst hq
            exact absurd (e3.trans h5) (h6 q g1 q2)
        · omega
    rw [this]

theorem nx_no {l : List Tk} {L : Int} (f i : Nat) (hf : f = l.length - i) (hi : i ≤ l.length) : ∀ j, i ≤ j → j < nx l L i → brkAt l L j = false := by
  induction f generalizing i with
  | zero =>
    obtain rfl : i = l.length := by omega
    rw [nx_end]; intro j h1 h2; omega
  | succ f ih =>
    intro j h1 h2
    rw [nx_step (by omega)] at h2
    cases hb : brkAt l L i
    · rw [hb, if_neg (by simp)] at h2
      by_cases e : j = i
      · rw [e]; exact hb
      · exact ih (i + 1) (by omega) (by omega) j (by omega) h2
    · rw [hb, if_pos rfl] at h2; omega
theorem nx_is {l : List Tk} {L : Int} (f i : Nat) (hf : f = l.length - i) (hi : i ≤ l.length) : nx l L i < l.length → brkAt l L (nx l L i) = true := by
  induction f generalizing i with
  | zero =>
    obtain rfl : i = l.length := by omega
    rw [nx_end]; intro h; omega
  | succ f ih =>
    intro h
    rw [nx_step (by omega)] at h ⊢
    cases hb : brkAt l L i
    · rw [hb, if_neg (by simp)] at h
      rw [if_neg (by simp)]
      exact ih (i + 1) (by omega) (by omega) h
    · rw [if_pos rfl]; exact hb
theorem nx_to {l : List Tk} {L : Int} {i s : Nat} (hi : i ≤ s) (hs : s < l.length) (hb : brkAt l L s = true) : nx l L i ≤ s := by
  by_cases h : s < nx l L i
  · rw [nx_no _ i rfl (by omega) s hi h] at hb; cases hb
  · omega
theorem brkAt_up {l : List Tk} {K L : Int} {s : Nat} (h : K ≤ L) (hb : brkAt l K s = true) : brkAt l L s = true := by
  unfold brkAt at *
  cases e : l[s]? with
  | none => rw [e] at hb; cases hb
  | some t =>
    rw [e] at hb
    simp only [Bool.and_eq_true, decide_eq_true_eq] at hb ⊢
    exact ⟨hb.1, by omega⟩
/-- a block's size is no less than that of what begins within it. -/
theorem size_in {l : List Tk} (hS : strB l = true) {k i m : Nat} {t v : Tk} (ht : l[k]? = some t) (h2 : t.k = 2) (hv : l[i]? = some v) (hv2 : v.k = 2) (hm : matI l k t = m) (hki : k < i) (him : i < m) : sizI l i v ≤ sizI l k t := by
  obtain ⟨m', u, e1, g1, g2, g3, _, g5⟩ := match_begin hS ht h2
  have e : m' = m := by omega
  subst e
  have hml : m' < l.length := (List.getElem?_eq_some_iff.1 g2).1
  obtain ⟨_, hok, _⟩ := strB_true hS
  rw [sizI_min hS hv (.inl hv2), sizI_min hS ht (.inl h2)]
  have hb1 := nx_bd (levI l k) (show k + 1 ≤ l.length by omega)
  have hb2 := nx_bd (levI l i) (show i + 1 ≤ l.length by omega)
  have hge : m' ≤ nx l (levI l k) (k + 1) := by
    by_cases h : nx l (levI l k) (k + 1) < m'
    · have hbr := nx_is _ (k + 1) rfl (by omega) (show nx l (levI l k) (k + 1) < l.length by omega)
      have := g5 _ (show k < nx l (levI l k) (k + 1) by omega) h
      unfold brkAt at hbr
      cases hq : l[nx l (levI l k) (k + 1)]? with
      | none => rw [hq] at hbr; cases hbr
      | some q =>
        rw [hq] at hbr
        simp only [Bool.and_eq_true, decide_eq_true_eq] at hbr
        omega
    · omega
  have hlev := g5 i hki him
  have hle : nx l (levI l i) (i + 1) ≤ nx l (levI l k) (k + 1) := by
    by_cases h : nx l (levI l k) (k + 1) < l.length
    · exact nx_to (by omega) h (brkAt_up (by omega) (nx_is _ (k + 1) rfl (by omega) h))
    · omega
  have m1 := smN_mono hok hle hb1.2
  have m2 := smN_mono hok (show k ≤ i by omega) (by omega)
  omega
end Go.Proofs.Yteoigpohmgjcbaa
