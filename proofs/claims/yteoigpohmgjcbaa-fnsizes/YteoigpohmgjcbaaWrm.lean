/-
  Plain mathematics of a wrapped stream: one level deeper; its first size is that of all it has.
-/
import Derived.Test.YteoigpohmgjcbaaSzm
namespace Go.Proofs.Yteoigpohmgjcbaa
open Go.RowKit
set_option linter.unusedVariables false

theorem okN_of {l : List Tk} {n : Nat} (h : ∀ (i : Nat) (t : Tk), i < n → l[i]? = some t → t.ok = true ∧ 0 ≤ opN l (i + 1) ∧ opN l (i + 1) ≤ 12) : okN l n = true := by
  induction n with
  | zero => rfl
  | succ n ih =>
    have h1 := ih (fun i t hi ht => h i t (by omega) ht)
    cases ht : l[n]? with
    | none => simp only [okN, h1, ht, Bool.and_true]
    | some t =>
      have := h n t (by omega) ht
      rw [okN_succ ht, h1]; simp [this]

variable {g e : Tk} {l : List Tk}
theorem wr_opN (hg : g.k = 2) (i : Nat) (hi : i ≤ l.length) : opN (g :: (l ++ [e])) (i + 1) = 1 + opN l i := by
  unfold opN
  rw [List.take_succ_cons, List.map_cons, List.sum_cons, List.take_append_of_le_length hi]
  rcases g.opn_cases with ⟨_, h⟩ | ⟨h, _⟩ | ⟨h, _⟩
  · rw [h]
  · omega
  · omega
theorem wr_at (i : Nat) (hi : i < l.length) : (g :: (l ++ [e]))[i + 1]? = l[i]? := by
  rw [List.getElem?_cons_succ, List.getElem?_append_left hi]
theorem wr_last : (g :: (l ++ [e]))[l.length + 1]? = some e := by
  rw [List.getElem?_cons_succ, List.getElem?_append_right (Nat.le_refl _), Nat.sub_self]; rfl
theorem wr_end (hg : g.k = 2) (he : e.k = 3) : opN (g :: (l ++ [e])) (l.length + 2) = opN l l.length := by
  rw [opN_succ (wr_last (g := g) (e := e)), wr_opN hg l.length (Nat.le_refl _)]
  rcases e.opn_cases with ⟨h, _⟩ | ⟨_, h⟩ | ⟨_, h, _⟩
  · omega
  · rw [h]; omega
  · omega
theorem wr_len : (g :: (l ++ [e])).length = l.length + 2 := by simp
/-- a wrapped stream is none only where it is too long or too deep. -/
theorem wr_str (hS : strB l = true) (hg : g.k = 2) (he : e.k = 3) (hgo : g.ok = true) (heo : e.ok = true) (hl : l.length ≤ 398) (hd : mxN l l.length ≤ 11) : strB (g :: (l ++ [e])) = true := by
  obtain ⟨h4, hok, h0⟩ := strB_true hS
  have hend := wr_end (l := l) hg he
  have h1 : okN (g :: (l ++ [e])) (l.length + 2) = true := by
    apply okN_of
    intro i t hi ht
    cases i with
    | zero =>
      simp at ht; subst ht
      refine ⟨hgo, ?_⟩
      rw [wr_opN hg 0 (Nat.zero_le _), opN_zero]; omega
    | succ i =>
      by_cases hil : i < l.length
      · rw [wr_at i hil] at ht
        have a1 := okN_at hok hil ht
        have a2 := mxN_ge l l.length (i + 1) (by omega)
        rw [wr_opN hg (i + 1) (by omega)]
        exact ⟨a1.1, by omega, by omega⟩
      · have : i = l.length := by omega
        subst this
        rw [wr_last] at ht
        injection ht with ht
        subst ht
        rw [hend, h0]
        exact ⟨heo, by omega, by omega⟩
  unfold strB
  rw [wr_len, h1, hend, h0]
  simp; omega
theorem wr_mx (hg : g.k = 2) (i : Nat) (hi : i ≤ l.length) : mxN (g :: (l ++ [e])) (i + 1) = mxN l i + 1 := by
  induction i with
  | zero =>
    show max (mxN _ 0) (opN _ 1) = _
    rw [wr_opN hg 0 (Nat.zero_le _), opN_zero]
    simp only [mxN]
    omega
  | succ i ih =>
    show max (mxN _ (i + 1)) (opN _ (i + 1 + 1)) = max (mxN l i) (opN l (i + 1)) + 1
    rw [ih (by omega), wr_opN hg (i + 1) hi]
    omega
theorem wr_dep (hS : strB l = true) (hW : strB (g :: (l ++ [e])) = true) (hg : g.k = 2) (he : e.k = 3) : depB (g :: (l ++ [e])) = depB l + 1 := by
  unfold depB
  rw [if_pos hS, if_pos hW, wr_len]
  show max (mxN _ (l.length + 1)) (opN _ (l.length + 2)) = _
  rw [wr_mx hg l.length (Nat.le_refl _), wr_end hg he, (strB_true hS).2.2]
  have := mxN_ge l l.length 0 (Nat.zero_le _)
  rw [opN_zero] at this
  omega
theorem wr_lev0 (hg : g.k = 2) : levI (g :: (l ++ [e])) 0 = 0 := by
  unfold levI
  rw [wr_opN hg 0 (Nat.zero_le _), opN_zero, opN_zero]; rfl
theorem wr_size (hS : strB l = true) (hW : strB (g :: (l ++ [e])) = true) (hg : g.k = 2) (he : e.k = 3) (hgw : g.wid = 0) (hew : e.wid = 0) (heb : e.brk = false) :
    sizB (g :: (l ++ [e])) 0 = min 1000000 (smN l l.length) := by
  obtain ⟨h4, hok, h0⟩ := strB_true hS
  have h00 : (g :: (l ++ [e]))[0]? = some g := rfl
  have hsz := sizB_yes hW h00
  rw [show ((0 : Nat) : Int) = 0 from rfl] at hsz
  rw [hsz, sizI_min hW h00 (.inl hg), wr_lev0 hg, smN_zero]
  have hnx : nx (g :: (l ++ [e])) 0 1 = l.length + 2 := by
    have hb := nx_bd (l := g :: (l ++ [e])) 0 (i := 1) (by rw [wr_len]; omega)
    rw [wr_len] at hb
    by_cases h : nx (g :: (l ++ [e])) 0 1 < l.length + 2
    · exfalso
      have hbr := nx_is (l := g :: (l ++ [e])) (L := 0) _ 1 rfl (by rw [wr_len]; omega) (by rw [wr_len]; exact h)
      obtain ⟨q, hq⟩ : ∃ q, nx (g :: (l ++ [e])) 0 1 = q + 1 := ⟨nx (g :: (l ++ [e])) 0 1 - 1, by omega⟩
      rw [hq] at hbr h
      by_cases hql : q < l.length
      · have ht : l[q]? = some l[q] := List.getElem?_eq_getElem hql
        rw [brkAt_eq ((wr_at q hql).trans ht)] at hbr
        simp only [Bool.and_eq_true, decide_eq_true_eq] at hbr
        have hlev := hbr.2
        unfold levI at hlev
        have a1 := okN_at hok hql ht
        have a2 := okN_lo (okN_mono (Nat.le_of_lt hql) hok) (Nat.le_of_lt hql)
        rw [wr_opN hg q (by omega), wr_opN hg (q + 1) (by omega)] at hlev
        omega
      · have : q = l.length := by omega
        subst this
        rw [brkAt_eq wr_last, heb] at hbr
        simp at hbr
    · omega
  rw [hnx]
  have hs : smN (g :: (l ++ [e])) (l.length + 2) = smN l l.length := by
    have hgk : g.kw = 0 := by unfold Tk.kw; rw [if_neg (by omega), hgw]
    have hek : e.kw = 0 := by unfold Tk.kw; rw [if_neg (by omega), hew]
    unfold smN
    rw [List.take_of_length_le (by rw [wr_len]; omega), List.take_of_length_le (Nat.le_refl _)]
    simp [hgk, hek]
  rw [hs]
  congr 1
  omega
end Go.Proofs.Yteoigpohmgjcbaa
