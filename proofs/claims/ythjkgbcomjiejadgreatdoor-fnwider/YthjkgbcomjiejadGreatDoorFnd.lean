/-
  Plain mathematics of matches: the next place of the same level is the match. It imports nothing of the program.
-/
import Derived.Test.YthjkgbcomjiejadGreatDoorStr
namespace Go.Proofs.YthjkgbcomjiejadGreatDoor
open Go.RowKit
set_option linter.unusedVariables false

/-- the first place from i on, of f places, whose level is L. -/
def fwdF (l : List Tk) (L : Int) : Nat → Nat → Int
  | 0, _ => -1
  | f + 1, i => if levI l i = L then i else fwdF l L f (i + 1)
/-- the last place ahead of i whose level is L. -/
def bwdF (l : List Tk) (L : Int) : Nat → Int
  | 0 => -1
  | i + 1 => if levI l i = L then i else bwdF l L i
theorem fwdF_yes {l : List Tk} {L : Int} {n i : Nat} (hi : i < n) (h : levI l i = L) : fwdF l L (n - i) i = i := by
  rw [show n - i = (n - (i + 1)) + 1 by omega, fwdF, if_pos h]
theorem fwdF_no {l : List Tk} {L : Int} {n i : Nat} (hi : i < n) (h : levI l i ≠ L) : fwdF l L (n - i) i = fwdF l L (n - (i + 1)) (i + 1) := by
  rw [show n - i = (n - (i + 1)) + 1 by omega, fwdF, if_neg h]
theorem fwdF_end (l : List Tk) (L : Int) (n : Nat) : fwdF l L (n - n) n = -1 := by rw [Nat.sub_self]; rfl
theorem bwdF_yes {l : List Tk} {L : Int} {i : Nat} (h : levI l i = L) : bwdF l L (i + 1) = i := by rw [bwdF, if_pos h]
theorem bwdF_no {l : List Tk} {L : Int} {i : Nat} (h : levI l i ≠ L) : bwdF l L (i + 1) = bwdF l L i := by rw [bwdF, if_neg h]

/-- MatchOf of a stream at a place k. -/
def matI (l : List Tk) (k : Nat) (t : Tk) : Int := if t.k = 2 then fwdF l (levI l k) (l.length - (k + 1)) (k + 1) else if t.k = 3 then bwdF l (levI l k) k else -1
def matB (l : List Tk) (kk : Int) : Int := if strB l = true ∧ 0 ≤ kk then (match l[kk.toNat]? with | some t => matI l kk.toNat t | none => -1) else -1
theorem matB_no {l : List Tk} {kk : Int} (h : strB l = false ∨ kk < 0 ∨ (l.length : Int) ≤ kk) : matB l kk = -1 := by
  unfold matB
  by_cases hc : strB l = true ∧ 0 ≤ kk
  · rw [if_pos hc]
    have : l[kk.toNat]? = none := by
      apply List.getElem?_eq_none
      rcases h with h | h | h
      · rw [hc.1] at h; simp at h
      · omega
      · omega
    rw [this]
  · rw [if_neg hc]
theorem matB_yes {l : List Tk} {k : Nat} {t : Tk} (hS : strB l = true) (ht : l[k]? = some t) : matB l (k : Int) = matI l k t := by
  unfold matB
  rw [if_pos ⟨hS, by omega⟩, show ((k : Int)).toNat = k by omega, ht]

theorem opN_step (l : List Tk) (i : Nat) : opN l i - 1 ≤ opN l (i + 1) ∧ opN l (i + 1) ≤ opN l i + 1 := by
  cases h : l[i]? with
  | none =>
    have : opN l (i + 1) = opN l i := by unfold opN; rw [List.take_add_one, h]; simp
    omega
  | some t =>
    rw [opN_succ h]
    rcases t.opn_cases with ⟨_, e⟩ | ⟨_, e⟩ | ⟨_, _, e⟩ <;> omega
theorem above_fwd {l : List Tk} {k i : Nat} {t : Tk} (ht : l[k]? = some t) (h2 : t.k = 2) (hki : k < i) (hno : ∀ j, k < j → j < i → levI l j ≠ levI l k) : levI l k + 1 ≤ opN l i := by
  have hL : levI l k = opN l k := by rw [levI_eq ht, if_neg (by omega)]
  have h1 : opN l (k + 1) = opN l k + 1 := by
    rw [opN_succ ht]
    rcases t.opn_cases with ⟨_, e⟩ | ⟨h, _⟩ | ⟨h, _, _⟩ <;> omega
  induction i with
  | zero => omega
  | succ i ih =>
    by_cases e : i = k
    · subst e; omega
    · have := ih (by omega) (fun j a b => hno j a (by omega))
      have hs := opN_step l i
      have hn := hno i (by omega) (by omega)
      unfold levI at hn ⊢
      omega
theorem fwd_kind {l : List Tk} {k i : Nat} {t u : Tk} (ht : l[k]? = some t) (h2 : t.k = 2) (hki : k < i) (hno : ∀ j, k < j → j < i → levI l j ≠ levI l k) (hu : l[i]? = some u) (he : levI l i = levI l k) : u.k = 3 := by
  have ha := above_fwd ht h2 hki hno
  have hs := opN_succ hu
  rcases u.opn_cases with ⟨_, e⟩ | ⟨h, _⟩ | ⟨_, _, e⟩
  · exfalso; rw [levI_eq hu] at he; split at he <;> omega
  · exact h
  · exfalso; rw [levI_eq hu] at he; split at he <;> omega
theorem above_bwd {l : List Tk} {k i : Nat} {t : Tk} (ht : l[k]? = some t) (h3 : t.k = 3) (hik : i ≤ k) (hno : ∀ j, i ≤ j → j < k → levI l j ≠ levI l k) : levI l k + 1 ≤ opN l i := by
  have hL : levI l k = opN l k - 1 := by rw [levI_eq ht, if_pos h3]
  obtain ⟨d, rfl⟩ : ∃ d, k = i + d := ⟨k - i, by omega⟩
  induction d generalizing i with
  | zero => simp at hL ⊢; omega
  | succ d ih =>
    have := ih (i := i + 1) (by rw [show i + 1 + d = i + (d + 1) by omega]; exact ht) (by omega) (by rw [show i + 1 + d = i + (d + 1) by omega]; exact fun j a b => hno j (by omega) b) (by rw [show i + 1 + d = i + (d + 1) by omega]; exact hL)
    rw [show i + 1 + d = i + (d + 1) by omega] at this
    have hs := opN_step l i
    have hn := hno i (Nat.le_refl _) (by omega)
    generalize levI l (i + (d + 1)) = L at *
    unfold levI at hn
    omega
theorem bwd_kind {l : List Tk} {k i : Nat} {t u : Tk} (ht : l[k]? = some t) (h3 : t.k = 3) (hik : i < k) (hno : ∀ j, i < j → j < k → levI l j ≠ levI l k) (hu : l[i]? = some u) (he : levI l i = levI l k) : u.k = 2 := by
  have ha := above_bwd (i := i + 1) ht h3 (by omega) (fun j a b => hno j (by omega) b)
  have hs := opN_succ hu
  rcases u.opn_cases with ⟨h, _⟩ | ⟨h, e⟩ | ⟨h, h', e⟩
  · exact h
  · exfalso; rw [levI_eq hu, if_pos h] at he; omega
  · exfalso; rw [levI_eq hu, if_neg h'] at he; omega
end Go.Proofs.YthjkgbcomjiejadGreatDoor
