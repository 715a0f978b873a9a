/-
  Plain mathematics of streams: tokens, levels, depth, sizes and matches over a list. It imports nothing of the program.
-/
import Derived.Test.YthjkgbcomjiejadGreatDoorPlain
namespace Go.Proofs.YthjkgbcomjiejadGreatDoor
open Go.RowKit

structure Tk where
  k : Int
  s : ByteArray
  d : Int
  o : Int

def Tk.ok (t : Tk) : Bool := tokB t.k t.s t.d t.o
def Tk.opn (t : Tk) : Int := if t.k = 2 then 1 else if t.k = 3 then -1 else 0
theorem Tk.opn_cases (t : Tk) : (t.k = 2 ∧ t.opn = 1) ∨ (t.k = 3 ∧ t.opn = -1) ∨ (t.k ≠ 2 ∧ t.k ≠ 3 ∧ t.opn = 0) := by
  unfold Tk.opn
  by_cases h2 : t.k = 2
  · simp [h2]
  · by_cases h3 : t.k = 3
    · simp [h3]
    · simp [h2, h3]

/-- how many blocks are open behind the first i tokens. -/
def opN (l : List Tk) (i : Nat) : Int := ((l.take i).map Tk.opn).sum
theorem opN_zero (l : List Tk) : opN l 0 = 0 := by simp [opN]
theorem opN_succ {l : List Tk} {i : Nat} {t : Tk} (h : l[i]? = some t) : opN l (i + 1) = opN l i + t.opn := by
  unfold opN
  rw [List.take_add_one, h]
  simp
theorem opN_bd (l : List Tk) (i : Nat) : -(i : Int) ≤ opN l i ∧ opN l i ≤ (i : Int) := by
  induction i with
  | zero => simp [opN_zero]
  | succ i ih =>
    cases h : l[i]? with
    | none =>
      have : opN l (i + 1) = opN l i := by unfold opN; rw [List.take_add_one, h]; simp
      omega
    | some t =>
      rw [opN_succ h]
      rcases t.opn_cases with ⟨_, e⟩ | ⟨_, e⟩ | ⟨_, _, e⟩ <;> omega

/-- the first i tokens are as a stream's are. -/
def okN (l : List Tk) : Nat → Bool
  | 0 => true
  | i + 1 => okN l i && (match l[i]? with | some t => t.ok && (decide (0 ≤ opN l (i + 1)) && decide (opN l (i + 1) ≤ 12)) | none => true)
theorem okN_succ {l : List Tk} {i : Nat} {t : Tk} (h : l[i]? = some t) : okN l (i + 1) = (okN l i && (t.ok && (decide (0 ≤ opN l (i + 1)) && decide (opN l (i + 1) ≤ 12)))) := by
  simp only [okN, h]
theorem okN_mono {l : List Tk} {i j : Nat} (hij : i ≤ j) (h : okN l j = true) : okN l i = true := by
  induction hij with
  | refl => exact h
  | step _ ih => exact ih (by simp only [okN, Bool.and_eq_true] at h; exact h.1)
theorem okN_at {l : List Tk} {i j : Nat} {t : Tk} (h : okN l j = true) (hij : i < j) (ht : l[i]? = some t) : t.ok = true ∧ 0 ≤ opN l (i + 1) ∧ opN l (i + 1) ≤ 12 := by
  have := okN_mono (Nat.succ_le_of_lt hij) h
  rw [okN_succ ht] at this
  simp only [Bool.and_eq_true, decide_eq_true_eq] at this
  exact this.2
theorem okN_false {l : List Tk} {i j : Nat} (hij : i ≤ j) (h : okN l i = false) : okN l j = false := by
  cases hj : okN l j
  · rfl
  · rw [okN_mono hij hj] at h; exact h

def strB (l : List Tk) : Bool := decide (l.length ≤ 400) && (okN l l.length && decide (opN l l.length = 0))
theorem strB_long {l : List Tk} (h : 400 < l.length) : strB l = false := by simp [strB]; omega
theorem strB_bad {l : List Tk} {i : Nat} (hi : i ≤ l.length) (h : okN l i = false) : strB l = false := by
  simp [strB, okN_false hi h]
theorem strB_end {l : List Tk} (h4 : l.length ≤ 400) (h : okN l l.length = true) : strB l = decide (opN l l.length = 0) := by
  simp [strB, h4, h]
theorem strB_true {l : List Tk} (h : strB l = true) : l.length ≤ 400 ∧ okN l l.length = true ∧ opN l l.length = 0 := by
  simpa [strB] using h

/-- a step that is fine. -/
theorem okN_step {l : List Tk} {i : Nat} {t : Tk} (ht : l[i]? = some t) (h : okN l i = true) (h1 : t.ok = true) (h2 : 0 ≤ opN l i + t.opn) (h3 : opN l i + t.opn ≤ 12) : okN l (i + 1) = true := by
  rw [okN_succ ht, h, h1, opN_succ ht]; simp [h2, h3]
theorem okN_no {l : List Tk} {i : Nat} {t : Tk} (ht : l[i]? = some t) (h : t.ok = false ∨ opN l i + t.opn < 0 ∨ 12 < opN l i + t.opn) : okN l (i + 1) = false := by
  rw [okN_succ ht, opN_succ ht]
  rcases h with h | h | h
  · simp [h]
  · have : ¬ 0 ≤ opN l i + t.opn := by omega
    simp [this]
  · have : ¬ opN l i + t.opn ≤ 12 := by omega
    simp [this]
theorem okN_lo {l : List Tk} {i : Nat} (h : okN l i = true) (hi : i ≤ l.length) : 0 ≤ opN l i ∧ opN l i ≤ 12 := by
  cases i with
  | zero => simp [opN_zero]
  | succ i =>
    have ht : l[i]? = some l[i] := List.getElem?_eq_getElem (by omega)
    exact (okN_at h (Nat.lt_succ_self i) ht).2

/-- the level of place i. -/
def levI (l : List Tk) (i : Nat) : Int := min (opN l i) (opN l (i + 1))
theorem levI_eq {l : List Tk} {i : Nat} {t : Tk} (h : l[i]? = some t) : levI l i = if t.k = 3 then opN l i - 1 else opN l i := by
  unfold levI
  rw [opN_succ h]
  rcases t.opn_cases with ⟨h1, e⟩ | ⟨h1, e⟩ | ⟨h1, h2, e⟩
  · rw [e, if_neg (by omega)]; omega
  · rw [e, if_pos h1]; omega
  · rw [e, if_neg h2]; omega
def levs (l : List Tk) : List Int := (List.range l.length).map (levI l)
theorem levs_length (l : List Tk) : (levs l).length = l.length := by simp [levs]
/-- the greatest number of open blocks within the first i tokens. -/
def mxN (l : List Tk) : Nat → Int
  | 0 => 0
  | i + 1 => max (mxN l i) (opN l (i + 1))
theorem mxN_ge (l : List Tk) (i j : Nat) (h : j ≤ i) : opN l j ≤ mxN l i := by
  induction i with
  | zero => obtain rfl : j = 0 := by omega
            simp [mxN, opN_zero]
  | succ i ih =>
    simp only [mxN]
    by_cases e : j = i + 1
    · subst e; omega
    · have := ih (by omega); omega
theorem mxN_nonneg (l : List Tk) (i : Nat) : 0 ≤ mxN l i := by
  have := mxN_ge l i 0 (Nat.zero_le _); rwa [opN_zero] at this
theorem mxN_mem (l : List Tk) (i : Nat) : ∃ j, j ≤ i ∧ mxN l i = opN l j := by
  induction i with
  | zero => exact ⟨0, Nat.le_refl _, by simp [mxN, opN_zero]⟩
  | succ i ih =>
    obtain ⟨j, hj, e⟩ := ih
    simp only [mxN]
    by_cases h : mxN l i ≤ opN l (i + 1)
    · exact ⟨i + 1, Nat.le_refl _, by omega⟩
    · exact ⟨j, by omega, by omega⟩
theorem mxN_bd {l : List Tk} {i : Nat} (h : okN l i = true) (hi : i ≤ l.length) : mxN l i ≤ 12 := by
  obtain ⟨j, hj, e⟩ := mxN_mem l i
  rw [e]
  exact (okN_lo (okN_mono hj h) (by omega)).2
def depB (l : List Tk) : Int := if strB l = true then mxN l l.length else -1

end Go.Proofs.YthjkgbcomjiejadGreatDoor
