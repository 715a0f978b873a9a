/-
  Plain mathematics of streams: tokens, levels, depth, sizes and matches over a list. It imports nothing of the program.
-/
import Derived.Test.YthjkgbcomjiejaaGreatDoorKk01
namespace Go.Proofs.YthjkgbcomjiejaaGreatDoor
open Go.RowKit

theorem tokB_cases {k : Int} {s : ByteArray} {d o : Int} (h : tokB k s d o = true) :
    (k = 0 ∧ d = 0 ∧ o = 0 ∧ txtB s = true) ∨ (k = 1 ∧ s = ByteArray.empty ∧ inB d 0 9 = true ∧ inB o (-9) 9 = true) ∨
    (k = 2 ∧ s = ByteArray.empty ∧ (d = 0 ∨ d = 1) ∧ inB o 0 9 = true) ∨ (k = 3 ∧ s = ByteArray.empty ∧ d = 0 ∧ o = 0) ∨
    (k = 4 ∧ s = ByteArray.empty ∧ d = 0 ∧ inB o (-9) 9 = true) := by
  unfold tokB at h
  split at h
  · rename_i hk
    simp at h
    exact .inl ⟨hk, h.2.1, h.2.2, h.1⟩
  · split at h
    · simp at h
    · rename_i hs
      have he : s = ByteArray.empty := size_zero.1 (by omega)
      split at h
      · rename_i hk
        simp at h
        exact .inr (.inl ⟨hk, he, h.1, h.2⟩)
      · split at h
        · rename_i hk
          simp at h
          have h1 := inB_true.1 h.1
          exact .inr (.inr (.inl ⟨hk, he, by omega, h.2⟩))
        · split at h
          · rename_i hk
            simp at h
            exact .inr (.inr (.inr (.inl ⟨hk, he, h.1, h.2⟩)))
          · split at h
            · rename_i hk
              simp at h
              exact .inr (.inr (.inr (.inr ⟨hk, he, h.1, h.2⟩)))
            · simp at h

theorem toList_beq_false {a b : ByteArray} (h : a ≠ b) : (a.toList == b.toList) = false := by
  rw [toList_eq, toList_eq, beq_eq_false_iff_ne]
  intro hh
  apply h
  obtain ⟨⟨x⟩⟩ := a
  obtain ⟨⟨y⟩⟩ := b
  simp at hh
  subst hh
  rfl

theorem empty_ne {s : ByteArray} (h : s.size ≠ 0) : ByteArray.empty ≠ s := fun e => h (by rw [← e]; rfl)

/-- shapeOf is true, with some shape, just where the token is right. -/
def ShapeOut (b : Bool) (w : World) (e : Ending) (w' : World) : Prop := ∃ v : Value, e = .returned (.tuple #[v, .bool b]) ∧ Below w.heap.size w w'
end Go.Proofs.YthjkgbcomjiejaaGreatDoor
namespace Go.Proofs.YthjkgbcomjiejaaGreatDoor
open Go.RowKit

/-- what is left when n more are counted. -/
def szV (left : Int) (n : Nat) : Int := if left < (n : Int) then -1 else left - n
def widB (k : Int) (s : ByteArray) (d o : Int) : Int := if tokB k s d o = true then (if k = 0 then s.size else if k = 1 then d else 0) else -1
def brkB (k : Int) (s : ByteArray) (d o : Int) : Bool := tokB k s d o && (decide (k = 1) || decide (k = 4))

end Go.Proofs.YthjkgbcomjiejaaGreatDoor
namespace Go.Proofs.YthjkgbcomjiejaaGreatDoor
open Go.RowKit

/-- The token and true, or the zero value and false. -/
def madeV (k : Int) (s : ByteArray) (d o : Int) : Value := if tokB k s d o = true then .agg #[.int .i64 k, .string s, .int .i64 d, .int .i64 o] else .agg #[.int .i64 0, .string ByteArray.empty, .int .i64 0, .int .i64 0]
theorem madeV_yes {k : Int} {s : ByteArray} {d o : Int} (h : tokB k s d o = true) : madeV k s d o = .agg #[.int .i64 k, .string s, .int .i64 d, .int .i64 o] := if_pos h
theorem madeV_no {k : Int} {s : ByteArray} {d o : Int} (h : tokB k s d o = false) : madeV k s d o = .agg #[.int .i64 0, .string ByteArray.empty, .int .i64 0, .int .i64 0] := if_neg (by simp [h])

theorem below4 {B b : Nat} {a w : World} {v0 v1 v2 v3 : Value} (h : Below B a w) (hb : B ≤ b) :
    Below B a ((((w.setCell ⟨b, 0, none⟩ v0).setCell ⟨b, 1, none⟩ v1).setCell ⟨b, 2, none⟩ v2).setCell ⟨b, 3, none⟩ v3) :=
  (((h.setCell hb _).setCell hb _).setCell hb _).setCell hb _

theorem bcell {W w1 : World} (hb : Below W.heap.size W w1) : (∀ b o, b < W.heap.size → w1.cell? ⟨b, o, none⟩ = W.cell? ⟨b, o, none⟩) ∧ (∀ b o, b < W.heap.size → w1.frozen? ⟨b, o, none⟩ = W.frozen? ⟨b, o, none⟩) :=
  ⟨fun b o h => hb.cell (p := ⟨b, o, none⟩) h, fun b o h => hb.frozen (p := ⟨b, o, none⟩) h⟩

end Go.Proofs.YthjkgbcomjiejaaGreatDoor
namespace Go.Proofs.YthjkgbcomjiejaaGreatDoor
open Go.RowKit

structure Tk where
  k : Int
  s : ByteArray
  d : Int
  o : Int

def Tk.ok (t : Tk) : Bool := tokB t.k t.s t.d t.o
def Tk.opn (t : Tk) : Int := if t.k = 2 then 1 else if t.k = 3 then -1 else 0
theorem Tk.opn_cases (t : Tk) : (t.k = 2 ∧ t.opn = 1) ∨ (t.k = 3 ∧ t.opn = -1) ∨ (t.k ≠ 2 ∧ t.k ≠ 3 ∧ t.opn = 0) := by
  unfold Tk.opn
  by_cases h2 : t.k = 2
  · simp [h2]
  · by_cases h3 : t.k = 3
    · simp [h3]
    · simp [h2, h3]

/-- how many blocks are open behind the first i tokens. -/
def opN (l : List Tk) (i : Nat) : Int := ((l.take i).map Tk.opn).sum
theorem opN_zero (l : List Tk) : opN l 0 = 0 := by simp [opN]
theorem opN_succ {l : List Tk} {i : Nat} {t : Tk} (h : l[i]? = some t) : opN l (i + 1) = opN l i + t.opn := by
  unfold opN
  rw [List.take_add_one, h]
  simp
theorem opN_bd (l : List Tk) (i : Nat) : -(i : Int) ≤ opN l i ∧ opN l i ≤ (i : Int) := by
  induction i with
  | zero => simp [opN_zero]
  | succ i ih =>
    cases h : l[i]? with
    | none =>
      have : opN l (i + 1) = opN l i := by unfold opN; rw [List.take_add_one, h]; simp
      omega
    | some t =>
      rw [opN_succ h]
      rcases t.opn_cases with ⟨_, e⟩ | ⟨_, e⟩ | ⟨_, _, e⟩ <;> omega

/-- the first i tokens are as a stream's are. -/
def okN (l : List Tk) : Nat → Bool
  | 0 => true
  | i + 1 => okN l i && (match l[i]? with | some t => t.ok && (decide (0 ≤ opN l (i + 1)) && decide (opN l (i + 1) ≤ 12)) | none => true)
theorem okN_succ {l : List Tk} {i : Nat} {t : Tk} (h : l[i]? = some t) : okN l (i + 1) = (okN l i && (t.ok && (decide (0 ≤ opN l (i + 1)) && decide (opN l (i + 1) ≤ 12)))) := by
  simp only [okN, h]
theorem okN_mono {l : List Tk} {i j : Nat} (hij : i ≤ j) (h : okN l j = true) : okN l i = true := by
  induction hij with
  | refl => exact h
  | step _ ih => exact ih (by simp only [okN, Bool.and_eq_true] at h; exact h.1)
theorem okN_at {l : List Tk} {i j : Nat} {t : Tk} (h : okN l j = true) (hij : i < j) (ht : l[i]? = some t) : t.ok = true ∧ 0 ≤ opN l (i + 1) ∧ opN l (i + 1) ≤ 12 := by
  have := okN_mono (Nat.succ_le_of_lt hij) h
  rw [okN_succ ht] at this
  simp only [Bool.and_eq_true, decide_eq_true_eq] at this
  exact this.2
theorem okN_false {l : List Tk} {i j : Nat} (hij : i ≤ j) (h : okN l i = false) : okN l j = false := by
  cases hj : okN l j
  · rfl
  · rw [okN_mono hij hj] at h; exact h

def strB (l : List Tk) : Bool := decide (l.length ≤ 400) && (okN l l.length && decide (opN l l.length = 0))
theorem strB_long {l : List Tk} (h : 400 < l.length) : strB l = false := by simp [strB]; omega
theorem strB_bad {l : List Tk} {i : Nat} (hi : i ≤ l.length) (h : okN l i = false) : strB l = false := by
  simp [strB, okN_false hi h]
theorem strB_end {l : List Tk} (h4 : l.length ≤ 400) (h : okN l l.length = true) : strB l = decide (opN l l.length = 0) := by
  simp [strB, h4, h]
theorem strB_true {l : List Tk} (h : strB l = true) : l.length ≤ 400 ∧ okN l l.length = true ∧ opN l l.length = 0 := by
  simpa [strB] using h

/-- a step that is fine. -/
theorem okN_step {l : List Tk} {i : Nat} {t : Tk} (ht : l[i]? = some t) (h : okN l i = true) (h1 : t.ok = true) (h2 : 0 ≤ opN l i + t.opn) (h3 : opN l i + t.opn ≤ 12) : okN l (i + 1) = true := by
  rw [okN_succ ht, h, h1, opN_succ ht]; simp [h2, h3]
theorem okN_no {l : List Tk} {i : Nat} {t : Tk} (ht : l[i]? = some t) (h : t.ok = false ∨ opN l i + t.opn < 0 ∨ 12 < opN l i + t.opn) : okN l (i + 1) = false := by
  rw [okN_succ ht, opN_succ ht]
  rcases h with h | h | h
  · simp [h]
  · have : ¬ 0 ≤ opN l i + t.opn := by omega
    simp [this]
  · have : ¬ opN l i + t.opn ≤ 12 := by omega
    simp [this]
theorem okN_lo {l : List Tk} {i : Nat} (h : okN l i = true) (hi : i ≤ l.length) : 0 ≤ opN l i ∧ opN l i ≤ 12 := by
  cases i with
  | zero => simp [opN_zero]
  | succ i =>
    have ht : l[i]? = some l[i] := List.getElem?_eq_getElem (by omega)
    exact (okN_at h (Nat.lt_succ_self i) ht).2

/-- the level of place i. -/
def levI (l : List Tk) (i : Nat) : Int := min (opN l i) (opN l (i + 1))
theorem levI_eq {l : List Tk} {i : Nat} {t : Tk} (h : l[i]? = some t) : levI l i = if t.k = 3 then opN l i - 1 else opN l i := by
  unfold levI
  rw [opN_succ h]
  rcases t.opn_cases with ⟨h1, e⟩ | ⟨h1, e⟩ | ⟨h1, h2, e⟩
  · rw [e, if_neg (by omega)]; omega
  · rw [e, if_pos h1]; omega
  · rw [e, if_neg h2]; omega
def levs (l : List Tk) : List Int := (List.range l.length).map (levI l)
theorem levs_length (l : List Tk) : (levs l).length = l.length := by simp [levs]
/-- the greatest number of open blocks within the first i tokens. -/
def mxN (l : List Tk) : Nat → Int
  | 0 => 0
  | i + 1 => max (mxN l i) (opN l (i + 1))
theorem mxN_ge (l : List Tk) (i j : Nat) (h : j ≤ i) : opN l j ≤ mxN l i := by
  induction i with
  | zero => obtain rfl : j = 0 := by omega
            simp [mxN, opN_zero]
  | succ i ih =>
    simp only [mxN]
    by_cases e : j = i + 1
    · subst e; omega
    · have := ih (by omega); omega
theorem mxN_nonneg (l : List Tk) (i : Nat) : 0 ≤ mxN l i := by
  have := mxN_ge l i 0 (Nat.zero_le _); rwa [opN_zero] at this
theorem mxN_mem (l : List Tk) (i : Nat) : ∃ j, j ≤ i ∧ mxN l i = opN l j := by
  induction i with
  | zero => exact ⟨0, Nat.le_refl _, by simp [mxN, opN_zero]⟩
  | succ i ih =>
    obtain ⟨j, hj, e⟩ := ih
    simp only [mxN]
    by_cases h : mxN l i ≤ opN l (i + 1)
    · exact ⟨i + 1, Nat.le_refl _, by omega⟩
    · exact ⟨j, by omega, by omega⟩
theorem mxN_bd {l : List Tk} {i : Nat} (h : okN l i = true) (hi : i ≤ l.length) : mxN l i ≤ 12 := by
  obtain ⟨j, hj, e⟩ := mxN_mem l i
  rw [e]
  exact (okN_lo (okN_mono hj h) (by omega)).2
def depB (l : List Tk) : Int := if strB l = true then mxN l l.length else -1

end Go.Proofs.YthjkgbcomjiejaaGreatDoor
