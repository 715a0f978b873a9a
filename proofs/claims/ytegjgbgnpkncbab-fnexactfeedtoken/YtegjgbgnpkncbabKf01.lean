/-
  Plain mathematics of streams: tokens, levels, depth, sizes and matches over a list. It imports nothing of the program.
-/
import Derived.WalkKit
namespace Go.Proofs.Ytegjgbgnpkncbab
open Go.RowKit

/-- low to high, both within. -/
def inB (x lo hi : Int) : Bool := decide (lo ≤ x) && decide (x ≤ hi)
theorem inB_true {x lo hi : Int} : inB x lo hi = true ↔ lo ≤ x ∧ x ≤ hi := by simp [inB]
theorem inB_false {x lo hi : Int} : inB x lo hi = false ↔ x < lo ∨ hi < x := by
  rw [← Bool.not_eq_true, inB_true]; omega

/-- the first k bytes are all of 32 .. 126. -/
def prN (s : ByteArray) (k : Nat) : Bool := (s.data.toList.take k).all fun c => decide (32 ≤ (c.toNat : Int)) && decide ((c.toNat : Int) ≤ 126)
theorem prN_zero (s : ByteArray) : prN s 0 = true := by simp [prN]
theorem take_snoc (s : ByteArray) (k : Nat) (h : k < s.size) : s.data.toList.take (k + 1) = s.data.toList.take k ++ [s[k]] := by
  rw [List.take_succ_eq_append_getElem (by simpa using h)]; rfl
theorem prN_succ (s : ByteArray) (k : Nat) (h : k < s.size) : prN s (k + 1) = (prN s k && (decide (32 ≤ (s[k].toNat : Int)) && decide ((s[k].toNat : Int) ≤ 126))) := by
  simp only [prN, take_snoc s k h, List.all_append, List.all_cons, List.all_nil, Bool.and_true]
theorem prN_step (s : ByteArray) (k : Nat) (h : k < s.size) (hp : prN s k = true) (h1 : 32 ≤ (s[k].toNat : Int)) (h2 : (s[k].toNat : Int) ≤ 126) : prN s (k + 1) = true := by
  rw [prN_succ s k h, hp]; simp; omega
theorem prN_bad (s : ByteArray) (k : Nat) (h : k < s.size) (hb : (s[k].toNat : Int) < 32 ∨ 126 < (s[k].toNat : Int)) : prN s s.size = false := by
  have : ¬ (prN s s.size = true) := by
    intro ht
    simp only [prN, List.all_eq_true] at ht
    have hm : s[k] ∈ s.data.toList.take s.size := by
      rw [List.take_of_length_le (by simp)]
      exact List.getElem_mem (l := s.data.toList) (by simpa using h)
    have := ht _ hm
    simp at this
    omega
  simpa using this

/-- what a Text must be. -/
def txtB (s : ByteArray) : Bool :=
  if h : 1 ≤ s.size ∧ s.size ≤ 40 then !((s[0].toNat : Int) == 32) && (!((s[s.size - 1].toNat : Int) == 32) && prN s s.size) else false

/-- TokenOk of Kind k, Text s, Width d, Off o. -/
def tokB (k : Int) (s : ByteArray) (d o : Int) : Bool :=
  if k = 0 then txtB s && (decide (d = 0) && decide (o = 0))
  else if s.size ≠ 0 then false
  else if k = 1 then inB d 0 9 && inB o (-9) 9
  else if k = 2 then inB d 0 1 && inB o 0 9
  else if k = 3 then decide (d = 0) && decide (o = 0)
  else if k = 4 then decide (d = 0) && inB o (-9) 9
  else false

theorem size_zero {s : ByteArray} : s.size = 0 ↔ s = ByteArray.empty := by
  constructor
  · intro h
    obtain ⟨⟨l⟩⟩ := s
    have : l = [] := by simpa [ByteArray.size] using h
    subst this; rfl
  · intro h; subst h; rfl

theorem toList_eq (s : ByteArray) : s.toList = s.data.toList := ByteArray.toList_eq s
theorem ne_isEmpty {s : ByteArray} (h : s.size ≠ 0) : (!s.toList.isEmpty) = true := by
  rw [toList_eq]
  obtain ⟨⟨l⟩⟩ := s
  cases l
  · exact absurd rfl h
  · rfl

/-- a byte of 32 .. 126. -/
def okC (c : UInt8) : Bool := decide (32 ≤ (c.toNat : Int)) && decide ((c.toNat : Int) ≤ 126)
/-- the place of the first byte that is none of 32 .. 126; -1 when there is none. -/
def fbI (s : ByteArray) : Int := if prN s s.size then -1 else ((s.data.toList.takeWhile okC).length : Int)
theorem fbI_none {s : ByteArray} (h : prN s s.size = true) : fbI s = -1 := by rw [fbI, if_pos h]
theorem takeWhile_len {l : List UInt8} {p : UInt8 → Bool} {k : Nat} (hk : k < l.length) (ha : (l.take k).all p = true) (hb : p l[k] = false) : (l.takeWhile p).length = k := by
  have e : l = l.take k ++ l[k] :: l.drop (k + 1) := by rw [← List.drop_eq_getElem_cons hk, List.take_append_drop]
  have h2 : (l.take k ++ l[k] :: l.drop (k + 1)).takeWhile p = l.take k := by
    rw [List.takeWhile_append_of_pos (by simpa [List.all_eq_true] using ha), List.takeWhile_cons_of_neg (by simp [hb]), List.append_nil]
  rw [← e] at h2
  rw [h2]; simp; omega
theorem fbI_at {s : ByteArray} {k : Nat} (hk : k < s.size) (hp : prN s k = true) (hb : (s[k].toNat : Int) < 32 ∨ 126 < (s[k].toNat : Int)) : fbI s = k := by
  rw [fbI, prN_bad s k hk hb, if_neg (by simp), takeWhile_len (p := okC) (k := k) (by simpa using hk) hp]
  show okC s[k] = false
  simp [okC]; omega
theorem fbI_neg (s : ByteArray) : decide (fbI s < 0) = prN s s.size := by
  unfold fbI; split
  · rename_i h; simp [h]
  · rename_i h; simp at h; simp [h]

end Go.Proofs.Ytegjgbgnpkncbab
namespace Go.Proofs.Ytegjgbgnpkncbab
open Go.RowKit

structure Tk where
  k : Int
  s : ByteArray
  d : Int
  o : Int

def Tk.ok (t : Tk) : Bool := tokB t.k t.s t.d t.o
def Tk.opn (t : Tk) : Int := if t.k = 2 then 1 else if t.k = 3 then -1 else 0
theorem Tk.opn_cases (t : Tk) : (t.k = 2 ∧ t.opn = 1) ∨ (t.k = 3 ∧ t.opn = -1) ∨ (t.k ≠ 2 ∧ t.k ≠ 3 ∧ t.opn = 0) := by
  unfold Tk.opn
  by_cases h2 : t.k = 2
  · simp [h2]
  · by_cases h3 : t.k = 3
    · simp [h3]
    · simp [h2, h3]

/-- how many blocks are open behind the first i tokens. -/
def opN (l : List Tk) (i : Nat) : Int := ((l.take i).map Tk.opn).sum
theorem opN_zero (l : List Tk) : opN l 0 = 0 := by simp [opN]
theorem opN_succ {l : List Tk} {i : Nat} {t : Tk} (h : l[i]? = some t) : opN l (i + 1) = opN l i + t.opn := by
  unfold opN
  rw [List.take_add_one, h]
  simp
theorem opN_bd (l : List Tk) (i : Nat) : -(i : Int) ≤ opN l i ∧ opN l i ≤ (i : Int) := by
  induction i with
  | zero => simp [opN_zero]
  | succ i ih =>
    cases h : l[i]? with
    | none =>
      have : opN l (i + 1) = opN l i := by unfold opN; rw [List.take_add_one, h]; simp
      omega
    | some t =>
      rw [opN_succ h]
      rcases t.opn_cases with ⟨_, e⟩ | ⟨_, e⟩ | ⟨_, _, e⟩ <;> omega

/-- the first i tokens are as a stream's are. -/
def okN (l : List Tk) : Nat → Bool
  | 0 => true
  | i + 1 => okN l i && (match l[i]? with | some t => t.ok && (decide (0 ≤ opN l (i + 1)) && decide (opN l (i + 1) ≤ 12)) | none => true)
theorem okN_succ {l : List Tk} {i : Nat} {t : Tk} (h : l[i]? = some t) : okN l (i + 1) = (okN l i && (t.ok && (decide (0 ≤ opN l (i + 1)) && decide (opN l (i + 1) ≤ 12)))) := by
  simp only [okN, h]
theorem okN_mono {l : List Tk} {i j : Nat} (hij : i ≤ j) (h : okN l j = true) : okN l i = true := by
  induction hij with
  | refl => exact h
  | step _ ih => exact ih (by simp only [okN, Bool.and_eq_true] at h; exact h.1)
theorem okN_at {l : List Tk} {i j : Nat} {t : Tk} (h : okN l j = true) (hij : i < j) (ht : l[i]? = some t) : t.ok = true ∧ 0 ≤ opN l (i + 1) ∧ opN l (i + 1) ≤ 12 := by
  have := okN_mono (Nat.succ_le_of_lt hij) h
  rw [okN_succ ht] at this
  simp only [Bool.and_eq_true, decide_eq_true_eq] at this
  exact this.2
theorem okN_false {l : List Tk} {i j : Nat} (hij : i ≤ j) (h : okN l i = false) : okN l j = false := by
  cases hj : okN l j
  · rfl
  · rw [okN_mono hij hj] at h; exact h

def strB (l : List Tk) : Bool := decide (l.length ≤ 400) && (okN l l.length && decide (opN l l.length = 0))
theorem strB_long {l : List Tk} (h : 400 < l.length) : strB l = false := by simp [strB]; omega
theorem strB_bad {l : List Tk} {i : Nat} (hi : i ≤ l.length) (h : okN l i = false) : strB l = false := by
  simp [strB, okN_false hi h]
theorem strB_end {l : List Tk} (h4 : l.length ≤ 400) (h : okN l l.length = true) : strB l = decide (opN l l.length = 0) := by
  simp [strB, h4, h]
theorem strB_true {l : List Tk} (h : strB l = true) : l.length ≤ 400 ∧ okN l l.length = true ∧ opN l l.length = 0 := by
  simpa [strB] using h

/-- a step that is fine. -/
theorem okN_step {l : List Tk} {i : Nat} {t : Tk} (ht : l[i]? = some t) (h : okN l i = true) (h1 : t.ok = true) (h2 : 0 ≤ opN l i + t.opn) (h3 : opN l i + t.opn ≤ 12) : okN l (i + 1) = true := by
  rw [okN_succ ht, h, h1, opN_succ ht]; simp [h2, h3]
theorem okN_no {l : List Tk} {i : Nat} {t : Tk} (ht : l[i]? = some t) (h : t.ok = false ∨ opN l i + t.opn < 0 ∨ 12 < opN l i + t.opn) : okN l (i + 1) = false := by
  rw [okN_succ ht, opN_succ ht]
  rcases h with h | h | h
  · simp [h]
  · have : ¬ 0 ≤ opN l i + t.opn := by omega
    simp [this]
  · have : ¬ opN l i + t.opn ≤ 12 := by omega
    simp [this]
theorem okN_lo {l : List Tk} {i : Nat} (h : okN l i = true) (hi : i ≤ l.length) : 0 ≤ opN l i ∧ opN l i ≤ 12 := by
  cases i with
  | zero => simp [opN_zero]
  | succ i =>
    have ht : l[i]? = some l[i] := List.getElem?_eq_getElem (by omega)
    exact (okN_at h (Nat.lt_succ_self i) ht).2

/-- the level of place i. -/
def levI (l : List Tk) (i : Nat) : Int := min (opN l i) (opN l (i + 1))
theorem levI_eq {l : List Tk} {i : Nat} {t : Tk} (h : l[i]? = some t) : levI l i = if t.k = 3 then opN l i - 1 else opN l i := by
  unfold levI
  rw [opN_succ h]
  rcases t.opn_cases with ⟨h1, e⟩ | ⟨h1, e⟩ | ⟨h1, h2, e⟩
  · rw [e, if_neg (by omega)]; omega
  · rw [e, if_pos h1]; omega
  · rw [e, if_neg h2]; omega
def levs (l : List Tk) : List Int := (List.range l.length).map (levI l)
theorem levs_length (l : List Tk) : (levs l).length = l.length := by simp [levs]
/-- the greatest number of open blocks within the first i tokens. -/
def mxN (l : List Tk) : Nat → Int
  | 0 => 0
  | i + 1 => max (mxN l i) (opN l (i + 1))
theorem mxN_ge (l : List Tk) (i j : Nat) (h : j ≤ i) : opN l j ≤ mxN l i := by
  induction i with
  | zero => obtain rfl : j = 0 := by omega
            simp [mxN, opN_zero]
  | succ i ih =>
    simp only [mxN]
    by_cases e : j = i + 1
    · subst e; omega
    · have := ih (by omega); omega
theorem mxN_nonneg (l : List Tk) (i : Nat) : 0 ≤ mxN l i := by
  have := mxN_ge l i 0 (Nat.zero_le _); rwa [opN_zero] at this
theorem mxN_mem (l : List Tk) (i : Nat) : ∃ j, j ≤ i ∧ mxN l i = opN l j := by
  induction i with
  | zero => exact ⟨0, Nat.le_refl _, by simp [mxN, opN_zero]⟩
  | succ i ih =>
    obtain ⟨j, hj, e⟩ := ih
    simp only [mxN]
    by_cases h : mxN l i ≤ opN l (i + 1)
    · exact ⟨i + 1, Nat.le_refl _, by omega⟩
    · exact ⟨j, by omega, by omega⟩
theorem mxN_bd {l : List Tk} {i : Nat} (h : okN l i = true) (hi : i ≤ l.length) : mxN l i ≤ 12 := by
  obtain ⟨j, hj, e⟩ := mxN_mem l i
  rw [e]
  exact (okN_lo (okN_mono hj h) (by omega)).2
def depB (l : List Tk) : Int := if strB l = true then mxN l l.length else -1

end Go.Proofs.Ytegjgbgnpkncbab
