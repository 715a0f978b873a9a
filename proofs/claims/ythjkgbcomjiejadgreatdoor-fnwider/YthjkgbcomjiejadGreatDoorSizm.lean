/-
  Plain mathematics of sizes: the sum up to the next break of the level or a lower one, forwards as the model has it, by sums ahead and next breaks as the program has it.
-/
import Derived.Test.YthjkgbcomjiejadGreatDoorFnd
import Derived.Test.YthjkgbcomjiejadGreatDoorLaw1
namespace Go.Proofs.YthjkgbcomjiejadGreatDoor
open Go.RowKit
set_option linter.unusedVariables false

def Tk.wid (t : Tk) : Int := widB t.k t.s t.d t.o
def Tk.brk (t : Tk) : Bool := brkB t.k t.s t.d t.o
theorem Tk.wid_bd {t : Tk} (h : t.ok = true) : 0 ≤ t.wid ∧ t.wid ≤ 40 := by
  unfold Tk.wid widB
  rw [show tokB t.k t.s t.d t.o = true from h]
  rcases tokB_cases (show tokB t.k t.s t.d t.o = true from h) with ⟨hk, _, _, hx⟩ | ⟨hk, _, h1, h2⟩ | ⟨hk, _⟩ | ⟨hk, _⟩ | ⟨hk, _⟩
  · simp only [hk, if_true]
    have : t.s.size ≤ 40 := by
      unfold txtB at hx
      by_cases hc : 1 ≤ t.s.size ∧ t.s.size ≤ 40
      · exact hc.2
      · rw [dif_neg hc] at hx; cases hx
    omega
  · simp [hk]; have := inB_true.1 h1; omega
  · simp [hk]
  · simp [hk]
  · simp [hk]
/-- the width of a token, a line counted as 1000000. -/
def Tk.kw (t : Tk) : Int := if t.k = 4 then 1000000 else t.wid
theorem Tk.kw_bd {t : Tk} (h : t.ok = true) : 0 ≤ t.kw ∧ t.kw ≤ 1000000 := by
  have := t.wid_bd h
  unfold Tk.kw; split <;> omega
def smN (l : List Tk) (i : Nat) : Int := ((l.take i).map Tk.kw).sum
theorem smN_zero (l : List Tk) : smN l 0 = 0 := by simp [smN]
theorem smN_succ {l : List Tk} {i : Nat} {t : Tk} (h : l[i]? = some t) : smN l (i + 1) = smN l i + t.kw := by
  unfold smN
  rw [List.take_add_one, h]
  simp
theorem smN_mono {l : List Tk} (hok : okN l l.length = true) {i j : Nat} (hij : i ≤ j) (hj : j ≤ l.length) : smN l i ≤ smN l j := by
  induction hij with
  | refl => exact Int.le_refl _
  | @step m hm ih =>
    have hm' : m < l.length := by omega
    have ht : l[m]? = some l[m] := List.getElem?_eq_getElem hm'
    have := (l[m]).kw_bd (okN_at hok hm' ht).1
    have := ih (by omega)
    rw [smN_succ ht]; omega
theorem smN_bd {l : List Tk} (hok : okN l l.length = true) {i : Nat} (hi : i ≤ l.length) : 0 ≤ smN l i ∧ smN l i ≤ 1000000 * i := by
  induction i with
  | zero => simp [smN_zero]
  | succ i ih =>
    have hi' : i < l.length := by omega
    have ht : l[i]? = some l[i] := List.getElem?_eq_getElem hi'
    have := (l[i]).kw_bd (okN_at hok hi' ht).1
    have := ih (by omega)
    rw [smN_succ ht]; omega

/-- is place i a break whose level is at most L? -/
def brkAt (l : List Tk) (L : Int) (i : Nat) : Bool := match l[i]? with | some t => t.brk && decide (levI l i ≤ L) | none => false
theorem brkAt_eq {l : List Tk} {L : Int} {i : Nat} {t : Tk} (h : l[i]? = some t) : brkAt l L i = (t.brk && decide (levI l i ≤ L)) := by simp only [brkAt, h]
/-- the first such place from i on, of f places. -/
def stp (l : List Tk) (L : Int) : Nat → Nat → Nat
  | 0, i => i
  | f + 1, i => if brkAt l L i = true then i else stp l L f (i + 1)
def nx (l : List Tk) (L : Int) (i : Nat) : Nat := stp l L (l.length - i) i
theorem nx_end (l : List Tk) (L : Int) : nx l L l.length = l.length := by unfold nx; rw [Nat.sub_self]; rfl
theorem nx_step {l : List Tk} {L : Int} {i : Nat} (hi : i < l.length) : nx l L i = if brkAt l L i = true then i else nx l L (i + 1) := by
  unfold nx
  rw [show l.length - i = (l.length - (i + 1)) + 1 by omega, stp]
theorem stp_bd (l : List Tk) (L : Int) (f i : Nat) : i ≤ stp l L f i ∧ stp l L f i ≤ i + f := by
  induction f generalizing i with
  | zero => simp [stp]
  | succ f ih =>
    simp only [stp]
    split
    · omega
    · have := ih (i + 1); omega
theorem nx_bd {l : List Tk} (L : Int) {i : Nat} (hi : i ≤ l.length) : i ≤ nx l L i ∧ nx l L i ≤ l.length := by
  have := stp_bd l L (l.length - i) i
  unfold nx; omega

def kAt (l : List Tk) (i : Nat) : Int := match l[i]? with | some t => t.k | none => 0
def wAt (l : List Tk) (i : Nat) : Int := match l[i]? with | some t => t.wid | none => 0
theorem kAt_eq {l : List Tk} {i : Nat} {t : Tk} (h : l[i]? = some t) : kAt l i = t.k := by simp only [kAt, h]
theorem wAt_eq {l : List Tk} {i : Nat} {t : Tk} (h : l[i]? = some t) : wAt l i = t.wid := by simp only [wAt, h]
/-- the model's loop from i on, of f places, with the sum s. -/
def goS (l : List Tk) (L : Int) : Nat → Nat → Int → Int
  | 0, _, s => s
  | f + 1, i, s => if brkAt l L i = true then s else if kAt l i = 4 then 1000000 else goS l L f (i + 1) (s + wAt l i)
theorem goS_end (l : List Tk) (L : Int) (n : Nat) (s : Int) : goS l L (n - n) n s = s := by rw [Nat.sub_self]; rfl
theorem goS_brk {l : List Tk} {L : Int} {n i : Nat} {s : Int} (hi : i < n) (h : brkAt l L i = true) : goS l L (n - i) i s = s := by
  rw [show n - i = (n - (i + 1)) + 1 by omega, goS, if_pos h]
theorem goS_line {l : List Tk} {L : Int} {n i : Nat} {s : Int} {t : Tk} (hi : i < n) (ht : l[i]? = some t) (h : brkAt l L i = false) (h4 : t.k = 4) : goS l L (n - i) i s = 1000000 := by
  rw [show n - i = (n - (i + 1)) + 1 by omega, goS, if_neg (by rw [h]; simp), kAt_eq ht, if_pos h4]
theorem goS_next {l : List Tk} {L : Int} {n i : Nat} {s : Int} {t : Tk} (hi : i < n) (ht : l[i]? = some t) (h : brkAt l L i = false) (h4 : t.k ≠ 4) : goS l L (n - i) i s = goS l L (n - (i + 1)) (i + 1) (s + t.wid) := by
  rw [show n - i = (n - (i + 1)) + 1 by omega, goS, if_neg (by rw [h]; simp), kAt_eq ht, if_neg h4, wAt_eq ht]

/-- SizeAt of a stream at place k with token t. -/
def sizI (l : List Tk) (k : Nat) (t : Tk) : Int := if t.k = 2 ∨ t.k = 1 then goS l (levI l k) (l.length - (k + 1)) (k + 1) t.wid else t.wid
theorem goS_min {l : List Tk} (hS : strB l = true) (L : Int) (k : Nat) (f i : Nat) (s : Int) (hf : f = l.length - i) (hi : i ≤ l.length) (hki : k ≤ i) (hs : s = smN l i - smN l k) (hsb : s ≤ 40 * (i : Int)) :
    goS l L (l.length - i) i s = min 1000000 (smN l (nx l L i) - smN l k) := by
  obtain ⟨h4, hok, _⟩ := strB_true hS
  induction f generalizing i s with
  | zero =>
    obtain rfl : i = l.length := by omega
    rw [goS_end, nx_end, ← hs]; omega
  | succ f ih =>
    have hil : i < l.length := by omega
    have ht : l[i]? = some l[i] := List.getElem?_eq_getElem hil
    rw [nx_step hil]
    cases hb : brkAt l L i
    · rw [if_neg (by simp)]
      have hw := (l[i]).wid_bd (okN_at hok hil ht).1
      have hm := smN_succ ht
      have hnb := nx_bd L (show i + 1 ≤ l.length by omega)
      have hmono := smN_mono hok hnb.1 hnb.2
      have hmk := smN_mono hok hki hi
      by_cases h4' : (l[i]).k = 4
      · rw [goS_line hil ht hb h4']
        have : (l[i]).kw = 1000000 := if_pos h4'
        omega
      · rw [goS_next hil ht hb h4']
        have e : (l[i]).kw = (l[i]).wid := if_neg h4'
        exact ih (i + 1) _ (by omega) (by omega) (by omega) (by rw [hm, hs, e]; omega) (by omega)
    · rw [if_pos rfl, goS_brk hil hb, ← hs]; omega
theorem sizI_min {l : List Tk} (hS : strB l = true) {k : Nat} {t : Tk} (ht : l[k]? = some t) (hk : t.k = 2 ∨ t.k = 1) : sizI l k t = min 1000000 (smN l (nx l (levI l k) (k + 1)) - smN l k) := by
  have hkl : k < l.length := (List.getElem?_eq_some_iff.1 ht).1
  unfold sizI
  rw [if_pos hk]
  have hw := t.wid_bd (okN_at (strB_true hS).2.1 hkl ht).1
  exact goS_min hS _ k _ (k + 1) _ rfl (by omega) (by omega) (by rw [smN_succ ht, show t.kw = t.wid from if_neg (by omega)]; omega) (by omega)
def szs (l : List Tk) : List Int := (List.range l.length).map fun k => match l[k]? with | some t => sizI l k t | none => 0
theorem szs_length (l : List Tk) : (szs l).length = l.length := by simp [szs]
theorem szs_at {l : List Tk} {k : Nat} {t : Tk} (ht : l[k]? = some t) : (szs l)[k]? = some (sizI l k t) := by
  have hkl : k < l.length := (List.getElem?_eq_some_iff.1 ht).1
  simp only [szs, List.getElem?_map, List.getElem?_range hkl, Option.map_some, ht]
def szsB (l : List Tk) : List Int := if strB l = true then szs l else []
theorem szsB_yes {l : List Tk} (h : strB l = true) : szsB l = szs l := if_pos h
theorem szsB_no {l : List Tk} (h : strB l = false) : szsB l = [] := if_neg (by rw [h]; simp)
theorem szsB_le (l : List Tk) : (szsB l).length ≤ 400 := by
  cases h : strB l
  · rw [szsB_no h]; simp
  · rw [szsB_yes h, szs_length]; exact (strB_true h).1
def sizB (l : List Tk) (kk : Int) : Int := if 0 ≤ kk then ((szsB l)[kk.toNat]?).getD (-1) else -1
theorem sizB_no {l : List Tk} {kk : Int} (h : strB l = false ∨ kk < 0 ∨ (l.length : Int) ≤ kk) : sizB l kk = -1 := by
  unfold sizB
  by_cases h0 : 0 ≤ kk
  · rw [if_pos h0]
    have : (szsB l)[kk.toNat]? = none := by
      apply List.getElem?_eq_none
      cases hS : strB l
      · rw [szsB_no hS]; simp
      · rw [szsB_yes hS, szs_length]
        rcases h with h | h | h
        · rw [hS] at h; cases h
        · omega
        · omega
    rw [this]; rfl
  · rw [if_neg h0]
theorem sizB_yes {l : List Tk} {k : Nat} {t : Tk} (hS : strB l = true) (ht : l[k]? = some t) : sizB l (k : Int) = sizI l k t := by
  unfold sizB
  rw [if_pos (by omega), show ((k : Int)).toNat = k by omega, szsB_yes hS, szs_at ht]; rfl
end Go.Proofs.YthjkgbcomjiejadGreatDoor
