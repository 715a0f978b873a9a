/-
  The part of a tree that stands in a node: where it ends, and how it is walked child by child. Plain mathematics.
-/
import Derived.Test.YthjkgbcomjiejaaGreatDoorKk20
namespace Go.Proofs.YthjkgbcomjiejaaGreatDoor
open Go.RowKit
set_option linter.unusedVariables false

/-- the first place behind i that is not in it. -/
def endp (l : List Nd) (i : Nat) : Nat := i + 1 + fst (fun j => decide (dep l (i + 1 + j) ≤ dep l i)) (l.length - i)
theorem endp_gt (l : List Nd) (i : Nat) : i < endp l i := by unfold endp; omega
theorem endp_le {l : List Nd} {i : Nat} (hi : i ≤ l.length) : endp l i ≤ l.length + 1 := by
  have := fst_le (fun j => decide (dep l (i + 1 + j) ≤ dep l i)) (l.length - i)
  unfold endp; omega
theorem endp_in {l : List Nd} {i m : Nat} (h1 : i < m) (h2 : m < endp l i) : dep l i < dep l m := by
  unfold endp at h2
  have := fst_before (p := fun j => decide (dep l (i + 1 + j) ≤ dep l i)) (n := l.length - i) (k := m - (i + 1)) (by omega)
  simp only [decide_eq_false_iff_not] at this
  rw [show i + 1 + (m - (i + 1)) = m by omega] at this
  omega
theorem endp_out {l : List Nd} {i : Nat} (h : endp l i ≤ l.length) : dep l (endp l i) ≤ dep l i := by
  have := fst_yes (p := fun j => decide (dep l (i + 1 + j) ≤ dep l i)) (n := l.length - i) (by unfold endp at h; omega)
  simpa [endp] using this
theorem endp_is {l : List Nd} {i e : Nat} (h1 : i < e) (h2 : e ≤ l.length + 1) (h3 : ∀ m, i < m → m < e → dep l i < dep l m) (h4 : e ≤ l.length → dep l e ≤ dep l i) : endp l i = e := by
  have hi : i ≤ l.length := by omega
  rcases Nat.lt_trichotomy (endp l i) e with h | h | h
  · have := endp_out (l := l) (i := i) (by omega)
    have := h3 _ (endp_gt l i) h
    omega
  · exact h
  · have := endp_in h1 h
    have := h4 (by have := endp_le hi; omega)
    omega
theorem kids_gap {l : List Nd} {i a : Nat} : ∀ b, a ≤ b → (∀ y, a ≤ y → y < b → par l y ≠ i) → kidsN l i b = kidsN l i a := by
  intro b hab
  induction hab with
  | refl => intro _; rfl
  | @step b hb ih =>
    intro h
    rw [kidsN_no (h b hb (Nat.lt_succ_self b))]
    exact ih fun y h1 h2 => h y h1 (by omega)
theorem kids_pre {l : List Nd} {i a : Nat} : ∀ b, a ≤ b → ∃ r, kidsN l i b = kidsN l i a ++ r := by
  intro b hab
  induction hab with
  | refl => exact ⟨[], by simp⟩
  | @step b hb ih =>
    obtain ⟨r, hr⟩ := ih
    by_cases h : par l b = i
    · exact ⟨r ++ [b], by rw [kidsN_yes h, hr, List.append_assoc]⟩
    · exact ⟨r, by rw [kidsN_no h, hr]⟩
theorem kids_at {l : List Nd} {i a n : Nat} (ha : a < n) (h : par l a = i) : (kidsN l i n)[(kidsN l i a).length]? = some a := by
  obtain ⟨r, hr⟩ := kids_pre (l := l) (i := i) (a := a + 1) n (by omega)
  rw [hr, kidsN_yes h]
  simp
section
variable {l : List Nd} (hup : UpTo l l.length)
include hup
theorem UpTo.dep0 {y : Nat} (hy : y < l.length) : 0 ≤ Go.Proofs.YthjkgbcomjiejaaGreatDoor.dep l (y + 1) := by
  obtain ⟨⟨x, hx, hn⟩, _⟩ := hup y hy
  rw [dep_succ hx]
  exact (nodB_bd hn).2.1
theorem UpTo.par_iff {i y : Nat} (hy : y < l.length) : par l y = i ↔ i ≤ y ∧ Go.Proofs.YthjkgbcomjiejaaGreatDoor.dep l (y + 1) = Go.Proofs.YthjkgbcomjiejaaGreatDoor.dep l i + 1 ∧ ∀ m, i < m → m ≤ y → Go.Proofs.YthjkgbcomjiejaaGreatDoor.dep l i < Go.Proofs.YthjkgbcomjiejaaGreatDoor.dep l m :=
  Go.Proofs.YthjkgbcomjiejaaGreatDoor.par_iff (hup.dep0 hy) (hup y hy).2
/-- ahead of the first child. -/
theorem UpTo.first {i : Nat} (hi : i ≤ l.length) : (i < l.length ∧ par l i = i) ∨ (kidsN l i l.length = [] ∧ endp l i = i + 1) := by
  by_cases h : i < l.length ∧ Go.Proofs.YthjkgbcomjiejaaGreatDoor.dep l i < Go.Proofs.YthjkgbcomjiejaaGreatDoor.dep l (i + 1)
  · exact .inl ⟨h.1, climb_stop h.2⟩
  · right
    have hs : i + 1 ≤ l.length → Go.Proofs.YthjkgbcomjiejaaGreatDoor.dep l (i + 1) ≤ Go.Proofs.YthjkgbcomjiejaaGreatDoor.dep l i := fun h1 => by
      have : ¬ Go.Proofs.YthjkgbcomjiejaaGreatDoor.dep l i < Go.Proofs.YthjkgbcomjiejaaGreatDoor.dep l (i + 1) := fun h2 => h ⟨by omega, h2⟩
      omega
    refine ⟨?_, endp_is (by omega) (by omega) (fun m h1 h2 => by omega) hs⟩
    rw [kids_gap (l := l) (i := i) (a := i) l.length hi ?_, kidsN_low]
    intro y h1 h2 e
    obtain ⟨_, h4, h5⟩ := (hup.par_iff h2).1 e
    have h6 := hs (by omega)
    by_cases hy : y = i
    · subst hy; omega
    · have := h5 (i + 1) (by omega) (by omega); omega
/-- behind one child: the next, or the end. -/
theorem UpTo.next {i a : Nat} (ha : a < l.length) (hp : par l a = i) :
    kidsN l i (endp l (a + 1) - 1) = kidsN l i (a + 1) ∧ ((endp l (a + 1) - 1 < l.length ∧ par l (endp l (a + 1) - 1) = i) ∨ (kidsN l i (endp l (a + 1) - 1) = kidsN l i l.length ∧ endp l (a + 1) = endp l i)) := by
  obtain ⟨hia, hd, hb⟩ := (hup.par_iff ha).1 hp
  have hgt := endp_gt l (a + 1)
  have hle := endp_le (l := l) (i := a + 1) (by omega)
  have hin : ∀ m, a + 1 < m → m < endp l (a + 1) → Go.Proofs.YthjkgbcomjiejaaGreatDoor.dep l (a + 1) < Go.Proofs.YthjkgbcomjiejaaGreatDoor.dep l m := fun m h1 h2 => endp_in h1 h2
  have hout : endp l (a + 1) ≤ l.length → Go.Proofs.YthjkgbcomjiejaaGreatDoor.dep l (endp l (a + 1)) ≤ Go.Proofs.YthjkgbcomjiejaaGreatDoor.dep l (a + 1) := endp_out
  generalize endp l (a + 1) = e at *
  have hall : ∀ m, i < m → m < e → Go.Proofs.YthjkgbcomjiejaaGreatDoor.dep l i < Go.Proofs.YthjkgbcomjiejaaGreatDoor.dep l m := by
    intro m h1 h2
    by_cases h3 : m ≤ a
    · exact hb m h1 h3
    · by_cases h4 : m = a + 1
      · subst h4; omega
      · have := hin m (by omega) h2; omega
  have hgap : kidsN l i (e - 1) = kidsN l i (a + 1) := by
    refine kids_gap (e - 1) (by omega) fun y h1 h2 h3 => ?_
    have := ((hup.par_iff (y := y) (by omega)).1 h3).2.1
    have := hin (y + 1) (by omega) (by omega)
    omega
  refine ⟨hgap, ?_⟩
  by_cases h : e ≤ l.length ∧ Go.Proofs.YthjkgbcomjiejaaGreatDoor.dep l e = Go.Proofs.YthjkgbcomjiejaaGreatDoor.dep l i + 1
  · left
    refine ⟨by omega, (hup.par_iff (by omega)).2 ⟨by omega, ?_, fun m h1 h2 => hall m h1 (by omega)⟩⟩
    rw [show e - 1 + 1 = e by omega]
    exact h.2
  · right
    have hs : e ≤ l.length → Go.Proofs.YthjkgbcomjiejaaGreatDoor.dep l e ≤ Go.Proofs.YthjkgbcomjiejaaGreatDoor.dep l i := fun h1 => by
      have := hout h1
      have : ¬ Go.Proofs.YthjkgbcomjiejaaGreatDoor.dep l e = Go.Proofs.YthjkgbcomjiejaaGreatDoor.dep l i + 1 := fun h2 => h ⟨h1, h2⟩
      omega
    refine ⟨?_, (endp_is (by omega) hle hall hs).symm⟩
    refine (kids_gap l.length (by omega) fun y h1 h2 h3 => ?_).symm
    obtain ⟨h4, h5, h6⟩ := (hup.par_iff (y := y) h2).1 h3
    have h7 := hs (by omega)
    by_cases hy : y + 1 = e
    · rw [hy] at h5; omega
    · have := h6 e (by omega) (by omega); omega
end
/-- a node with its Depth counted from another. -/
def shf (D : Int) (x : Nd) : Nd := ⟨x.d - D, x.k, x.s⟩
/-- the nodes from place a up to place b, Depths counted from D. -/
def prt (D : Int) (l : List Nd) (a b : Nat) : List Nd := ((l.take (b - 1)).drop (a - 1)).map (shf D)
theorem prt_len {D : Int} {l : List Nd} {a b : Nat} : (prt D l a b).length ≤ b - 1 := by simp [prt]; omega
theorem prt_nil (D : Int) (l : List Nd) (a : Nat) : prt D l a a = [] := by simp [prt]
theorem prt_one {D : Int} {l : List Nd} {a : Nat} {x : Nd} (h : l[a]? = some x) : prt D l (a + 1) (a + 2) = [shf D x] := by
  have ha := (List.getElem?_eq_some_iff.1 h).1
  unfold prt
  rw [show a + 2 - 1 = a + 1 by omega, show a + 1 - 1 = a by omega, List.take_add_one, h, List.drop_append_of_le_length (by simp; omega), List.drop_eq_nil_iff.2 (by simp; omega)]
  simp
theorem prt_app {D : Int} {l : List Nd} {a b c : Nat} (h1 : 1 ≤ a) (h2 : a ≤ b) (h3 : b ≤ c) : prt D l a b ++ prt D l b c = prt D l a c := by
  unfold prt
  rw [← List.map_append]
  congr 1
  have e : l.take (b - 1) = (l.take (c - 1)).take (b - 1) := by rw [List.take_take, Nat.min_eq_left (by omega)]
  rw [e]
  generalize l.take (c - 1) = m
  have h : (m.take (b - 1)).drop (a - 1) ++ m.drop (b - 1) = m.drop (a - 1) := by
    have h5 : m.drop (a - 1) = (m.take (b - 1)).drop (a - 1) ++ (m.drop (b - 1)).drop (a - 1 - (m.take (b - 1)).length) := by
      conv => lhs; rw [← List.take_append_drop (b - 1) m]
      rw [List.drop_append]
    rw [h5]
    congr 1
    by_cases h6 : a - 1 ≤ (m.take (b - 1)).length
    · rw [Nat.sub_eq_zero_of_le h6, List.drop_zero]
    · have : m.length < b - 1 := by
        simp at h6
        omega
      rw [List.drop_eq_nil_iff.2 (show m.length ≤ b - 1 by omega)]
      simp
  exact h
end Go.Proofs.YthjkgbcomjiejaaGreatDoor
