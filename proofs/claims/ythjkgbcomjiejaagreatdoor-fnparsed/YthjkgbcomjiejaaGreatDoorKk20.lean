/-
  Plain mathematics of trees: places, parents, children, and what makes a list of nodes a tree. It names no function of the program.
-/
import Derived.Test.YthjkgbcomjiejaaGreatDoorKk10
import Derived.Test.YthjkgbcomjiejaaGreatDoorKk19
namespace Go.Proofs.YthjkgbcomjiejaaGreatDoor
open Go.RowKit
set_option linter.unusedVariables false

def ndZ : Nd := ⟨-1, -1, ByteArray.empty⟩
/-- the node at a place; place 0 is the root's, the node i of the list is at place i + 1. -/
def nAt (l : List Nd) : Nat → Nd
  | 0 => ndZ
  | i + 1 => (l[i]?).getD ndZ
def dep (l : List Nd) (i : Nat) : Int := (nAt l i).d
def knd (l : List Nd) (i : Nat) : Int := (nAt l i).k
theorem nAt_zero (l : List Nd) : nAt l 0 = ndZ := rfl
theorem nAt_succ {l : List Nd} {i : Nat} {x : Nd} (h : l[i]? = some x) : nAt l (i + 1) = x := by simp [nAt, h]
theorem dep_zero (l : List Nd) : dep l 0 = -1 := rfl
theorem knd_zero (l : List Nd) : knd l 0 = -1 := rfl
theorem dep_succ {l : List Nd} {i : Nat} {x : Nd} (h : l[i]? = some x) : dep l (i + 1) = x.d := by rw [dep, nAt_succ h]
theorem knd_succ {l : List Nd} {i : Nat} {x : Nd} (h : l[i]? = some x) : knd l (i + 1) = x.k := by rw [knd, nAt_succ h]
/-- up from place b to the first one whose Depth is less, or to the root. -/
def climb (l : List Nd) (d : Int) : Nat → Nat
  | 0 => 0
  | b + 1 => if dep l (b + 1) < d then b + 1 else climb l d b
theorem climb_le (l : List Nd) (d : Int) : ∀ b, climb l d b ≤ b
  | 0 => Nat.le_refl _
  | b + 1 => by
    have := climb_le l d b
    unfold climb; split <;> omega
theorem climb_stop {l : List Nd} {d : Int} {b : Nat} (h : dep l b < d) : climb l d b = b := by
  cases b with
  | zero => rfl
  | succ b => unfold climb; rw [if_pos h]
theorem climb_go {l : List Nd} {d : Int} {b : Nat} (h : d ≤ dep l (b + 1)) : climb l d (b + 1) = climb l d b := by
  conv => lhs; unfold climb
  rw [if_neg (by omega)]
theorem climb_skip {l : List Nd} {d d' : Int} (h : d ≤ d') : ∀ b, climb l d b = climb l d (climb l d' b)
  | 0 => rfl
  | b + 1 => by
    by_cases h1 : dep l (b + 1) < d'
    · rw [climb_stop h1]
    · rw [climb_go (d := d) (by omega), climb_go (d := d') (by omega)]
      exact climb_skip h b
theorem climb_lt {l : List Nd} {d : Int} : ∀ b, climb l d b = 0 ∨ dep l (climb l d b) < d
  | 0 => .inl rfl
  | b + 1 => by
    by_cases h1 : dep l (b + 1) < d
    · rw [climb_stop h1]; exact .inr h1
    · rw [climb_go (by omega)]; exact climb_lt b
theorem climb_over {l : List Nd} {d : Int} : ∀ b m, climb l d b < m → m ≤ b → d ≤ dep l m
  | 0, m, h1, h2 => by omega
  | b + 1, m, h1, h2 => by
    by_cases h : dep l (b + 1) < d
    · rw [climb_stop h] at h1; omega
    · rw [climb_go (by omega)] at h1
      by_cases hm : m = b + 1
      · subst hm; omega
      · exact climb_over b m h1 (by omega)
theorem climb_is {l : List Nd} {d : Int} {c : Nat} (hc : dep l c < d) : ∀ b, c ≤ b → (∀ m, c < m → m ≤ b → d ≤ dep l m) → climb l d b = c
  | 0, h, _ => by obtain rfl : c = 0 := by omega
                  rfl
  | b + 1, h, hm => by
    by_cases e : c = b + 1
    · subst e; exact climb_stop hc
    · rw [climb_go (hm (b + 1) (by omega) (Nat.le_refl _))]
      exact climb_is hc b (by omega) fun m h1 h2 => hm m h1 (by omega)
/-- the place that the node i of the list hangs on. -/
def par (l : List Nd) (i : Nat) : Nat := climb l (dep l (i + 1)) i
theorem par_le (l : List Nd) (i : Nat) : par l i ≤ i := climb_le _ _ _
/-- going up from a place that is too deep is going up from its parent. -/
theorem climb_par {l : List Nd} {d : Int} {b : Nat} (h : d ≤ dep l (b + 1)) : climb l d (b + 1) = climb l d (par l b) := by
  rw [climb_go h, climb_skip h b]; rfl
/-- other nodes may hang on the one at this place. -/
def hld (l : List Nd) (i : Nat) : Bool := decide (knd l i = -1) || inB (knd l i) 3 6
def hang (l : List Nd) (i : Nat) : Prop := dep l (i + 1) = dep l (par l i) + 1 ∧ hld l (par l i) = true
theorem climb_depth {l : List Nd} {d : Int} (hd : 0 ≤ d) : ∀ b, (∀ i, i < b → hang l i) → d ≤ dep l b + 1 → dep l (climb l d b) = d - 1 := by
  intro b
  induction b using Nat.strongRecOn with
  | _ b ih =>
    intro hv h
    cases b with
    | zero => rw [dep_zero] at h; show dep l 0 = _; rw [dep_zero]; omega
    | succ b =>
      by_cases h1 : dep l (b + 1) < d
      · rw [climb_stop h1]; omega
      · rw [climb_par (by omega)]
        have hp := par_le l b
        exact ih _ (by omega) (fun i hi => hv i (by omega)) (by have := (hv b (by omega)).1; omega)
theorem climb_holds {l : List Nd} {d : Int} : ∀ b, (∀ i, i < b → hang l i) → climb l d b ≠ b → hld l (climb l d b) = true := by
  intro b
  induction b using Nat.strongRecOn with
  | _ b ih =>
    intro hv h
    cases b with
    | zero => exact (h rfl).elim
    | succ b =>
      by_cases h1 : dep l (b + 1) < d
      · exact (h (climb_stop h1)).elim
      · rw [climb_par (by omega)]
        have hp := par_le l b
        by_cases e : climb l d (par l b) = par l b
        · rw [e]; exact (hv b (by omega)).2
        · exact ih _ (by omega) (fun i hi => hv i (by omega)) e
/-- a node hangs rightly just where its Depth is at most one more than that of the one ahead, and one more only where that one may hold. -/
theorem hang_iff {l : List Nd} {i : Nat} (hv : ∀ j, j < i → hang l j) (h0 : 0 ≤ dep l (i + 1)) :
    hang l i ↔ dep l (i + 1) ≤ dep l i + 1 ∧ (dep l (i + 1) = dep l i + 1 → hld l i = true) := by
  constructor
  · rintro ⟨h1, h2⟩
    by_cases h : dep l i < dep l (i + 1)
    · have e : par l i = i := climb_stop h
      rw [e] at h1 h2
      exact ⟨by omega, fun _ => h2⟩
    · exact ⟨by omega, fun _ => by omega⟩
  · rintro ⟨h1, h2⟩
    have hd := climb_depth h0 i hv h1
    refine ⟨by show _ = dep l (climb l _ i) + 1; omega, ?_⟩
    by_cases e : climb l (dep l (i + 1)) i = i
    · show hld l (climb l _ i) = true
      rw [e] at hd ⊢
      exact h2 (by omega)
    · exact climb_holds i hv e
/-- the children of place i among the first m nodes. -/
def kidsN (l : List Nd) (i m : Nat) : List Nat := (List.range m).filter (fun j => par l j == i)
theorem kidsN_zero (l : List Nd) (i : Nat) : kidsN l i 0 = [] := rfl
theorem kidsN_yes {l : List Nd} {i m : Nat} (h : par l m = i) : kidsN l i (m + 1) = kidsN l i m ++ [m] := by
  unfold kidsN; rw [List.range_succ, List.filter_append]; simp [h]
theorem kidsN_no {l : List Nd} {i m : Nat} (h : par l m ≠ i) : kidsN l i (m + 1) = kidsN l i m := by
  unfold kidsN; rw [List.range_succ, List.filter_append]; simp [h]
theorem kidsN_low (l : List Nd) (i : Nat) : kidsN l i i = [] := by
  unfold kidsN
  rw [List.filter_eq_nil_iff]
  intro j hj
  have := List.mem_range.1 hj
  have := par_le l j
  simp; omega
theorem kidsN_mem {l : List Nd} {i m j : Nat} (h : j ∈ kidsN l i m) : j < m ∧ par l j = i ∧ i ≤ j := by
  unfold kidsN at h
  rw [List.mem_filter] at h
  have h1 := List.mem_range.1 h.1
  have h2 : par l j = i := by simpa using h.2
  exact ⟨h1, h2, by rw [← h2]; exact par_le l j⟩
theorem kidsN_len (l : List Nd) (i m : Nat) : (kidsN l i m).length ≤ m := by
  unfold kidsN
  have := List.length_filter_le (fun j => par l j == i) (List.range m)
  simpa using this
/-- j hangs on i: by Depths alone. -/
theorem par_iff {l : List Nd} {i j : Nat} (h0 : 0 ≤ dep l (j + 1)) (hh : hang l j) : par l j = i ↔ i ≤ j ∧ dep l (j + 1) = dep l i + 1 ∧ ∀ m, i < m → m ≤ j → dep l i < dep l m := by
  constructor
  · rintro rfl
    refine ⟨par_le _ _, hh.1, fun m h1 h2 => ?_⟩
    have := climb_over (d := dep l (j + 1)) j m h1 h2
    have := hh.1
    omega
  · rintro ⟨h1, h2, h3⟩
    exact climb_is (by omega) j h1 fun m h4 h5 => by have := h3 m h4 h5; omega
/-- once a Depth is not above that of place i, no child of it follows. -/
theorem kidsN_done {l : List Nd} {i a : Nat} (hi : i ≤ a) (hs : dep l (a + 1) ≤ dep l i) (h0 : ∀ j, 0 ≤ dep l (j + 1) ∨ l.length ≤ j) (hv : ∀ j, j < l.length → hang l j) :
    ∀ b, a ≤ b → b ≤ l.length → kidsN l i b = kidsN l i a := by
  intro b hab
  induction hab with
  | refl => intro _; rfl
  | @step b hb ih =>
    intro hl
    have hb' : a ≤ b := hb
    have h0b : 0 ≤ dep l (b + 1) := by rcases h0 b with h | h <;> omega
    rw [← ih (by omega)]
    refine kidsN_no fun e => ?_
    have := ((par_iff h0b (hv b (by omega))).1 e)
    by_cases hab : a = b
    · subst hab; omega
    · have := this.2.2 (a + 1) (by omega) (by omega)
      omega
/-- how many of some children are no notes. -/
def plainN (l : List Nd) (ks : List Nat) : Nat := ks.countP (fun j => knd l (j + 1) != 2)
theorem plainN_le (l : List Nd) (ks : List Nat) : plainN l ks ≤ ks.length := List.countP_le_length
def whl (l : List Nd) (i n : Nat) : Bool :=
  if knd l i = 6 then decide ((kidsN l i n).length = 1) && decide (plainN l (kidsN l i n) = 1)
  else if knd l i = 5 then decide (plainN l (kidsN l i n) % 2 = 0) else true
/-- a text is just one lexeme of a kind. -/
def oneB (k : Int) (s : ByteArray) (q : List Lx) : Bool := match q with | [y] => y.k == k && y.s.toList == s.toList | _ => false
def nodB (x : Nd) : Bool := inB x.k 0 6 && (inB x.d 0 12 && (if 3 ≤ x.k then x.s.toList == [] else oneB x.k x.s (lxA x.s).1))
structure TrOk (l : List Nd) : Prop where
  len : l.length ≤ 200
  node : ∀ (i : Nat) (x : Nd), l[i]? = some x → nodB x = true
  hang : ∀ i, i < l.length → hang l i
  whole : ∀ i, i ≤ l.length → whl l i l.length = true
open Classical in
noncomputable def treB (l : List Nd) : Bool := decide (TrOk l)
theorem treB_yes {l : List Nd} (h : TrOk l) : treB l = true := by simp [treB, h]
theorem treB_no {l : List Nd} (h : ¬ TrOk l) : treB l = false := by simp [treB, h]
theorem treB_ok {l : List Nd} (h : treB l = true) : TrOk l := by simpa [treB] using h
/-- the nodes up to a place are right, each alone, and hang rightly. -/
def UpTo (l : List Nd) (k : Nat) : Prop := ∀ i, i < k → (∃ x, l[i]? = some x ∧ nodB x = true) ∧ hang l i
theorem UpTo.zero (l : List Nd) : UpTo l 0 := fun i hi => by omega
theorem UpTo.succ {l : List Nd} {k : Nat} {x : Nd} (h : UpTo l k) (hx : l[k]? = some x) (h1 : nodB x = true) (h2 : Go.Proofs.YthjkgbcomjiejaaGreatDoor.hang l k) : UpTo l (k + 1) := by
  intro i hi
  by_cases e : i = k
  · subst e; exact ⟨⟨x, hx, h1⟩, h2⟩
  · exact h i (by omega)
theorem nodB_bd {x : Nd} (h : nodB x = true) : (0 ≤ x.k ∧ x.k ≤ 6) ∧ (0 ≤ x.d ∧ x.d ≤ 12) := by
  unfold nodB at h
  simp only [Bool.and_eq_true] at h
  exact ⟨inB_true.1 h.1, inB_true.1 h.2.1⟩
theorem UpTo.dep {l : List Nd} {k : Nat} (h : UpTo l k) {i : Nat} (hi : i ≤ k) : -1 ≤ dep l i ∧ dep l i ≤ 12 := by
  cases i with
  | zero => rw [dep_zero]; omega
  | succ i =>
    obtain ⟨⟨x, hx, hn⟩, _⟩ := h i (by omega)
    rw [dep_succ hx]
    have := (nodB_bd hn).2
    omega
theorem UpTo.knd {l : List Nd} {k : Nat} (h : UpTo l k) {i : Nat} (hi : i ≤ k) : -1 ≤ knd l i ∧ knd l i ≤ 6 := by
  cases i with
  | zero => rw [knd_zero]; omega
  | succ i =>
    obtain ⟨⟨x, hx, hn⟩, _⟩ := h i (by omega)
    rw [knd_succ hx]
    have := (nodB_bd hn).1
    omega
theorem UpTo.ok {l : List Nd} (hl : l.length ≤ 200) (h : UpTo l l.length) (hw : ∀ i, i ≤ l.length → whl l i l.length = true) : TrOk l :=
  ⟨hl, fun i x hx => by
    obtain ⟨⟨y, hy, hn⟩, _⟩ := h i (List.getElem?_eq_some_iff.1 hx).1
    rw [hx] at hy; injection hy with hy; subst hy; exact hn, fun i hi => (h i hi).2, hw⟩
theorem TrOk.upTo {l : List Nd} (h : TrOk l) : UpTo l l.length := fun i hi => ⟨⟨l[i], List.getElem?_eq_getElem hi, h.node i _ (List.getElem?_eq_getElem hi)⟩, h.hang i hi⟩
/-- the children of a place, from the next one on as long as Depths are above: by the walk over the list. -/
theorem kids_walk {l : List Nd} (h : UpTo l l.length) {i a : Nat} (hi : i ≤ a) (ha : a < l.length) (hb : ∀ m, i < m → m ≤ a → dep l i < dep l m) (hd : dep l i < dep l (a + 1)) :
    kidsN l i (a + 1) = kidsN l i a ++ (if dep l (a + 1) = dep l i + 1 then [a] else []) := by
  have h0 : 0 ≤ dep l (a + 1) := by have := (h.dep (i := i) (by omega)).1; omega
  by_cases e : dep l (a + 1) = dep l i + 1
  · rw [if_pos e]
    exact kidsN_yes ((par_iff h0 (h a ha).2).2 ⟨hi, e, hb⟩)
  · rw [if_neg e, List.append_nil]
    exact kidsN_no fun e' => e ((par_iff h0 (h a ha).2).1 e').2.1
theorem kids_end {l : List Nd} (h : UpTo l l.length) {i a : Nat} (hi : i ≤ a) (ha : a < l.length) (hd : dep l (a + 1) ≤ dep l i) : kidsN l i l.length = kidsN l i a := by
  refine kidsN_done hi hd (fun j => ?_) (fun j hj => (h j hj).2) l.length (by omega) (Nat.le_refl _)
  by_cases hj : j < l.length
  · left
    obtain ⟨⟨x, hx, hn⟩, _⟩ := h j hj
    rw [dep_succ hx]
    exact (nodB_bd hn).2.1
  · right; omega
end Go.Proofs.YthjkgbcomjiejaaGreatDoor
