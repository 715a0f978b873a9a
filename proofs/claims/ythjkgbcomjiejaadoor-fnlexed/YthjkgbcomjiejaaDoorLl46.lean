/-
  Plain mathematics: what the law FnLexed asks of lexemes. It names no function of the program.
-/
import Derived.Test.YthjkgbcomjiejaaDoorLl39
import Derived.Test.YthjkgbcomjiejaaDoorLl40
import Derived.Test.YthjkgbcomjiejaaDoorLl45
namespace Go.Proofs.YthjkgbcomjiejaaDoor
open Go.RowKit
set_option linter.unusedVariables false

theorem smN_all {l m : List Lx} (h : ∀ (i : Nat) (x y : Lx), l[i]? = some x → m[i]? = some y → sqB x y = true) : ∀ k, smN l m k = true
  | 0 => rfl
  | k + 1 => by
    have ih := smN_all h k
    simp only [smN, ih, Bool.true_and]
    cases h1 : l[k]? with
    | none => rfl
    | some x =>
      cases h2 : m[k]? with
      | none => rfl
      | some y => exact h k x y h1 h2
theorem smB_of_map {l m : List Lx} (h : l.map (fun x => (x.k, x.s)) = m.map (fun x => (x.k, x.s))) : smB l m = true := by
  have hl : l.length = m.length := by simpa using congrArg List.length h
  unfold smB
  rw [smN_all, hl]
  · simp
  · intro i x y h1 h2
    have h3 : (l.map (fun x => (x.k, x.s)))[i]? = (m.map (fun x => (x.k, x.s)))[i]? := by rw [h]
    rw [List.getElem?_map, List.getElem?_map, h1, h2] at h3
    simp only [Option.map_some, Option.some.injEq, Prod.mk.injEq] at h3
    unfold sqB
    rw [h3.1, h3.2]
    simp
theorem smB_self (l : List Lx) : smB l l = true := smB_of_map rfl
theorem smB_mv (l : List Lx) : smB (mvN l l.length) l = true := smB_of_map (by rw [mvN_map l _ (Nat.le_refl _), List.take_length])
theorem lxG_bad (s : ByteArray) (f : Nat) : ∀ (a : Nat) (out : List Lx), (lxG s f a out).2 = -1 ∨ (0 ≤ (lxG s f a out).2 ∧ (lxG s f a out).1 = []) := by
  induction f with
  | zero => intro a out; exact .inl rfl
  | succ f ih =>
    intro a out
    simp only [lxG]
    split
    · exact .inl rfl
    · split
      · exact ih _ _
      · cases hr : rdO s a out.length with
        | some p => exact .inr ⟨Int.natCast_nonneg _, rfl⟩
        | none => exact ih _ _
theorem lxA_bad (s : ByteArray) : (lxA s).2 = -1 ∨ (0 ≤ (lxA s).2 ∧ (lxA s).1 = []) := by
  unfold lxA
  split
  · exact .inr ⟨Int.le_refl _, rfl⟩
  · exact lxG_bad _ _ _ _
theorem set_sum : ∀ (c : List Int) (j : Nat), j < c.length → (c.set j ((c[j]?).getD 0 + 1)).sum = c.sum + 1
  | [], j, h => by simp at h
  | x :: r, 0, _ => by simp; omega
  | x :: r, j + 1, h => by
    have ih := set_sum r j (by simpa using h)
    simp only [List.set_cons_succ, List.getElem?_cons_succ, List.sum_cons]
    rw [ih]
    omega
theorem cnN_sum {l : List Lx} (h : ∀ x ∈ l, LxGd x) : ∀ i, i ≤ l.length → (cnN l i).sum = i
  | 0, _ => by simp [cnN]
  | i + 1, hi => by
    have hx := List.getElem?_eq_getElem (show i < l.length by omega)
    have hk := (h _ (List.mem_of_getElem? hx)).bd
    have hb : inB l[i].k 0 5 = true := inB_true.2 hk
    rw [cnN_succ hx]
    unfold cnU
    rw [if_pos hb, set_sum _ _ (by rw [cnN_length]; omega), cnN_sum h i (by omega)]
    omega
theorem take_sum {c : List Int} {i : Nat} {x : Int} (h : c[i]? = some x) : (c.take (i + 1)).sum = (c.take i).sum + x := by
  rw [List.take_add_one, h]
  simp
theorem take_sum_bd {c : List Int} {m : Nat} (h : ∀ (j : Nat) (x : Int), c[j]? = some x → 0 ≤ x ∧ x ≤ m) : ∀ i, i ≤ c.length → 0 ≤ (c.take i).sum ∧ (c.take i).sum ≤ i * m
  | 0, _ => by simp
  | i + 1, hi => by
    have hx := List.getElem?_eq_getElem (show i < c.length by omega)
    have h1 := h i _ hx
    have ih := take_sum_bd h i (by omega)
    rw [take_sum hx]
    rw [show ((i + 1 : Nat) : Int) * (m : Int) = (i : Int) * (m : Int) + (m : Int) by rw [Int.natCast_succ, Int.add_mul, Int.one_mul]]
    omega
/-- place p lies within x. -/
def cvB (x : Lx) (p : Int) : Bool := decide (x.a ≤ p) && decide (p < x.a + x.s.size)
theorem cv_self {x : Lx} (h : LxGd x) : cvB x x.a = true := by
  have := h.pos
  unfold cvB
  rw [decide_eq_true (Int.le_refl _), decide_eq_true (by omega)]
  rfl
theorem cv_before {s : ByteArray} {i j : Nat} {x y : Lx} (hx : (lxA s).1[i]? = some x) (hy : (lxA s).1[j]? = some y) (hij : j < i) : cvB y x.a = false := by
  have h := List.pairwise_iff_getElem.1 (lxA_st s).2 j i (List.getElem?_eq_some_iff.1 hy).1 (List.getElem?_eq_some_iff.1 hx).1 hij
  rw [(List.getElem?_eq_some_iff.1 hy).2, (List.getElem?_eq_some_iff.1 hx).2] at h
  unfold cvB
  rw [decide_eq_false (show ¬ x.a < y.a + (y.s.size : Int) by omega), Bool.and_false]
/-- a lexeme's Text begins at its place. -/
theorem lx_begins {s : ByteArray} {x : Lx} (h : LxSt s x) : ∃ a : Nat, x.a = a ∧ a + x.s.size ≤ s.size ∧ (s.extract a s.size).extract 0 x.s.size = x.s := by
  obtain ⟨a, h1, h2, h3⟩ := h.place
  refine ⟨a, h1, h2, ?_⟩
  rw [ByteArray.extract_extract, Nat.add_zero, Nat.min_eq_left (by omega)]
  exact h3.symm
theorem bulkL_bd {m : Nat} : ∀ {l : List Lx}, (∀ y ∈ l, y.s.size ≤ m) → bulk (txs l) ≤ l.length + l.length * m := by
  intro l h
  have key : ∀ (l : List Lx), (∀ y ∈ l, y.s.size ≤ m) → ((txs l).map fun (t : Tk) => t.s.size).sum ≤ l.length * m := by
    intro l
    induction l with
    | nil => intro _; simp [txs]
    | cons y l ih =>
      intro h
      have h1 := h y (List.mem_cons_self ..)
      have h2 := ih fun z hz => h z (List.mem_cons_of_mem _ hz)
      simp only [txs, tkx, List.map_cons, List.sum_cons, List.length_cons, Nat.succ_mul] at h2 ⊢
      omega
  have := key l h
  unfold bulk bulkN
  rw [List.take_length, txs_length]
  omega
theorem bulkL_le {l : List Lx} (h : ∀ x ∈ l, LxGd x) (hl : l.length ≤ 200) : bulk (txs l) ≤ 1048576 := by
  have h1 := bulkL_bd (m := 40) (fun y hy => (h y hy).small)
  have h2 : l.length * 40 ≤ 200 * 40 := Nat.mul_le_mul_right _ hl
  omega
end Go.Proofs.YthjkgbcomjiejaaDoor
