/-
  Plain mathematics of the law FnWider: no line of a layout ends with a blank. It names no function of the program.
-/
import Derived.Test.YthjkgbcomjiejadGreatDoorPrn
import Derived.Test.YthjkgbcomjiejadGreatDoorFta
import Derived.Test.YthjkgbcomjiejadGreatDoorLnf
namespace Go.Proofs.YthjkgbcomjiejadGreatDoor
open Go.RowKit
set_option linter.unusedVariables false

theorem nosE {α : Type} (l : List α) : l = [] ∨ ∃ L b, l = L ++ [b] := by
  rcases List.eq_nil_or_concat l with h | ⟨L, b, h⟩
  · exact .inl h
  · exact .inr ⟨L, b, by rw [h, List.concat_eq_append]⟩
/-! ### a line within a block is more than any width -/
theorem nx_far {l : List Tk} {L : Int} {k : Nat} (hk : k < l.length) : ∀ (n i : Nat), i + n = k + 1 → (∀ m, i ≤ m → m ≤ k → brkAt l L m = false) → nx l L i = nx l L (k + 1)
  | 0, i, h, _ => by rw [show i = k + 1 by omega]
  | n + 1, i, h, hb => by
    rw [nx_step (by omega), hb i (Nat.le_refl _) (by omega), if_neg (by simp)]
    exact nx_far hk n (i + 1) (by omega) fun m h1 h2 => hb m (by omega) h2
theorem line_in {l : List Tk} (hS : strB l = true) {j k : Nat} {t u : Tk} (hj : l[j]? = some t) (h2 : t.k = 2) (hk : l[k]? = some u) (h4 : u.k = 4) (hjk : j < k) (hin : ∀ i, j < i → i ≤ k → opN l j + 1 ≤ opN l i) : sizI l j t = 1000000 := by
  obtain ⟨_, hok, _⟩ := strB_true hS
  have hkl : k < l.length := (List.getElem?_eq_some_iff.1 hk).1
  have hL : levI l j = opN l j := by rw [levI_eq hj, if_neg (by omega)]
  have hnx : nx l (opN l j) (j + 1) = nx l (opN l j) (k + 1) := by
    refine nx_far hkl (k - j) (j + 1) (by omega) fun m h1 h3 => ?_
    have hm := List.getElem?_eq_getElem (show m < l.length by omega)
    rw [brkAt_eq hm]
    cases hb : (l[m]).brk
    · rfl
    · have hkk : (l[m]).k ≠ 3 := by
        intro e
        unfold Tk.brk brkB at hb
        rw [e] at hb
        simp at hb
      have := hin m (by omega) h3
      rw [levI_eq hm, if_neg hkk, decide_eq_false (by omega)]
      rfl
  have hb := nx_bd (opN l j) (show k + 1 ≤ l.length by omega)
  have h5 := smN_mono hok hb.1 hb.2
  have h6 := smN_mono hok (show j ≤ k by omega) (by omega)
  have h7 : u.kw = 1000000 := if_pos h4
  rw [sizI_min hS hj (.inl h2), hL, hnx]
  rw [smN_succ hk] at h5
  omega
/-! ### two widths side by side -/
/-- an open block: where it began, its mark in either width. -/
abbrev En := Nat × (Nat × Nat) × (Nat × Nat)
def Rl (l : List Tk) (k p : Nat) (e : En) : Prop :=
  ∃ t, e.1 < k ∧ l[e.1]? = some t ∧ t.k = 2 ∧ opN l e.1 = p ∧ (∀ i, e.1 < i → i ≤ k → (p : Int) + 1 ≤ opN l i) ∧ (e.2.1 = e.2.2 ∨ (e.2.2.1 = 0 ∧ sizI l e.1 t ≤ 200))
theorem Rl.step {l : List Tk} {k p : Nat} {e : En} (h : Rl l k p e) (hk : (p : Int) + 1 ≤ opN l (k + 1)) : Rl l (k + 1) p e := by
  obtain ⟨t, h1, h2, h3, h4, h5, h6⟩ := h
  refine ⟨t, by omega, h2, h3, h4, fun i hi hik => ?_, h6⟩
  by_cases e : i = k + 1
  · subst e; exact hk
  · exact h5 i hi (by omega)
theorem Rl.at {l : List Tk} {k p : Nat} {e : En} (h : Rl l k p e) : (p : Int) + 1 ≤ opN l k := by
  obtain ⟨t, h1, _, _, _, h5, _⟩ := h
  exact h5 k h1 (Nat.le_refl _)
structure Sim (l : List Tk) (n w : Int) (k : Nat) : Prop where
  ms : ∃ L : List En, (run n l k).1.ms = (2, 0) :: L.map (·.2.1) ∧ (run w l k).1.ms = (2, 0) :: L.map (·.2.2) ∧ ∀ p e, L[p]? = some e → Rl l k p e
  ln : (run n l k).1.ln = (run w l k).1.ln
  col : (run n l k).1.col = (run w l k).1.col
  pend : (run n l k).1.pend = (run w l k).1.pend
  out : (run n l k).1.out = (run w l k).1.out
theorem room_mono {n w z : Int} {s s' : Pr} (hnw : n ≤ w) (hc : s.col = s'.col) (hp : s.pend = s'.pend) (h : s.room n z = true) : s'.room w z = true := by
  unfold Pr.room at h ⊢
  simp only [decide_eq_true_eq] at h ⊢
  rw [← hc, ← hp]
  omega
theorem top_last {s : Pr} {x : Nat × Nat} {M : List (Nat × Nat)} (h : s.ms = M ++ [x]) : s.top = x := by
  unfold Pr.top
  rw [h]
  simp
theorem sim {l : List Tk} (hS : strB l = true) {n w : Int} (hnw : n ≤ w) (hw : w ≤ 200) (hno : ∀ (k : Nat) (t : Tk), l[k]? = some t → t.k = 1 → (run n l k).1.stays n (sizI l k t) = true) : ∀ k, k ≤ l.length → Sim l n w k := by
  obtain ⟨_, hok, _⟩ := strB_true hS
  intro k
  induction k with
  | zero => intro _; exact ⟨⟨[], rfl, rfl, fun p e h => by simp at h⟩, rfl, rfl, rfl, rfl⟩
  | succ k ih =>
    intro hk
    obtain ⟨⟨L, hA, hB, hR⟩, h1, h2, h3, h4⟩ := ih (by omega)
    have ht := List.getElem?_eq_getElem (show k < l.length by omega)
    generalize l[k] = t at ht
    have htok := okN_at hok (show k < l.length by omega) ht
    have hlen : (L.length : Int) = opN l k := by
      have := (run_ok n hS k (by omega)).2.1
      rw [hA] at this
      simp at this
      omega
    have hop := opN_succ ht
    have hno' := hno k t ht
    have hn1 := run_succ (W := n) ht
    have hw1 := run_succ (W := w) ht
    obtain ⟨a, ha⟩ : ∃ a, (run n l k).1 = a := ⟨_, rfl⟩
    obtain ⟨b, hb⟩ : ∃ b, (run w l k).1 = b := ⟨_, rfl⟩
    rw [ha] at hA h1 h2 h3 h4 hno' hn1
    rw [hb] at hB h1 h2 h3 h4 hw1
    have hna : (run n l (k + 1)).1 = (a.put n t (sizI l k t)).1 := by rw [hn1]
    have hwb : (run w l (k + 1)).1 = (b.put w t (sizI l k t)).1 := by rw [hw1]
    clear hn1 hw1
    -- the marks stay where the number of open blocks does
    have hkeep : t.opn = 0 → ∀ p e, L[p]? = some e → Rl l (k + 1) p e := fun h0 p e he => (hR p e he).step (by have := (hR p e he).at; omega)
    rcases t.k_bd htok.1 with h | h | h | h | h
    · -- a Text
      have h0 : t.opn = 0 := by unfold Tk.opn; rw [h]; rfl
      have ea : (a.put n t (sizI l k t)).1 = a.text t.s.data.toList := by unfold Pr.put; rw [if_pos h]
      have eb : (b.put w t (sizI l k t)).1 = b.text t.s.data.toList := by unfold Pr.put; rw [if_pos h]
      rw [ea] at hna
      rw [eb] at hwb
      refine ⟨⟨L, by rw [hna]; exact hA, by rw [hwb]; exact hB, hkeep h0⟩, ?_, ?_, ?_, ?_⟩
      · rw [hna, hwb]; exact h1
      · rw [hna, hwb]; simp only [Pr.text, h2, h3]
      · rw [hna, hwb]; rfl
      · rw [hna, hwb]; simp only [Pr.text, h3, h4]
    · -- a blank that stays
      have h0 : t.opn = 0 := by unfold Tk.opn; rw [h]; rfl
      have hst := hno' h
      have hstB : b.stays w (sizI l k t) = true := by
        unfold Pr.stays at hst ⊢
        rcases nosE L with rfl | ⟨M, e, rfl⟩
        · have e1 : a.top = (2, 0) := top_last (M := []) (by simpa using hA)
          have e2 : b.top = (2, 0) := top_last (M := []) (by simpa using hB)
          rw [e1] at hst
          rw [e2]
          simp at hst ⊢
          exact room_mono hnw h2 h3 hst
        · have e1 : a.top = e.2.1 := top_last (M := (2, 0) :: M.map (·.2.1)) (by simpa using hA)
          have e2 : b.top = e.2.2 := top_last (M := (2, 0) :: M.map (·.2.2)) (by simpa using hB)
          have hr := hR M.length e (by simp)
          obtain ⟨_, _, _, _, _, _, hr⟩ := hr
          rw [e1] at hst
          rw [e2]
          rcases hr with hr | ⟨hr, _⟩
          · rw [← hr]
            simp only [Bool.or_eq_true, Bool.and_eq_true, decide_eq_true_eq] at hst ⊢
            rcases hst with hst | ⟨hst, hst2⟩
            · exact .inl hst
            · exact .inr ⟨hst, room_mono hnw h2 h3 hst2⟩
          · simp [hr]
      have ea : (a.put n t (sizI l k t)).1 = { a with pend := a.pend + t.d.toNat } := by unfold Pr.put; rw [if_neg (by omega), if_neg (by omega), if_neg (by omega), if_pos h, if_pos hst]
      have eb : (b.put w t (sizI l k t)).1 = { b with pend := b.pend + t.d.toNat } := by unfold Pr.put; rw [if_neg (by omega), if_neg (by omega), if_neg (by omega), if_pos h, if_pos hstB]
      rw [ea] at hna
      rw [eb] at hwb
      refine ⟨⟨L, by rw [hna]; exact hA, by rw [hwb]; exact hB, hkeep h0⟩, ?_, ?_, ?_, ?_⟩
      · rw [hna, hwb]; exact h1
      · rw [hna, hwb]; exact h2
      · rw [hna, hwb]; simp only [h3]
      · rw [hna, hwb]; exact h4
    · -- a block begins
      have h0 : t.opn = 1 := by unfold Tk.opn; rw [h]; rfl
      have ea : (a.put n t (sizI l k t)).1 = a.open n t (sizI l k t) := by unfold Pr.put; rw [if_neg (by omega), if_pos h]
      have eb : (b.put w t (sizI l k t)).1 = b.open w t (sizI l k t) := by unfold Pr.put; rw [if_neg (by omega), if_pos h]
      rw [ea] at hna
      rw [eb] at hwb
      obtain ⟨x, hx⟩ : ∃ x, (if a.room n (sizI l k t) = true then (0, a.top.2) else if t.d = 1 then (1, ((a.col : Int) + a.pend + t.o).toNat) else (2, ((a.col : Int) + a.pend + t.o).toNat)) = x := ⟨_, rfl⟩
      obtain ⟨y, hy⟩ : ∃ y, (if b.room w (sizI l k t) = true then (0, b.top.2) else if t.d = 1 then (1, ((b.col : Int) + b.pend + t.o).toNat) else (2, ((b.col : Int) + b.pend + t.o).toNat)) = y := ⟨_, rfl⟩
      have hxy : x = y ∨ (y.1 = 0 ∧ sizI l k t ≤ 200) := by
        cases hrw : b.room w (sizI l k t)
        · have hrn : a.room n (sizI l k t) = false := by
            cases hrn : a.room n (sizI l k t)
            · rfl
            · rw [room_mono hnw h2 h3 hrn] at hrw; cases hrw
          left
          rw [← hx, ← hy, hrw, hrn, h2, h3]
          rfl
        · right
          rw [← hy, hrw]
          refine ⟨rfl, ?_⟩
          unfold Pr.room at hrw
          simp only [decide_eq_true_eq] at hrw
          omega
      refine ⟨⟨L ++ [(k, x, y)], ?_, ?_, fun p e he => ?_⟩, ?_, ?_, ?_, ?_⟩
      · rw [hna]; simp only [Pr.open, hx, hA]; simp
      · rw [hwb]; simp only [Pr.open, hy, hB]; simp
      · rcases Nat.lt_or_ge p L.length with hp | hp
        · rw [List.getElem?_append_left hp] at he
          exact (hR p e he).step (by have := (hR p e he).at; omega)
        · have hpl : p = L.length := by
            have := (List.getElem?_eq_some_iff.1 he).1
            rw [List.length_append, List.length_singleton] at this
            omega
          subst hpl
          rw [List.getElem?_append_right (Nat.le_refl _), Nat.sub_self] at he
          simp only [List.getElem?_cons_zero, Option.some.injEq] at he
          subst he
          refine ⟨t, by simp, ht, h, hlen.symm, fun i hi hik => ?_, hxy⟩
          have hi' : k < i := hi
          obtain rfl : i = k + 1 := by omega
          omega
      · rw [hna, hwb]; exact h1
      · rw [hna, hwb]; exact h2
      · rw [hna, hwb]; exact h3
      · rw [hna, hwb]; exact h4
    · -- a block ends
      have h0 : t.opn = -1 := by unfold Tk.opn; rw [h]; rfl
      have ea : (a.put n t (sizI l k t)).1 = { a with ms := a.ms.dropLast } := by unfold Pr.put; rw [if_neg (by omega), if_neg (by omega), if_pos h]
      have eb : (b.put w t (sizI l k t)).1 = { b with ms := b.ms.dropLast } := by unfold Pr.put; rw [if_neg (by omega), if_neg (by omega), if_pos h]
      rw [ea] at hna
      rw [eb] at hwb
      rcases nosE L with rfl | ⟨M, e, rfl⟩
      · exfalso
        simp at hlen
        omega
      · simp only [List.length_append, List.length_singleton] at hlen
        refine ⟨⟨M, ?_, ?_, fun p e' he => ?_⟩, ?_, ?_, ?_, ?_⟩
        · rw [hna]
          show a.ms.dropLast = _
          rw [hA, List.map_append, ← List.cons_append, List.map_singleton, List.dropLast_concat]
        · rw [hwb]
          show b.ms.dropLast = _
          rw [hB, List.map_append, ← List.cons_append, List.map_singleton, List.dropLast_concat]
        · have hp := (List.getElem?_eq_some_iff.1 he).1
          exact (hR p e' (by rw [List.getElem?_append_left hp]; exact he)).step (by omega)
        · rw [hna, hwb]; exact h1
        · rw [hna, hwb]; exact h2
        · rw [hna, hwb]; exact h3
        · rw [hna, hwb]; exact h4
    · -- a line
      have h0 : t.opn = 0 := by unfold Tk.opn; rw [h]; rfl
      have ea : (a.put n t (sizI l k t)).1 = a.brk t.o := by unfold Pr.put; rw [if_neg (by omega), if_neg (by omega), if_neg (by omega), if_neg (by omega)]
      have eb : (b.put w t (sizI l k t)).1 = b.brk t.o := by unfold Pr.put; rw [if_neg (by omega), if_neg (by omega), if_neg (by omega), if_neg (by omega)]
      rw [ea] at hna
      rw [eb] at hwb
      have htop : a.top.2 = b.top.2 := by
        rcases nosE L with rfl | ⟨M, e, rfl⟩
        · rw [show a.top = (2, 0) from top_last (M := []) (by simpa using hA), show b.top = (2, 0) from top_last (M := []) (by simpa using hB)]
        · have e1 : a.top = e.2.1 := top_last (M := (2, 0) :: M.map (·.2.1)) (by simpa using hA)
          have e2 : b.top = e.2.2 := top_last (M := (2, 0) :: M.map (·.2.2)) (by simpa using hB)
          obtain ⟨u, r1, r2, r3, r4, r5, r6⟩ := hR M.length e (by simp)
          rw [e1, e2]
          rcases r6 with r6 | ⟨_, r6⟩
          · rw [r6]
          · exfalso
            have := line_in hS r2 r3 ht h r1 (fun i h5 h6 => by rw [r4]; exact r5 i h5 h6)
            omega
      refine ⟨⟨L, by rw [hna]; exact hA, by rw [hwb]; exact hB, hkeep h0⟩, ?_, ?_, ?_, ?_⟩
      · rw [hna, hwb]; simp only [Pr.brk, h1]
      · rw [hna, hwb]; rfl
      · rw [hna, hwb]; simp only [Pr.brk, htop]
      · rw [hna, hwb]; simp only [Pr.brk, h4]
end Go.Proofs.YthjkgbcomjiejadGreatDoor
namespace Go.Proofs.YthjkgbcomjiejadGreatDoor
open Go.RowKit
set_option linter.unusedVariables false

/-- how many lines stand among the first k tokens. -/
def lnC (l : List Tk) (k : Nat) : Nat := ((l.take k).filter fun t => t.k == 4).length
theorem lnC_succ {l : List Tk} {k : Nat} {t : Tk} (h : l[k]? = some t) : lnC l (k + 1) = lnC l k + if t.k = 4 then 1 else 0 := by
  unfold lnC
  rw [List.take_add_one, h, List.filter_append, List.length_append]
  by_cases e : t.k = 4 <;> simp [e]
theorem put_ln (W : Int) (s : Pr) (t : Tk) (z : Int) (ht : t.ok = true) : (s.put W t z).1.ln = s.ln + (if t.k = 4 then 1 else if t.k = 1 ∧ s.stays W z = false then 1 else 0) := by
  unfold Pr.put
  rcases t.k_bd ht with h | h | h | h | h
  all_goals simp only [h]
  · simp [Pr.text]
  · cases hs : s.stays W z <;> simp [Pr.brk]
  · simp [Pr.open]
  · simp
  · simp [Pr.brk]
theorem ln_steps {W : Int} {l : List Tk} (hS : strB l = true) {k : Nat} (hk : k < l.length) : (run W l (k + 1)).1.ln = (run W l k).1.ln + (if (l[k]).k = 4 then 1 else if (l[k]).k = 1 ∧ (run W l k).1.stays W (sizI l k l[k]) = false then 1 else 0) := by
  have ht := List.getElem?_eq_getElem hk
  rw [run_succ ht]
  exact put_ln _ _ _ _ (okN_at (strB_true hS).2.1 hk ht).1
/-- as many lines as tokens of that kind: no blank broke. -/
theorem none_broke {W : Int} {l : List Tk} (hS : strB l = true) (h : (run W l l.length).1.ln = lnC l l.length) : ∀ (k : Nat) (t : Tk), l[k]? = some t → t.k = 1 → (run W l k).1.stays W (sizI l k t) = true := by
  have hle : ∀ k, k ≤ l.length → lnC l k ≤ (run W l k).1.ln := by
    intro k
    induction k with
    | zero => intro _; simp [lnC]
    | succ k ih =>
      intro hk
      have := ih (by omega)
      rw [ln_steps hS (by omega), lnC_succ (List.getElem?_eq_getElem (show k < l.length by omega))]
      split <;> omega
  have hge : ∀ n k, k + n = l.length → (run W l k).1.ln ≤ lnC l k := by
    intro n
    induction n with
    | zero => intro k hk; rw [show k = l.length by omega]; omega
    | succ n ih =>
      intro k hk
      have h1 := ih (k + 1) (by omega)
      rw [ln_steps hS (by omega), lnC_succ (List.getElem?_eq_getElem (show k < l.length by omega))] at h1
      by_cases e : (l[k]'(by omega)).k = 4
      · rw [if_pos e, if_pos e] at h1; omega
      · rw [if_neg e, if_neg e] at h1
        split at h1 <;> omega
  intro k t ht h1
  have hk := (List.getElem?_eq_some_iff.1 ht).1
  have e1 := (List.getElem?_eq_some_iff.1 ht).2
  cases hs : (run W l k).1.stays W (sizI l k t)
  · exfalso
    have h2 := hle k (by omega)
    have h3 := hge (l.length - (k + 1)) (k + 1) (by omega)
    rw [ln_steps hS hk, lnC_succ ht, e1, if_neg (by omega), if_pos ⟨h1, hs⟩, if_neg (by omega)] at h3
    omega
  · rfl
theorem tens_cutB (n : Nat) : ∀ x : List UInt8, x.length = n → tens (cutB x) = tens x := by
  induction n with
  | zero => intro x hx; rw [List.eq_nil_of_length_eq_zero hx]; rfl
  | succ n ih =>
    intro x hx
    rcases nil_or_snoc x with rfl | ⟨y, c, rfl⟩
    · rfl
    · rw [cutB_snoc]
      split
      · rename_i e
        rw [ih y (by simpa using hx), tens_app, e]
        rfl
      · rfl
theorem tens_cuB (x : List UInt8) : tens (cuB x) = tens x := by
  have key : ∀ (y acc : List UInt8), tens (y.foldl cuS acc) = tens acc + tens y := by
    intro y
    induction y with
    | nil => intro acc; simp [tens]
    | cons c r ih =>
      intro acc
      rw [List.foldl_cons, ih]
      have h1 : tens (c :: r) = tens [c] + tens r := tens_app [c] r
      have h2 : tens (cuS acc c) = tens acc + tens [c] := by
        unfold cuS
        split
        · rw [tens_app, tens_cutB _ acc rfl]
        · rw [tens_app]
      omega
  unfold cuB cuN
  rw [List.take_length, tens_cutB _ _ rfl, key]
  simp [tens]
theorem pl_tens {t : Tk} (ht : t.ok = true) : tens t.pl = if t.k = 4 then 1 else 0 := by
  unfold Tk.pl
  by_cases h0 : t.k = 0
  · rw [if_pos h0, if_neg (by omega), tens_none (t.s_bd ht).2]
  · by_cases h1 : t.k = 1
    · rw [if_neg h0, if_pos h1, if_neg (by omega), tens_none fun c hc => by rw [List.eq_of_mem_replicate hc]; decide]
    · by_cases h4 : t.k = 4
      · rw [if_neg h0, if_neg h1, if_pos h4, if_pos h4]; rfl
      · rw [if_neg h0, if_neg h1, if_neg h4, if_neg h4]; rfl
theorem plN_tens {l : List Tk} (hok : okN l l.length = true) : ∀ k, k ≤ l.length → tens (plN l k) = lnC l k
  | 0, _ => rfl
  | k + 1, hk => by
    have ht := List.getElem?_eq_getElem (show k < l.length by omega)
    rw [plN_succ ht, tens_app, plN_tens hok k (by omega), lnC_succ ht, pl_tens (okN_at hok (show k < l.length by omega) ht).1]
theorem fitB_eq {W : Int} {l : List Tk} (h : fitB W l = true) : okB W l = true ∧ (run W l l.length).1.out = cuB (plN l l.length) := by
  cases hok : okB W l
  · rw [fitB_no hok] at h; cases h
  · refine ⟨rfl, ?_⟩
    rw [fitB_yes hok] at h
    have h1 : (layB W l).toList = (trmB l).toList := by simpa using h
    have hS := (okB_true hok).2.2
    rw [ByteArray.toList_eq, ByteArray.toList_eq] at h1
    have e1 : (layB W l).data.toList = (run W l l.length).1.out := by simp [layB, hok]
    have e2 : (trmB l).data.toList = cuB (plN l l.length) := by simp [trmB, plnB, hS]
    rw [← e1, h1, e2]
/-- where all fits in a width it fits in each wider one. -/
theorem fitB_mono {n w : Int} {l : List Tk} (hnw : n ≤ w) (hw : w ≤ 200) (h : fitB n l = true) : fitB w l = true := by
  obtain ⟨hok, ho⟩ := fitB_eq h
  obtain ⟨h1, h2, hS⟩ := okB_true hok
  obtain ⟨_, hokN, _⟩ := strB_true hS
  have hln : (run n l l.length).1.ln = lnC l l.length := by
    rw [← (run_ok n hS l.length (Nat.le_refl _)).2.2.1, ho, tens_cuB, plN_tens hokN _ (Nat.le_refl _)]
  have hs := sim hS hnw hw (none_broke hS hln) l.length (Nat.le_refl _)
  have hokw : okB w l = true := by
    unfold okB
    rw [hS, inB_true.2 ⟨by omega, hw⟩]
    rfl
  rw [fitB_yes hokw]
  have e1 : layB w l = layB n l := by
    unfold layB
    rw [if_pos hokw, if_pos hok, hs.out]
  rw [e1, ← fitB_yes hok]
  exact h
theorem narB_fit {l : List Tk} (h : 0 < narB l) : ∃ n : Int, narB l = n ∧ 1 ≤ n ∧ n ≤ 200 ∧ fitB n l = true := by
  have key : ∀ (m k : Nat), 1 ≤ k → 0 < narG l m k → ∃ j : Nat, k ≤ j ∧ j < k + m ∧ narG l m k = j ∧ fitB j l = true := by
    intro m
    induction m with
    | zero => intro k _ h; simp [narG] at h
    | succ m ih =>
      intro k hk h
      cases hf : fitB k l
      · rw [narG_no hf] at h ⊢
        obtain ⟨j, h1, h2, h3, h4⟩ := ih (k + 1) (by omega) h
        exact ⟨j, by omega, by omega, h3, h4⟩
      · exact ⟨k, Nat.le_refl _, by omega, narG_yes hf, hf⟩
  obtain ⟨j, h1, h2, h3, h4⟩ := key 200 1 (Nat.le_refl _) h
  exact ⟨j, h3, by omega, by omega, h4⟩
/-! ### letters -/
def ltB (x : List UInt8) : List UInt8 := x.filter fun c => c != 32 && c != 10
theorem ltB_app (a b : List UInt8) : ltB (a ++ b) = ltB a ++ ltB b := by simp [ltB]
theorem ltB_blanks (n : Nat) : ltB (List.replicate n 32) = [] := by
  unfold ltB
  rw [List.filter_eq_nil_iff]
  intro c hc
  rw [List.eq_of_mem_replicate hc]
  decide
def txN (l : List Tk) (k : Nat) : List UInt8 := ((l.take k).map fun t => t.s.data.toList).flatten
theorem txN_succ {l : List Tk} {k : Nat} {t : Tk} (h : l[k]? = some t) : txN l (k + 1) = txN l k ++ t.s.data.toList := by
  unfold txN
  rw [List.take_add_one, h]
  simp
theorem Tk.s_none {t : Tk} (h : t.ok = true) (hk : t.k ≠ 0) : t.s.data.toList = [] := by
  have hs : t.s.size = 0 := by
    have h' := show tokB t.k t.s t.d t.o = true from h
    unfold tokB at h'
    rw [if_neg hk] at h'
    by_cases e : t.s.size = 0
    · exact e
    · rw [if_pos e] at h'; cases h'
  exact List.eq_nil_of_length_eq_zero (by rw [Array.length_toList]; exact hs)
theorem put_letters (W : Int) (s : Pr) (t : Tk) (z : Int) (ht : t.ok = true) : ltB (s.put W t z).1.out = ltB s.out ++ ltB t.s.data.toList := by
  have h10 : ltB [10] = [] := by decide
  unfold Pr.put
  rcases t.k_bd ht with h | h | h | h | h
  · simp only [h]
    simp [Pr.text, ltB_app, ltB_blanks]
  all_goals
    rw [t.s_none ht (by omega)]
    simp only [h]
  · cases hs : s.stays W z <;> simp [Pr.brk, ltB_app, h10] <;> rfl
  · simp [Pr.open] <;> rfl
  · simp <;> rfl
  · simp [Pr.brk, ltB_app, h10] <;> rfl
theorem run_letters {W : Int} {l : List Tk} (hS : strB l = true) : ∀ k, k ≤ l.length → ltB (run W l k).1.out = ltB (txN l k)
  | 0, _ => rfl
  | k + 1, hk => by
    have ht := List.getElem?_eq_getElem (show k < l.length by omega)
    rw [run_succ ht, txN_succ ht, ltB_app, ← run_letters hS k (by omega)]
    exact put_letters _ _ _ _ (okN_at (strB_true hS).2.1 (show k < l.length by omega) ht).1
/-! ### the ends of lines -/
/-- no piece ends with a blank. -/
def NbP (x : List UInt8) : Prop := ∀ p ∈ prt 10 x, p.getLast? ≠ some 32
theorem prt_snoc (x : List UInt8) : prt 10 (x ++ [10]) = prt 10 x ++ [[]] := by
  induction x with
  | nil => rfl
  | cons b r ih =>
    by_cases h : b = 10
    · subst h; rw [List.cons_append, prt_eq, prt_eq, ih]; rfl
    · rw [List.cons_append, prt_cons _ h, prt_cons _ h, ih]
      cases hp : prt 10 r with
      | nil => exact absurd hp (prt_pos _ _)
      | cons y t => rfl
theorem prt_none : ∀ (y : List UInt8), (∀ c ∈ y, c ≠ 10) → prt 10 y = [y]
  | [], _ => rfl
  | c :: r, hy => by
    rw [prt_cons _ (hy c (List.mem_cons_self ..)), prt_none r (fun d hd => hy d (List.mem_cons_of_mem _ hd))]
    rfl
theorem prt_app (x y : List UInt8) (hy : ∀ c ∈ y, c ≠ 10) : ∃ I p, prt 10 x = I ++ [p] ∧ prt 10 (x ++ y) = I ++ [p ++ y] := by
  induction x with
  | nil => exact ⟨[], [], rfl, by rw [List.nil_append, prt_none y hy]; rfl⟩
  | cons b r ih =>
    obtain ⟨I, p, h1, h2⟩ := ih
    by_cases h : b = 10
    · subst h
      exact ⟨[] :: I, p, by rw [prt_eq, h1]; rfl, by rw [List.cons_append, prt_eq, h2]; rfl⟩
    · rw [prt_cons _ h, h1, List.cons_append, prt_cons _ h, h2]
      cases I with
      | nil => exact ⟨[], [b] ++ p, rfl, by simp [pre]⟩
      | cons z I => exact ⟨([b] ++ z) :: I, p, rfl, rfl⟩
theorem NbP.nl {x : List UInt8} (h : NbP x) : NbP (x ++ [10]) := by
  intro p hp
  rw [prt_snoc] at hp
  rcases List.mem_append.1 hp with hp | hp
  · exact h p hp
  · simp at hp; subst hp; simp
theorem NbP.text {x y : List UInt8} (h : NbP x) (hy : ∀ c ∈ y, c ≠ 10) (hl : y.getLast? ≠ some 32) (hne : y ≠ []) : NbP (x ++ y) := by
  obtain ⟨I, p, h1, h2⟩ := prt_app x y hy
  intro q hq
  rw [h2] at hq
  rcases List.mem_append.1 hq with hq | hq
  · exact h q (by rw [h1]; exact List.mem_append_left _ hq)
  · simp at hq
    subst hq
    rw [List.getLast?_append]
    cases hg : y.getLast? with
    | none => exact absurd (List.getLast?_eq_none_iff.1 hg) hne
    | some c => rw [hg] at hl; simpa using hl
theorem txt_last {t : Tk} (h : t.ok = true) (h0 : t.k = 0) : t.s.data.toList ≠ [] ∧ t.s.data.toList.getLast? ≠ some 32 := by
  have h' := show tokB t.k t.s t.d t.o = true from h
  unfold tokB at h'
  rw [if_pos h0] at h'
  simp only [Bool.and_eq_true] at h'
  have hx := h'.1
  unfold txtB at hx
  have hlen : t.s.data.toList.length = t.s.size := (Lib.size_eq t.s).symm
  split at hx
  · rename_i hz
    simp only [Bool.and_eq_true] at hx
    have h3 := hx.2.1
    refine ⟨fun e => by rw [e] at hlen; simp at hlen; omega, ?_⟩
    rw [List.getLast?_eq_getElem?, hlen, List.getElem?_eq_getElem (by omega)]
    intro e
    injection e with e
    have e2 : t.s[t.s.size - 1]'(by omega) = 32 := e
    rw [e2] at h3
    simp at h3
  · cases hx
theorem run_ends {W : Int} {l : List Tk} (hS : strB l = true) : ∀ k, k ≤ l.length → NbP (run W l k).1.out
  | 0, _ => by intro p hp; simp [run, Pr.start, prt] at hp; subst hp; simp
  | k + 1, hk => by
    have ht := List.getElem?_eq_getElem (show k < l.length by omega)
    have htok := (okN_at (strB_true hS).2.1 (show k < l.length by omega) ht).1
    have ih := run_ends (W := W) hS k (by omega)
    rw [run_succ ht]
    generalize l[k] = t at *
    generalize (run W l k).1 = s at *
    show NbP (s.put W t (sizI l k t)).1.out
    unfold Pr.put
    rcases t.k_bd htok with h | h | h | h | h
    all_goals simp only [h]
    · obtain ⟨h1, h2⟩ := txt_last htok h
      simp only [if_true, Pr.text]
      rw [List.append_assoc]
      refine ih.text (fun c hc => ?_) ?_ (by simp [h1])
      · rcases List.mem_append.1 hc with hc | hc
        · rw [List.eq_of_mem_replicate hc]; decide
        · exact (t.s_bd htok).2 c hc
      · rw [List.getLast?_append]
        cases hg : t.s.data.toList.getLast? with
        | none => exact absurd (List.getLast?_eq_none_iff.1 hg) h1
        | some c => rw [hg] at h2; simpa using h2
    · cases hs : s.stays W (sizI l k t)
      · simpa [Pr.brk] using ih.nl
      · simpa using ih
    · simpa [Pr.open] using ih
    · simpa using ih
    · simpa [Pr.brk] using ih.nl
end Go.Proofs.YthjkgbcomjiejadGreatDoor
namespace Go.Proofs.YthjkgbcomjiejadGreatDoor
open Go.RowKit
set_option linter.unusedVariables false

theorem eB_no {x : ByteArray} (h : x.data.toList.getLast? ≠ some 32) : eB x = false := by
  have h1 : x.data.toList.length = x.size := (Lib.size_eq x).symm
  by_cases h0 : x.size = 0
  · exact eB_empty h0
  · obtain ⟨m, hm⟩ : ∃ m, x.size = m + 1 := ⟨x.size - 1, by omega⟩
    rw [eB_last hm]
    rw [List.getLast?_eq_getElem?, h1, hm, Nat.add_sub_cancel, List.getElem?_eq_getElem (by omega)] at h
    simp only [beq_eq_false_iff_ne]
    intro e
    apply h
    congr 1
    exact UInt8.toNat_inj.1 (show (x.data.toList[m]'(by omega)).toNat = 32 from e)
theorem lay_trail {W : Int} {l : List Tk} (h : okB W l = true) : trB (lns (layB W l)) = true := by
  have hS := (okB_true h).2.2
  have hn := run_ends (W := W) hS l.length (Nat.le_refl _)
  have hd : (layB W l).data.toList = (run W l l.length).1.out := by simp [layB, h]
  have key : ∀ x ∈ parts (layB W l), eB x = false := by
    intro x hx
    unfold parts at hx
    obtain ⟨y, hy, rfl⟩ := List.mem_map.1 hx
    rw [hd] at hy
    exact eB_no (hn y hy)
  unfold trB
  rw [List.all_eq_true]
  intro x hx
  have hm : x ∈ parts (layB W l) := by
    unfold lns at hx
    split at hx
    · exact List.mem_of_mem_take hx
    · exact hx
  rw [key x hm]
  rfl
end Go.Proofs.YthjkgbcomjiejadGreatDoor
