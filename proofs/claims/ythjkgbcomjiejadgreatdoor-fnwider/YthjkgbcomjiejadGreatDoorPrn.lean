/-
  The printer in plain words: what each token does to it.
-/
import Derived.Test.YthjkgbcomjiejadGreatDoorSizm
import Derived.Test.YthjkgbcomjiejadGreatDoorImpl
namespace Go.Proofs.YthjkgbcomjiejadGreatDoor
set_option linter.unusedVariables false

/-- the printer: lines ended, column, pending blanks, marks (kind and column, the lowest first), what is written. -/
structure Pr where
  ln : Nat
  col : Nat
  pend : Nat
  ms : List (Nat × Nat)
  out : List UInt8

def Pr.start : Pr := ⟨0, 0, 0, [(2, 0)], []⟩
def Pr.top (s : Pr) : Nat × Nat := (s.ms.getLast?).getD (0, 0)
def Pr.room (W : Int) (s : Pr) (z : Int) : Bool := decide (z ≤ W - s.col - s.pend)
def Pr.brk (s : Pr) (o : Int) : Pr := ⟨s.ln + 1, 0, ((s.top.2 : Int) + o).toNat, s.ms, s.out ++ [10]⟩
def Pr.open (W : Int) (s : Pr) (t : Tk) (z : Int) : Pr :=
  { s with ms := s.ms ++ [if s.room W z = true then (0, s.top.2) else if t.d = 1 then (1, ((s.col : Int) + s.pend + t.o).toNat) else (2, ((s.col : Int) + s.pend + t.o).toNat)] }
def Pr.text (s : Pr) (x : List UInt8) : Pr := ⟨s.ln, s.col + s.pend + x.length, 0, s.ms, s.out ++ List.replicate s.pend 32 ++ x⟩
def Pr.stays (W : Int) (s : Pr) (z : Int) : Bool := decide (s.top.1 = 0) || (decide (s.top.1 = 2) && s.room W z)
def Pr.put (W : Int) (s : Pr) (t : Tk) (z : Int) : Pr × Bool :=
  if t.k = 0 then (s.text t.s.data.toList, false)
  else if t.k = 2 then (s.open W t z, false)
  else if t.k = 3 then ({ s with ms := s.ms.dropLast }, false)
  else if t.k = 1 then if s.stays W z = true then ({ s with pend := s.pend + t.d.toNat }, false) else (s.brk t.o, true)
  else (s.brk t.o, true)

/-- behind the first k tokens: the printer, and the places that broke. -/
def run (W : Int) (l : List Tk) : Nat → Pr × List Int
  | 0 => (Pr.start, [])
  | k + 1 => match l[k]? with
    | some t => (((run W l k).1.put W t (sizI l k t)).1, (run W l k).2 ++ (if ((run W l k).1.put W t (sizI l k t)).2 = true then [(k : Int)] else []))
    | none => run W l k
theorem run_succ {W : Int} {l : List Tk} {k : Nat} {t : Tk} (h : l[k]? = some t) : run W l (k + 1) = (((run W l k).1.put W t (sizI l k t)).1, (run W l k).2 ++ (if ((run W l k).1.put W t (sizI l k t)).2 = true then [(k : Int)] else [])) := by
  simp only [run, h]

/-- how far the printer can have come behind k tokens. -/
structure Pr.Bd (s : Pr) (k : Nat) : Prop where
  ln : s.ln ≤ k
  reach : s.col + s.pend ≤ 60 * k
  ms : ∀ m, m ∈ s.ms → m.2 ≤ 60 * k
  kind : ∀ m, m ∈ s.ms → m.1 ≤ 2
  out : s.out.length ≤ 30000 * k

theorem Tk.o_bd {t : Tk} (h : t.ok = true) : -9 ≤ t.o ∧ t.o ≤ 9 ∧ (t.k = 2 → 0 ≤ t.o) := by
  rcases tokB_cases (show tokB t.k t.s t.d t.o = true from h) with ⟨hk, _, h1, _⟩ | ⟨hk, _, _, h1⟩ | ⟨hk, _, _, h1⟩ | ⟨hk, _, _, h1⟩ | ⟨hk, _, _, h1⟩
  all_goals (try have h2 := inB_true.1 h1)
  all_goals omega
theorem Tk.k_bd {t : Tk} (h : t.ok = true) : t.k = 0 ∨ t.k = 1 ∨ t.k = 2 ∨ t.k = 3 ∨ t.k = 4 := by
  rcases tokB_cases (show tokB t.k t.s t.d t.o = true from h) with ⟨hk, h1⟩ | ⟨hk, h1⟩ | ⟨hk, h1⟩ | ⟨hk, h1⟩ | ⟨hk, h1⟩ <;> omega
theorem Tk.s_bd {t : Tk} (h : t.ok = true) : t.s.size ≤ 40 ∧ ∀ c, c ∈ t.s.data.toList → c ≠ 10 := by
  rcases tokB_cases (show tokB t.k t.s t.d t.o = true from h) with ⟨hk, _, _, h1⟩ | ⟨hk, h1, _⟩ | ⟨hk, h1, _⟩ | ⟨hk, h1, _⟩ | ⟨hk, h1, _⟩
  · unfold txtB at h1
    split at h1
    · rename_i hz
      refine ⟨hz.2, fun c hc e => ?_⟩
      simp only [Bool.and_eq_true] at h1
      have h2 := h1.2.2
      unfold prN at h2
      rw [List.take_of_length_le (by simp)] at h2
      have := List.all_eq_true.1 h2 c hc
      subst e
      simp at this
    · cases h1
  all_goals
    rw [h1]
    exact ⟨by decide, fun c hc => by simp at hc⟩
theorem Pr.top_mem {s : Pr} (h : s.ms ≠ []) : s.top ∈ s.ms := by
  unfold Pr.top
  rw [List.getLast?_eq_some_getLast h]
  exact List.getLast_mem h
def tens (x : List UInt8) : Nat := (x.filter (· == 10)).length
theorem tens_app (a b : List UInt8) : tens (a ++ b) = tens a + tens b := by simp [tens]
theorem tens_none {x : List UInt8} (h : ∀ c, c ∈ x → c ≠ 10) : tens x = 0 := by
  unfold tens
  rw [List.length_eq_zero_iff, List.filter_eq_nil_iff]
  intro c hc
  simpa using h c hc
theorem d_bd1 {t : Tk} (h : t.ok = true) (h1 : t.k = 1) : 0 ≤ t.d ∧ t.d ≤ 9 := by
  rcases tokB_cases (show tokB t.k t.s t.d t.o = true from h) with ⟨hk, _⟩ | ⟨hk, _, h2, _⟩ | ⟨hk, _⟩ | ⟨hk, _⟩ | ⟨hk, _⟩
  · omega
  · exact inB_true.1 h2
  · omega
  · omega
  · omega
theorem Pr.Bd.grow {s : Pr} {k : Nat} (h : s.Bd k) : s.Bd (k + 1) :=
  ⟨by have := h.ln; omega, by have := h.reach; omega, fun m hm => by have := h.ms m hm; omega, h.kind, by have := h.out; omega⟩
theorem Pr.Bd.brk {s : Pr} {k : Nat} (h : s.Bd k) (hn : s.ms ≠ []) {o : Int} (ho : o ≤ 9) : (s.brk o).Bd (k + 1) := by
  have ht := h.ms _ (s.top_mem hn)
  refine ⟨by have := h.ln; simp only [Pr.brk]; omega, by simp only [Pr.brk]; omega, fun m hm => by have := h.ms m hm; omega, h.kind, ?_⟩
  simp only [Pr.brk, List.length_append, List.length_cons, List.length_nil]
  have := h.out; omega
theorem Pr.put_bd {W : Int} {s : Pr} {k : Nat} {t : Tk} {z : Int} (h : s.Bd k) (hk : k ≤ 400) (hn : s.ms ≠ []) (ht : t.ok = true) : (s.put W t z).1.Bd (k + 1) := by
  have ho := t.o_bd ht
  have hs := t.s_bd ht
  have htop := h.ms _ (s.top_mem hn)
  have hr := h.reach
  have hl := h.ln
  have hout := h.out
  unfold Pr.put
  split
  · refine ⟨by simp only [Pr.text]; omega, ?_, fun m hm => by have := h.ms m hm; omega, h.kind, ?_⟩
    · have : t.s.data.toList.length ≤ 40 := by rw [Array.length_toList]; exact hs.1
      simp only [Pr.text]; omega
    · have : t.s.data.toList.length ≤ 40 := by rw [Array.length_toList]; exact hs.1
      simp only [Pr.text, List.length_append, List.length_replicate]; omega
  · split
    · refine ⟨by simp only [Pr.open]; omega, by simp only [Pr.open]; omega, fun m hm => ?_, fun m hm => ?_, by simp only [Pr.open]; omega⟩
      · simp only [Pr.open, List.mem_append, List.mem_singleton] at hm
        rcases hm with hm | hm
        · have := h.ms m hm; omega
        · subst hm
          split
          · simp only []; omega
          · split <;> simp only [] <;> omega
      · simp only [Pr.open, List.mem_append, List.mem_singleton] at hm
        rcases hm with hm | hm
        · exact h.kind m hm
        · subst hm
          split
          · simp
          · split <;> simp
    · split
      · exact ⟨by simp only []; omega, by simp only []; omega, fun m hm => by have := h.ms m (List.dropLast_subset _ hm); omega, fun m hm => h.kind m (List.dropLast_subset _ hm), by simp only []; omega⟩
      · split
        · rename_i h1
          have hd := d_bd1 ht h1
          split
          · exact ⟨by simp only []; omega, by simp only []; omega, fun m hm => by have := h.ms m hm; omega, h.kind, by simp only []; omega⟩
          · exact h.brk hn ho.2.1
        · exact h.brk hn ho.2.1
theorem Pr.put_ms {W : Int} {s : Pr} {t : Tk} {z : Int} (hn : s.ms ≠ []) (ht : t.ok = true) : ((s.put W t z).1.ms.length : Int) = s.ms.length + t.opn := by
  have hl : 0 < s.ms.length := List.length_pos_iff.2 hn
  unfold Pr.put Tk.opn
  rcases t.k_bd ht with h | h | h | h | h
  all_goals simp only [h]
  · simp [Pr.text]
  · simp
    split
    · simp
    · simp [Pr.brk]
  · simp [Pr.open]
  · simp
    omega
  · simp [Pr.brk]
theorem Pr.put_tens {W : Int} {s : Pr} {t : Tk} {z : Int} (ht : t.ok = true) (h : tens s.out = s.ln) : tens (s.put W t z).1.out = (s.put W t z).1.ln := by
  have hs := t.s_bd ht
  have hbrk : ∀ o, tens (s.brk o).out = (s.brk o).ln := by
    intro o
    simp only [Pr.brk]
    rw [tens_app, h]
    rfl
  unfold Pr.put
  split
  · simp only [Pr.text]
    rw [tens_app, tens_app, h, tens_none hs.2, tens_none (x := List.replicate s.pend 32) (fun c hc => by rw [List.eq_of_mem_replicate hc]; decide)]
    omega
  · split
    · exact h
    · split
      · exact h
      · split
        · split
          · exact h
          · exact hbrk _
        · exact hbrk _
theorem run_ok (W : Int) {l : List Tk} (hS : strB l = true) (k : Nat) (hk : k ≤ l.length) :
    (run W l k).1.Bd k ∧ ((run W l k).1.ms.length : Int) = opN l k + 1 ∧ tens (run W l k).1.out = (run W l k).1.ln ∧ (run W l k).2.length ≤ k := by
  obtain ⟨h4, hok, _⟩ := strB_true hS
  induction k with
  | zero =>
    refine ⟨⟨Nat.le_refl _, Nat.le_refl _, fun m hm => ?_, fun m hm => ?_, Nat.le_refl _⟩, by rw [opN_zero]; rfl, rfl, Nat.le_refl _⟩
    · simp only [run, Pr.start, List.mem_singleton] at hm; subst hm; exact Nat.le_refl _
    · simp only [run, Pr.start, List.mem_singleton] at hm; subst hm; exact Nat.le_refl _
  | succ k ih =>
    obtain ⟨h1, h2, h3, h5⟩ := ih (by omega)
    have ht : l[k]? = some l[k] := List.getElem?_eq_getElem (by omega)
    have htok := okN_at hok (show k < l.length by omega) ht
    have hlo := okN_lo (okN_mono (show k ≤ l.length by omega) hok) (by omega)
    have hn : (run W l k).1.ms ≠ [] := by intro e; rw [e] at h2; simp at h2; omega
    rw [run_succ ht]
    refine ⟨Pr.put_bd h1 (by omega) hn htok.1, ?_, Pr.put_tens htok.1 h3, ?_⟩
    · rw [Pr.put_ms hn htok.1, opN_succ ht, h2]; omega
    · simp only [List.length_append]
      split <;> simp <;> omega
theorem run_ms {W : Int} {l : List Tk} (hS : strB l = true) {k : Nat} (hk : k ≤ l.length) : (run W l k).1.ms ≠ [] ∧ (run W l k).1.ms.length ≤ 13 := by
  obtain ⟨h4, hok, _⟩ := strB_true hS
  have hlo := okN_lo (okN_mono hk hok) hk
  have h2 := (run_ok W hS k hk).2.1
  exact ⟨fun e => by rw [e] at h2; simp at h2; omega, by omega⟩
end Go.Proofs.YthjkgbcomjiejadGreatDoor
