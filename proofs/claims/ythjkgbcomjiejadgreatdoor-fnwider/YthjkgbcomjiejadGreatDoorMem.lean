/-
  Words for memory: slices of tokens and of numbers read as lists; blocks that the call made; what stays behind new blocks and stores. It names no function of the program.
-/
import Derived.Test.YthjkgbcomjiejadGreatDoorStr
import Derived.Below
import Derived.Deep.Draws
import Derived.Laws.OwnMore
import Derived.Lib.Hide
namespace Go.Proofs.YthjkgbcomjiejadGreatDoor
open Go.RowKit

/-- the four cells of a token at ⟨b, p, none⟩. -/
def TkC (w : World) (b p : Nat) (t : Tk) : Prop :=
  w.cell? ⟨b, p, none⟩ = some (.int .i64 t.k) ∧ w.cell? ⟨b, p + 1, none⟩ = some (.string t.s) ∧ w.cell? ⟨b, p + 2, none⟩ = some (.int .i64 t.d) ∧ w.cell? ⟨b, p + 3, none⟩ = some (.int .i64 t.o)
theorem TkC.keep {w w' : World} {b p : Nat} {t : Tk} (h : TkC w b p t) (hk : ∀ j, w'.cell? ⟨b, j, none⟩ = w.cell? ⟨b, j, none⟩) : TkC w' b p t :=
  ⟨(hk _).trans h.1, (hk _).trans h.2.1, (hk _).trans h.2.2.1, (hk _).trans h.2.2.2⟩

/-- the slice at A reads as the tokens l. -/
def TS (w : World) (A : Option Addr) (l : List Tk) : Prop :=
  ∀ i t, l[i]? = some t → ∃ b o, A = some ⟨b, o, none⟩ ∧ b < w.heap.size ∧ TkC w b (o + i * 4) t
theorem TS.keep {w w' : World} {A : Option Addr} {l : List Tk} (h : TS w A l) (hz : w.heap.size ≤ w'.heap.size) (hk : ∀ b j, A.map (·.block) = some b → b < w.heap.size → w'.cell? ⟨b, j, none⟩ = w.cell? ⟨b, j, none⟩) : TS w' A l := by
  intro i t ht
  obtain ⟨b, o, rfl, hb, hc⟩ := h i t ht
  exact ⟨b, o, rfl, by omega, hc.keep fun j => hk b j rfl hb⟩
theorem TS.below {w w' : World} {A : Option Addr} {l : List Tk} (h : TS w A l) (hb : Below w.heap.size w w') : TS w' A l :=
  h.keep hb.size fun b j _ hl => hb.cell (p := ⟨b, j, none⟩) hl
theorem TS.grown {w w' : World} {A : Option Addr} {l : List Tk} {row : Option Nat} (h : TS w A l) (hg : w.grownBy w' row) (hne : ∀ b, A.map (·.block) = some b → some b ≠ row) : TS w' A l :=
  h.keep hg.size fun b _ e hl => World.cell?_of_block (hg.block b hl (hne b e))
theorem TS.alloc {w : World} {A : Option Addr} {l : List Tk} (h : TS w A l) (o : Obj) : TS (w.alloc o) A l :=
  h.below ((Below.refl _ _).alloc (Nat.le_refl _) o)
theorem TS.drewN {w : World} {A : Option Addr} {l : List Tk} (h : TS w A l) (n : Nat) : TS (w.drewN n) A l := h
theorem TS.nil (w : World) (A : Option Addr) : TS w A [] := fun i t h => by simp at h
theorem TS.at {w : World} {A : Option Addr} {l : List Tk} (h : TS w A l) {k : Nat} (hk : k < l.length) : ∃ t b o, l[k]? = some t ∧ A = some ⟨b, o, none⟩ ∧ b < w.heap.size ∧ TkC w b (o + k * 4) t := by
  have ht : l[k]? = some l[k] := List.getElem?_eq_getElem hk
  obtain ⟨b, o, e, hb, hc⟩ := h k _ ht
  exact ⟨_, b, o, ht, e, hb, hc⟩

theorem TS.get {w : World} {b o : Nat} {l : List Tk} (h : TS w (some ⟨b, o, none⟩) l) {k : Nat} {t : Tk} (ht : l[k]? = some t) : b < w.heap.size ∧ TkC w b (o + k * 4) t := by
  obtain ⟨b', o', e, hb, hc⟩ := h k t ht
  simp only [Option.some.injEq, Addr.mk.injEq] at e
  obtain ⟨rfl, rfl, _⟩ := e
  exact ⟨hb, hc⟩

/-- all texts fit. -/
def Fits (l : List Tk) : Prop := ∀ (i : Nat) (t : Tk), l[i]? = some t → t.s.size ≤ maxLen

/-- how many values and letters. -/
def bulkN (l : List Tk) (i : Nat) : Nat := ((l.take i).map fun (t : Tk) => t.s.size).sum
theorem bulkN_zero (l : List Tk) : bulkN l 0 = 0 := by simp [bulkN]
theorem bulkN_succ {l : List Tk} {i : Nat} {t : Tk} (h : l[i]? = some t) : bulkN l (i + 1) = bulkN l i + t.s.size := by
  unfold bulkN
  rw [List.take_add_one, h]
  simp
theorem bulkN_mono (l : List Tk) {i j : Nat} (h : i ≤ j) : bulkN l i ≤ bulkN l j := by
  induction h with
  | refl => exact Nat.le_refl _
  | @step m _ ih =>
    refine Nat.le_trans ih ?_
    cases e : l[m]? with
    | none => unfold bulkN; rw [List.take_add_one, e]; simp
    | some t => rw [bulkN_succ e]; omega
def bulk (l : List Tk) : Nat := l.length + bulkN l l.length
theorem bulk_at {l : List Tk} {i : Nat} {t : Tk} (h : l[i]? = some t) : t.s.size ≤ bulk l := by
  have h1 := bulkN_succ h
  have hl : i < l.length := (List.getElem?_eq_some_iff.1 h).1
  have h2 := bulkN_mono l (show i + 1 ≤ l.length by omega)
  unfold bulk; omega

/-- a block of tokens, whole. -/
def flat : List Tk → List Value
  | [] => []
  | t :: r => .int .i64 t.k :: .string t.s :: .int .i64 t.d :: .int .i64 t.o :: flat r
theorem flat_length (l : List Tk) : (flat l).length = l.length * 4 := by
  induction l with
  | nil => rfl
  | cons t r ih => simp only [flat, List.length_cons, ih]; omega
theorem flat_append (a b : List Tk) : flat (a ++ b) = flat a ++ flat b := by
  induction a with
  | nil => rfl
  | cons t r ih => simp only [List.cons_append, flat, ih]
theorem flat_at {l : List Tk} {i : Nat} {t : Tk} (h : l[i]? = some t) :
    (flat l)[i * 4]? = some (.int .i64 t.k) ∧ (flat l)[i * 4 + 1]? = some (.string t.s) ∧ (flat l)[i * 4 + 2]? = some (.int .i64 t.d) ∧ (flat l)[i * 4 + 3]? = some (.int .i64 t.o) := by
  induction l generalizing i with
  | nil => simp at h
  | cons u r ih =>
    cases i with
    | zero => simp at h; subst h; simp [flat]
    | succ i =>
      have := ih (i := i) (by simpa using h)
      have e : (i + 1) * 4 = i * 4 + 1 + 1 + 1 + 1 := by omega
      rw [e]
      refine ⟨by simpa [flat] using this.1, ?_, ?_, ?_⟩
      · rw [show i * 4 + 1 + 1 + 1 + 1 + 1 = (i * 4 + 1) + 1 + 1 + 1 + 1 by omega]; simpa [flat] using this.2.1
      · rw [show i * 4 + 1 + 1 + 1 + 1 + 2 = (i * 4 + 2) + 1 + 1 + 1 + 1 by omega]; simpa [flat] using this.2.2.1
      · rw [show i * 4 + 1 + 1 + 1 + 1 + 3 = (i * 4 + 3) + 1 + 1 + 1 + 1 by omega]; simpa [flat] using this.2.2.2
theorem flat_set {l : List Tk} {i : Nat} (t : Tk) (hi : i < l.length) :
    ((((flat l).set (i * 4) (.int .i64 t.k)).set (i * 4 + 1) (.string t.s)).set (i * 4 + 2) (.int .i64 t.d)).set (i * 4 + 3) (.int .i64 t.o) = flat (l.set i t) := by
  induction l generalizing i with
  | nil => simp at hi
  | cons u r ih =>
    cases i with
    | zero => simp [flat]
    | succ i =>
      have := ih (i := i) (by simpa using hi)
      rw [show (i + 1) * 4 = i * 4 + 1 + 1 + 1 + 1 by omega, show i * 4 + 1 + 1 + 1 + 1 + 1 = (i * 4 + 1) + 1 + 1 + 1 + 1 by omega, show i * 4 + 1 + 1 + 1 + 1 + 2 = (i * 4 + 2) + 1 + 1 + 1 + 1 by omega, show i * 4 + 1 + 1 + 1 + 1 + 3 = (i * 4 + 3) + 1 + 1 + 1 + 1 by omega]
      simp only [flat, List.set_cons_succ, this]

/-- block g is just the cells cs, of type t, none frozen. -/
def BlkL (w : World) (g : Nat) (t : TypeId) (cs : List Value) : Prop := w.heap[g]? = some (.cells cs.toArray t (0, 0))
theorem BlkL.lt {w : World} {g : Nat} {t : TypeId} {cs : List Value} (h : BlkL w g t cs) : g < w.heap.size := by
  unfold BlkL at h
  exact (Array.getElem?_eq_some_iff.1 h).1
theorem BlkL.cell {w : World} {g : Nat} {t : TypeId} {cs : List Value} (h : BlkL w g t cs) (i : Nat) : w.cell? ⟨g, i, none⟩ = cs[i]? := by
  unfold BlkL at h
  simp [World.cell?, h]
theorem BlkL.some_ {w : World} {g : Nat} {t : TypeId} {cs : List Value} (h : BlkL w g t cs) {i : Nat} (hi : i < cs.length) : ∃ v, w.cell? ⟨g, i, none⟩ = some v := ⟨_, (h.cell i).trans (List.getElem?_eq_getElem hi)⟩
theorem BlkL.frozen {w : World} {g : Nat} {t : TypeId} {cs : List Value} (h : BlkL w g t cs) (i : Nat) : w.frozen? ⟨g, i, none⟩ = false := by
  unfold BlkL at h
  simp [World.frozen?, h]
theorem BlkL.below {B : Nat} {w w' : World} {g : Nat} {t : TypeId} {cs : List Value} (h : BlkL w g t cs) (hb : Below B w w') (hg : g < B) : BlkL w' g t cs := (hb.block g hg).trans h
theorem BlkL.grown {row : Option Nat} {w w' : World} {g : Nat} {t : TypeId} {cs : List Value} (h : BlkL w g t cs) (hb : w.grownBy w' row) (hg : some g ≠ row) : BlkL w' g t cs := (hb.block g h.lt hg).trans h
theorem BlkL.alloc {w : World} {g : Nat} {t : TypeId} {cs : List Value} (h : BlkL w g t cs) (o : Obj) : BlkL (w.alloc o) g t cs := (Below.heap_alloc w o g h.lt).trans h
theorem BlkL.drewN {w : World} {g : Nat} {t : TypeId} {cs : List Value} (h : BlkL w g t cs) (n : Nat) : BlkL (w.drewN n) g t cs := h
theorem BlkL.drew {w : World} {g : Nat} {t : TypeId} {cs : List Value} (h : BlkL w g t cs) : BlkL w.drew g t cs := h
theorem BlkL.new (w : World) (t : TypeId) (cs : List Value) : BlkL (w.alloc (.cells cs.toArray t)) w.heap.size t cs := by
  show (w.heap.push _)[w.heap.size]? = _
  simp
theorem BlkL.set {w : World} {g : Nat} {t : TypeId} {cs : List Value} (h : BlkL w g t cs) (i : Nat) (u : Value) : BlkL (w.setCell ⟨g, i, none⟩ u) g t (cs.set i u) := by
  unfold BlkL at h ⊢
  simp [World.setCell, Array.getElem?_modify, h]
theorem BlkL.far {w : World} {g : Nat} {t : TypeId} {cs : List Value} (h : BlkL w g t cs) {p : Addr} (hp : g ≠ p.block) (u : Value) : BlkL (w.setCell p u) g t cs := (Below.heap_setCell w p u g hp).trans h

theorem BlkL.four {w : World} {g : Nat} {t : TypeId} {l : List Tk} (h : BlkL w g t (flat l)) {k : Nat} (hk : k < l.length) :
    ∃ v0 v1 v2 v3, w.cell? ⟨g, k * 4, none⟩ = some v0 ∧ w.cell? ⟨g, k * 4 + 1, none⟩ = some v1 ∧ w.cell? ⟨g, k * 4 + 2, none⟩ = some v2 ∧ w.cell? ⟨g, k * 4 + 3, none⟩ = some v3 ∧
      w.frozen? ⟨g, k * 4, none⟩ = false ∧ w.frozen? ⟨g, k * 4 + 1, none⟩ = false ∧ w.frozen? ⟨g, k * 4 + 2, none⟩ = false ∧ w.frozen? ⟨g, k * 4 + 3, none⟩ = false := by
  have f := flat_at (List.getElem?_eq_getElem hk)
  exact ⟨_, _, _, _, (h.cell _).trans f.1, (h.cell _).trans f.2.1, (h.cell _).trans f.2.2.1, (h.cell _).trans f.2.2.2, h.frozen _, h.frozen _, h.frozen _, h.frozen _⟩
theorem BlkL.put {w : World} {g : Nat} {ty : TypeId} {l : List Tk} (h : BlkL w g ty (flat l)) {k : Nat} (hk : k < l.length) (t : Tk) :
    BlkL ((((w.setCell ⟨g, k * 4, none⟩ (.int .i64 t.k)).setCell ⟨g, k * 4 + 1, none⟩ (.string t.s)).setCell ⟨g, k * 4 + 2, none⟩ (.int .i64 t.d)).setCell ⟨g, k * 4 + 3, none⟩ (.int .i64 t.o)) g ty (flat (l.set k t)) := by
  rw [← flat_set t hk]
  exact (((h.set _ _).set _ _).set _ _).set _ _
theorem below_put {B : Nat} {a w : World} (h : Below B a w) {g : Nat} (hg : B ≤ g) (p : Nat) (v0 v1 v2 v3 : Value) :
    Below B a ((((w.setCell ⟨g, p, none⟩ v0).setCell ⟨g, p + 1, none⟩ v1).setCell ⟨g, p + 2, none⟩ v2).setCell ⟨g, p + 3, none⟩ v3) :=
  (((h.setCell (p := ⟨g, p, none⟩) hg _).setCell (p := ⟨g, p + 1, none⟩) hg _).setCell (p := ⟨g, p + 2, none⟩) hg _).setCell (p := ⟨g, p + 3, none⟩) hg _

theorem TS.of_blk {w : World} {g : Nat} {t : TypeId} {l : List Tk} (h : BlkL w g t (flat l)) : TS w (some ⟨g, 0, none⟩) l := by
  intro i u hu
  have f := flat_at hu
  refine ⟨g, 0, rfl, h.lt, ?_⟩
  unfold TkC
  simp only [Nat.zero_add]
  rw [h.cell, h.cell, h.cell, h.cell]
  exact f

/-- the slice at A reads as the numbers xs. -/
def IS (w : World) (A : Option Addr) (xs : List Int) : Prop :=
  ∀ i x, xs[i]? = some x → ∃ b, A = some ⟨b, 0, none⟩ ∧ b < w.heap.size ∧ w.cell? ⟨b, i, none⟩ = some (.int .i64 x)
theorem IS.keep {w w' : World} {A : Option Addr} {l : List Int} (h : IS w A l) (hz : w.heap.size ≤ w'.heap.size) (hk : ∀ b j, A.map (·.block) = some b → b < w.heap.size → w'.cell? ⟨b, j, none⟩ = w.cell? ⟨b, j, none⟩) : IS w' A l := by
  intro i t ht
  obtain ⟨b, rfl, hb, hc⟩ := h i t ht
  exact ⟨b, rfl, by omega, (hk b i rfl hb).trans hc⟩
theorem IS.below {w w' : World} {A : Option Addr} {l : List Int} (h : IS w A l) (hb : Below w.heap.size w w') : IS w' A l :=
  h.keep hb.size fun b j _ hl => hb.cell (p := ⟨b, j, none⟩) hl
theorem IS.grown {w w' : World} {A : Option Addr} {l : List Int} {row : Option Nat} (h : IS w A l) (hg : w.grownBy w' row) (hne : ∀ b, A.map (·.block) = some b → some b ≠ row) : IS w' A l :=
  h.keep hg.size fun b _ e hl => World.cell?_of_block (hg.block b hl (hne b e))
theorem IS.drewN {w : World} {A : Option Addr} {l : List Int} (h : IS w A l) (n : Nat) : IS (w.drewN n) A l := h
theorem IS.nil (w : World) (A : Option Addr) : IS w A [] := fun i t h => by simp at h
theorem IS.at {w : World} {A : Option Addr} {l : List Int} (h : IS w A l) {k : Nat} (hk : k < l.length) : ∃ x b, l[k]? = some x ∧ A = some ⟨b, 0, none⟩ ∧ b < w.heap.size ∧ w.cell? ⟨b, k, none⟩ = some (.int .i64 x) := by
  have ht : l[k]? = some l[k] := List.getElem?_eq_getElem hk
  obtain ⟨b, e, hb, hc⟩ := h k _ ht
  exact ⟨_, b, ht, e, hb, hc⟩
theorem IS.get {w : World} {b : Nat} {l : List Int} (h : IS w (some ⟨b, 0, none⟩) l) {k : Nat} {t : Int} (ht : l[k]? = some t) : b < w.heap.size ∧ w.cell? ⟨b, k, none⟩ = some (.int .i64 t) := by
  obtain ⟨b', e, hb, hc⟩ := h k t ht
  simp only [Option.some.injEq, Addr.mk.injEq] at e
  obtain ⟨rfl, _⟩ := e
  exact ⟨hb, hc⟩
def nums (xs : List Int) : List Value := xs.map (Value.int .i64)
theorem nums_at {xs : List Int} {i : Nat} {x : Int} (h : xs[i]? = some x) : (nums xs)[i]? = some (.int .i64 x) := by simp [nums, h]
theorem IS.of_blk {w : World} {g : Nat} {t : TypeId} {xs : List Int} (h : BlkL w g t (nums xs)) : IS w (some ⟨g, 0, none⟩) xs := by
  intro i u hu
  exact ⟨g, rfl, h.lt, (h.cell i).trans (nums_at hu)⟩
theorem IS.of_own {w : World} {base : Nat} {e : TypeId} {A : Option Addr} {n c : Nat} {xs : List Int} (h : w.ownsRow base e 1 (.slice A n c) n (nums xs)) : IS w A xs := by
  rcases h.2 with ⟨hv, hn⟩ | ⟨g, cap, cur, hv, hl⟩
  · have : xs = [] := by
      have hl := h.1
      rw [hn] at hl
      simpa [nums] using hl
    subst this
    exact IS.nil _ _
  · intro i x hx
    have hA : A = some ⟨g, 0, none⟩ := by injection hv
    subst hA
    refine ⟨g, rfl, (h.lt g rfl).2, ?_⟩
    have := h.cells (g := g) rfl i _ (nums_at hx)
    by_cases h0 : i = 0
    · subst h0; simpa [Addr.add] using this
    · simpa [Addr.add, h0] using this
end Go.Proofs.YthjkgbcomjiejadGreatDoor
