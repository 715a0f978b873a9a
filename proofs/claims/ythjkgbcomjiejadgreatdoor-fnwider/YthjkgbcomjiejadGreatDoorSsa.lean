/-
  Slices of strings that a call has made: how they are told, marked and looked at again.
-/
import Derived.Test.YthjkgbcomjiejadGreatDoorMem
import Derived.Lib.SmallJoins
import Derived.Test.YthjkgbcomjiejadGreatDoorMark
import Derived.Test.YthjkgbcomjiejadGreatDoorBwd
namespace Go.Proofs.YthjkgbcomjiejadGreatDoor
open Go.RowKit
set_option linter.unusedVariables false

section
variable {α : Type} {f : α → List Value} {z : Nat}
/-- the slice at A has the elements l, each of z cells by f. -/
def RS (f : α → List Value) (z : Nat) (w : World) (A : Option Addr) (l : List α) : Prop :=
  ∀ (i : Nat) (t : α), l[i]? = some t → ∃ b o, A = some ⟨b, o, none⟩ ∧ b < w.heap.size ∧ ∀ j, j < z → w.cell? ⟨b, o + i * z + j, none⟩ = (f t)[j]?
theorem RS.keep {w w' : World} {A : Option Addr} {l : List α} (h : RS f z w A l) (hz : w.heap.size ≤ w'.heap.size) (hk : ∀ b j, A.map (·.block) = some b → b < w.heap.size → w'.cell? ⟨b, j, none⟩ = w.cell? ⟨b, j, none⟩) : RS f z w' A l := by
  intro i t ht
  obtain ⟨b, o, rfl, hb, hc⟩ := h i t ht
  exact ⟨b, o, rfl, Nat.lt_of_lt_of_le hb hz, fun j hj => (hk b _ rfl hb).trans (hc j hj)⟩
theorem RS.below {w w' : World} {A : Option Addr} {l : List α} (h : RS f z w A l) (hb : Below w.heap.size w w') : RS f z w' A l :=
  h.keep hb.size fun b j _ hl => hb.cell (p := ⟨b, j, none⟩) hl
theorem RS.grown {w w' : World} {A : Option Addr} {l : List α} {row : Option Nat} (h : RS f z w A l) (hg : w.grownBy w' row) (hne : ∀ b, A.map (·.block) = some b → some b ≠ row) : RS f z w' A l :=
  h.keep hg.size fun b j he hl => World.cell?_of_block (hg.block b hl (hne b he))
theorem RS.alloc {w : World} {A : Option Addr} {l : List α} (h : RS f z w A l) (o : Obj) : RS f z (w.alloc o) A l :=
  h.below ((Below.refl _ _).alloc (Nat.le_refl _) o)
theorem RS.drew {w : World} {A : Option Addr} {l : List α} (h : RS f z w A l) : RS f z w.drew A l := h
theorem RS.nil (w : World) (A : Option Addr) : RS f z w A [] := fun i t h => by simp at h
theorem RS.at {w : World} {A : Option Addr} {l : List α} (h : RS f z w A l) {k : Nat} (hk : k < l.length) : ∃ t b o, l[k]? = some t ∧ A = some ⟨b, o, none⟩ ∧ b < w.heap.size ∧ ∀ j, j < z → w.cell? ⟨b, o + k * z + j, none⟩ = (f t)[j]? := by
  obtain ⟨b, o, ha, hb, hc⟩ := h k l[k] (List.getElem?_eq_getElem hk)
  exact ⟨_, b, o, List.getElem?_eq_getElem hk, ha, hb, hc⟩
theorem RS.get {w : World} {b o : Nat} {l : List α} (h : RS f z w (some ⟨b, o, none⟩) l) {k : Nat} {t : α} (ht : l[k]? = some t) : b < w.heap.size ∧ ∀ j, j < z → w.cell? ⟨b, o + k * z + j, none⟩ = (f t)[j]? := by
  obtain ⟨b', o', ha, hb, hc⟩ := h k t ht
  injection ha with ha
  injection ha with h1 h2
  subst h1 h2
  exact ⟨hb, hc⟩
theorem RS.low {w : World} {A : Option Addr} {l : List α} (h : RS f z w A l) (hl : 0 < l.length) : ∀ b, A.map (·.block) = some b → b < w.heap.size := by
  obtain ⟨t, b, o, _, rfl, hb, _⟩ := h.at hl
  intro c hc
  simp at hc
  omega

/-- cells set one behind the other. -/
def setN (cs : List Value) (p : Nat) : List Value → List Value
  | [] => cs
  | v :: vs => setN (cs.set p v) (p + 1) vs
theorem setN_mid (vs : List Value) : ∀ (Y xs X : List Value), xs.length = vs.length → setN (Y ++ (xs ++ X)) Y.length vs = Y ++ (vs ++ X) := by
  induction vs with
  | nil => intro Y xs X h; simp at h; subst h; simp [setN]
  | cons v vs ih =>
    intro Y xs X h
    match xs, h with
    | x :: xs, h =>
      have e : (Y ++ (x :: xs ++ X)).set Y.length v = (Y ++ [v]) ++ (xs ++ X) := by
        rw [List.set_append_right _ _ (Nat.le_refl _), Nat.sub_self]; simp
      have := ih (Y ++ [v]) xs X (by simpa using h)
      simp only [setN, e]
      rw [show Y.length + 1 = (Y ++ [v]).length by simp, this]
      simp
def fl (f : α → List Value) (l : List α) : List Value := l.flatMap f
theorem fl_nil : fl f [] = [] := rfl
theorem fl_cons (t : α) (l : List α) : fl f (t :: l) = f t ++ fl f l := by simp [fl]
theorem fl_append (a b : List α) : fl f (a ++ b) = fl f a ++ fl f b := by simp [fl]
theorem fl_snoc (a : List α) (t : α) : fl f (a ++ [t]) = fl f a ++ f t := by simp [fl]
theorem fl_length (hf : ∀ t, (f t).length = z) (l : List α) : (fl f l).length = l.length * z := by
  induction l with
  | nil => simp [fl]
  | cons t r ih => rw [fl_cons, List.length_append, hf, ih, List.length_cons, Nat.add_mul]; omega
theorem fl_split {l : List α} {i : Nat} {t : α} (h : l[i]? = some t) : fl f l = fl f (l.take i) ++ (f t ++ fl f (l.drop (i + 1))) := by
  obtain ⟨hi, rfl⟩ := List.getElem?_eq_some_iff.1 h
  rw [← fl_cons, ← fl_append, ← List.drop_eq_getElem_cons hi, List.take_append_drop]
theorem fl_at (hf : ∀ t, (f t).length = z) {l : List α} {i j : Nat} {t : α} (h : l[i]? = some t) (hj : j < z) : (fl f l)[i * z + j]? = (f t)[j]? := by
  have hi := (List.getElem?_eq_some_iff.1 h).1
  have hl : (fl f (l.take i)).length = i * z := by rw [fl_length hf]; simp; rw [Nat.min_eq_left (by omega)]
  rw [fl_split h, List.getElem?_append_right (by omega), hl, List.getElem?_append_left (by rw [hf]; omega)]
  congr 1
  omega
theorem fl_set (hf : ∀ t, (f t).length = z) {l : List α} {i : Nat} (t : α) (hi : i < l.length) : setN (fl f l) (i * z) (f t) = fl f (l.set i t) := by
  have hl : (fl f (l.take i)).length = i * z := by rw [fl_length hf]; simp; rw [Nat.min_eq_left (by omega)]
  have ht : (l.set i t)[i]? = some t := by simp [hi]
  rw [fl_split (List.getElem?_eq_getElem hi), fl_split ht, ← hl, setN_mid _ _ _ _ (by rw [hf, hf])]
  have e1 : (l.set i t).take i = l.take i := by rw [List.take_set]; exact List.set_eq_of_length_le (by simp; omega)
  have e2 : (l.set i t).drop (i + 1) = l.drop (i + 1) := by rw [List.drop_set_of_lt (by omega)]
  rw [e1, e2]

/-- the same in a world's block. -/
def World.setN (w : World) (g p : Nat) : List Value → World
  | [] => w
  | v :: vs => World.setN (w.setCell ⟨g, p, none⟩ v) g (p + 1) vs
theorem BlkL.setN {g : Nat} {t : TypeId} : ∀ (vs : List Value) (w : World) (cs : List Value) (p : Nat), BlkL w g t cs → BlkL (World.setN w g p vs) g t (Go.Proofs.YthjkgbcomjiejadGreatDoor.setN cs p vs)
  | [], _, _, _, h => h
  | v :: vs, w, cs, p, h => BlkL.setN vs _ _ _ (h.set p v)
theorem BlkL.farN {g g' : Nat} {t : TypeId} {cs : List Value} (hne : g ≠ g') : ∀ (vs : List Value) (w : World) (p : Nat), BlkL w g t cs → BlkL (World.setN w g' p vs) g t cs
  | [], _, _, h => h
  | v :: vs, w, p, h => BlkL.farN hne vs _ _ (h.far (p := ⟨g', p, none⟩) hne v)
theorem below_setN {B : Nat} {a : World} {g : Nat} (hg : B ≤ g) : ∀ (vs : List Value) (w : World) (p : Nat), Below B a w → Below B a (World.setN w g p vs)
  | [], _, _, h => h
  | v :: vs, w, p, h => below_setN hg vs _ _ (h.setCell (p := ⟨g, p, none⟩) hg v)
theorem grown_setN {a : World} {g : Nat} : ∀ (vs : List Value) (w : World) (p : Nat), a.grownBy w (some g) → a.grownBy (World.setN w g p vs) (some g)
  | [], _, _, h => h
  | v :: vs, w, p, h => grown_setN vs _ _ ⟨h.os, h.tape, h.output, by simpa [World.setCell] using h.size, fun i hi hne => (Below.heap_setCell w ⟨g, p, none⟩ v i (by simpa using hne)).trans (h.block i hi hne)⟩
theorem BlkL.putN (hf : ∀ t, (f t).length = z) {w : World} {g : Nat} {ty : TypeId} {l : List α} (h : BlkL w g ty (fl f l)) {k : Nat} (hk : k < l.length) (t : α) :
    BlkL (World.setN w g (k * z) (f t)) g ty (fl f (l.set k t)) := by
  have := BlkL.setN (f t) w _ (k * z) h
  rw [fl_set hf t hk] at this
  exact this
theorem RS.of_blk (hf : ∀ t, (f t).length = z) {w : World} {g : Nat} {ty : TypeId} {l : List α} (h : BlkL w g ty (fl f l)) : RS f z w (some ⟨g, 0, none⟩) l := by
  intro i t ht
  refine ⟨g, 0, rfl, h.lt, fun j hj => ?_⟩
  rw [h.cell, Nat.zero_add]
  exact fl_at hf ht hj
theorem BlkL.each (hf : ∀ t, (f t).length = z) {w : World} {g : Nat} {ty : TypeId} {l : List α} (h : BlkL w g ty (fl f l)) {k j : Nat} (hk : k < l.length) (hj : j < z) :
    (∃ v, w.cell? ⟨g, k * z + j, none⟩ = some v) ∧ w.frozen? ⟨g, k * z + j, none⟩ = false := by
  refine ⟨h.some_ ?_, h.frozen _⟩
  rw [fl_length hf]
  have : (k + 1) * z ≤ l.length * z := Nat.mul_le_mul_right z hk
  rw [Nat.add_mul] at this
  omega
theorem RS.of_own (hf : ∀ t, (f t).length = z) {w : World} {base : Nat} {e : TypeId} {A : Option Addr} {n c : Nat} {l : List α} (hn : l.length = n) (h : w.ownsRow base e z (.slice A n c) n (fl f l)) : RS f z w A l := by
  intro i t ht
  have hi := (List.getElem?_eq_some_iff.1 ht).1
  obtain ⟨g, c', hv⟩ := Joins.ownsRow_form h (by omega)
  injection hv with hA _ _
  subst hA
  refine ⟨g, 0, rfl, (h.lt g rfl).2, fun j hj => ?_⟩
  have : (i + 1) * z ≤ n * z := Nat.mul_le_mul_right z (by omega)
  rw [Nat.add_mul] at this
  rw [Nat.zero_add, h.cellAt _ (by omega)]
  exact fl_at hf ht hj
theorem setN_app (vs : List Value) : ∀ (cs rest : List Value) (p : Nat), p + vs.length ≤ cs.length → setN (cs ++ rest) p vs = setN cs p vs ++ rest := by
  induction vs with
  | nil => intro cs rest p h; rfl
  | cons v vs ih =>
    intro cs rest p h
    simp only [List.length_cons] at h
    simp only [setN]
    rw [List.set_append_left _ _ (by omega)]
    exact ih _ _ _ (by simp; omega)
theorem BlkL.eachR (hf : ∀ t, (f t).length = z) {w : World} {g : Nat} {ty : TypeId} {l : List α} {rest : List Value} (h : BlkL w g ty (fl f l ++ rest)) {k j : Nat} (hk : k < l.length) (hj : j < z) :
    (∃ v, w.cell? ⟨g, k * z + j, none⟩ = some v) ∧ w.frozen? ⟨g, k * z + j, none⟩ = false := by
  refine ⟨h.some_ ?_, h.frozen _⟩
  rw [List.length_append, fl_length hf]
  have : (k + 1) * z ≤ l.length * z := Nat.mul_le_mul_right z hk
  rw [Nat.add_mul] at this
  omega
theorem BlkL.putR (hf : ∀ t, (f t).length = z) {w : World} {g : Nat} {ty : TypeId} {l : List α} {rest : List Value} (h : BlkL w g ty (fl f l ++ rest)) {k : Nat} (hk : k < l.length) (t : α) :
    BlkL (World.setN w g (k * z) (f t)) g ty (fl f (l.set k t) ++ rest) := by
  have := BlkL.setN (f t) w _ (k * z) h
  have hb : (k + 1) * z ≤ l.length * z := Nat.mul_le_mul_right z hk
  rw [Nat.add_mul] at hb
  rw [setN_app _ _ _ _ (by rw [fl_length hf, hf]; omega), fl_set hf t hk] at this
  exact this
theorem RS.of_blkR (hf : ∀ t, (f t).length = z) {w : World} {g : Nat} {ty : TypeId} {l : List α} {rest : List Value} (h : BlkL w g ty (fl f l ++ rest)) : RS f z w (some ⟨g, 0, none⟩) l := by
  intro i t ht
  refine ⟨g, 0, rfl, h.lt, fun j hj => ?_⟩
  have hi := (List.getElem?_eq_some_iff.1 ht).1
  have : (i + 1) * z ≤ l.length * z := Nat.mul_le_mul_right z hi
  rw [Nat.add_mul] at this
  rw [h.cell, Nat.zero_add, List.getElem?_append_left (by rw [fl_length hf]; omega)]
  exact fl_at hf ht hj
theorem fl_rep (hf : ∀ t, (f t).length = z) (hz : 0 < z) (o : α) (n : Nat) : fl f (List.replicate n o) = (madeCells (f o).toArray (n * z)).toList := by
  apply List.ext_getElem?
  intro j
  by_cases hj : j < n * z
  · have hm : j % z < z := Nat.mod_lt _ hz
    have hr : (madeCells (f o).toArray (n * z)).toList[j]? = some ((f o).toArray[j % z]!) := by
      rw [Array.getElem?_toList]
      simp [madeCells, hj, hf]
    have hq : j / z < n := by rw [Nat.div_lt_iff_lt_mul hz]; exact hj
    have h1 : (fl f (List.replicate n o))[j]? = (f o)[j % z]? := by
      have := fl_at hf (l := List.replicate n o) (i := j / z) (j := j % z) (t := o) (by rw [List.getElem?_replicate, if_pos hq]) hm
      rw [Nat.div_mul_self_eq_mod_sub_self] at this
      rw [← this]
      congr 1
      have := Nat.div_add_mod j z
      have := Nat.mod_le j z
      omega
    rw [hr, h1]
    have hl : j % z < (f o).length := by rw [hf]; exact hm
    simp [hl]
  · rw [List.getElem?_eq_none (by rw [fl_length hf]; simp; omega), List.getElem?_eq_none (by simp [size_madeCells]; omega)]
/-- filled up to k, noughts behind. -/
def upF (o : α) (l : List α) (n k : Nat) : List α := l.take k ++ List.replicate (n - k) o
theorem upF_length {o : α} {l : List α} {n k : Nat} (hl : l.length = n) (hk : k ≤ n) : (upF o l n k).length = n := by simp [upF]; omega
theorem upF_set {o : α} {l : List α} {n k : Nat} {t : α} (hl : l.length = n) (hk : k < n) (ht : l[k]? = some t) : (upF o l n k).set k t = upF o l n (k + 1) := by
  unfold upF
  have e : n - k = (n - (k + 1)) + 1 := by omega
  have hlen : (l.take k).length = k := by simp; omega
  rw [List.set_append_right _ _ (by omega), hlen, e, List.replicate_succ, Nat.sub_self, List.set_cons_zero, List.take_add_one, ht]
  simp
theorem upF_all {o : α} {l : List α} {n : Nat} (hl : l.length = n) : upF o l n n = l := by
  subst hl; simp [upF]
theorem upF_zero {o : α} {l : List α} {n : Nat} : upF o l n 0 = List.replicate n o := by simp [upF]
/-- each of the first k is as g says, the others as they were. -/
def mkF (g : Nat → α) (l : List α) (k : Nat) : List α := (List.range (min k l.length)).map g ++ l.drop k
theorem mkF_length (g : Nat → α) (l : List α) (k : Nat) : (mkF g l k).length = l.length := by simp [mkF]; omega
theorem mkF_zero (g : Nat → α) (l : List α) : mkF g l 0 = l := by simp [mkF]
theorem mkF_set (g : Nat → α) (l : List α) {k : Nat} (hk : k < l.length) : (mkF g l k).set k (g k) = mkF g l (k + 1) := by
  unfold mkF
  rw [Nat.min_eq_left (by omega), Nat.min_eq_left (by omega), List.set_append_right _ _ (by simp), List.range_succ]
  simp only [List.length_map, List.length_range, Nat.sub_self, List.map_append, List.map_cons, List.map_nil, List.append_assoc]
  rw [List.drop_eq_getElem_cons hk]
  simp only [List.set_cons_zero, List.cons_append, List.nil_append]
theorem mkF_all (g : Nat → α) (l : List α) : mkF g l l.length = (List.range l.length).map g := by simp [mkF]
theorem mkF_at (g : Nat → α) (l : List α) {i : Nat} (hi : i < l.length) : (mkF g l l.length)[i]? = some (g i) := by
  rw [mkF_all]; simp [hi]
end
end Go.Proofs.YthjkgbcomjiejadGreatDoor
namespace Go.Proofs.YthjkgbcomjiejadGreatDoor
open Go.RowKit
set_option linter.unusedVariables false

def fs (s : ByteArray) : List Value := [.string s]
theorem fs_len (s : ByteArray) : (fs s).length = 1 := rfl
/-- the slice at A has these strings. -/
def SW (w : World) (A : Option Addr) (l : List ByteArray) : Prop := RS fs 1 w A l
theorem SW.at {w : World} {A : Option Addr} {l : List ByteArray} (h : SW w A l) {k : Nat} (hk : k < l.length) : ∃ s b o, l[k]? = some s ∧ A = some ⟨b, o, none⟩ ∧ b < w.heap.size ∧ w.cell? ⟨b, o + k, none⟩ = some (.string s) := by
  obtain ⟨s, b, o, hs, hA, hb, hc⟩ := RS.at h hk
  refine ⟨s, b, o, hs, hA, hb, ?_⟩
  have := hc 0 (by decide)
  simpa [fs] using this
theorem SW.below {w w' : World} {A : Option Addr} {l : List ByteArray} (h : SW w A l) (hb : Below w.heap.size w w') : SW w' A l := RS.below h hb
theorem fl_fs_set {l : List ByteArray} {k : Nat} (hk : k < l.length) (s : ByteArray) (rest : List Value) : (fl fs l ++ rest).set k (.string s) = fl fs (l.set k s) ++ rest := by
  have e : ∀ l : List ByteArray, fl fs l = l.map Value.string := by
    intro l
    induction l with
    | nil => rfl
    | cons x r ih => rw [fl_cons, ih]; rfl
  rw [e, e, List.set_append_left _ _ (by simpa using hk), List.map_set]
/-- strings of a call's own: nil and empty, or at the head of a block. -/
def StrRow (w : World) (A : Option Addr) (xs : List ByteArray) : Prop :=
  xs = [] ∨ ∃ g rest, A = some ⟨g, 0, none⟩ ∧ BlkL w g 9 (fl fs xs ++ rest)
theorem StrRow.is {w : World} {A : Option Addr} {xs : List ByteArray} (h : StrRow w A xs) : SW w A xs := by
  rcases h with rfl | ⟨g, rest, rfl, hb⟩
  · exact RS.nil _ _
  · exact RS.of_blkR fs_len hb
theorem StrRow.below {w w' : World} {A : Option Addr} {xs : List ByteArray} (h : StrRow w A xs) (hb : Below w.heap.size w w') : StrRow w' A xs := by
  rcases h with rfl | ⟨g, rest, rfl, hk⟩
  · exact .inl rfl
  · exact .inr ⟨g, rest, rfl, hk.below hb hk.lt⟩
theorem StrRow.grown {w w' : World} {A : Option Addr} {xs : List ByteArray} {row : Option Nat} (h : StrRow w A xs) (hg : w.grownBy w' row) (hne : ∀ b, A.map (·.block) = some b → some b ≠ row) : StrRow w' A xs := by
  rcases h with rfl | ⟨g, rest, rfl, hk⟩
  · exact .inl rfl
  · exact .inr ⟨g, rest, rfl, hk.grown hg (hne g rfl)⟩
/-- what a call hands back: strings of its own. -/
def StrsOut (w : World) (xs : List ByteArray) (e : Ending) (w' : World) : Prop :=
  Below w.heap.size w w' ∧ ∃ A c, e = .returned (.slice A xs.length c) ∧ (∀ b, A.map (·.block) = some b → w.heap.size ≤ b ∧ b < w'.heap.size) ∧ StrRow w' A xs
theorem strs_own {w w' : World} {v : Value} {n : Nat} {xs : List ByteArray} (hn : xs.length = n) (h : w'.ownsRow w.heap.size 9 1 v n (fl fs xs)) (hb : Below w.heap.size w w') : StrsOut w xs (.returned v) w' := by
  subst hn
  have hlt := h.lt
  rcases h.2 with ⟨rfl, h0⟩ | ⟨g, cap, cur, rfl, hB, hh, h1, h2, h3, h4⟩
  · have : xs = [] := List.eq_nil_of_length_eq_zero h0
    subst this
    exact ⟨hb, none, 0, rfl, fun b hb => by simp at hb, .inl rfl⟩
  · refine ⟨hb, some ⟨g, 0, none⟩, cap, rfl, fun b hb => ?_, .inr ⟨g, cur.toList.drop (xs.length * 1), rfl, ?_⟩⟩
    · simp at hb
      subst hb
      exact hlt g rfl
    · unfold BlkL
      rw [← h4, List.take_append_drop]
      simpa using hh
/-- the mark of place k. -/
def mkSt (x : Int) (k : Nat) : ByteArray := mtx (x + k)
def SMk (w : World) (A : Option Addr) (xs : List ByteArray) (x : Int) (e : Ending) (w' : World) : Prop :=
  e = .returned (.int .i64 (x + xs.length)) ∧ StrRow w' A (mkF (mkSt x) xs xs.length) ∧ w.grownBy w' (A.map (·.block))
end Go.Proofs.YthjkgbcomjiejadGreatDoor
