/-
  A row of one's own, spare places whatever they are.
-/
import Derived.Test.YthjkgbcomjiejaaDoorLl21
namespace Go.Proofs.YthjkgbcomjiejaaDoor
open Go.RowKit
set_option linter.unusedVariables false

/-- a row of one's own, from B on, wherever its spare places are. -/
def OR {α : Type} (f : α → List Value) (ty : TypeId) (w : World) (B : Nat) (v : Value) (l : List α) : Prop :=
  ((∃ A c, v = .slice A 0 c) ∧ l = []) ∨ ∃ g c rest, v = .slice (some ⟨g, 0, none⟩) l.length c ∧ B ≤ g ∧ BlkL w g ty (fl f l ++ rest)
section
variable {α : Type} {f : α → List Value} {z : Nat} {ty : TypeId} {w w' : World} {B : Nat} {v : Value} {l : List α}
theorem OR.form (h : OR f ty w B v l) : ∃ A c, v = .slice A l.length c := by
  rcases h with ⟨⟨A, c, rfl⟩, rfl⟩ | ⟨g, c, rest, rfl, _, _⟩
  · exact ⟨A, c, rfl⟩
  · exact ⟨_, c, rfl⟩
theorem OR.below (h : OR f ty w B v l) (hb : Below w.heap.size w w') : OR f ty w' B v l := by
  rcases h with h | ⟨g, c, rest, rfl, hB, hk⟩
  · exact .inl h
  · exact .inr ⟨g, c, rest, rfl, hB, hk.below hb hk.lt⟩
theorem OR.lowB (h : OR f ty w B v l) {C : Nat} (hc : C ≤ B) : OR f ty w C v l := by
  rcases h with h | ⟨g, c, rest, rfl, hB, hk⟩
  · exact .inl h
  · exact .inr ⟨g, c, rest, rfl, Nat.le_trans hc hB, hk⟩
theorem OR.keep (h : OR f ty w B v l) {row : Option Nat} (hg : w.grownBy w' row) (hne : ∀ g, v.ownBlock = some g → some g ≠ row) : OR f ty w' B v l := by
  rcases h with h | ⟨g, c, rest, rfl, hB, hk⟩
  · exact .inl h
  · exact .inr ⟨g, c, rest, rfl, hB, hk.grown hg (hne g rfl)⟩
theorem OR.rs (hf : ∀ t, (f t).length = z) {A : Option Addr} {n c : Nat} (h : OR f ty w B (.slice A n c) l) : RS f z w A l := by
  rcases h with ⟨_, rfl⟩ | ⟨g, c', rest, hv, hB, hk⟩
  · exact RS.nil _ _
  · injection hv with hA _ _
    subst hA
    exact RS.of_blkR hf hk
theorem OR.of_own (hf : ∀ t, (f t).length = z) {n : Nat} (hn : l.length = n) (h : w.ownsRow B ty z v n (fl f l)) : OR f ty w B v l := by
  rcases h.2 with ⟨rfl, h0⟩ | ⟨g, cap, cur, rfl, hB, hh, h1, h2⟩
  · refine .inl ⟨⟨_, _, rfl⟩, List.eq_nil_of_length_eq_zero (by omega)⟩
  · refine .inr ⟨g, cap, cur.toList.drop (n * z), by rw [hn], hB, ?_⟩
    unfold BlkL
    rw [← h2.2.2, List.take_append_drop]
    simpa using hh
theorem OR.of_blk {g : Nat} (hB : B ≤ g) {n c : Nat} (hn : l.length = n) (h : BlkL w g ty (fl f l)) : OR f ty w B (.slice (some ⟨g, 0, none⟩) n c) l :=
  .inr ⟨g, c, [], by rw [hn], hB, by simpa using h⟩
end
theorem OR.mk {α : Type} {f : α → List Value} {g : Nat} {ty : TypeId} {l l' : List α} {w : World} {B c : Nat} {rest : List Value} (hB : B ≤ g) (hl : l'.length = l.length) (h : BlkL w g ty (fl f l' ++ rest)) : OR f ty w B (.slice (some ⟨g, 0, none⟩) l.length c) l' :=
  .inr ⟨g, c, rest, by rw [hl], hB, h⟩
end Go.Proofs.YthjkgbcomjiejaaDoor
