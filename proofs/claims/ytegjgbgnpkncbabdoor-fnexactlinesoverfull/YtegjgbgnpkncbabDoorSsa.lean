/-
  Slices of strings that a call has made: how they are told, marked and looked at again.
-/
import Derived.Test.YtegjgbgnpkncbabDoorMark
import Derived.Test.YtegjgbgnpkncbabDoorRws
import Derived.Test.YtegjgbgnpkncbabDoorBwd
namespace Go.Proofs.YtegjgbgnpkncbabDoor
open Go.RowKit
set_option linter.unusedVariables false

def fs (s : ByteArray) : List Value := [.string s]
theorem fs_len (s : ByteArray) : (fs s).length = 1 := rfl
/-- the slice at A has these strings. -/
def SW (w : World) (A : Option Addr) (l : List ByteArray) : Prop := RS fs 1 w A l
theorem SW.at {w : World} {A : Option Addr} {l : List ByteArray} (h : SW w A l) {k : Nat} (hk : k < l.length) : ∃ s b o, l[k]? = some s ∧ A = some ⟨b, o, none⟩ ∧ b < w.heap.size ∧ w.cell? ⟨b, o + k, none⟩ = some (.string s) := by
  obtain ⟨s, b, o, hs, hA, hb, hc⟩ := RS.at h hk
  refine ⟨s, b, o, hs, hA, hb, ?_⟩
  have := hc 0 (by decide)
  simpa [fs] using this
theorem SW.below {w w' : World} {A : Option Addr} {l : List ByteArray} (h : SW w A l) (hb : Below w.heap.size w w') : SW w' A l := RS.below h hb
theorem fl_fs_set {l : List ByteArray} {k : Nat} (hk : k < l.length) (s : ByteArray) (rest : List Value) : (fl fs l ++ rest).set k (.string s) = fl fs (l.set k s) ++ rest := by
  have e : ∀ l : List ByteArray, fl fs l = l.map Value.string := by
    intro l
    induction l with
    | nil => rfl
    | cons x r ih => rw [fl_cons, ih]; rfl
  rw [e, e, List.set_append_left _ _ (by simpa using hk), List.map_set]
/-- strings of a call's own: nil and empty, or at the head of a block. -/
def StrRow (w : World) (A : Option Addr) (xs : List ByteArray) : Prop :=
  xs = [] ∨ ∃ g rest, A = some ⟨g, 0, none⟩ ∧ BlkL w g 9 (fl fs xs ++ rest)
theorem StrRow.is {w : World} {A : Option Addr} {xs : List ByteArray} (h : StrRow w A xs) : SW w A xs := by
  rcases h with rfl | ⟨g, rest, rfl, hb⟩
  · exact RS.nil _ _
  · exact RS.of_blkR fs_len hb
theorem StrRow.below {w w' : World} {A : Option Addr} {xs : List ByteArray} (h : StrRow w A xs) (hb : Below w.heap.size w w') : StrRow w' A xs := by
  rcases h with rfl | ⟨g, rest, rfl, hk⟩
  · exact .inl rfl
  · exact .inr ⟨g, rest, rfl, hk.below hb hk.lt⟩
theorem StrRow.grown {w w' : World} {A : Option Addr} {xs : List ByteArray} {row : Option Nat} (h : StrRow w A xs) (hg : w.grownBy w' row) (hne : ∀ b, A.map (·.block) = some b → some b ≠ row) : StrRow w' A xs := by
  rcases h with rfl | ⟨g, rest, rfl, hk⟩
  · exact .inl rfl
  · exact .inr ⟨g, rest, rfl, hk.grown hg (hne g rfl)⟩
/-- what a call hands back: strings of its own. -/
def StrsOut (w : World) (xs : List ByteArray) (e : Ending) (w' : World) : Prop :=
  Below w.heap.size w w' ∧ ∃ A c, e = .returned (.slice A xs.length c) ∧ (∀ b, A.map (·.block) = some b → w.heap.size ≤ b ∧ b < w'.heap.size) ∧ StrRow w' A xs
theorem strs_own {w w' : World} {v : Value} {n : Nat} {xs : List ByteArray} (hn : xs.length = n) (h : w'.ownsRow w.heap.size 9 1 v n (fl fs xs)) (hb : Below w.heap.size w w') : StrsOut w xs (.returned v) w' := by
  subst hn
  have hlt := h.lt
  rcases h.2 with ⟨rfl, h0⟩ | ⟨g, cap, cur, rfl, hB, hh, h1, h2, h3, h4⟩
  · have : xs = [] := List.eq_nil_of_length_eq_zero h0
    subst this
    exact ⟨hb, none, 0, rfl, fun b hb => by simp at hb, .inl rfl⟩
  · refine ⟨hb, some ⟨g, 0, none⟩, cap, rfl, fun b hb => ?_, .inr ⟨g, cur.toList.drop (xs.length * 1), rfl, ?_⟩⟩
    · simp at hb
      subst hb
      exact hlt g rfl
    · unfold BlkL
      rw [← h4, List.take_append_drop]
      simpa using hh
/-- the mark of place k. -/
def mkSt (x : Int) (k : Nat) : ByteArray := mtx (x + k)
def SMk (w : World) (A : Option Addr) (xs : List ByteArray) (x : Int) (e : Ending) (w' : World) : Prop :=
  e = .returned (.int .i64 (x + xs.length)) ∧ StrRow w' A (mkF (mkSt x) xs xs.length) ∧ w.grownBy w' (A.map (·.block))
end Go.Proofs.YtegjgbgnpkncbabDoor
