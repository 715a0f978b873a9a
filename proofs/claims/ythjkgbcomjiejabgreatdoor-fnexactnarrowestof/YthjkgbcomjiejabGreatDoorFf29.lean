/-
  The program's linesOf.
-/
import Derived.Test.YthjkgbcomjiejabGreatDoorFf27
import Derived.Test.YthjkgbcomjiejabGreatDoorFf28
import Derived.Test.YthjkgbcomjiejabGreatDoorFf19
import Derived.Test.YthjkgbcomjiejabGreatDoorFf10
import Derived.Maps.AppendAt
import Derived.Test.YthjkgbcomjiejabGreatDoorFf17
import Derived.Test.YthjkgbcomjiejabGreatDoorFf26
import Derived.Test.YthjkgbcomjiejabGreatDoorFf16
namespace Go.Proofs.YthjkgbcomjiejabGreatDoor
open Go.RowKit
set_option linter.unusedVariables false

def fs (s : ByteArray) : List Value := [.string s]
theorem fs_len (s : ByteArray) : (fs s).length = 1 := rfl
/-- the slice at A has these strings. -/
def SW (w : World) (A : Option Addr) (l : List ByteArray) : Prop := RS fs 1 w A l
theorem SW.at {w : World} {A : Option Addr} {l : List ByteArray} (h : SW w A l) {k : Nat} (hk : k < l.length) : ∃ s b o, l[k]? = some s ∧ A = some ⟨b, o, none⟩ ∧ b < w.heap.size ∧ w.cell? ⟨b, o + k, none⟩ = some (.string s) := by
  obtain ⟨s, b, o, hs, hA, hb, hc⟩ := RS.at h hk
  refine ⟨s, b, o, hs, hA, hb, ?_⟩
  have := hc 0 (by decide)
  simpa [fs] using this
theorem SW.below {w w' : World} {A : Option Addr} {l : List ByteArray} (h : SW w A l) (hb : Below w.heap.size w w') : SW w' A l := RS.below h hb
theorem fl_fs_set {l : List ByteArray} {k : Nat} (hk : k < l.length) (s : ByteArray) (rest : List Value) : (fl fs l ++ rest).set k (.string s) = fl fs (l.set k s) ++ rest := by
  have e : ∀ l : List ByteArray, fl fs l = l.map Value.string := by
    intro l
    induction l with
    | nil => rfl
    | cons x r ih => rw [fl_cons, ih]; rfl
  rw [e, e, List.set_append_left _ _ (by simpa using hk), List.map_set]
/-- strings of a call's own: nil and empty, or at the head of a block. -/
def StrRow (w : World) (A : Option Addr) (xs : List ByteArray) : Prop :=
  xs = [] ∨ ∃ g rest, A = some ⟨g, 0, none⟩ ∧ BlkL w g 9 (fl fs xs ++ rest)
theorem StrRow.is {w : World} {A : Option Addr} {xs : List ByteArray} (h : StrRow w A xs) : SW w A xs := by
  rcases h with rfl | ⟨g, rest, rfl, hb⟩
  · exact RS.nil _ _
  · exact RS.of_blkR fs_len hb
theorem StrRow.below {w w' : World} {A : Option Addr} {xs : List ByteArray} (h : StrRow w A xs) (hb : Below w.heap.size w w') : StrRow w' A xs := by
  rcases h with rfl | ⟨g, rest, rfl, hk⟩
  · exact .inl rfl
  · exact .inr ⟨g, rest, rfl, hk.below hb hk.lt⟩
theorem StrRow.grown {w w' : World} {A : Option Addr} {xs : List ByteArray} {row : Option Nat} (h : StrRow w A xs) (hg : w.grownBy w' row) (hne : ∀ b, A.map (·.block) = some b → some b ≠ row) : StrRow w' A xs := by
  rcases h with rfl | ⟨g, rest, rfl, hk⟩
  · exact .inl rfl
  · exact .inr ⟨g, rest, rfl, hk.grown hg (hne g rfl)⟩
/-- what a call hands back: strings of its own. -/
def StrsOut (w : World) (xs : List ByteArray) (e : Ending) (w' : World) : Prop :=
  Below w.heap.size w w' ∧ ∃ A c, e = .returned (.slice A xs.length c) ∧ (∀ b, A.map (·.block) = some b → w.heap.size ≤ b ∧ b < w'.heap.size) ∧ StrRow w' A xs
theorem strs_own {w w' : World} {v : Value} {n : Nat} {xs : List ByteArray} (hn : xs.length = n) (h : w'.ownsRow w.heap.size 9 1 v n (fl fs xs)) (hb : Below w.heap.size w w') : StrsOut w xs (.returned v) w' := by
  subst hn
  have hlt := h.lt
  rcases h.2 with ⟨rfl, h0⟩ | ⟨g, cap, cur, rfl, hB, hh, h1, h2, h3, h4⟩
  · have : xs = [] := List.eq_nil_of_length_eq_zero h0
    subst this
    exact ⟨hb, none, 0, rfl, fun b hb => by simp at hb, .inl rfl⟩
  · refine ⟨hb, some ⟨g, 0, none⟩, cap, rfl, fun b hb => ?_, .inr ⟨g, cur.toList.drop (xs.length * 1), rfl, ?_⟩⟩
    · simp at hb
      subst hb
      exact hlt g rfl
    · unfold BlkL
      rw [← h4, List.take_append_drop]
      simpa using hh
/-- the mark of place k. -/
def mkSt (x : Int) (k : Nat) : ByteArray := mtx (x + k)
def SMk (w : World) (A : Option Addr) (xs : List ByteArray) (x : Int) (e : Ending) (w' : World) : Prop :=
  e = .returned (.int .i64 (x + xs.length)) ∧ StrRow w' A (mkF (mkSt x) xs xs.length) ∧ w.grownBy w' (A.map (·.block))
end Go.Proofs.YthjkgbcomjiejabGreatDoor
namespace Go.Proofs.YthjkgbcomjiejabGreatDoor
open Go.RowKit
set_option linter.unusedVariables false
theorem os_below {w w' : World} {B z n : Nat} {e : TypeId} {v : Value} {xs : List Value} (h : w.ownsRow B e z v n xs) (hb : Below w.heap.size w w') : w'.ownsRow B e z v n xs := by
  rcases h.2 with hn | ⟨g, cap, cur, hv, hbg, hg, rest⟩
  · exact ⟨h.1, .inl hn⟩
  · exact ⟨h.1, .inr ⟨g, cap, cur, hv, hbg, (hb.block g (Array.getElem?_eq_some_iff.1 hg).1).trans hg, rest⟩⟩
theorem os_slice {w : World} {B z : Nat} {e : TypeId} {v : Value} {n : Nat} {xs : List Value} (h : w.ownsRow B e z v n xs) : ∃ A c, v = .slice A n c := by
  rcases h.2 with ⟨rfl, rfl⟩ | ⟨g, cap, cur, rfl, _⟩
  · exact ⟨none, 0, rfl⟩
  · exact ⟨_, _, rfl⟩
theorem os_lit0 (w : World) (e : TypeId) : (w.alloc (.cells #[] e)).ownsRow w.heap.size e 1 (.slice (some ⟨w.heap.size, 0, none⟩) 0 0) 0 [] := by
  refine ⟨rfl, .inr ⟨w.heap.size, 0, #[], rfl, Nat.le_refl _, BlkL.new w e [], Nat.le_refl _, by unfold maxLen; omega, rfl, rfl⟩⟩
theorem os_nil (w : World) (B z : Nat) (e : TypeId) : w.ownsRow B e z (.slice none 0 0) 0 [] := ⟨by simp, .inl ⟨rfl, rfl⟩⟩
theorem os_str (s : ByteArray) : ∀ u ∈ [Value.string s], u.oneCell' = true := by
  intro u hu
  simp at hu
  subst hu
  rfl
theorem os_int (x : Int) : ∀ u ∈ [Value.int .i64 x], u.oneCell' = true := by
  intro u hu
  simp at hu
  subst hu
  rfl
end Go.Proofs.YthjkgbcomjiejabGreatDoor
namespace Go.Proofs.YthjkgbcomjiejabGreatDoor
open Go.RowKit
set_option linter.unusedVariables false

theorem infoS : (Tryz.prog.info? 9).map (fun i => (i.zero, i.size, i.bytes)) = some (some (.string ByteArray.empty), 1, 16) := by kernel_rfl
theorem fl_fs (l : List ByteArray) : fl fs l = l.map Value.string := by
  induction l with
  | nil => rfl
  | cons x r ih => rw [fl_cons, ih]; rfl
theorem empty_yes {x : ByteArray} (h : x.size = 0) : (x.toList == []) = true := by
  have h1 : x.data.toList.length = x.size := (Lib.size_eq x).symm
  have h2 : x.data.toList = [] := List.eq_nil_of_length_eq_zero (by omega)
  rw [ByteArray.toList_eq, h2]
  rfl
theorem empty_no {x : ByteArray} (h : ¬ x.size = 0) : (x.toList == []) = false := by
  have h1 : x.data.toList.length = x.size := (Lib.size_eq x).symm
  rw [ByteArray.toList_eq]
  cases h2 : x.data.toList with
  | nil => rw [h2] at h1; simp at h1; omega
  | cons _ _ => rfl
/-- lines that a call has laid. -/
def LnP (s : ByteArray) (w : World) (e : Ending) (w' : World) : Prop :=
  ∃ A c, e = .returned (.slice A (lns s).length c) ∧ SW w' A (lns s) ∧ (∀ b, A.map (·.block) = some b → w.heap.size ≤ b ∧ b < w'.heap.size) ∧ Below w.heap.size w w'
theorem SW.take {w : World} {A : Option Addr} {l : List ByteArray} {n : Nat} (h : SW w A l) : SW w A (l.take n) := by
  intro i t ht
  refine h i t ?_
  rw [List.getElem?_take] at ht
  split at ht
  · exact ht
  · cases ht
end Go.Proofs.YthjkgbcomjiejabGreatDoor
