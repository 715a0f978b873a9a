/-
  Slices of numbers that a call has made: how they are told, marked and looked at again.
-/
import Derived.Test.YthjkgbcomjiejadGreatDoorMark
import Derived.Test.YthjkgbcomjiejadGreatDoorLvls
namespace Go.Proofs.YthjkgbcomjiejadGreatDoor
open Go.RowKit
set_option linter.unusedVariables false

/-- a slice of numbers of a call's own: nil and empty, or at the head of a block. -/
def IntRow (w : World) (A : Option Addr) (xs : List Int) : Prop :=
  (A = none ∧ xs = []) ∨ ∃ g rest, A = some ⟨g, 0, none⟩ ∧ BlkL w g 3 (nums xs ++ rest)
theorem IntRow.is {w : World} {A : Option Addr} {xs : List Int} (h : IntRow w A xs) : IS w A xs := by
  rcases h with ⟨rfl, rfl⟩ | ⟨g, rest, rfl, hb⟩
  · exact IS.nil _ _
  · intro i x hx
    refine ⟨g, rfl, hb.lt, (hb.cell i).trans ?_⟩
    have hi : i < xs.length := (List.getElem?_eq_some_iff.1 hx).1
    rw [List.getElem?_append_left (by simpa [nums] using hi)]
    exact nums_at hx
theorem IntRow.below {w w' : World} {A : Option Addr} {xs : List Int} (h : IntRow w A xs) (hb : Below w.heap.size w w') : IntRow w' A xs := by
  rcases h with ⟨rfl, rfl⟩ | ⟨g, rest, rfl, hk⟩
  · exact .inl ⟨rfl, rfl⟩
  · exact .inr ⟨g, rest, rfl, hk.below hb hk.lt⟩
theorem IntRow.grown {w w' : World} {A : Option Addr} {xs : List Int} {row : Option Nat} (h : IntRow w A xs) (hg : w.grownBy w' row) (hne : ∀ b, A.map (·.block) = some b → some b ≠ row) : IntRow w' A xs := by
  rcases h with ⟨rfl, rfl⟩ | ⟨g, rest, rfl, hk⟩
  · exact .inl ⟨rfl, rfl⟩
  · exact .inr ⟨g, rest, rfl, hk.grown hg (hne g rfl)⟩
theorem IntRow.lt {w : World} {A : Option Addr} {xs : List Int} (h : IntRow w A xs) : ∀ b, A.map (·.block) = some b → b < w.heap.size := by
  rcases h with ⟨rfl, rfl⟩ | ⟨g, rest, rfl, hk⟩
  · intro b hb; simp at hb
  · intro b hb; simp at hb; subst hb; exact hk.lt

/-- what a call hands back: numbers of its own. -/
def IntsOut (w : World) (xs : List Int) (e : Ending) (w' : World) : Prop :=
  Below w.heap.size w w' ∧ ∃ A c, e = .returned (.slice A xs.length c) ∧ (∀ b, A.map (·.block) = some b → w.heap.size ≤ b) ∧ (A = none → c = 0) ∧ IntRow w' A xs

def MarkPost (w : World) (A : Option Addr) (xs : List Int) (x : Int) (e : Ending) (w' : World) : Prop :=
  e = .returned (.int .i64 (x + xs.length)) ∧ IntRow w' A (upTo xs x xs.length) ∧ w.grownBy w' (A.map (·.block))
theorem row_of_own {w : World} {base : Nat} {A : Option Addr} {n c : Nat} {xs : List Int} (h : w.ownsRow base 3 1 (.slice A n c) n (nums xs)) : IntRow w A xs ∧ (∀ b, A.map (·.block) = some b → base ≤ b) ∧ (A = none → c = 0) := by
  have hlt := h.lt
  have hlen := h.1
  rcases h.2 with ⟨hv, hn⟩ | ⟨g, cap, cur, hv, hg, hh, _, _, hsz, htk⟩
  · injection hv with e1 e2 e3
    subst e1 e2 e3
    have : xs = [] := by simpa [nums] using hlen
    exact ⟨.inl ⟨rfl, this⟩, fun b hb => by simp at hb, fun _ => rfl⟩
  · injection hv with e1 e2 e3
    subst e1 e3
    refine ⟨.inr ⟨g, cur.toList.drop (n * 1), rfl, ?_⟩, fun b hb => by simp at hb; subst hb; exact hg, fun h => by cases h⟩
    unfold BlkL
    rw [← htk, List.take_append_drop]
    exact hh

/-- an argument lies below what the call has made. -/
theorem TS.old {w0 w w' : World} {A : Option Addr} {l : List Tk} {row : Option Nat} (h : TS w A l) (h0 : TS w0 A l) (hz : w0.heap.size ≤ w.heap.size) (hg : w.grownBy w' row) (hr : ∀ g, row = some g → w0.heap.size ≤ g) : TS w' A l := by
  intro i t ht
  obtain ⟨b, o, rfl, hb, _⟩ := h0 i t ht
  obtain ⟨hb', hc⟩ := h.get ht
  refine ⟨b, o, rfl, Nat.lt_of_lt_of_le hb' hg.size, hc.keep fun j => World.cell?_of_block (hg.block b hb' ?_)⟩
  intro e
  have := hr b e.symm
  omega
def lvB (l : List Tk) : List Int := if strB l = true then levs l else []
theorem lvB_yes {l : List Tk} (h : strB l = true) : lvB l = levs l := if_pos h
theorem lvB_no {l : List Tk} (h : strB l = false) : lvB l = [] := if_neg (by rw [h]; simp)
theorem lvB_le (l : List Tk) : (lvB l).length ≤ 400 := by
  cases h : strB l
  · rw [lvB_no h]; simp
  · rw [lvB_yes h, levs_length]; exact (strB_true h).1

theorem LevelsOf_out (A : Option Addr) (l : List Tk) (n c : Nat) (w : World) (hn : l.length = n) (hm : n ≤ 2097152) (hts : TS w A l) (hf : Fits l) :
    Calls Tryz.prog 97 #[.slice A n c] w (IntsOut w (lvB l)) := by
  refine (LevelsOf_any A l n c w hn hm hts hf).mono ?_
  rintro e w' ⟨hb, ⟨hS, rfl, hk⟩ | ⟨hS, rfl⟩⟩
  · rw [lvB_yes hS]
    exact ⟨hb, some ⟨w.heap.size, 0, none⟩, l.length, by rw [levs_length], fun b hb => by simp at hb; omega, fun h => (by cases h), .inr ⟨_, _, rfl, hk⟩⟩
  · rw [lvB_no hS]
    exact ⟨hb, none, 0, rfl, fun b hb => by simp at hb, fun _ => rfl, .inl ⟨rfl, rfl⟩⟩

end Go.Proofs.YthjkgbcomjiejadGreatDoor
