/-
  What shapeOf, TokenOk, WidthOf and IsBreak of the implementation answer.
-/
import Derived.Test.YtegjgbgnpkncbaaDoorShape
namespace Go.Proofs.YtegjgbgnpkncbaaDoor
open Go.RowKit

theorem tokB_cases {k : Int} {s : ByteArray} {d o : Int} (h : tokB k s d o = true) :
    (k = 0 ∧ d = 0 ∧ o = 0 ∧ txtB s = true) ∨ (k = 1 ∧ s = ByteArray.empty ∧ inB d 0 9 = true ∧ inB o (-9) 9 = true) ∨
    (k = 2 ∧ s = ByteArray.empty ∧ (d = 0 ∨ d = 1) ∧ inB o 0 9 = true) ∨ (k = 3 ∧ s = ByteArray.empty ∧ d = 0 ∧ o = 0) ∨
    (k = 4 ∧ s = ByteArray.empty ∧ d = 0 ∧ inB o (-9) 9 = true) := by
  unfold tokB at h
  split at h
  · rename_i hk
    simp at h
    exact .inl ⟨hk, h.2.1, h.2.2, h.1⟩
  · split at h
    · simp at h
    · rename_i hs
      have he : s = ByteArray.empty := size_zero.1 (by omega)
      split at h
      · rename_i hk
        simp at h
        exact .inr (.inl ⟨hk, he, h.1, h.2⟩)
      · split at h
        · rename_i hk
          simp at h
          have h1 := inB_true.1 h.1
          exact .inr (.inr (.inl ⟨hk, he, by omega, h.2⟩))
        · split at h
          · rename_i hk
            simp at h
            exact .inr (.inr (.inr (.inl ⟨hk, he, h.1, h.2⟩)))
          · split at h
            · rename_i hk
              simp at h
              exact .inr (.inr (.inr (.inr ⟨hk, he, h.1, h.2⟩)))
            · simp at h

theorem toList_beq_false {a b : ByteArray} (h : a ≠ b) : (a.toList == b.toList) = false := by
  rw [toList_eq, toList_eq, beq_eq_false_iff_ne]
  intro hh
  apply h
  obtain ⟨⟨x⟩⟩ := a
  obtain ⟨⟨y⟩⟩ := b
  simp at hh
  subst hh
  rfl

theorem empty_ne {s : ByteArray} (h : s.size ≠ 0) : ByteArray.empty ≠ s := fun e => h (by rw [← e]; rfl)

/-- shapeOf is true, with some shape, just where the token is right. -/
def ShapeOut (b : Bool) (w : World) (e : Ending) (w' : World) : Prop := ∃ v : Value, e = .returned (.tuple #[v, .bool b]) ∧ Below w.heap.size w w'
end Go.Proofs.YtegjgbgnpkncbaaDoor
