/-
  Made tokens on both sides: l01Made, makeToken, Txt, Blank, Begin, Line; eqToken; the walks of their laws.
-/
import Derived.Test.YthjkgbcomjiejaaDoorLl03
namespace Go.Proofs.YthjkgbcomjiejaaDoor
open Go.RowKit

theorem tokB_cases {k : Int} {s : ByteArray} {d o : Int} (h : tokB k s d o = true) :
    (k = 0 ∧ d = 0 ∧ o = 0 ∧ txtB s = true) ∨ (k = 1 ∧ s = ByteArray.empty ∧ inB d 0 9 = true ∧ inB o (-9) 9 = true) ∨
    (k = 2 ∧ s = ByteArray.empty ∧ (d = 0 ∨ d = 1) ∧ inB o 0 9 = true) ∨ (k = 3 ∧ s = ByteArray.empty ∧ d = 0 ∧ o = 0) ∨
    (k = 4 ∧ s = ByteArray.empty ∧ d = 0 ∧ inB o (-9) 9 = true) := by
  unfold tokB at h
  split at h
  · rename_i hk
    simp at h
    exact .inl ⟨hk, h.2.1, h.2.2, h.1⟩
  · split at h
    · simp at h
    · rename_i hs
      have he : s = ByteArray.empty := size_zero.1 (by omega)
      split at h
      · rename_i hk
        simp at h
        exact .inr (.inl ⟨hk, he, h.1, h.2⟩)
      · split at h
        · rename_i hk
          simp at h
          have h1 := inB_true.1 h.1
          exact .inr (.inr (.inl ⟨hk, he, by omega, h.2⟩))
        · split at h
          · rename_i hk
            simp at h
            exact .inr (.inr (.inr (.inl ⟨hk, he, h.1, h.2⟩)))
          · split at h
            · rename_i hk
              simp at h
              exact .inr (.inr (.inr (.inr ⟨hk, he, h.1, h.2⟩)))
            · simp at h

theorem toList_beq_false {a b : ByteArray} (h : a ≠ b) : (a.toList == b.toList) = false := by
  rw [toList_eq, toList_eq, beq_eq_false_iff_ne]
  intro hh
  apply h
  obtain ⟨⟨x⟩⟩ := a
  obtain ⟨⟨y⟩⟩ := b
  simp at hh
  subst hh
  rfl

theorem empty_ne {s : ByteArray} (h : s.size ≠ 0) : ByteArray.empty ≠ s := fun e => h (by rw [← e]; rfl)

/-- shapeOf is true, with some shape, just where the token is right. -/
def ShapeOut (b : Bool) (w : World) (e : Ending) (w' : World) : Prop := ∃ v : Value, e = .returned (.tuple #[v, .bool b]) ∧ Below w.heap.size w w'
end Go.Proofs.YthjkgbcomjiejaaDoor
namespace Go.Proofs.YthjkgbcomjiejaaDoor
open Go.RowKit

/-- what is left when n more are counted. -/
def szV (left : Int) (n : Nat) : Int := if left < (n : Int) then -1 else left - n
def widB (k : Int) (s : ByteArray) (d o : Int) : Int := if tokB k s d o = true then (if k = 0 then s.size else if k = 1 then d else 0) else -1
def brkB (k : Int) (s : ByteArray) (d o : Int) : Bool := tokB k s d o && (decide (k = 1) || decide (k = 4))

end Go.Proofs.YthjkgbcomjiejaaDoor
namespace Go.Proofs.YthjkgbcomjiejaaDoor
open Go.RowKit

/-- The token and true, or the zero value and false. -/
def madeV (k : Int) (s : ByteArray) (d o : Int) : Value := if tokB k s d o = true then .agg #[.int .i64 k, .string s, .int .i64 d, .int .i64 o] else .agg #[.int .i64 0, .string ByteArray.empty, .int .i64 0, .int .i64 0]
theorem madeV_yes {k : Int} {s : ByteArray} {d o : Int} (h : tokB k s d o = true) : madeV k s d o = .agg #[.int .i64 k, .string s, .int .i64 d, .int .i64 o] := if_pos h
theorem madeV_no {k : Int} {s : ByteArray} {d o : Int} (h : tokB k s d o = false) : madeV k s d o = .agg #[.int .i64 0, .string ByteArray.empty, .int .i64 0, .int .i64 0] := if_neg (by simp [h])

theorem below4 {B b : Nat} {a w : World} {v0 v1 v2 v3 : Value} (h : Below B a w) (hb : B ≤ b) :
    Below B a ((((w.setCell ⟨b, 0, none⟩ v0).setCell ⟨b, 1, none⟩ v1).setCell ⟨b, 2, none⟩ v2).setCell ⟨b, 3, none⟩ v3) :=
  (((h.setCell hb _).setCell hb _).setCell hb _).setCell hb _

theorem bcell {W w1 : World} (hb : Below W.heap.size W w1) : (∀ b o, b < W.heap.size → w1.cell? ⟨b, o, none⟩ = W.cell? ⟨b, o, none⟩) ∧ (∀ b o, b < W.heap.size → w1.frozen? ⟨b, o, none⟩ = W.frozen? ⟨b, o, none⟩) :=
  ⟨fun b o h => hb.cell (p := ⟨b, o, none⟩) h, fun b o h => hb.frozen (p := ⟨b, o, none⟩) h⟩

end Go.Proofs.YthjkgbcomjiejaaDoor
