/-
  Made tokens on both sides: l01Made, makeToken, Txt, Blank, Begin, Line; eqToken; the walks of their laws.
-/
import Derived.Test.YthjkgbcomjiejadGreatDoorLaw1
namespace Go.Proofs.YthjkgbcomjiejadGreatDoor
open Go.RowKit

/-- The token and true, or the zero value and false. -/
def madeV (k : Int) (s : ByteArray) (d o : Int) : Value := if tokB k s d o = true then .agg #[.int .i64 k, .string s, .int .i64 d, .int .i64 o] else .agg #[.int .i64 0, .string ByteArray.empty, .int .i64 0, .int .i64 0]
theorem madeV_yes {k : Int} {s : ByteArray} {d o : Int} (h : tokB k s d o = true) : madeV k s d o = .agg #[.int .i64 k, .string s, .int .i64 d, .int .i64 o] := if_pos h
theorem madeV_no {k : Int} {s : ByteArray} {d o : Int} (h : tokB k s d o = false) : madeV k s d o = .agg #[.int .i64 0, .string ByteArray.empty, .int .i64 0, .int .i64 0] := if_neg (by simp [h])

theorem below4 {B b : Nat} {a w : World} {v0 v1 v2 v3 : Value} (h : Below B a w) (hb : B ≤ b) :
    Below B a ((((w.setCell ⟨b, 0, none⟩ v0).setCell ⟨b, 1, none⟩ v1).setCell ⟨b, 2, none⟩ v2).setCell ⟨b, 3, none⟩ v3) :=
  (((h.setCell hb _).setCell hb _).setCell hb _).setCell hb _

theorem bcell {W w1 : World} (hb : Below W.heap.size W w1) : (∀ b o, b < W.heap.size → w1.cell? ⟨b, o, none⟩ = W.cell? ⟨b, o, none⟩) ∧ (∀ b o, b < W.heap.size → w1.frozen? ⟨b, o, none⟩ = W.frozen? ⟨b, o, none⟩) :=
  ⟨fun b o h => hb.cell (p := ⟨b, o, none⟩) h, fun b o h => hb.frozen (p := ⟨b, o, none⟩) h⟩

end Go.Proofs.YthjkgbcomjiejadGreatDoor
