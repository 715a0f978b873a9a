/-
  The draws: a text for LexText, a text for ParseTree.
-/
import Derived.Test.YthjkgbcomjiejaaDoorLl13
namespace Go.Proofs.YthjkgbcomjiejaaDoor
open Go.RowKit
set_option linter.unusedVariables false

/-- a drawn text. -/
def TxP (w : World) (e : Ending) (w' : World) : Prop := ∃ s : ByteArray, e = .returned (.string s) ∧ s.size ≤ 20000 ∧ Below w.heap.size w w'
theorem txp_of {w w1 w' : World} {p : Nat} {A : Option Addr} {n c : Nat} {e : Ending} (hp : w.heap.size ≤ p) (hb : Below w.heap.size w w1) (h : Drawn w1 p A n c (TxS 20000) e w') : TxP w e w' := by
  obtain ⟨⟨v, ⟨s, rfl, hs⟩, rfl⟩, _, hg⟩ := h
  exact ⟨s, rfl, hs, hb.grown hg hb.size (fun q hq => by injection hq with hq; omega)⟩
set_option maxHeartbeats 1000000 in
set_option maxRecDepth 100000 in
theorem DrawLexText_any (A : Option Addr) (n c : Nat) (w : World) (hm : n ≤ 1048576) (hb : BS w A n) (hlo : ∀ b, A.map (·.block) = some b → b < w.heap.size) :
    Calls Tryd.prog 5 #[.slice A n c] w (TxP w) := by
  have HB := Lib.hid hb
  have HLO := Lib.hid hlo
  clear hb hlo
  go_enter Tryd.func5, Tryd.ntmps5
  go_wp2_with fail
  refine (l01New_any A n c w hm HB.out).mono ?_
  rintro e w1 ⟨p, hp, rfl, hc1, hb1⟩
  have HC1 := Lib.hid hc1
  have HB1 := Lib.hid hb1
  have HNE := Lib.hid (show ∀ b, A.map (·.block) = some b → b ≠ p from fun b hb => by have := HLO.out b hb; omega)
  have HBS := Lib.hid (show BS w1 A n from fun i hi => by
    obtain ⟨b, o, x, hA, hbl, hc, hx⟩ := HB.out i hi
    exact ⟨b, o, x, hA, Nat.lt_of_lt_of_le hbl hb1.size, (hb1.cell (p := ⟨b, o + i, none⟩) hbl).trans hc, hx⟩)
  clear hc1 hb1
  go_wp2_with fail
  refine (l06DrawLoose_any p A n c w1 hm HBS.out HNE.out HC1.out).mono ?_
  intro e w2 h2
  obtain ⟨s, rfl, hs, hbw⟩ := txp_of hp HB1.out h2
  clear h2
  go_wp2_with fail
  go_ret
  exact ⟨s, rfl, hs, hbw⟩
end Go.Proofs.YthjkgbcomjiejaaDoor
