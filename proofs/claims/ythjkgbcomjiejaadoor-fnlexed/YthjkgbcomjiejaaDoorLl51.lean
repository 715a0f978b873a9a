/-
  LexText of the program: what the reader found, or the place of its fault.
-/
import Derived.Test.YthjkgbcomjiejaaDoorLl50
import Derived.Test.YthjkgbcomjiejaaDoorLl35
namespace Go.Proofs.YthjkgbcomjiejaaDoor
open Go.RowKit
set_option linter.unusedVariables false

theorem ErrV.belowB {w w' : World} {B : Nat} (h : ErrV w) (hb : Below B w w') (hB : 0 < B) : ErrV w' := by
  unfold ErrV at *
  rw [hb.cell (p := ⟨0, 0, none⟩) hB]
  exact h
theorem ErrV.pos {w : World} (h : ErrV w) : 0 < w.heap.size := World.block_lt_of_cell? _ _ h
theorem ErrV.below {w w' : World} (h : ErrV w) (hb : Below w.heap.size w w') : ErrV w' := h.belowB hb h.pos
theorem ErrV.grown {w w' : World} {row : Option Nat} (h : ErrV w) (hg : w.grownBy w' row) (hne : some 0 ≠ row) : ErrV w' := (World.cell?_of_block (hg.block 0 h.pos hne)).trans h
/-- What readLexemes hands back, in plain words. -/
def RlA (s : ByteArray) (w : World) (e : Ending) (w' : World) : Prop :=
  ((∃ out v, lxA s = (out, -1) ∧ out.length ≤ 200 ∧ e = .returned (.tuple #[v, .nilIface]) ∧ w'.ownsRow w.heap.size 32 3 v out.length (fl fx out)) ∨
   (∃ p : Nat, lxA s = ([], (p : Int)) ∧ e = .returned (.tuple #[.slice none 0 0, .iface 47 (.agg #[.int .i64 p])]))) ∧ Below w.heap.size w w'
theorem readLexemes_all (s : ByteArray) (w : World) :
    Calls Tryd.prog 18 #[.string s] w (RlA s w) := by
  by_cases hs : s.size ≤ 2000
  · refine (readLexemes_any s w hs).mono ?_
    rintro e w' ⟨hc, hb⟩
    have hA : lxA s = LG s 0 [] := by rw [lxA, if_neg (by omega)]
    refine ⟨?_, hb⟩
    rcases hc with ⟨out, v, h1, h2, h3, h4⟩ | ⟨p, h1, h2⟩
    · exact .inl ⟨out, v, hA.trans h1, h2, h3, h4⟩
    · exact .inr ⟨p, hA.trans h1, h2⟩
  · have hA := Lib.hid (show lxA s = ([], 0) by rw [lxA, if_pos (by omega)])
    have hdec : decide (2000 < (s.size : Int)) = true := by simp; omega
    clear hs
    go_enter Tryd.func18, Tryd.ntmps18
    go_wp2
    go_ret2
    exact ⟨.inr ⟨0, hA.out, rfl⟩, Below.refl _ _⟩
set_option maxHeartbeats 1000000 in
theorem LexText_any (s : ByteArray) (w : World) (hg : ErrV w) :
    Calls Tryd.prog 7 #[.string s] w (LxOut w (lxA s)) := by
  have hp0 := hg.pos
  have HG := Lib.hid hg
  clear hg
  go_enter Tryd.func7, Tryd.ntmps7
  go_wp2_with fail
  refine (readLexemes_all s w).mono ?_
  rintro e w1 ⟨hcase, hb1⟩
  have HB1 := Lib.hid hb1
  have hsz1 := hb1.size
  clear hb1
  rcases hcase with ⟨out, v, hA, hl, rfl, hown⟩ | ⟨p, hA, rfl⟩
  · have HA := Lib.hid hA
    have HO := Lib.hid hown
    obtain ⟨A1, c1, rfl⟩ := own_slice hown
    clear hA hown
    go_wp2_with fail
    refine (as_nil _ _).mono ?_
    rintro e w' ⟨rfl, rfl⟩
    go_wp2
    go_ret2
    rw [HA.out]
    exact ⟨_, rfl, own_below HO.out ((Below.refl _ _).alloc (Nat.le_refl _) _), HB1.out.alloc hsz1 _⟩
  · have HA := Lib.hid hA
    clear hA
    go_wp2_with fail
    have hb2 := HB1.out.alloc hsz1 (.cells #[.int .i64 0] 47)
    refine (as_hit p w1.heap.size (.int .i64 0) _ (HG.out.belowB hb2 hp0) (by simp) (by simp)).mono ?_
    rintro e w' ⟨rfl, hw'⟩
    have hb' : Below w.heap.size w w' := by
      rw [hw']
      refine Below.setCell ?_ (by dsimp only; omega) _
      exact (((hb2.alloc (by simp; omega) _).alloc (by simp; omega) _).alloc (by simp; omega) _).alloc (by simp; omega) _
    have hc' : w'.cell? ⟨w1.heap.size, 0, none⟩ = some (.int .i64 p) := by
      rw [hw']
      refine World.cell?_setCell_same _ _ _ (u := .int .i64 0) ?_
      rw [World.cell?_alloc_lt _ _ ⟨w1.heap.size, 0, none⟩ (by simp; omega), World.cell?_alloc_lt _ _ ⟨w1.heap.size, 0, none⟩ (by simp; omega), World.cell?_alloc_lt _ _ ⟨w1.heap.size, 0, none⟩ (by simp; omega), World.cell?_alloc_lt _ _ ⟨w1.heap.size, 0, none⟩ (by simp)]
      simp
    clear hw' hb2
    have HB := Lib.hid hb'
    clear hb'
    go_wp2
    go_region_with (fail)
    go_wp2
    go_ret2
    rw [HA.out]
    exact ⟨_, rfl, own_nil _ _ _, HB.out.drew⟩
end Go.Proofs.YthjkgbcomjiejaaDoor
