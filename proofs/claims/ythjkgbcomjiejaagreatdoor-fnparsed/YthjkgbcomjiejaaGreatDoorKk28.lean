/-
  The answer of LexText in memory of its own: marked, and read again.
-/
import Derived.Test.YthjkgbcomjiejaaGreatDoorKk23
import Derived.Test.YthjkgbcomjiejaaGreatDoorKk27
import Derived.Test.YthjkgbcomjiejaaGreatDoorKk09
namespace Go.Proofs.YthjkgbcomjiejaaGreatDoor
open Go.RowKit
set_option linter.unusedVariables false

theorem ErrV.belowB {w w' : World} {B : Nat} (h : ErrV w) (hb : Below B w w') (hB : 0 < B) : ErrV w' := by
  unfold ErrV at *
  rw [hb.cell (p := ⟨0, 0, none⟩) hB]
  exact h
theorem ErrV.pos {w : World} (h : ErrV w) : 0 < w.heap.size := World.block_lt_of_cell? _ _ h
theorem ErrV.below {w w' : World} (h : ErrV w) (hb : Below w.heap.size w w') : ErrV w' := h.belowB hb h.pos
theorem ErrV.grown {w w' : World} {row : Option Nat} (h : ErrV w) (hg : w.grownBy w' row) (hne : some 0 ≠ row) : ErrV w' := (World.cell?_of_block (hg.block 0 h.pos hne)).trans h
/-- What readLexemes hands back, in plain words. -/
def RlA (s : ByteArray) (w : World) (e : Ending) (w' : World) : Prop :=
  ((∃ out v, lxA s = (out, -1) ∧ out.length ≤ 200 ∧ e = .returned (.tuple #[v, .nilIface]) ∧ w'.ownsRow w.heap.size 51 3 v out.length (fl fx out)) ∨
   (∃ p : Nat, lxA s = ([], (p : Int)) ∧ e = .returned (.tuple #[.slice none 0 0, .iface 113 (.agg #[.int .i64 p])]))) ∧ Below w.heap.size w w'
theorem readLexemes_all (s : ByteArray) (w : World) :
    Calls Tryz.prog 81 #[.string s] w (RlA s w) := by
  by_cases hs : s.size ≤ 2000
  · refine (readLexemes_any s w hs).mono ?_
    rintro e w' ⟨hc, hb⟩
    have hA : lxA s = LG s 0 [] := by rw [lxA, if_neg (by omega)]
    refine ⟨?_, hb⟩
    rcases hc with ⟨out, v, h1, h2, h3, h4⟩ | ⟨p, h1, h2⟩
    · exact .inl ⟨out, v, hA.trans h1, h2, h3, h4⟩
    · exact .inr ⟨p, hA.trans h1, h2⟩
  · have hA := Lib.hid (show lxA s = ([], 0) by rw [lxA, if_pos (by omega)])
    have hdec : decide (2000 < (s.size : Int)) = true := by simp; omega
    clear hs
    go_enter Tryz.func81, Tryz.ntmps81
    go_wp2
    go_ret2
    exact ⟨.inr ⟨0, hA.out, rfl⟩, Below.refl _ _⟩
set_option maxHeartbeats 1000000 in
theorem LexText_any (s : ByteArray) (w : World) (hg : ErrV w) :
    Calls Tryz.prog 57 #[.string s] w (LxOut w (lxA s)) := by
  have hp0 := hg.pos
  have HG := Lib.hid hg
  clear hg
  go_enter Tryz.func57, Tryz.ntmps57
  go_wp2_with fail
  refine (readLexemes_all s w).mono ?_
  rintro e w1 ⟨hcase, hb1⟩
  have HB1 := Lib.hid hb1
  have hsz1 := hb1.size
  clear hb1
  rcases hcase with ⟨out, v, hA, hl, rfl, hown⟩ | ⟨p, hA, rfl⟩
  · have HA := Lib.hid hA
    have HO := Lib.hid hown
    obtain ⟨A1, c1, rfl⟩ := own_slice hown
    clear hA hown
    go_wp2_with fail
    refine (as_nil _ _).mono ?_
    rintro e w' ⟨rfl, rfl⟩
    go_wp2
    go_ret2
    rw [HA.out]
    exact ⟨_, rfl, own_below HO.out ((Below.refl _ _).alloc (Nat.le_refl _) _), HB1.out.alloc hsz1 _⟩
  · have HA := Lib.hid hA
    clear hA
    go_wp2_with fail
    have hb2 := HB1.out.alloc hsz1 (.cells #[.int .i64 0] 113)
    refine (as_hit p w1.heap.size (.int .i64 0) _ (HG.out.belowB hb2 hp0) (by simp) (by simp)).mono ?_
    rintro e w' ⟨rfl, hw'⟩
    have hb' : Below w.heap.size w w' := by
      rw [hw']
      refine Below.setCell ?_ (by dsimp only; omega) _
      exact (((hb2.alloc (by simp; omega) _).alloc (by simp; omega) _).alloc (by simp; omega) _).alloc (by simp; omega) _
    have hc' : w'.cell? ⟨w1.heap.size, 0, none⟩ = some (.int .i64 p) := by
      rw [hw']
      refine World.cell?_setCell_same _ _ _ (u := .int .i64 0) ?_
      rw [World.cell?_alloc_lt _ _ ⟨w1.heap.size, 0, none⟩ (by simp; omega), World.cell?_alloc_lt _ _ ⟨w1.heap.size, 0, none⟩ (by simp; omega), World.cell?_alloc_lt _ _ ⟨w1.heap.size, 0, none⟩ (by simp; omega), World.cell?_alloc_lt _ _ ⟨w1.heap.size, 0, none⟩ (by simp)]
      simp
    clear hw' hb2
    have HB := Lib.hid hb'
    clear hb'
    go_wp2
    go_region_with (fail)
    go_wp2
    go_ret2
    rw [HA.out]
    exact ⟨_, rfl, own_nil _ _ _, HB.out.drew⟩
end Go.Proofs.YthjkgbcomjiejaaGreatDoor
namespace Go.Proofs.YthjkgbcomjiejaaGreatDoor
open Go.RowKit
set_option linter.unusedVariables false

/-- a row of one's own, from B on, wherever its spare places are. -/
def OR {α : Type} (f : α → List Value) (ty : TypeId) (w : World) (B : Nat) (v : Value) (l : List α) : Prop :=
  ((∃ A c, v = .slice A 0 c) ∧ l = []) ∨ ∃ g c rest, v = .slice (some ⟨g, 0, none⟩) l.length c ∧ B ≤ g ∧ BlkL w g ty (fl f l ++ rest)
section
variable {α : Type} {f : α → List Value} {z : Nat} {ty : TypeId} {w w' : World} {B : Nat} {v : Value} {l : List α}
theorem OR.form (h : OR f ty w B v l) : ∃ A c, v = .slice A l.length c := by
  rcases h with ⟨⟨A, c, rfl⟩, rfl⟩ | ⟨g, c, rest, rfl, _, _⟩
  · exact ⟨A, c, rfl⟩
  · exact ⟨_, c, rfl⟩
theorem OR.below (h : OR f ty w B v l) (hb : Below w.heap.size w w') : OR f ty w' B v l := by
  rcases h with h | ⟨g, c, rest, rfl, hB, hk⟩
  · exact .inl h
  · exact .inr ⟨g, c, rest, rfl, hB, hk.below hb hk.lt⟩
theorem OR.lowB (h : OR f ty w B v l) {C : Nat} (hc : C ≤ B) : OR f ty w C v l := by
  rcases h with h | ⟨g, c, rest, rfl, hB, hk⟩
  · exact .inl h
  · exact .inr ⟨g, c, rest, rfl, Nat.le_trans hc hB, hk⟩
theorem OR.keep (h : OR f ty w B v l) {row : Option Nat} (hg : w.grownBy w' row) (hne : ∀ g, v.ownBlock = some g → some g ≠ row) : OR f ty w' B v l := by
  rcases h with h | ⟨g, c, rest, rfl, hB, hk⟩
  · exact .inl h
  · exact .inr ⟨g, c, rest, rfl, hB, hk.grown hg (hne g rfl)⟩
theorem OR.rs (hf : ∀ t, (f t).length = z) {A : Option Addr} {n c : Nat} (h : OR f ty w B (.slice A n c) l) : RS f z w A l := by
  rcases h with ⟨_, rfl⟩ | ⟨g, c', rest, hv, hB, hk⟩
  · exact RS.nil _ _
  · injection hv with hA _ _
    subst hA
    exact RS.of_blkR hf hk
theorem OR.of_own (hf : ∀ t, (f t).length = z) {n : Nat} (hn : l.length = n) (h : w.ownsRow B ty z v n (fl f l)) : OR f ty w B v l := by
  rcases h.2 with ⟨rfl, h0⟩ | ⟨g, cap, cur, rfl, hB, hh, h1, h2⟩
  · refine .inl ⟨⟨_, _, rfl⟩, List.eq_nil_of_length_eq_zero (by omega)⟩
  · refine .inr ⟨g, cap, cur.toList.drop (n * z), by rw [hn], hB, ?_⟩
    unfold BlkL
    rw [← h2.2.2, List.take_append_drop]
    simpa using hh
theorem OR.of_blk {g : Nat} (hB : B ≤ g) {n c : Nat} (hn : l.length = n) (h : BlkL w g ty (fl f l)) : OR f ty w B (.slice (some ⟨g, 0, none⟩) n c) l :=
  .inr ⟨g, c, [], by rw [hn], hB, by simpa using h⟩
end
theorem OR.mk {α : Type} {f : α → List Value} {g : Nat} {ty : TypeId} {l l' : List α} {w : World} {B c : Nat} {rest : List Value} (hB : B ≤ g) (hl : l'.length = l.length) (h : BlkL w g ty (fl f l' ++ rest)) : OR f ty w B (.slice (some ⟨g, 0, none⟩) l.length c) l' :=
  .inr ⟨g, c, rest, by rw [hl], hB, h⟩
end Go.Proofs.YthjkgbcomjiejaaGreatDoor
namespace Go.Proofs.YthjkgbcomjiejaaGreatDoor
open Go.RowKit
set_option linter.unusedVariables false

theorem lxG_len (s : ByteArray) (f : Nat) : ∀ (a : Nat) (out : List Lx), out.length ≤ 200 → (lxG s f a out).1.length ≤ 200 := by
  induction f with
  | zero => intro a out h; exact h
  | succ f ih =>
    intro a out h
    simp only [lxG]
    split
    · exact h
    · split
      · exact ih _ _ h
      · split
        · simp
        · rename_i hr
          have := rd_cnt hr
          exact ih _ _ (by simp; omega)
theorem lxA_len (s : ByteArray) : (lxA s).1.length ≤ 200 := by
  unfold lxA
  split
  · simp
  · exact lxG_len s _ _ _ (by simp)
end Go.Proofs.YthjkgbcomjiejaaGreatDoor
