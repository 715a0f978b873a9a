/-
  Words for the printer's memory: a block that holds its fields, a row of bytes and a row of marks, each told apart by its type.
-/
import Derived.Test.YthjkgbcomjiejadGreatDoorPrn
import Derived.Test.YthjkgbcomjiejadGreatDoorMem
import Derived.WalkSmall
import Derived.OneCell
import Derived.Lib.AppendStr
import Derived.Maps.AppendAt
import Derived.Lib.SmallJoins
namespace Go.Proofs.YthjkgbcomjiejadGreatDoor
open Go.RowKit
set_option linter.unusedVariables false

/-- marks, cell by cell. -/
def mf : List (Nat × Nat) → List Value
  | [] => []
  | m :: r => .int .i64 m.1 :: .int .i64 m.2 :: mf r
theorem mf_length (l : List (Nat × Nat)) : (mf l).length = l.length * 2 := by
  induction l with
  | nil => rfl
  | cons t r ih => simp only [mf, List.length_cons, ih]; omega
theorem mf_append (a b : List (Nat × Nat)) : mf (a ++ b) = mf a ++ mf b := by
  induction a with
  | nil => rfl
  | cons t r ih => simp only [List.cons_append, mf, ih]
theorem mf_at {l : List (Nat × Nat)} {i : Nat} {m : Nat × Nat} (h : l[i]? = some m) : (mf l)[i * 2]? = some (.int .i64 m.1) ∧ (mf l)[i * 2 + 1]? = some (.int .i64 m.2) := by
  induction l generalizing i with
  | nil => simp at h
  | cons u r ih =>
    cases i with
    | zero => simp at h; subst h; simp [mf]
    | succ i =>
      have := ih (i := i) (by simpa using h)
      rw [show (i + 1) * 2 = i * 2 + 1 + 1 by omega]
      refine ⟨by simpa [mf] using this.1, ?_⟩
      rw [show i * 2 + 1 + 1 + 1 = (i * 2 + 1) + 1 + 1 by omega]
      simpa [mf] using this.2
theorem ms_last {l : List (Nat × Nat)} (h : l ≠ []) : ∃ r m, l = r ++ [m] ∧ l.length = r.length + 1 ∧ l.getLast? = some m ∧ l.dropLast = r := by
  refine ⟨l.dropLast, l.getLast h, (List.dropLast_concat_getLast h).symm, ?_, List.getLast?_eq_some_getLast h, rfl⟩
  have := List.length_pos_iff.2 h
  simp; omega

/-- in w the block p (type tp) has the cells cs; vW is a row of bytes, vM one of marks (type tm), all from B on. -/
structure PM (w : World) (B p : Nat) (tp tm : TypeId) (cs : List Value) (vW vM : Value) (out : List UInt8) (ms : List (Nat × Nat)) : Prop where
  base : B ≤ p
  blk : BlkL w p tp cs
  own : w.ownsRow B 5 1 vW out.length (Lib.byteCells out)
  mks : w.ownsRow B tm 2 vM ms.length (mf ms)
  n1 : tp ≠ 5
  n2 : tp ≠ tm
  n3 : tm ≠ 5
  n4 : tp ≠ 3
  n5 : tm ≠ 3
theorem own_type {w : World} {B : Nat} {e : TypeId} {z : Nat} {v : Value} {n : Nat} {xs : List Value} (h : w.ownsRow B e z v n xs) {g : Nat} (hg : v.ownBlock = some g) : ∃ cur, w.heap[g]? = some (.cells cur e (0, 0)) := by
  rcases h.2 with ⟨rfl, _⟩ | ⟨g', cap, cur, rfl, _, hh, _⟩
  · simp [Value.ownBlock] at hg
  · simp [Value.ownBlock] at hg; subst hg; exact ⟨cur, hh⟩
theorem own_apart {w : World} {B B' : Nat} {e e' : TypeId} {z z' : Nat} {v v' : Value} {n n' : Nat} {xs xs' : List Value} (h : w.ownsRow B e z v n xs) (h' : w.ownsRow B' e' z' v' n' xs') (hne : e ≠ e') : v.ownBlock = none ∨ v.ownBlock ≠ v'.ownBlock := by
  cases hv : v.ownBlock with
  | none => exact .inl rfl
  | some g =>
    refine .inr fun he => ?_
    obtain ⟨c1, h1⟩ := own_type h hv
    obtain ⟨c2, h2⟩ := own_type h' he.symm
    rw [h1] at h2
    injection h2 with h2
    injection h2 with _ h2
    exact hne h2
theorem own_blk {w : World} {B : Nat} {e t : TypeId} {z : Nat} {v : Value} {n : Nat} {xs cs : List Value} {g : Nat} (h : w.ownsRow B e z v n xs) (hb : BlkL w g t cs) (hne : t ≠ e) : v.ownBlock ≠ some g := by
  intro he
  obtain ⟨c1, h1⟩ := own_type h he
  unfold BlkL at hb
  rw [h1] at hb
  injection hb with hb
  injection hb with _ hb
  exact hne hb.symm
/-- what was below B, and all rows of numbers, are as they were. -/
structure Chg (B : Nat) (w w' : World) : Prop where
  os : w'.os = w.os
  tape : w'.tape = w.tape
  output : w'.output = w.output
  size : w.heap.size ≤ w'.heap.size
  low : ∀ q : Nat, q < w.heap.size → q < B → w'.heap[q]? = w.heap[q]?
  int : ∀ (q : Nat) (cur : Array Value) (fz : Nat × Nat), w.heap[q]? = some (.cells cur 3 fz) → w'.heap[q]? = w.heap[q]?
theorem Chg.refl (B : Nat) (w : World) : Chg B w w := ⟨rfl, rfl, rfl, Nat.le_refl _, fun _ _ _ => rfl, fun _ _ _ _ => rfl⟩
theorem Chg.trans {B : Nat} {a b c : World} (h : Chg B a b) (k : Chg B b c) : Chg B a c :=
  ⟨k.os.trans h.os, k.tape.trans h.tape, k.output.trans h.output, Nat.le_trans h.size k.size,
    fun q hq hB => (k.low q (Nat.lt_of_lt_of_le hq h.size) hB).trans (h.low q hq hB),
    fun q cur fz hh => (k.int q cur fz ((h.int q cur fz hh).trans hh)).trans (h.int q cur fz hh)⟩
theorem Chg.of_below {B : Nat} {a b : World} (h : Below a.heap.size a b) : Chg B a b :=
  ⟨h.os, h.tape, h.output, h.size, fun q hq _ => h.block q hq, fun q cur fz hh => h.block q (Array.getElem?_eq_some_iff.1 hh).1⟩
theorem Chg.alloc {B : Nat} {a b : World} (h : Chg B a b) (o : Obj) : Chg B a (b.alloc o) :=
  h.trans (.of_below ((Below.refl _ _).alloc (Nat.le_refl _) o))
theorem Chg.drew {B : Nat} {a b : World} (h : Chg B a b) : Chg B a b.drew := ⟨h.os, h.tape, h.output, h.size, h.low, h.int⟩
theorem Chg.below {B : Nat} {a b : World} (h : Chg B a b) (hB : B ≤ a.heap.size) : Below B a b :=
  ⟨h.os, h.tape, h.output, h.size, fun q hq => h.low q (Nat.lt_of_lt_of_le hq hB) hq⟩
theorem Chg.mono {B B' : Nat} {a b : World} (h : Chg B a b) (hB : B' ≤ B) : Chg B' a b := ⟨h.os, h.tape, h.output, h.size, fun q hq hB' => h.low q hq (by omega), h.int⟩
theorem Chg.is {B : Nat} {w w' : World} {A : Option Addr} {xs : List Int} (h : Chg B w w') (hi : IS w A xs) (ht : ∀ b, A.map (·.block) = some b → ∃ (cur : Array Value) (fz : Nat × Nat), w.heap[b]? = some (.cells cur 3 fz)) : IS w' A xs :=
  hi.keep h.size fun b j e hl => World.cell?_of_block (by obtain ⟨c, f, hh⟩ := ht b e; exact h.int b c f hh)
theorem Chg.row {B C : Nat} {w w' : World} {v : Value} {n : Nat} {xs : List Value} (h : Chg B w w') (hi : w.ownsRow C 3 1 v n xs) : w'.ownsRow C 3 1 v n xs := by
  refine ⟨hi.1, ?_⟩
  rcases hi.2 with hn | ⟨g, cap, cur, rfl, hb, hgg, rest⟩
  · exact .inl hn
  · exact .inr ⟨g, cap, cur, rfl, hb, (h.int g cur _ hgg).trans hgg, rest⟩

section
variable {w w' : World} {B p : Nat} {tp tm : TypeId} {cs : List Value} {vW vM : Value} {out : List UInt8} {ms : List (Nat × Nat)}
theorem PM.alloc (h : PM w B p tp tm cs vW vM out ms) (o : Obj) : PM (w.alloc o) B p tp tm cs vW vM out ms :=
  ⟨h.base, h.blk.alloc o, h.own.alloc o, h.mks.alloc o, h.n1, h.n2, h.n3, h.n4, h.n5⟩
theorem PM.drew (h : PM w B p tp tm cs vW vM out ms) : PM w.drew B p tp tm cs vW vM out ms :=
  ⟨h.base, h.blk.drew, h.own.drew, h.mks.drew, h.n1, h.n2, h.n3, h.n4, h.n5⟩
theorem PM.grown {row : Option Nat} (h : PM w B p tp tm cs vW vM out ms) (hg : w.grownBy w' row) (h0 : some p ≠ row) (h1 : vW.ownBlock = none ∨ vW.ownBlock ≠ row) (h2 : vM.ownBlock = none ∨ vM.ownBlock ≠ row) : PM w' B p tp tm cs vW vM out ms :=
  ⟨h.base, h.blk.grown hg h0, h.own.kept hg h1, h.mks.kept hg h2, h.n1, h.n2, h.n3, h.n4, h.n5⟩
theorem PM.below (h : PM w B p tp tm cs vW vM out ms) (hb : Below w.heap.size w w') : PM w' B p tp tm cs vW vM out ms :=
  h.grown (World.grownBy.mk hb.os hb.tape hb.output hb.size (fun i hi _ => hb.block i hi) : w.grownBy w' none) (by simp) (by cases vW.ownBlock <;> simp) (by cases vM.ownBlock <;> simp)
theorem PM.set (h : PM w B p tp tm cs vW vM out ms) (i : Nat) (u : Value) : PM (w.setCell ⟨p, i, none⟩ u) B p tp tm (cs.set i u) vW vM out ms :=
  ⟨h.base, h.blk.set i u, ownsRow_setCell_other h.own (own_blk h.own h.blk h.n1) u, ownsRow_setCell_other h.mks (own_blk h.mks h.blk h.n2) u, h.n1, h.n2, h.n3, h.n4, h.n5⟩
theorem PM.chg_set (h : PM w B p tp tm cs vW vM out ms) (i : Nat) (u : Value) : Chg B w (w.setCell ⟨p, i, none⟩ u) := by
  have hb : ∀ q, q ≠ p → (w.setCell ⟨p, i, none⟩ u).heap[q]? = w.heap[q]? := fun q hq => Below.heap_setCell w ⟨p, i, none⟩ u q hq
  refine ⟨rfl, rfl, rfl, by simp [World.setCell], fun q hq hB => hb q (by have := h.base; omega), fun q cur fz hh => hb q fun e => ?_⟩
  subst e
  have hbk := h.blk
  unfold BlkL at hbk
  rw [hh] at hbk
  injection hbk with hbk
  injection hbk with _ hbk
  exact h.n4 hbk.symm
theorem chg_own {C : Nat} {e : TypeId} {z : Nat} {v : Value} {n : Nat} {xs : List Value} (h : w.ownsRow B e z v n xs) (hne : e ≠ 3) (hg : w.grownBy w' v.ownBlock) : Chg B w w' := by
  refine ⟨hg.os, hg.tape, hg.output, hg.size, fun q hq hB => hg.block q hq fun e => ?_, fun q cur fz hh => hg.block q (Array.getElem?_eq_some_iff.1 hh).1 fun e' => ?_⟩
  · have := (h.lt q e.symm).1; omega
  · obtain ⟨c, hc⟩ := own_type h e'.symm
    rw [hh] at hc
    injection hc with hc
    injection hc with _ hc
    exact hne hc.symm
theorem PM.chg_out (h : PM w B p tp tm cs vW vM out ms) (hg : w.grownBy w' vW.ownBlock) : Chg B w w' := chg_own (C := 0) h.own (by decide) hg
theorem PM.chg_ms (h : PM w B p tp tm cs vW vM out ms) (hg : w.grownBy w' vM.ownBlock) : Chg B w w' := chg_own (C := 0) h.mks h.n5 hg
theorem PM.put_out (h : PM w B p tp tm cs vW vM out ms) (hg : w.grownBy w' vW.ownBlock) {v' : Value} {out' : List UInt8} (ho : w'.ownsRow B 5 1 v' out'.length (Lib.byteCells out')) : PM w' B p tp tm cs v' vM out' ms :=
  ⟨h.base, h.blk.grown hg (fun e => own_blk h.own h.blk h.n1 e.symm), ho, h.mks.kept hg (own_apart h.mks h.own h.n3), h.n1, h.n2, h.n3, h.n4, h.n5⟩
theorem PM.put_ms (h : PM w B p tp tm cs vW vM out ms) (hg : w.grownBy w' vM.ownBlock) {v' : Value} {ms' : List (Nat × Nat)} (ho : w'.ownsRow B tm 2 v' ms'.length (mf ms')) : PM w' B p tp tm cs vW v' out ms' :=
  ⟨h.base, h.blk.grown hg (fun e => own_blk h.mks h.blk h.n2 e.symm), h.own.kept hg (own_apart h.own h.mks h.n3.symm), ho, h.n1, h.n2, h.n3, h.n4, h.n5⟩
theorem PM.row_int {C : Nat} {v : Value} {n : Nat} {xs : List Value} (h : PM w B p tp tm cs vW vM out ms) (hi : w.ownsRow C 3 1 v n xs) (hg : w.grownBy w' v.ownBlock) : PM w' B p tp tm cs vW vM out ms :=
  h.grown hg (fun e => own_blk hi h.blk h.n4 e.symm) (own_apart h.own hi (by decide)) (own_apart h.mks hi h.n5)
theorem PM.pop (h : PM w B p tp tm cs vW vM out ms) (hn : ms ≠ []) : ∃ g c, vM = .slice (some ⟨g, 0, none⟩) ms.length c ∧ ms.length ≤ c ∧ PM w B p tp tm cs vW (.slice (some ⟨g, 0, none⟩) (ms.length - 1) c) out ms.dropLast := by
  obtain ⟨r, m, he, hl, hlast, hdrop⟩ := ms_last hn
  have hm := h.mks
  obtain ⟨g, c, hv⟩ := Joins.ownsRow_form hm (by omega)
  have hc : ms.length ≤ c := by
    rcases hm.2 with ⟨h0, h1⟩ | ⟨g', c', cur, h0, _, _, h1, _⟩
    · omega
    · rw [hv] at h0; injection h0 with _ _ h0; omega
  refine ⟨g, c, hv, hc, h.base, h.blk, h.own, ?_, h.n1, h.n2, h.n3, h.n4, h.n5⟩
  rw [hdrop, show ms.length - 1 = r.length by omega]
  subst hv
  rw [hl, he, mf_append] at hm
  exact ownsRow_pop (by rw [mf_length]) hm
theorem PM.last (h : PM w B p tp tm cs vW vM out ms) (hn : ms ≠ []) {m : Nat × Nat} (hl : ms.getLast? = some m) : ∃ g c, vM = .slice (some ⟨g, 0, none⟩) ms.length c ∧ g < w.heap.size ∧ 0 < ms.length ∧
    w.cell? ⟨g, (ms.length - 1) * 2, none⟩ = some (.int .i64 m.1) ∧ w.cell? ⟨g, (ms.length - 1) * 2 + 1, none⟩ = some (.int .i64 m.2) := by
  have hp := List.length_pos_iff.2 hn
  have hm := h.mks
  obtain ⟨g, c, hv⟩ := Joins.ownsRow_form hm hp
  subst hv
  have hat := mf_at (l := ms) (i := ms.length - 1) (m := m) (by rw [← hl, List.getLast?_eq_getElem?])
  refine ⟨g, c, rfl, (hm.lt g rfl).2, hp, ?_, ?_⟩
  · rw [hm.cellAt _ (by omega)]; exact hat.1
  · rw [hm.cellAt _ (by omega)]; exact hat.2
end
theorem bytes_snoc (a : List UInt8) (b : UInt8) : Lib.byteCells a ++ [Value.int .u8 b.toNat] = Lib.byteCells (a ++ [b]) := by simp [Lib.byteCells]
theorem bytes_str (a : List UInt8) (s : ByteArray) : Lib.byteCells a ++ Lib.strCells s = Lib.byteCells (a ++ s.data.toList) := by
  simp [Lib.byteCells, Lib.strCells]
end Go.Proofs.YthjkgbcomjiejadGreatDoor
