/-
  JoinStreams on both sides.
-/
import Derived.Test.YteoigpohmgjcbaaCat
import Derived.Test.YteoigpohmgjcbaaMark
import Derived.Maps.AppendAt
namespace Go.Proofs.Yteoigpohmgjcbaa
open Go.RowKit
set_option linter.unusedVariables false

/-- what a call hands back: tokens of its own and true, or nothing and false. -/
def TokOut (w : World) (b : Bool) (L : List Tk) (e : Ending) (w' : World) : Prop :=
  Below w.heap.size w w' ∧ ((b = true ∧ ∃ g, e = .returned (.tuple #[.slice (some ⟨g, 0, none⟩) L.length L.length, .bool true]) ∧ w.heap.size ≤ g ∧ BlkL w' g 45 (flat L)) ∨
    (b = false ∧ e = .returned (.tuple #[.slice none 0 0, .bool false])))
def STokOut (w : World) (b : Bool) (L : List Tk) (e : Ending) (w' : World) : Prop :=
  Below w.heap.size w w' ∧ ((b = true ∧ ∃ A c, e = .returned (.tuple #[.slice A L.length c, .bool true]) ∧ (∀ g, A.map (·.block) = some g → w.heap.size ≤ g ∧ g < w'.heap.size) ∧ TS w' A L) ∨
    (b = false ∧ e = .returned (.tuple #[.slice none 0 0, .bool false])))
def jnB (la lb L : List Tk) : Bool := strB la && (strB lb && strB L)
theorem Fits.app {la lb : List Tk} (ha : Fits la) (hb : Fits lb) : Fits (la ++ lb) := by
  intro i t ht
  rw [List.getElem?_append] at ht
  split at ht
  · exact ha _ _ ht
  · exact hb _ _ ht

theorem PS.two {w : World} {A B : Option Addr} {la lb : List Tk} {n m c d : Nat} {t : TypeId} (hn : la.length = n) (hm : lb.length = m) (ha : TS w A la) (hb : TS w B lb) :
    PS (w.alloc (.cells #[.slice A n c, .slice B m d] t)) w.heap.size [⟨A, c, la⟩, ⟨B, d, lb⟩] := by
  subst hn hm
  have hN := BlkL.new w t [.slice A la.length c, .slice B lb.length d]
  refine ⟨hN.lt, fun i x hx => ?_⟩
  match i, hx with
  | 0, hx => simp at hx; subst hx; exact ⟨(hN.cell 0).trans rfl, ha.alloc _⟩
  | 1, hx => simp at hx; subst hx; exact ⟨(hN.cell 1).trans rfl, hb.alloc _⟩
  | i + 2, hx => simp at hx

theorem cell_four_new (w : World) (x0 x1 x2 x3 : Value) (t : TypeId) : ∀ j u, [x0, x1, x2, x3][j]? = some u → (w.alloc (.cells #[x0, x1, x2, x3] t)).cell? ((⟨w.heap.size, 0, none⟩ : Addr).add j) = some u := by
  intro j u hj
  have hN := BlkL.new w t [x0, x1, x2, x3]
  have ha : (⟨w.heap.size, 0, none⟩ : Addr).add j = ⟨w.heap.size, j, none⟩ := by unfold Addr.add; by_cases h0 : j = 0 <;> simp [h0]
  rw [ha]
  exact (hN.cell j).trans hj
theorem flat_one (t : Tk) : flat [t] = [.int .i64 t.k, .string t.s, .int .i64 t.d, .int .i64 t.o] := rfl
theorem toks_of_own {w : World} {base : Nat} {v : Value} {n : Nat} {l : List Tk} (h : w.ownsRow base 45 4 v n (flat l)) : l.length = n ∧ ∃ A c, v = .slice A n c ∧ (∀ b, A.map (·.block) = some b → base ≤ b ∧ b < w.heap.size) ∧ TS w A l := by
  have hlt := h.lt
  have hlen : l.length = n := by have := h.1; rw [flat_length] at this; omega
  refine ⟨hlen, ?_⟩
  have hall := h.2
  rcases hall with ⟨rfl, rfl⟩ | ⟨g, cap, cur, rfl, hg, hh, _⟩
  · have : l = [] := List.eq_nil_of_length_eq_zero hlen
    subst this
    exact ⟨none, 0, rfl, fun b hb => by simp at hb, TS.nil _ _⟩
  · refine ⟨_, cap, rfl, fun b hb => by simp at hb; subst hb; exact hlt g rfl, ?_⟩
    intro i t ht
    have f := flat_at ht
    have hi : i < n := by have := (List.getElem?_eq_some_iff.1 ht).1; omega
    refine ⟨g, 0, rfl, (hlt g rfl).2, ?_⟩
    unfold TkC
    simp only [Nat.zero_add]
    rw [h.cellAt _ (by omega), h.cellAt _ (by omega), h.cellAt _ (by omega), h.cellAt _ (by omega)]
    exact f
theorem ownsRow_keep4 {w w' : World} {B : Nat} {e : TypeId} {v : Value} {n : Nat} {xs : List Value} (h : w.ownsRow B e 4 v n xs) (hb : Below w.heap.size w w') : w'.ownsRow B e 4 v n xs :=
  h.kept (World.grownBy.mk hb.os hb.tape hb.output hb.size (fun i hi _ => hb.block i hi) : w.grownBy w' none) (by cases v.ownBlock <;> simp)
theorem app_below {w w2 w3 : World} {o : Obj} {e : TypeId} {v : Value} {n : Nat} {xs : List Value} (hB : Below w.heap.size w w2) (hown : w2.ownsRow w.heap.size e 4 v n xs) (hg : (w2.alloc o).grownBy w3 v.ownBlock) : Below w.heap.size w w3 :=
  (hB.alloc hB.size o).grown hg (Nat.le_trans hB.size (by simp)) (fun k hk => (hown.lt k hk).1)

def CopyPost (w : World) (l : List Tk) (e : Ending) (w' : World) : Prop := ∃ v, e = .returned v ∧ w'.ownsRow w.heap.size 45 4 v l.length (flat l) ∧ Below w.heap.size w w'

/-- tokens of a call's own: nil and none, or one block. -/
def TokRow (w : World) (A : Option Addr) (l : List Tk) : Prop := (A = none ∧ l = []) ∨ ∃ g, A = some ⟨g, 0, none⟩ ∧ BlkL w g 45 (flat l)
theorem TokRow.ts {w : World} {A : Option Addr} {l : List Tk} (h : TokRow w A l) : TS w A l := by
  rcases h with ⟨rfl, rfl⟩ | ⟨g, rfl, hk⟩
  · exact TS.nil _ _
  · exact TS.of_blk hk
theorem TokRow.below {w w' : World} {A : Option Addr} {l : List Tk} (h : TokRow w A l) (hb : Below w.heap.size w w') : TokRow w' A l := by
  rcases h with ⟨rfl, rfl⟩ | ⟨g, rfl, hk⟩
  · exact .inl ⟨rfl, rfl⟩
  · exact .inr ⟨g, rfl, hk.below hb hk.lt⟩
theorem TokRow.grown {w w' : World} {A : Option Addr} {l : List Tk} {row : Option Nat} (h : TokRow w A l) (hg : w.grownBy w' row) (hne : ∀ b, A.map (·.block) = some b → some b ≠ row) : TokRow w' A l := by
  rcases h with ⟨rfl, rfl⟩ | ⟨g, rfl, hk⟩
  · exact .inl ⟨rfl, rfl⟩
  · exact .inr ⟨g, rfl, hk.grown hg (hne g rfl)⟩
def ifB (b : Bool) (L : List Tk) : List Tk := if b = true then L else []
theorem ifB_le (b : Bool) (L : List Tk) : (ifB b L).length ≤ L.length := by cases b <;> simp [ifB]

def ToksOut (w : World) (b : Bool) (R : List Tk) (e : Ending) (w' : World) : Prop :=
  Below w.heap.size w w' ∧ ∃ A c, e = .returned (.tuple #[.slice A R.length c, .bool b]) ∧ (∀ g, A.map (·.block) = some g → w.heap.size ≤ g) ∧ (A = none → c = 0) ∧ TokRow w' A R
def SToksOut (w : World) (b : Bool) (R : List Tk) (e : Ending) (w' : World) : Prop :=
  Below w.heap.size w w' ∧ ∃ A c, e = .returned (.tuple #[.slice A R.length c, .bool b]) ∧ (∀ g, A.map (·.block) = some g → g < w'.heap.size) ∧ TS w' A R
theorem TokOut.out {w : World} {b : Bool} {L : List Tk} {e : Ending} {w' : World} (h : TokOut w b L e w') : ToksOut w b (ifB b L) e w' := by
  obtain ⟨hb, ⟨rfl, g, rfl, hg, hk⟩ | ⟨rfl, rfl⟩⟩ := h
  · exact ⟨hb, _, _, rfl, fun x hx => by simp at hx; omega, fun h => (by cases h), .inr ⟨g, rfl, hk⟩⟩
  · exact ⟨hb, none, 0, rfl, fun x hx => by simp at hx, fun _ => rfl, .inl ⟨rfl, rfl⟩⟩
theorem STokOut.out {w : World} {b : Bool} {L : List Tk} {e : Ending} {w' : World} (h : STokOut w b L e w') : SToksOut w b (ifB b L) e w' := by
  obtain ⟨hb, ⟨rfl, A, c, rfl, hg, hk⟩ | ⟨rfl, rfl⟩⟩ := h
  · exact ⟨hb, _, _, rfl, fun x hx => (hg x hx).2, hk⟩
  · exact ⟨hb, none, 0, rfl, fun x hx => by simp at hx, TS.nil _ _⟩

set_option maxHeartbeats 400000 in
theorem markTokenS_nil (x : Int) (w : World) :
    Calls Try.prog 16 #[.slice none 0 0, .int .i64 x] w fun e w' => e = .returned (.int .i64 x) ∧ w = w' := by
  go_enter Try.func16, Try.ntmps16
  go_wp2
  refine wp_loop_rounds 1 ?_
  rw [rounds_succ]
  go_wp2
  go_ret
  exact ⟨rfl, rfl⟩
def MarkTPost (w : World) (A : Option Addr) (l : List Tk) (x : Int) (e : Ending) (w' : World) : Prop :=
  e = .returned (.int .i64 (x + 4 * l.length)) ∧ TokRow w' A (mkTo l x l.length) ∧ w.grownBy w' (A.map (·.block))
theorem markTokenS_any (A : Option Addr) (l : List Tk) (c : Nat) (x : Int) (w : World) (hm : l.length ≤ 2097152) (hx0 : 0 ≤ x) (hx1 : x ≤ 900000000) (hc : A = none → c = 0) (h : TokRow w A l) :
    Calls Try.prog 16 #[.slice A l.length c, .int .i64 x] w (MarkTPost w A l x) := by
  rcases h with ⟨rfl, rfl⟩ | ⟨g, rfl, hk⟩
  · rw [hc rfl]
    refine (markTokenS_nil x w).mono ?_
    rintro e w' ⟨rfl, rfl⟩
    exact ⟨by simp, .inl ⟨rfl, rfl⟩, World.grownBy.refl _ _⟩
  · refine (markTokenS_blk g l _ c x w rfl hm hx0 hx1 hk).mono ?_
    rintro e w' ⟨rfl, h1, h2⟩
    exact ⟨rfl, .inr ⟨g, rfl, h1⟩, h2⟩
end Go.Proofs.Yteoigpohmgjcbaa
