/-
  Slices of nodes that a call has made: how they are told, marked and looked at again.
-/
import Derived.Test.YtjdpakjnklfhhaaDoorTrx
namespace Go.Proofs.YtjdpakjnklfhhaaDoor
open Go.RowKit
set_option linter.unusedVariables false

/-- nodes of a call's own: nil and empty, or at the head of a block. -/
def NdRow (w : World) (A : Option Addr) (xs : List Nd) : Prop :=
  xs = [] ∨ ∃ g rest, A = some ⟨g, 0, none⟩ ∧ BlkL w g 58 (fl fn xs ++ rest)
theorem NdRow.is {w : World} {A : Option Addr} {xs : List Nd} (h : NdRow w A xs) : NS w A xs := by
  rcases h with rfl | ⟨g, rest, rfl, hb⟩
  · exact RS.nil _ _
  · exact RS.of_blkR fn_len hb
theorem NdRow.below {w w' : World} {A : Option Addr} {xs : List Nd} (h : NdRow w A xs) (hb : Below w.heap.size w w') : NdRow w' A xs := by
  rcases h with rfl | ⟨g, rest, rfl, hk⟩
  · exact .inl rfl
  · exact .inr ⟨g, rest, rfl, hk.below hb hk.lt⟩
theorem NdRow.grown {w w' : World} {A : Option Addr} {xs : List Nd} {row : Option Nat} (h : NdRow w A xs) (hg : w.grownBy w' row) (hne : ∀ b, A.map (·.block) = some b → some b ≠ row) : NdRow w' A xs := by
  rcases h with rfl | ⟨g, rest, rfl, hk⟩
  · exact .inl rfl
  · exact .inr ⟨g, rest, rfl, hk.grown hg (hne g rfl)⟩
/-- what a call hands back: nodes of its own. -/
def NdsO (w : World) (xs : List Nd) (e : Ending) (w' : World) : Prop :=
  Below w.heap.size w w' ∧ ∃ A c, e = .returned (.slice A xs.length c) ∧ (∀ b, A.map (·.block) = some b → w.heap.size ≤ b ∧ b < w'.heap.size) ∧ NdRow w' A xs
theorem NdsOut.o {w w' : World} {e : Ending} {xs : List Nd} (h : NdsOut w xs e w') : NdsO w xs e w' := by
  obtain ⟨v, rfl, h, hb⟩ := h
  have hlt := h.lt
  rcases h.2 with ⟨rfl, h0⟩ | ⟨g, cap, cur, rfl, hB, hh, h1, h2, h3, h4⟩
  · have : xs = [] := List.eq_nil_of_length_eq_zero h0
    subst this
    exact ⟨hb, none, 0, rfl, fun b hb => by simp at hb, .inl rfl⟩
  · refine ⟨hb, some ⟨g, 0, none⟩, cap, rfl, fun b hb => ?_, .inr ⟨g, cur.toList.drop (xs.length * 3), rfl, ?_⟩⟩
    · simp at hb
      subst hb
      exact hlt g rfl
    · unfold BlkL
      rw [← h4, List.take_append_drop]
      simpa using hh
def NMk (w : World) (A : Option Addr) (xs : List Nd) (x : Int) (e : Ending) (w' : World) : Prop :=
  e = .returned (.int .i64 (x + 3 * xs.length)) ∧ NdRow w' A (mkF (mkNd x) xs xs.length) ∧ w.grownBy w' (A.map (·.block))
theorem markNodeS_nil (A : Option Addr) (c : Nat) (x : Int) (w : World) : Calls Tryd.prog 18 #[.slice A 0 c, .int .i64 x] w fun r w' => r = .returned (.int .i64 x) ∧ w = w' := by
  go_enter Tryd.func18, Tryd.ntmps18
  go_wp2
  go_loopw [1, 5] (fun y i wr => i = .int .i64 0 ∧ y = .int .i64 x ∧ w = wr) (fun _ i _ => 0)
  case atStart => exact ⟨rfl, rfl, rfl⟩
  case round =>
    obtain ⟨rfl, rfl, rfl⟩ := hrel
    go_wp2
    go_ret
    exact ⟨rfl, rfl⟩
theorem markNodeR_any (A : Option Addr) (xs : List Nd) (c : Nat) (x : Int) (w : World) (hm : xs.length ≤ 2097152) (hx0 : 0 ≤ x) (hx1 : x ≤ 900000000) (h : NdRow w A xs) :
    Calls Tryd.prog 18 #[.slice A xs.length c, .int .i64 x] w (NMk w A xs x) := by
  rcases h with rfl | ⟨g, rest, rfl, hk⟩
  · refine (markNodeS_nil A c x w).mono ?_
    rintro e w' ⟨rfl, rfl⟩
    exact ⟨by simp, .inl rfl, World.grownBy.refl _ _⟩
  · refine (markNodeS_blk g xs rest _ c x w rfl hm hx0 hx1 hk).mono ?_
    rintro e w' ⟨rfl, h1, h2⟩
    exact ⟨rfl, .inr ⟨g, rest, rfl, h1⟩, h2⟩
theorem PartOf_o (A : Option Addr) (l : List Nd) (n c : Nat) (k : Int) (w : World) (hn : l.length = n) (hm : n ≤ 2097152) (hl : NS w A l) (hg : ErrV w) (hkw : (Lit.int .i64 k).wf = true) :
    Calls Tryd.prog 22 #[.slice A n c, .int .i64 k] w (NdsO w (pts l k)) := (PartOf_out A l n c k w hn hm hl hg hkw).mono fun _ _ h => h.o
theorem sPartOf_o (A : Option Addr) (l : List Nd) (n c : Nat) (k : Int) (w : World) (hn : l.length = n) (hm : n ≤ 2097152) (hl : NS w A l) (hs : ∀ (i : Nat) (x : Nd), l[i]? = some x → x.s.size ≤ 1048576) (hkw : (Lit.int .i64 k).wf = true) :
    Calls Tryd.prog 21 #[.slice A n c, .int .i64 k] w (NdsO w (pts l k)) := (sPartOf_out A l n c k w hn hm hl hs hkw).mono fun _ _ h => h.o
end Go.Proofs.YtjdpakjnklfhhaaDoor
