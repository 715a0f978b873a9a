/-
  What ParseTree hands back, opened: nodes of its own, a code and a place; nodes are short.
-/
import Derived.Test.YtegjgbgnpkncbacGreatDoorKk05
import Derived.Test.YtegjgbgnpkncbacGreatDoorKk39
import Derived.Test.YtegjgbgnpkncbacGreatDoorKkPtp
namespace Go.Proofs.YtegjgbgnpkncbacGreatDoor
open Go.RowKit
set_option linter.unusedVariables false

/-- a slice of numbers of a call's own: nil and empty, or at the head of a block. -/
def IntRow (w : World) (A : Option Addr) (xs : List Int) : Prop :=
  (A = none ∧ xs = []) ∨ ∃ g rest, A = some ⟨g, 0, none⟩ ∧ BlkL w g 3 (nums xs ++ rest)
theorem IntRow.is {w : World} {A : Option Addr} {xs : List Int} (h : IntRow w A xs) : IS w A xs := by
  rcases h with ⟨rfl, rfl⟩ | ⟨g, rest, rfl, hb⟩
  · exact IS.nil _ _
  · intro i x hx
    refine ⟨g, rfl, hb.lt, (hb.cell i).trans ?_⟩
    have hi : i < xs.length := (List.getElem?_eq_some_iff.1 hx).1
    rw [List.getElem?_append_left (by simpa [nums] using hi)]
    exact nums_at hx
theorem IntRow.below {w w' : World} {A : Option Addr} {xs : List Int} (h : IntRow w A xs) (hb : Below w.heap.size w w') : IntRow w' A xs := by
  rcases h with ⟨rfl, rfl⟩ | ⟨g, rest, rfl, hk⟩
  · exact .inl ⟨rfl, rfl⟩
  · exact .inr ⟨g, rest, rfl, hk.below hb hk.lt⟩
theorem IntRow.grown {w w' : World} {A : Option Addr} {xs : List Int} {row : Option Nat} (h : IntRow w A xs) (hg : w.grownBy w' row) (hne : ∀ b, A.map (·.block) = some b → some b ≠ row) : IntRow w' A xs := by
  rcases h with ⟨rfl, rfl⟩ | ⟨g, rest, rfl, hk⟩
  · exact .inl ⟨rfl, rfl⟩
  · exact .inr ⟨g, rest, rfl, hk.grown hg (hne g rfl)⟩
theorem IntRow.lt {w : World} {A : Option Addr} {xs : List Int} (h : IntRow w A xs) : ∀ b, A.map (·.block) = some b → b < w.heap.size := by
  rcases h with ⟨rfl, rfl⟩ | ⟨g, rest, rfl, hk⟩
  · intro b hb; simp at hb
  · intro b hb; simp at hb; subst hb; exact hk.lt

/-- what a call hands back: numbers of its own. -/
def IntsOut (w : World) (xs : List Int) (e : Ending) (w' : World) : Prop :=
  Below w.heap.size w w' ∧ ∃ A c, e = .returned (.slice A xs.length c) ∧ (∀ b, A.map (·.block) = some b → w.heap.size ≤ b) ∧ (A = none → c = 0) ∧ IntRow w' A xs

def MarkPost (w : World) (A : Option Addr) (xs : List Int) (x : Int) (e : Ending) (w' : World) : Prop :=
  e = .returned (.int .i64 (x + xs.length)) ∧ IntRow w' A (upTo xs x xs.length) ∧ w.grownBy w' (A.map (·.block))
theorem row_of_own {w : World} {base : Nat} {A : Option Addr} {n c : Nat} {xs : List Int} (h : w.ownsRow base 3 1 (.slice A n c) n (nums xs)) : IntRow w A xs ∧ (∀ b, A.map (·.block) = some b → base ≤ b) ∧ (A = none → c = 0) := by
  have hlt := h.lt
  have hlen := h.1
  rcases h.2 with ⟨hv, hn⟩ | ⟨g, cap, cur, hv, hg, hh, _, _, hsz, htk⟩
  · injection hv with e1 e2 e3
    subst e1 e2 e3
    have : xs = [] := by simpa [nums] using hlen
    exact ⟨.inl ⟨rfl, this⟩, fun b hb => by simp at hb, fun _ => rfl⟩
  · injection hv with e1 e2 e3
    subst e1 e3
    refine ⟨.inr ⟨g, cur.toList.drop (n * 1), rfl, ?_⟩, fun b hb => by simp at hb; subst hb; exact hg, fun h => by cases h⟩
    unfold BlkL
    rw [← htk, List.take_append_drop]
    exact hh

end Go.Proofs.YtegjgbgnpkncbacGreatDoor
namespace Go.Proofs.YtegjgbgnpkncbacGreatDoor
open Go.RowKit
set_option linter.unusedVariables false

theorem own_low' {w : World} {B C z : Nat} {e : TypeId} {v : Value} {n : Nat} {xs : List Value} (h : w.ownsRow B e z v n xs) (hc : C ≤ B) : w.ownsRow C e z v n xs := by
  refine ⟨h.1, ?_⟩
  rcases h.2 with h2 | ⟨g, cap, cur, hv, hb, h3⟩
  · exact .inl h2
  · exact .inr ⟨g, cap, cur, hv, Nat.le_trans hc hb, h3⟩
def ints (ks : List Nat) : List Int := ks.map (fun (j : Nat) => (j : Int))
theorem plc_nums (ks : List Nat) : plc ks = nums (ints ks) := by simp [plc, nums, ints]
theorem ints_len (ks : List Nat) : (ints ks).length = ks.length := by simp [ints]
/-- what ChildrenOf tells. -/
noncomputable def chs (l : List Nd) (k : Int) : List Int := if treB l = true ∧ inB k (-1) ((l.length : Int) - 1) = true then ints (kidsN l (k + 1).toNat l.length) else []
theorem chs_le (l : List Nd) (k : Int) : (chs l k).length ≤ 200 := by
  unfold chs
  split
  · rename_i h
    rw [ints_len]
    have := kidsN_len l (k + 1).toNat l.length
    have := (treB_ok h.1).len
    omega
  · simp
theorem chs_no {l : List Nd} {k : Int} (h : treB l = false ∨ inB k (-1) ((l.length : Int) - 1) = false) : chs l k = [] := by
  unfold chs
  rw [if_neg]
  rintro ⟨h1, h2⟩
  rcases h with h | h
  · rw [h] at h1; cases h1
  · rw [h] at h2; cases h2
theorem chs_yes {l : List Nd} {i : Nat} (h1 : treB l = true) (h2 : i ≤ l.length) : chs l ((i : Int) - 1) = ints (kidsN l i l.length) := by
  unfold chs
  rw [if_pos ⟨h1, inB_true.2 (by omega)⟩, show ((i : Int) - 1 + 1).toNat = i by omega]
theorem out_nil (w w' : World) (hb : Below w.heap.size w w') : IntsOut w [] (.returned (.slice none 0 0)) w' := ⟨hb, none, 0, rfl, fun b hb => by simp at hb, fun _ => rfl, .inl ⟨rfl, rfl⟩⟩
theorem out_own {w w' : World} {v : Value} {ks : List Nat} (ho : w'.ownsRow w.heap.size 3 1 v ks.length (plc ks)) (hb : Below w.heap.size w w') : IntsOut w (ints ks) (.returned v) w' := by
  obtain ⟨A, c, rfl⟩ := own_slice ho
  rw [plc_nums] at ho
  obtain ⟨h1, h2, h3⟩ := row_of_own ho
  exact ⟨hb, A, c, by rw [ints_len], h2, h3, h1⟩
end Go.Proofs.YtegjgbgnpkncbacGreatDoor
namespace Go.Proofs.YtegjgbgnpkncbacGreatDoor
open Go.RowKit
set_option linter.unusedVariables false

/-- what PartOf tells. -/
noncomputable def pts (l : List Nd) (k : Int) : List Nd := if treB l = true ∧ inB k 0 ((l.length : Int) - 1) = true then prt (dep l (k.toNat + 1)) l (k.toNat + 1) (endp l (k.toNat + 1)) else []
theorem pts_no {l : List Nd} {k : Int} (h : treB l = false ∨ inB k 0 ((l.length : Int) - 1) = false) : pts l k = [] := by
  unfold pts
  rw [if_neg]
  rintro ⟨h1, h2⟩
  rcases h with h | h
  · rw [h] at h1; cases h1
  · rw [h] at h2; cases h2
theorem pts_yes {l : List Nd} {i : Nat} (h1 : treB l = true) (h2 : i < l.length) : pts l (i : Int) = prt (dep l (i + 1)) l (i + 1) (endp l (i + 1)) := by
  unfold pts
  rw [if_pos ⟨h1, inB_true.2 (by omega)⟩, show ((i : Int)).toNat = i by omega]
theorem pts_le (l : List Nd) (k : Int) : (pts l k).length ≤ 200 := by
  unfold pts
  split
  · rename_i h
    have hl := (treB_ok h.1).len
    have hk := inB_true.1 h.2
    have h1 := prt_len' (D := dep l (k.toNat + 1)) (l := l) (a := k.toNat + 1) (b := endp l (k.toNat + 1)) (by omega)
    have h2 := endp_le (l := l) (i := k.toNat + 1) (by omega)
    omega
  · simp
/-- nodes of a call's own. -/
def NdsOut (w : World) (xs : List Nd) (e : Ending) (w' : World) : Prop := ∃ v, e = .returned v ∧ w'.ownsRow w.heap.size 38 3 v xs.length (fl fn xs) ∧ Below w.heap.size w w'
theorem nds_nil (w w' : World) (hb : Below w.heap.size w w') : NdsOut w [] (.returned (.slice none 0 0)) w' := ⟨_, rfl, ⟨rfl, .inl ⟨rfl, rfl⟩⟩, hb⟩
end Go.Proofs.YtegjgbgnpkncbacGreatDoor
namespace Go.Proofs.YtegjgbgnpkncbacGreatDoor
open Go.RowKit
set_option linter.unusedVariables false

/-- nodes of a call's own: nil and empty, or at the head of a block. -/
def NdRow (w : World) (A : Option Addr) (xs : List Nd) : Prop :=
  xs = [] ∨ ∃ g rest, A = some ⟨g, 0, none⟩ ∧ BlkL w g 38 (fl fn xs ++ rest)
theorem NdRow.is {w : World} {A : Option Addr} {xs : List Nd} (h : NdRow w A xs) : NS w A xs := by
  rcases h with rfl | ⟨g, rest, rfl, hb⟩
  · exact RS.nil _ _
  · exact RS.of_blkR fn_len hb
theorem NdRow.below {w w' : World} {A : Option Addr} {xs : List Nd} (h : NdRow w A xs) (hb : Below w.heap.size w w') : NdRow w' A xs := by
  rcases h with rfl | ⟨g, rest, rfl, hk⟩
  · exact .inl rfl
  · exact .inr ⟨g, rest, rfl, hk.below hb hk.lt⟩
theorem NdRow.grown {w w' : World} {A : Option Addr} {xs : List Nd} {row : Option Nat} (h : NdRow w A xs) (hg : w.grownBy w' row) (hne : ∀ b, A.map (·.block) = some b → some b ≠ row) : NdRow w' A xs := by
  rcases h with rfl | ⟨g, rest, rfl, hk⟩
  · exact .inl rfl
  · exact .inr ⟨g, rest, rfl, hk.grown hg (hne g rfl)⟩
/-- what a call hands back: nodes of its own. -/
def NdsO (w : World) (xs : List Nd) (e : Ending) (w' : World) : Prop :=
  Below w.heap.size w w' ∧ ∃ A c, e = .returned (.slice A xs.length c) ∧ (∀ b, A.map (·.block) = some b → w.heap.size ≤ b ∧ b < w'.heap.size) ∧ NdRow w' A xs
theorem NdsOut.o {w w' : World} {e : Ending} {xs : List Nd} (h : NdsOut w xs e w') : NdsO w xs e w' := by
  obtain ⟨v, rfl, h, hb⟩ := h
  have hlt := h.lt
  rcases h.2 with ⟨rfl, h0⟩ | ⟨g, cap, cur, rfl, hB, hh, h1, h2, h3, h4⟩
  · have : xs = [] := List.eq_nil_of_length_eq_zero h0
    subst this
    exact ⟨hb, none, 0, rfl, fun b hb => by simp at hb, .inl rfl⟩
  · refine ⟨hb, some ⟨g, 0, none⟩, cap, rfl, fun b hb => ?_, .inr ⟨g, cur.toList.drop (xs.length * 3), rfl, ?_⟩⟩
    · simp at hb
      subst hb
      exact hlt g rfl
    · unfold BlkL
      rw [← h4, List.take_append_drop]
      simpa using hh
def NMk (w : World) (A : Option Addr) (xs : List Nd) (x : Int) (e : Ending) (w' : World) : Prop :=
  e = .returned (.int .i64 (x + 3 * xs.length)) ∧ NdRow w' A (mkF (mkNd x) xs xs.length) ∧ w.grownBy w' (A.map (·.block))
theorem markNodeS_nil (A : Option Addr) (c : Nat) (x : Int) (w : World) : Calls Tryz.prog 9 #[.slice A 0 c, .int .i64 x] w fun r w' => r = .returned (.int .i64 x) ∧ w = w' := by
  go_enter Tryz.func9, Tryz.ntmps9
  go_wp2
  go_loopw [1, 5] (fun y i wr => i = .int .i64 0 ∧ y = .int .i64 x ∧ w = wr) (fun _ i _ => 0)
  case atStart => exact ⟨rfl, rfl, rfl⟩
  case round =>
    obtain ⟨rfl, rfl, rfl⟩ := hrel
    go_wp2
    go_ret
    exact ⟨rfl, rfl⟩
theorem markNodeR_any (A : Option Addr) (xs : List Nd) (c : Nat) (x : Int) (w : World) (hm : xs.length ≤ 2097152) (hx0 : 0 ≤ x) (hx1 : x ≤ 900000000) (h : NdRow w A xs) :
    Calls Tryz.prog 9 #[.slice A xs.length c, .int .i64 x] w (NMk w A xs x) := by
  rcases h with rfl | ⟨g, rest, rfl, hk⟩
  · refine (markNodeS_nil A c x w).mono ?_
    rintro e w' ⟨rfl, rfl⟩
    exact ⟨by simp, .inl rfl, World.grownBy.refl _ _⟩
  · refine (markNodeS_blk g xs rest _ c x w rfl hm hx0 hx1 hk).mono ?_
    rintro e w' ⟨rfl, h1, h2⟩
    exact ⟨rfl, .inr ⟨g, rest, rfl, h1⟩, h2⟩
end Go.Proofs.YtegjgbgnpkncbacGreatDoor
namespace Go.Proofs.YtegjgbgnpkncbacGreatDoor
open Go.RowKit
set_option linter.unusedVariables false

theorem ptp_out {s : ByteArray} {w w' : World} {e : Ending} (h : PtP s w e w') {l : List Nd} {c a : Int} (hl : (prsA s).1 = l) (hc : (prsA s).2.1 = c) (ha : (prsA s).2.2 = a) :
    Below w.heap.size w w' ∧ ∃ A k, e = .returned (.tuple #[.slice A l.length k, .int .i64 c, .int .i64 a]) ∧ (∀ b, A.map (·.block) = some b → w.heap.size ≤ b ∧ b < w'.heap.size) ∧ NdRow w' A l := by
  subst hl hc ha
  obtain ⟨v, rfl, h1, h2⟩ := h
  obtain ⟨_, A, k, e, h3, h4⟩ := NdsOut.o ⟨v, rfl, h1, h2⟩
  obtain rfl : v = .slice A (prsA s).1.length k := by injection e
  exact ⟨h2, A, k, rfl, h3, h4⟩

theorem nodB_text {x : Nd} (h : nodB x = true) (hk : ¬ 3 ≤ x.k) : ∃ y, y ∈ (lxA x.s).1 ∧ y.s = x.s ∧ LxGd y := by
  unfold nodB at h
  simp only [Bool.and_eq_true] at h
  have h3 := h.2.2
  rw [if_neg hk] at h3
  unfold oneB at h3
  split at h3
  · rename_i y hq
    rw [Bool.and_eq_true] at h3
    have hm : y ∈ (lxA x.s).1 := by rw [hq]; simp
    exact ⟨y, hm, ba_ext h3.2, (lxA_good x.s).1 y hm⟩
  · cases h3
theorem nodB_small {x : Nd} (h : nodB x = true) : x.s.size ≤ 1048576 := by
  by_cases hk : 3 ≤ x.k
  · unfold nodB at h
    simp only [Bool.and_eq_true] at h
    have h3 := h.2.2
    rw [if_pos hk] at h3
    have e : x.s.toList = [] := by simpa using h3
    rw [ByteArray.toList_eq] at e
    have e2 : x.s.size = x.s.data.toList.length := Array.length_toList.symm
    rw [e] at e2
    have e3 : x.s.size = 0 := e2
    omega
  · obtain ⟨y, _, hy, hg⟩ := nodB_text h hk
    have := hg.small
    rw [hy] at this
    omega
theorem prsA_small (s : ByteArray) : ∀ (i : Nat) (x : Nd), (prsA s).1[i]? = some x → x.s.size ≤ 1048576 := fun i x hx => nodB_small ((prsA_tree s).node i x hx)
end Go.Proofs.YtegjgbgnpkncbacGreatDoor
