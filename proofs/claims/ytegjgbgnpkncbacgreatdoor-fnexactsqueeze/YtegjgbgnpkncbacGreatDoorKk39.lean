/-
  TreeOk of the program; TreeDepth and SameTree on both sides.
-/
import Derived.Test.YtegjgbgnpkncbacGreatDoorKk15
import Derived.Test.YtegjgbgnpkncbacGreatDoorKk24
import Derived.Test.YtegjgbgnpkncbacGreatDoorKk23
import Derived.Test.YtegjgbgnpkncbacGreatDoorKk11
import Derived.Deep.Cut
import Derived.Test.YtegjgbgnpkncbacGreatDoorKk25
namespace Go.Proofs.YtegjgbgnpkncbacGreatDoor
open Go.RowKit
set_option linter.unusedVariables false

/-- the first place behind i that is not in it. -/
def endp (l : List Nd) (i : Nat) : Nat := i + 1 + fst (fun j => decide (dep l (i + 1 + j) ≤ dep l i)) (l.length - i)
theorem endp_gt (l : List Nd) (i : Nat) : i < endp l i := by unfold endp; omega
theorem endp_le {l : List Nd} {i : Nat} (hi : i ≤ l.length) : endp l i ≤ l.length + 1 := by
  have := fst_le (fun j => decide (dep l (i + 1 + j) ≤ dep l i)) (l.length - i)
  unfold endp; omega
theorem endp_in {l : List Nd} {i m : Nat} (h1 : i < m) (h2 : m < endp l i) : dep l i < dep l m := by
  unfold endp at h2
  have := fst_before (p := fun j => decide (dep l (i + 1 + j) ≤ dep l i)) (n := l.length - i) (k := m - (i + 1)) (by omega)
  simp only [decide_eq_false_iff_not] at this
  rw [show i + 1 + (m - (i + 1)) = m by omega] at this
  omega
theorem endp_out {l : List Nd} {i : Nat} (h : endp l i ≤ l.length) : dep l (endp l i) ≤ dep l i := by
  have := fst_yes (p := fun j => decide (dep l (i + 1 + j) ≤ dep l i)) (n := l.length - i) (by unfold endp at h; omega)
  simpa [endp] using this
theorem endp_is {l : List Nd} {i e : Nat} (h1 : i < e) (h2 : e ≤ l.length + 1) (h3 : ∀ m, i < m → m < e → dep l i < dep l m) (h4 : e ≤ l.length → dep l e ≤ dep l i) : endp l i = e := by
  have hi : i ≤ l.length := by omega
  rcases Nat.lt_trichotomy (endp l i) e with h | h | h
  · have := endp_out (l := l) (i := i) (by omega)
    have := h3 _ (endp_gt l i) h
    omega
  · exact h
  · have := endp_in h1 h
    have := h4 (by have := endp_le hi; omega)
    omega
theorem kids_gap {l : List Nd} {i a : Nat} : ∀ b, a ≤ b → (∀ y, a ≤ y → y < b → par l y ≠ i) → kidsN l i b = kidsN l i a := by
  intro b hab
  induction hab with
  | refl => intro _; rfl
  | @step b hb ih =>
    intro h
    rw [kidsN_no (h b hb (Nat.lt_succ_self b))]
    exact ih fun y h1 h2 => h y h1 (by omega)
theorem kids_pre {l : List Nd} {i a : Nat} : ∀ b, a ≤ b → ∃ r, kidsN l i b = kidsN l i a ++ r := by
  intro b hab
  induction hab with
  | refl => exact ⟨[], by simp⟩
  | @step b hb ih =>
    obtain ⟨r, hr⟩ := ih
    by_cases h : par l b = i
    · exact ⟨r ++ [b], by rw [kidsN_yes h, hr, List.append_assoc]⟩
    · exact ⟨r, by rw [kidsN_no h, hr]⟩
theorem kids_at {l : List Nd} {i a n : Nat} (ha : a < n) (h : par l a = i) : (kidsN l i n)[(kidsN l i a).length]? = some a := by
  obtain ⟨r, hr⟩ := kids_pre (l := l) (i := i) (a := a + 1) n (by omega)
  rw [hr, kidsN_yes h]
  simp
section
variable {l : List Nd} (hup : UpTo l l.length)
include hup
theorem UpTo.dep0 {y : Nat} (hy : y < l.length) : 0 ≤ Go.Proofs.YtegjgbgnpkncbacGreatDoor.dep l (y + 1) := by
  obtain ⟨⟨x, hx, hn⟩, _⟩ := hup y hy
  rw [dep_succ hx]
  exact (nodB_bd hn).2.1
theorem UpTo.par_iff {i y : Nat} (hy : y < l.length) : par l y = i ↔ i ≤ y ∧ Go.Proofs.YtegjgbgnpkncbacGreatDoor.dep l (y + 1) = Go.Proofs.YtegjgbgnpkncbacGreatDoor.dep l i + 1 ∧ ∀ m, i < m → m ≤ y → Go.Proofs.YtegjgbgnpkncbacGreatDoor.dep l i < Go.Proofs.YtegjgbgnpkncbacGreatDoor.dep l m :=
  Go.Proofs.YtegjgbgnpkncbacGreatDoor.par_iff (hup.dep0 hy) (hup y hy).2
/-- ahead of the first child. -/
theorem UpTo.first {i : Nat} (hi : i ≤ l.length) : (i < l.length ∧ par l i = i) ∨ (kidsN l i l.length = [] ∧ endp l i = i + 1) := by
  by_cases h : i < l.length ∧ Go.Proofs.YtegjgbgnpkncbacGreatDoor.dep l i < Go.Proofs.YtegjgbgnpkncbacGreatDoor.dep l (i + 1)
  · exact .inl ⟨h.1, climb_stop h.2⟩
  · right
    have hs : i + 1 ≤ l.length → Go.Proofs.YtegjgbgnpkncbacGreatDoor.dep l (i + 1) ≤ Go.Proofs.YtegjgbgnpkncbacGreatDoor.dep l i := fun h1 => by
      have : ¬ Go.Proofs.YtegjgbgnpkncbacGreatDoor.dep l i < Go.Proofs.YtegjgbgnpkncbacGreatDoor.dep l (i + 1) := fun h2 => h ⟨by omega, h2⟩
      omega
    refine ⟨?_, endp_is (by omega) (by omega) (fun m h1 h2 => by omega) hs⟩
    rw [kids_gap (l := l) (i := i) (a := i) l.length hi ?_, kidsN_low]
    intro y h1 h2 e
    obtain ⟨_, h4, h5⟩ := (hup.par_iff h2).1 e
    have h6 := hs (by omega)
    by_cases hy : y = i
    · subst hy; omega
    · have := h5 (i + 1) (by omega) (by omega); omega
/-- behind one child: the next, or the end. -/
theorem UpTo.next {i a : Nat} (ha : a < l.length) (hp : par l a = i) :
    kidsN l i (endp l (a + 1) - 1) = kidsN l i (a + 1) ∧ ((endp l (a + 1) - 1 < l.length ∧ par l (endp l (a + 1) - 1) = i) ∨ (kidsN l i (endp l (a + 1) - 1) = kidsN l i l.length ∧ endp l (a + 1) = endp l i)) := by
  obtain ⟨hia, hd, hb⟩ := (hup.par_iff ha).1 hp
  have hgt := endp_gt l (a + 1)
  have hle := endp_le (l := l) (i := a + 1) (by omega)
  have hin : ∀ m, a + 1 < m → m < endp l (a + 1) → Go.Proofs.YtegjgbgnpkncbacGreatDoor.dep l (a + 1) < Go.Proofs.YtegjgbgnpkncbacGreatDoor.dep l m := fun m h1 h2 => endp_in h1 h2
  have hout : endp l (a + 1) ≤ l.length → Go.Proofs.YtegjgbgnpkncbacGreatDoor.dep l (endp l (a + 1)) ≤ Go.Proofs.YtegjgbgnpkncbacGreatDoor.dep l (a + 1) := endp_out
  generalize endp l (a + 1) = e at *
  have hall : ∀ m, i < m → m < e → Go.Proofs.YtegjgbgnpkncbacGreatDoor.dep l i < Go.Proofs.YtegjgbgnpkncbacGreatDoor.dep l m := by
    intro m h1 h2
    by_cases h3 : m ≤ a
    · exact hb m h1 h3
    · by_cases h4 : m = a + 1
      · subst h4; omega
      · have := hin m (by omega) h2; omega
  have hgap : kidsN l i (e - 1) = kidsN l i (a + 1) := by
    refine kids_gap (e - 1) (by omega) fun y h1 h2 h3 => ?_
    have := ((hup.par_iff (y := y) (by omega)).1 h3).2.1
    have := hin (y + 1) (by omega) (by omega)
    omega
  refine ⟨hgap, ?_⟩
  by_cases h : e ≤ l.length ∧ Go.Proofs.YtegjgbgnpkncbacGreatDoor.dep l e = Go.Proofs.YtegjgbgnpkncbacGreatDoor.dep l i + 1
  · left
    refine ⟨by omega, (hup.par_iff (by omega)).2 ⟨by omega, ?_, fun m h1 h2 => hall m h1 (by omega)⟩⟩
    rw [show e - 1 + 1 = e by omega]
    exact h.2
  · right
    have hs : e ≤ l.length → Go.Proofs.YtegjgbgnpkncbacGreatDoor.dep l e ≤ Go.Proofs.YtegjgbgnpkncbacGreatDoor.dep l i := fun h1 => by
      have := hout h1
      have : ¬ Go.Proofs.YtegjgbgnpkncbacGreatDoor.dep l e = Go.Proofs.YtegjgbgnpkncbacGreatDoor.dep l i + 1 := fun h2 => h ⟨h1, h2⟩
      omega
    refine ⟨?_, (endp_is (by omega) hle hall hs).symm⟩
    refine (kids_gap l.length (by omega) fun y h1 h2 h3 => ?_).symm
    obtain ⟨h4, h5, h6⟩ := (hup.par_iff (y := y) h2).1 h3
    have h7 := hs (by omega)
    by_cases hy : y + 1 = e
    · rw [hy] at h5; omega
    · have := h6 e (by omega) (by omega); omega
end
/-- a node with its Depth counted from another. -/
def shf (D : Int) (x : Nd) : Nd := ⟨x.d - D, x.k, x.s⟩
/-- the nodes from place a up to place b, Depths counted from D. -/
def prt (D : Int) (l : List Nd) (a b : Nat) : List Nd := ((l.take (b - 1)).drop (a - 1)).map (shf D)
theorem prt_len {D : Int} {l : List Nd} {a b : Nat} : (prt D l a b).length ≤ b - 1 := by simp [prt]; omega
theorem prt_nil (D : Int) (l : List Nd) (a : Nat) : prt D l a a = [] := by simp [prt]
theorem prt_one {D : Int} {l : List Nd} {a : Nat} {x : Nd} (h : l[a]? = some x) : prt D l (a + 1) (a + 2) = [shf D x] := by
  have ha := (List.getElem?_eq_some_iff.1 h).1
  unfold prt
  rw [show a + 2 - 1 = a + 1 by omega, show a + 1 - 1 = a by omega, List.take_add_one, h, List.drop_append_of_le_length (by simp; omega), List.drop_eq_nil_iff.2 (by simp; omega)]
  simp
theorem prt_app {D : Int} {l : List Nd} {a b c : Nat} (h1 : 1 ≤ a) (h2 : a ≤ b) (h3 : b ≤ c) : prt D l a b ++ prt D l b c = prt D l a c := by
  unfold prt
  rw [← List.map_append]
  congr 1
  have e : l.take (b - 1) = (l.take (c - 1)).take (b - 1) := by rw [List.take_take, Nat.min_eq_left (by omega)]
  rw [e]
  generalize l.take (c - 1) = m
  have h : (m.take (b - 1)).drop (a - 1) ++ m.drop (b - 1) = m.drop (a - 1) := by
    have h5 : m.drop (a - 1) = (m.take (b - 1)).drop (a - 1) ++ (m.drop (b - 1)).drop (a - 1 - (m.take (b - 1)).length) := by
      conv => lhs; rw [← List.take_append_drop (b - 1) m]
      rw [List.drop_append]
    rw [h5]
    congr 1
    by_cases h6 : a - 1 ≤ (m.take (b - 1)).length
    · rw [Nat.sub_eq_zero_of_le h6, List.drop_zero]
    · have : m.length < b - 1 := by
        simp at h6
        omega
      rw [List.drop_eq_nil_iff.2 (show m.length ≤ b - 1 by omega)]
      simp
  exact h
end Go.Proofs.YtegjgbgnpkncbacGreatDoor
namespace Go.Proofs.YtegjgbgnpkncbacGreatDoor
open Go.RowKit
set_option linter.unusedVariables false

/-- all below H stays but block b. -/
structure Ot (H b : Nat) (w w' : World) : Prop where
  os : w'.os = w.os
  tape : w'.tape = w.tape
  output : w'.output = w.output
  size : w.heap.size ≤ w'.heap.size
  block : ∀ q, q < H → q ≠ b → w'.heap[q]? = w.heap[q]?
theorem Ot.refl (H b : Nat) (w : World) : Ot H b w w := ⟨rfl, rfl, rfl, Nat.le_refl _, fun _ _ _ => rfl⟩
theorem Ot.trans {H b : Nat} {a c d : World} (h : Ot H b a c) (k : Ot H b c d) : Ot H b a d := ⟨k.os.trans h.os, k.tape.trans h.tape, k.output.trans h.output, Nat.le_trans h.size k.size, fun q h1 h2 => (k.block q h1 h2).trans (h.block q h1 h2)⟩
theorem Ot.blk {H b g : Nat} {t : TypeId} {cs : List Value} {w w' : World} (h : Ot H b w w') (hb : BlkL w g t cs) (h1 : g < H) (h2 : g ≠ b) : BlkL w' g t cs := (h.block g h1 h2).trans hb
theorem Ot.fo {H b : Nat} {w w' : World} {B k : Nat} {l : List Nd} {ps : Nat → Nat} {vs : Nat → Value} {cs : List Value} (h : Ot H b w w') (hf : Fo w B l k ps vs) (hH : w.heap.size ≤ H) (hb : BlkL w b 22 cs) : Fo w' B l k ps vs := by
  refine ⟨fun i hi => h.blk (hf.blk i hi) (Nat.lt_of_lt_of_le (hf.lt hi) hH) (fun e => ?_), hf.base, fun i hi => own_same (hf.row i hi) (fun g hg => ?_), hf.dif, hf.rdif⟩
  · have h1 := hf.blk i hi
    rw [e] at h1
    unfold BlkL at h1 hb
    rw [h1] at hb
    injection hb with hb
    injection hb with _ hb
    revert hb
    decide
  · refine h.block g (Nat.lt_of_lt_of_le ((hf.row i hi).lt g hg).2 hH) (fun e => ?_)
    subst e
    exact fo_blk (hf.row i hi) hb (by decide) hg
/-- what has been gathered so far. -/
def Gat (H b : Nat) (w : World) (lst : List Nd) : Prop := ∃ v, BlkL w b 22 [v] ∧ w.ownsRow H 38 3 v lst.length (fl fn lst)
theorem fn_one (x : Nd) : ∀ u ∈ fl fn [x], u.oneCell' = true := by
  intro u hu
  simp [fl, fn] at hu
  rcases hu with rfl | rfl | rfl <;> rfl
/-- what stays the same all along the walk: the branches, the list, the place. -/
structure Wk (H b2 b3 b6 : Nat) (l : List Nd) (n k0 : Nat) (D : Int) (ps : Nat → Nat) (vs : Nat → Value) (A : Option Addr) (c B : Nat) (w0 : World) : Prop where
  fo : Fo w0 B l n ps vs
  len : l.length = n
  n200 : n ≤ 200
  up : UpTo l l.length
  hH : w0.heap.size = H
  x2 : BlkL w0 b2 22 [.slice A n c]
  x3 : BlkL w0 b3 3 [.int .i64 (k0 : Int)]
  x6 : ∃ cs, BlkL w0 b6 22 cs
  n2 : b2 ≠ b6
  n3 : b3 ≠ b6
  ns : NS w0 A l
  nsb : ∀ b, A.map (·.block) = some b → b < H ∧ b ≠ b6
  hk0 : k0 < n
  hD : dep l (k0 + 1) = D
theorem Wk.at {H b2 b3 b6 n k0 c B : Nat} {l : List Nd} {D : Int} {ps : Nat → Nat} {vs : Nat → Value} {A : Option Addr} {w0 w : World} (h : Wk H b2 b3 b6 l n k0 D ps vs A c B w0) (ho : Ot H b6 w0 w) :
    Fo w B l n ps vs ∧ BlkL w b2 22 [.slice A n c] ∧ BlkL w b3 3 [.int .i64 (k0 : Int)] ∧ NS w A l := by
  obtain ⟨cs, h6⟩ := h.x6
  have hH := h.hH
  refine ⟨ho.fo h.fo (by omega) h6, ho.blk h.x2 (by have := h.x2.lt; omega) h.n2, ho.blk h.x3 (by have := h.x3.lt; omega) h.n3, RS.keep h.ns ho.size (fun b j hA hb => World.cell?_of_block (ho.block b (h.nsb b hA).1 (h.nsb b hA).2))⟩
theorem prt_len' {D : Int} {l : List Nd} {a b : Nat} (h1 : 1 ≤ a) : (prt D l a b).length ≤ b - a := by simp [prt]; omega
end Go.Proofs.YtegjgbgnpkncbacGreatDoor
namespace Go.Proofs.YtegjgbgnpkncbacGreatDoor
open Go.RowKit
set_option linter.unusedVariables false

set_option maxHeartbeats 1000000 in
set_option maxRecDepth 100000 in
theorem TreeOk_any (A : Option Addr) (l : List Nd) (n c : Nat) (w : World) (hn : l.length = n) (hm : n ≤ 2097152) (hl : NS w A l) (hg : ErrV w) :
    Calls Tryz.prog 37 #[.slice A n c] w fun e w' => e = .returned (.bool (treB l)) ∧ Below w.heap.size w w' := by
  go_enter Tryz.func37, Tryz.ntmps37
  go_wp2_with fail
  refine (planted_any A l n c w hn hm hl hg).mono ?_
  rintro e w1 ⟨hb, h | ⟨ht, g, c1, ps, vs, rfl, _⟩⟩
  · obtain ⟨h0, rfl⟩ := h
    have H0 := Lib.hid h0
    clear h0
    go_wp2
    go_ret
    rw [H0.out]
    exact ⟨rfl, hb⟩
  · have H0 := Lib.hid (treB_yes ht)
    clear ht
    go_wp2
    go_ret
    rw [H0.out]
    exact ⟨rfl, hb⟩
def tdI (l : List Nd) : Nat → Int
  | 0 => 0
  | i + 1 => if tdI l i < dep l (i + 1) + 1 then dep l (i + 1) + 1 else tdI l i
noncomputable def tdB (l : List Nd) : Int := if treB l = true then tdI l l.length else -1
theorem tdI_bd {l : List Nd} {k : Nat} (h : UpTo l k) : ∀ i, i ≤ k → 0 ≤ tdI l i ∧ tdI l i ≤ 13
  | 0, _ => by simp [tdI]
  | i + 1, hi => by
    have h1 := tdI_bd h i (by omega)
    have h2 := h.dep (i := i + 1) hi
    simp only [tdI]
    split <;> omega
def pdI (l : List Nd) : Nat → Int
  | 0 => -1
  | j + 1 => tdI l j
noncomputable def smtB (a b : List Nd) : Bool := treB a && lsB a b
set_option maxHeartbeats 1000000 in
set_option maxRecDepth 100000 in
theorem SameTree_any (A B : Option Addr) (l m : List Nd) (n cc n2 cd : Nat) (w : World) (hn : l.length = n) (hn2 : m.length = n2) (hm : n ≤ 2097152) (hm2 : n2 ≤ 2097152) (hl : NS w A l) (hr : NS w B m) (hg : ErrV w) :
    Calls Tryz.prog 25 #[.slice A n cc, .slice B n2 cd] w fun e w' => e = .returned (.bool (smtB l m)) ∧ Below w.heap.size w w' := by
  go_enter Tryz.func25, Tryz.ntmps25
  go_wp2_with fail
  refine (TreeOk_any A l n cc w hn hm hl hg).mono ?_
  rintro e w1 ⟨rfl, hb⟩
  have HB1 := Lib.hid hb
  cases ht : treB l
  · have HI := Lib.hid (show smtB l m = false by rw [smtB, ht]; rfl)
    clear ht
    go_wp2
    go_ret
    rw [HI.out]
    exact ⟨rfl, HB1.out⟩
  · have HI := Lib.hid (show smtB l m = lsB l m by rw [smtB, ht]; rfl)
    clear ht
    go_wp2_with fail
    refine (EqualNd_any A B l m n cc n2 cd w1 hn hn2 hm hm2 (hl.below hb) (hr.below hb)).mono ?_
    rintro e w2 ⟨rfl, hb2⟩
    have HB2 := Lib.hid (HB1.out.trans (hb2.mono HB1.out.size))
    go_wp2
    go_ret
    rw [HI.out]
    exact ⟨rfl, HB2.out⟩
set_option maxHeartbeats 4000000 in
set_option maxRecDepth 100000 in
theorem sSameTree_any (A B : Option Addr) (l m : List Nd) (n cc n2 cd : Nat) (w : World) (hn : l.length = n) (hn2 : m.length = n2) (hm : n ≤ 2097152) (hm2 : n2 ≤ 2097152) (hl : NS w A l) (hr : NS w B m) (hs : ∀ (i : Nat) (x : Nd), l[i]? = some x → x.s.size ≤ 1048576) (hs2 : ∀ (i : Nat) (x : Nd), m[i]? = some x → x.s.size ≤ 1048576) :
    Calls Tryz.prog 24 #[.slice A n cc, .slice B n2 cd] w fun e w' => e = .returned (.bool (smtB l m)) ∧ Below w.heap.size w w' := by
  have HN := Lib.hid hn
  have HN2 := Lib.hid hn2
  clear hn hn2
  go_enter Tryz.func24, Tryz.ntmps24
  go_wp2_with fail
  refine (sTreeOk_any A l n cc w HN.out hm hl hs).mono ?_
  rintro e w1 ⟨rfl, hb1⟩
  have HB1 := Lib.hid hb1
  cases ht : treB l
  · have HI := Lib.hid (show smtB l m = false by rw [smtB, ht]; rfl)
    clear ht hb1
    go_wp2
    go_ret
    rw [HI.out]
    exact ⟨rfl, HB1.out⟩
  have HTL := Lib.hid ht
  clear ht
  go_wp2_with fail
  refine (sTreeOk_any B m n2 cd w1 HN2.out hm2 (hr.below hb1) hs2).mono ?_
  rintro e w2 ⟨rfl, hb2⟩
  have HB2 := Lib.hid (HB1.out.trans (hb2.mono HB1.out.size))
  cases ht : treB m
  · have HI := Lib.hid (show smtB l m = false by
      rw [smtB, HTL.out]
      exact lsB_no fun e => by have h1 := HTL.out; rw [e, ht] at h1; cases h1)
    clear ht hb1 hb2
    go_wp2
    go_ret
    rw [HI.out]
    exact ⟨rfl, HB2.out⟩
  have HE0 := Lib.hid (show smtB l m = lsB l m by rw [smtB, HTL.out]; rfl)
  clear ht hb1 hb2
  by_cases he : n = n2
  · subst he
    go_wp2
    go_loopw [5] (fun i wr => ∃ k : Nat, k ≤ n ∧ i = .int .i64 k ∧ l.take k = m.take k ∧ Below w.heap.size w wr) (fun i _ => n - (intOf i).toNat)
    case atStart => exact ⟨0, Nat.zero_le _, rfl, rfl, HB2.out⟩
    case round =>
      obtain ⟨k, hk, rfl, hs, hb⟩ := hrel
      by_cases hkl : k < n
      · obtain ⟨t, b, o, ht, rfl, hbl, hc⟩ := hl.all (k := k) (by have := HN.out; omega)
        obtain ⟨u, b2, o2, hu, rfl, hbl2, hc2⟩ := hr.all (k := k) (by have := HN2.out; omega)
        obtain ⟨hbl', c0, c1, c2⟩ := NS.get (RS.below hl hb) ht
        obtain ⟨hbl2', d0, d1, d2⟩ := NS.get (RS.below hr hb) hu
        have HS := Lib.hid hs
        have HB := Lib.hid hb
        have HT := Lib.hid ht
        have HU := Lib.hid hu
        clear ht hu hc hc2 hs hb
        have p0 := Bw.rd c0
        have p1 := Bw.rd c1
        have p2 := Bw.rd c2
        have q0 := Bw.rd d0
        have q1 := Bw.rd d1
        have q2 := Bw.rd d2
        clear c0 c1 c2 d0 d1 d2
        cases h0 : (t.d == u.d) <;> cases h1 : (t.k == u.k) <;> cases h2 : (t.s.toList == u.s.toList)
        case true.true.true =>
          have HE := Lib.hid (show l.take (k + 1) = m.take (k + 1) by
            have e0 : t.d = u.d := by simpa using h0
            have e1 : t.k = u.k := by simpa using h1
            have e2 : t.s = u.s := ba_ext h2
            have e : t = u := by cases t; cases u; simp_all
            rw [List.take_add_one, List.take_add_one, HS.out, HT.out, HU.out, e])
          go_wp2_with fail
          refine wp_region_class (Bw wr) (by kernel_rfl) (by kernel_rfl) (Bw.start wr) (fun hne => ?_)
          repeat (go_big_quiet_step (fail))
          refine wpQuiet_nil ?_
          rintro w3 ⟨x, rfl⟩
          have hx := Lib.hid x.ok
          have hz0 := p0 x
          generalize x.W = w3 at *
          clear p0 q0 p1 q1 p2 q2
          go_wp2
          go_roundw
          case rel => exact ⟨k + 1, by omega, by go_num, HE.out, HB.out.trans (hx.out.mono HB.out.size)⟩
          case measure => simp [intOf]; omega
        all_goals
          have HE := Lib.hid (show lsB l m = false by
            refine lsB_no fun e => ?_
            subst e
            have e := Option.some.inj (HT.out.symm.trans HU.out)
            subst e
            try (rw [beq_self_eq_true] at h0; cases h0)
            try (rw [beq_self_eq_true] at h1; cases h1)
            try (rw [beq_self_eq_true] at h2; cases h2)
            )
          go_wp2_with fail
          refine wp_region_class (Bw wr) (by kernel_rfl) (by kernel_rfl) (Bw.start wr) (fun hne => ?_)
          repeat (go_big_quiet_step (fail))
          refine wpQuiet_nil ?_
          rintro w3 ⟨x, rfl⟩
          have hx := Lib.hid x.ok
          have hz0 := p0 x
          generalize x.W = w3 at *
          clear p0 q0 p1 q1 p2 q2
          go_wp2
          go_ret
          rw [HE0.out, HE.out]
          exact ⟨rfl, HB.out.trans (hx.out.mono HB.out.size)⟩
      · have HE := Lib.hid (show lsB l m = true by
          have e1 := HN.out; have e2 := HN2.out
          refine lsB_yes ?_
          rwa [List.take_of_length_le (by omega), List.take_of_length_le (by omega)] at hs)
        clear hs
        go_wp2
        go_ret
        rw [HE0.out, HE.out]
        exact ⟨rfl, hb⟩
  · have HE := Lib.hid (show lsB l m = false by
      have e1 := HN.out; have e2 := HN2.out
      exact lsB_no fun e => he (by rw [← e1, ← e2, e]))
    have b1 : ((n : Int) == (n2 : Int)) = false := by simp; omega
    have b2 : ((n : Int) != (n2 : Int)) = true := by simp; omega
    clear he
    go_wp2
    go_ret
    rw [HE0.out, HE.out]
    exact ⟨rfl, HB2.out⟩
end Go.Proofs.YtegjgbgnpkncbacGreatDoor
