/-
  What ParseTree hands back, opened: nodes of its own, a code and a place; nodes are short.
-/
import Derived.Test.YthjkgbcomjiejaaGreatDoorKk50
import Derived.Test.YthjkgbcomjiejaaGreatDoorKk51
import Derived.Test.YthjkgbcomjiejaaGreatDoorKk48
namespace Go.Proofs.YthjkgbcomjiejaaGreatDoor
open Go.RowKit
set_option linter.unusedVariables false

/-- what PartOf tells. -/
noncomputable def pts (l : List Nd) (k : Int) : List Nd := if treB l = true ∧ inB k 0 ((l.length : Int) - 1) = true then prt (dep l (k.toNat + 1)) l (k.toNat + 1) (endp l (k.toNat + 1)) else []
theorem pts_no {l : List Nd} {k : Int} (h : treB l = false ∨ inB k 0 ((l.length : Int) - 1) = false) : pts l k = [] := by
  unfold pts
  rw [if_neg]
  rintro ⟨h1, h2⟩
  rcases h with h | h
  · rw [h] at h1; cases h1
  · rw [h] at h2; cases h2
theorem pts_yes {l : List Nd} {i : Nat} (h1 : treB l = true) (h2 : i < l.length) : pts l (i : Int) = prt (dep l (i + 1)) l (i + 1) (endp l (i + 1)) := by
  unfold pts
  rw [if_pos ⟨h1, inB_true.2 (by omega)⟩, show ((i : Int)).toNat = i by omega]
theorem pts_le (l : List Nd) (k : Int) : (pts l k).length ≤ 200 := by
  unfold pts
  split
  · rename_i h
    have hl := (treB_ok h.1).len
    have hk := inB_true.1 h.2
    have h1 := prt_len' (D := dep l (k.toNat + 1)) (l := l) (a := k.toNat + 1) (b := endp l (k.toNat + 1)) (by omega)
    have h2 := endp_le (l := l) (i := k.toNat + 1) (by omega)
    omega
  · simp
/-- nodes of a call's own. -/
def NdsOut (w : World) (xs : List Nd) (e : Ending) (w' : World) : Prop := ∃ v, e = .returned v ∧ w'.ownsRow w.heap.size 31 3 v xs.length (fl fn xs) ∧ Below w.heap.size w w'
theorem nds_nil (w w' : World) (hb : Below w.heap.size w w') : NdsOut w [] (.returned (.slice none 0 0)) w' := ⟨_, rfl, ⟨rfl, .inl ⟨rfl, rfl⟩⟩, hb⟩
set_option maxHeartbeats 2000000 in
set_option maxRecDepth 100000 in
theorem PartOf_out (A : Option Addr) (l : List Nd) (n c : Nat) (k : Int) (w : World) (hn : l.length = n) (hm : n ≤ 2097152) (hl : NS w A l) (hg : ErrV w) (hkw : (Lit.int .i64 k).wf = true) :
    Calls Tryz.prog 22 #[.slice A n c, .int .i64 k] w (NdsOut w (pts l k)) := by
  have HN := Lib.hid hn
  have HL := Lib.hid hl
  go_enter Tryz.func22, Tryz.ntmps22
  go_wp2_with fail
  have hX0 := BlkL.new w 25 [.slice A n c]
  have hX1 := hX0.alloc (.cells #[.int .i64 k] 3)
  have hY1 := BlkL.new (w.alloc (.cells #[.slice A n c] 25)) 3 [.int .i64 k]
  rw [show (w.alloc (.cells #[.slice A n c] 25)).heap.size = w.heap.size + 1 by simp] at hY1
  have hB1 := ((Below.refl w.heap.size w).alloc (Nat.le_refl _) (.cells #[.slice A n c] 25)).alloc (by simp) (.cells #[.int .i64 k] 3)
  change BlkL ((w.alloc (.cells #[.slice A n c] 25)).alloc (.cells #[.int .i64 k] 3)) _ _ _ at hX1
  change BlkL ((w.alloc (.cells #[.slice A n c] 25)).alloc (.cells #[.int .i64 k] 3)) _ _ _ at hY1
  have hz1 : ((w.alloc (.cells #[.slice A n c] 25)).alloc (.cells #[.int .i64 k] 3)).heap.size = w.heap.size + 1 + 1 := by simp
  generalize (w.alloc (.cells #[.slice A n c] 25)).alloc (.cells #[.int .i64 k] 3) = w1 at *
  clear hX0
  refine (planted_any A l n c w1 hn hm (hl.below hB1) (hg.belowB hB1 hg.pos)).mono ?_
  rintro e w2 ⟨hb, h⟩
  have hX2 := hX1.below hb hX1.lt
  have hY2 := hY1.below hb hY1.lt
  have HB2 := Lib.hid (hB1.trans (hb.mono hB1.size))
  have hz2 := hb.size
  have HX2 := Lib.hid hX2
  have HY2 := Lib.hid hY2
  have y0 : w2.cell? ⟨w.heap.size + 1, 0, none⟩ = some (.int .i64 k) := (hY2.cell 0).trans rfl
  have yl := hY2.lt
  clear hX1 hY1 hB1 hX2 hY2 hb hl hg hn
  rcases h with ⟨h0, rfl⟩ | ⟨ht, g, c1, ps, vs, rfl, hfo, hgl, hc⟩
  · have HI := Lib.hid (pts_no (k := k) (.inl h0))
    have hq : inB k 0 (-2) = false := by
      cases e : inB k 0 (-2)
      · rfl
      · have := inB_true.1 e; omega
    clear h0
    go_wp2_with (go_at_call 35; refine (within_any _ _ _ _).mono ?_; rintro e w' ⟨rfl, rfl⟩; rw [hq])
    go_ret
    rw [HI.out]
    exact nds_nil _ _ HB2.out
  have HT := Lib.hid ht
  have HF := Lib.hid hfo
  have HC := Lib.hid hc
  have hlen := ht.len
  clear ht hfo hc
  obtain ⟨m, hm1⟩ : ∃ m, l.length = m := ⟨_, rfl⟩
  have hmn : m = n := by have := HN.out; omega
  rw [hm1] at HF hlen HC ⊢
  have HM := Lib.hid hm1
  have hm2 : ((m : Int) + 1 - 2) = (m : Int) - 1 := by omega
  clear hm1
  cases hq : inB k 0 ((m : Int) - 1)
  · have HI := Lib.hid (pts_no (l := l) (k := k) (.inr (by rw [HM.out]; exact hq)))
    clear hmn
    go_wp2_with (go_at_call 35; refine (within_any _ _ _ _).mono ?_; rintro e w' ⟨rfl, rfl⟩; first | rw [hq] | rw [hm2, hq])
    go_ret
    rw [HI.out]
    exact nds_nil _ _ HB2.out
  · have hk := inB_true.1 hq
    obtain ⟨i, hi⟩ : ∃ i : Nat, k = (i : Int) := ⟨k.toNat, by omega⟩
    have him : i < m := by omega
    have HI := Lib.hid (show pts l k = prt (dep l (i + 1)) l (i + 1) (endp l (i + 1)) by rw [hi, pts_yes (treB_yes HT.out) (by rw [HM.out]; exact him)])
    subst hi
    have HQ := Lib.hid hq
    have ci := HC.out (i + 1) (by omega)
    unfold ptr at ci
    have HMN := Lib.hid hmn
    clear hq hmn hk
    have hb3 := (Below.refl w2.heap.size w2).alloc (Nat.le_refl _) (.cells #[.slice none 0 0] 25)
    have hZ3 := BlkL.new w2 25 [.slice none 0 0]
    change BlkL (w2.alloc (.cells #[.slice none 0 0] 25)) _ _ _ at hZ3
    have hz3 : (w2.alloc (.cells #[.slice none 0 0] 25)).heap.size = w2.heap.size + 1 := by simp
    have HWK := Lib.hid (show Wk (w2.heap.size + 1) w.heap.size (w.heap.size + 1) w2.heap.size l m i (dep l (i + 1)) ps vs A c w1.heap.size (w2.alloc (.cells #[.slice none 0 0] 25)) from
      { fo := HF.out.below hb3
        len := HM.out
        n200 := hlen
        up := HT.out.upTo
        hH := hz3
        x2 := by rw [HMN.out]; exact HX2.out.below hb3 HX2.out.lt
        x3 := HY2.out.below hb3 HY2.out.lt
        x6 := ⟨_, hZ3⟩
        n2 := by omega
        n3 := by omega
        ns := HL.out.below (HB2.out.trans (hb3.mono HB2.out.size))
        nsb := fun b hb => by
          have := RS.low HL.out (by have := HM.out; omega) b hb
          omega
        hk0 := him
        hD := rfl })
    have HGT := Lib.hid (show Gat (w2.heap.size + 1) w2.heap.size (w2.alloc (.cells #[.slice none 0 0] 25)) [] from ⟨_, hZ3, ⟨rfl, .inl ⟨rfl, rfl⟩⟩⟩)
    have HB3 := Lib.hid (HB2.out.trans (hb3.mono HB2.out.size))
    clear hb3 hZ3
    go_wp2_with (go_at_call 35; refine (within_any _ _ _ _).mono ?_; rintro e w' ⟨rfl, rfl⟩; first | rw [HQ.out] | rw [hm2, HQ.out])
    have hcall := walk_any HWK.out (m - (i + 1)) (i + 1) (by omega) (by omega) (Nat.le_refl _) _ (Ot.refl _ _ _) [] HGT.out (by simp)
    unfold ptr at hcall
    go_wp2_with fail
    refine hcall.mono ?_
    rintro e w4 ⟨rfl, ho4, v, hv4, hown4⟩
    rw [List.nil_append] at hown4
    obtain ⟨A4, c4, rfl⟩ := own_slice hown4
    have q6 : w4.cell? ⟨w2.heap.size, 0, none⟩ = some (.slice A4 (prt (dep l (i + 1)) l (i + 1) (endp l (i + 1))).length c4) := (hv4.cell 0).trans rfl
    have q6l := hv4.lt
    have HOW := Lib.hid (own_low' hown4 (show w.heap.size ≤ w2.heap.size + 1 by omega))
    have HB4 := Lib.hid (show Below w.heap.size w w4 from HB3.out.trans ⟨ho4.os, ho4.tape, ho4.output, ho4.size, fun q hq => ho4.block q (by omega) (by omega)⟩)
    clear hcall ho4 hv4 hown4
    go_wp2
    go_ret
    rw [HI.out]
    exact ⟨_, rfl, HOW.out, HB4.out⟩
end Go.Proofs.YthjkgbcomjiejaaGreatDoor
namespace Go.Proofs.YthjkgbcomjiejaaGreatDoor
open Go.RowKit
set_option linter.unusedVariables false

/-- nodes of a call's own: nil and empty, or at the head of a block. -/
def NdRow (w : World) (A : Option Addr) (xs : List Nd) : Prop :=
  xs = [] ∨ ∃ g rest, A = some ⟨g, 0, none⟩ ∧ BlkL w g 31 (fl fn xs ++ rest)
theorem NdRow.is {w : World} {A : Option Addr} {xs : List Nd} (h : NdRow w A xs) : NS w A xs := by
  rcases h with rfl | ⟨g, rest, rfl, hb⟩
  · exact RS.nil _ _
  · exact RS.of_blkR fn_len hb
theorem NdRow.below {w w' : World} {A : Option Addr} {xs : List Nd} (h : NdRow w A xs) (hb : Below w.heap.size w w') : NdRow w' A xs := by
  rcases h with rfl | ⟨g, rest, rfl, hk⟩
  · exact .inl rfl
  · exact .inr ⟨g, rest, rfl, hk.below hb hk.lt⟩
theorem NdRow.grown {w w' : World} {A : Option Addr} {xs : List Nd} {row : Option Nat} (h : NdRow w A xs) (hg : w.grownBy w' row) (hne : ∀ b, A.map (·.block) = some b → some b ≠ row) : NdRow w' A xs := by
  rcases h with rfl | ⟨g, rest, rfl, hk⟩
  · exact .inl rfl
  · exact .inr ⟨g, rest, rfl, hk.grown hg (hne g rfl)⟩
/-- what a call hands back: nodes of its own. -/
def NdsO (w : World) (xs : List Nd) (e : Ending) (w' : World) : Prop :=
  Below w.heap.size w w' ∧ ∃ A c, e = .returned (.slice A xs.length c) ∧ (∀ b, A.map (·.block) = some b → w.heap.size ≤ b ∧ b < w'.heap.size) ∧ NdRow w' A xs
theorem NdsOut.o {w w' : World} {e : Ending} {xs : List Nd} (h : NdsOut w xs e w') : NdsO w xs e w' := by
  obtain ⟨v, rfl, h, hb⟩ := h
  have hlt := h.lt
  rcases h.2 with ⟨rfl, h0⟩ | ⟨g, cap, cur, rfl, hB, hh, h1, h2, h3, h4⟩
  · have : xs = [] := List.eq_nil_of_length_eq_zero h0
    subst this
    exact ⟨hb, none, 0, rfl, fun b hb => by simp at hb, .inl rfl⟩
  · refine ⟨hb, some ⟨g, 0, none⟩, cap, rfl, fun b hb => ?_, .inr ⟨g, cur.toList.drop (xs.length * 3), rfl, ?_⟩⟩
    · simp at hb
      subst hb
      exact hlt g rfl
    · unfold BlkL
      rw [← h4, List.take_append_drop]
      simpa using hh
def NMk (w : World) (A : Option Addr) (xs : List Nd) (x : Int) (e : Ending) (w' : World) : Prop :=
  e = .returned (.int .i64 (x + 3 * xs.length)) ∧ NdRow w' A (mkF (mkNd x) xs xs.length) ∧ w.grownBy w' (A.map (·.block))
theorem PartOf_o (A : Option Addr) (l : List Nd) (n c : Nat) (k : Int) (w : World) (hn : l.length = n) (hm : n ≤ 2097152) (hl : NS w A l) (hg : ErrV w) (hkw : (Lit.int .i64 k).wf = true) :
    Calls Tryz.prog 22 #[.slice A n c, .int .i64 k] w (NdsO w (pts l k)) := (PartOf_out A l n c k w hn hm hl hg hkw).mono fun _ _ h => h.o
end Go.Proofs.YthjkgbcomjiejaaGreatDoor
namespace Go.Proofs.YthjkgbcomjiejaaGreatDoor
open Go.RowKit
set_option linter.unusedVariables false

theorem ptp_out {s : ByteArray} {w w' : World} {e : Ending} (h : PtP s w e w') {l : List Nd} {c a : Int} (hl : (prsA s).1 = l) (hc : (prsA s).2.1 = c) (ha : (prsA s).2.2 = a) :
    Below w.heap.size w w' ∧ ∃ A k, e = .returned (.tuple #[.slice A l.length k, .int .i64 c, .int .i64 a]) ∧ (∀ b, A.map (·.block) = some b → w.heap.size ≤ b ∧ b < w'.heap.size) ∧ NdRow w' A l := by
  subst hl hc ha
  obtain ⟨v, rfl, h1, h2⟩ := h
  obtain ⟨_, A, k, e, h3, h4⟩ := NdsOut.o ⟨v, rfl, h1, h2⟩
  obtain rfl : v = .slice A (prsA s).1.length k := by injection e
  exact ⟨h2, A, k, rfl, h3, h4⟩

theorem nodB_text {x : Nd} (h : nodB x = true) (hk : ¬ 3 ≤ x.k) : ∃ y, y ∈ (lxA x.s).1 ∧ y.s = x.s ∧ LxGd y := by
  unfold nodB at h
  simp only [Bool.and_eq_true] at h
  have h3 := h.2.2
  rw [if_neg hk] at h3
  unfold oneB at h3
  split at h3
  · rename_i y hq
    rw [Bool.and_eq_true] at h3
    have hm : y ∈ (lxA x.s).1 := by rw [hq]; simp
    exact ⟨y, hm, ba_ext h3.2, (lxA_good x.s).1 y hm⟩
  · cases h3
theorem nodB_small {x : Nd} (h : nodB x = true) : x.s.size ≤ 1048576 := by
  by_cases hk : 3 ≤ x.k
  · unfold nodB at h
    simp only [Bool.and_eq_true] at h
    have h3 := h.2.2
    rw [if_pos hk] at h3
    have e : x.s.toList = [] := by simpa using h3
    rw [ByteArray.toList_eq] at e
    have e2 : x.s.size = x.s.data.toList.length := Array.length_toList.symm
    rw [e] at e2
    have e3 : x.s.size = 0 := e2
    omega
  · obtain ⟨y, _, hy, hg⟩ := nodB_text h hk
    have := hg.small
    rw [hy] at this
    omega
theorem prsA_small (s : ByteArray) : ∀ (i : Nat) (x : Nd), (prsA s).1[i]? = some x → x.s.size ≤ 1048576 := fun i x hx => nodB_small ((prsA_tree s).node i x hx)
end Go.Proofs.YthjkgbcomjiejaaGreatDoor
