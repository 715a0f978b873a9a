/-
  The parser at the end of the lexemes.
-/
import Derived.Test.YthjkgbcomjiejaaGreatDoorKk43
import Derived.Test.YthjkgbcomjiejaaGreatDoorKk11
import Derived.Sort.OwnSortedInts
import Derived.Shelf.Slices.In.SortNone
namespace Go.Proofs.YthjkgbcomjiejaaGreatDoor
open Go.RowKit Go.Sort
set_option linter.unusedVariables false

theorem sortNone_any (p : Option Addr) (c : Nat) (w : World) :
    Calls Tryz.prog 101 #[.slice p 0 c] w fun e w' => e = .returned (.tuple #[]) ∧ w' = w := Any.slices_Sort_int_none Tryz.lays189 p c w
theorem plainElem_bool_inv {H : Type} {P : Program} {e : TypeId} (he : P.underlying e = some .bool) {v : Value} {z : DataW H × List MemPlace} (h : plainElem P e v = some z) : ∃ b, v = .bool b := by
  unfold plainElem at h
  rw [he] at h
  cases v <;> simp at h
  exact ⟨_, rfl⟩
/-- the keys met so far. -/
def ColI (D : DU) (left : Lit → Bool) (ks : List Int) : Prop := ∀ a : Int, a ∈ ks ↔ (Maps.has D (.int .i64 a) = true ∧ left (.int .i64 a) = false)
theorem ColI.start (D : DU) : ColI D (Maps.has D) [] := fun a => by cases Maps.has D (.int .i64 a) <;> simp
theorem ColI.step {D : DU} {left : Lit → Bool} {ks : List Int} (h : ColI D left ks) {x : Int} {y : DU} (hl : left (.int .i64 x) = true) (hat : ∀ zd, D.atKey (.int .i64 x) zd = y) : ColI D (fun z => left z && !z.sameKey (.int .i64 x)) (ks ++ [x]) := by
  have hh : Maps.has D (.int .i64 x) = true := Maps.has_true_of_atKey hat
  intro a
  by_cases e : a = x
  · subst e; simp [hh, Lit.sameKey]
  · simp [h a, e, Lit.sameKey]
def OpP (w : World) (S : List Int) (e : Ending) (w' : World) : Prop :=
  ∃ v zs, e = .returned v ∧ w'.ownsRow w.heap.size 3 1 v zs.length (nums zs) ∧ zs.Pairwise (· ≤ ·) ∧ (∀ a, a ∈ zs ↔ a ∈ S) ∧ zs.length ≤ 1000 ∧ Below w.heap.size w w'
set_option maxHeartbeats 4000000 in
set_option maxRecDepth 100000 in
theorem opened_any {w : World} {B : Nat} {z : Pz} {pb bm : Nat} {vL : Value} {ps : Nat → Nat} {vs : Nat → Value} {D : DU} (h : PzM w B z pb bm vL ps vs D) (h200 : z.l.length ≤ 200) :
    Calls Tryz.prog 85 #[ptr pb] w (OpP w (opq z)) := by
  obtain ⟨i0, hi0, hz0, hz1, hz2⟩ := info_parts infoI
  have H := Lib.hid h
  obtain ⟨c0, c1, c2, cl⟩ := h.cells
  clear h
  unfold ptr
  go_enter Tryz.func85, Tryz.ntmps85
  go_wp2_with (first | (at_range; refine wpList_range_own _ rfl _ 84 rfl 3 4 (Maps.int_keyed Tryz.underlying3) Tryz.underlying84 _ bm z.l.length D rfl H.out.map ?_; intro w0 hrg0 hg0 hs0) | fail)
  go_frame
  have hlow : ∀ b, b < w.heap.size → w0.heap[b]? = w.heap[b]? := fun b hb => hg0.block b hb (by simp)
  have hb0 : Below w.heap.size w w0 := ⟨hg0.os, hg0.tape, hg0.output, hg0.size, hlow⟩
  have hnr : w0.ownsRow w.heap.size 3 1 (.slice none 0 0) 0 (nums []) := ⟨rfl, .inl ⟨rfl, rfl⟩⟩
  have hsd : Maps.size D ≤ z.l.length := H.out.map.size_le
  go_loopw [3] (fun av wr => ∃ left cnt ks, wr.ranges Tryz.prog 3 (plainElem Tryz.prog 4) bm w.heap.size z.l.length D left cnt ∧ ColI D left ks ∧ wr.ownsRow w.heap.size 3 1 av ks.length (nums ks) ∧ Below w.heap.size w wr ∧ ks.length + cnt ≤ Maps.size D) (fun _ wr => wr.rangeLeft bm w.heap.size)
  case atStart => exact ⟨_, _, [], hrg0, ColI.start D, hnr, hb0, by simp⟩
  case round =>
    obtain ⟨left, cnt, ks, hrg, hcol, hown, hb, hlen⟩ := hrel
    have hrow_it := row_ne_iter hown hrg
    have HRG := Lib.hid hrg
    have HCOL := Lib.hid hcol
    have HOWN := Lib.hid hown
    have HB := Lib.hid hb
    have hrl := hrg.left_eq
    have HRL := Lib.hid hrl
    clear hrg hcol hown hb hlow hb0 hnr hrg0 hg0 hs0 hrl
    obtain ⟨Av, cv, hAv⟩ := own_slice HOWN.out
    subst hAv
    go_wp2_with (first | (at_next; refine wpList_next_ranges _ rfl _ rfl 3 (Maps.int_keyed Tryz.underlying3) (plainElem Tryz.prog 4) (Value.int .i64) (fun v : Value => v) (fun key kl hk => by obtain ⟨x, hx, _⟩ := Maps.keyOf_int_inv Tryz.underlying3 hk; exact ⟨x, hx⟩) (fun v y hv => ⟨v, rfl⟩) bm w.heap.size z.l.length D left cnt rfl HRG.out ?_ ?_) | fail)
    · intro hc0 hl0
      go_wp2_with fail
      have hmem : ∀ a : Int, a ∈ ks ↔ a ∈ opq z := fun a => by rw [HCOL.out a, ← H.out.has a, hl0]; simp
      have HMEM := Lib.hid hmem
      have hk200 : ks.length ≤ 200 := by omega
      rcases HOWN.out.2 with ⟨hnil, h0⟩ | ⟨g, cap, cur, hv, hbase, hg, h1, h2, h3, h4⟩
      · have h0 : ks.length = 0 := h0
        rw [h0]
        refine (sortNone_any Av cv wr).mono ?_
        rintro e w5 ⟨rfl, rfl⟩
        rw [h0] at HOWN
        have HN0 := Lib.hid h0
        clear hnil hmem h0
        go_wp2_with fail
        go_ret
        have h9 := HN0.out
        have hk : ks = [] := List.eq_nil_of_length_eq_zero h9
        subst hk
        exact ⟨_, [], rfl, HOWN.out, List.Pairwise.nil, HMEM.out, by simp, HB.out⟩
      · injection hv with e1 _ e2
        subst e1 e2
        refine (Tryz.slices_Sort_int g 0 cv ks wr (holds_of_blockI hg (by simpa [nums] using h4)) (Array.getElem?_eq_some_iff.1 hg).1 (by omega)).mono ?_
        rintro e w5 ⟨rfl, n5, os5, rfl⟩
        have hcl := ownsRow_sortedI (n := n5) (os := os5) (ts := ks.mergeSort fun x y => decide (x ≤ y)) (ss := ks) (by simp) hbase hg h1 h2 h3
        have hgr := grownBy_sortedI (w := wr) (g := g) (n := n5) (os := os5) ((ks.mergeSort fun x y => decide (x ≤ y)).toArray)
        generalize Go.Sort.grow (putRow (Value.int .i64) (Sort.ahead wr n5) g 0 (ks.mergeSort fun x y => decide (x ≤ y)).toArray) os5 = w5 at *
        have HO5 := Lib.hid hcl
        have HB5 := Lib.hid (HB.out.grown hgr HB.out.size (fun g' hg' => by injection hg' with hg'; omega))
        have hpw : (ks.mergeSort fun x y => decide (x ≤ y)).Pairwise (· ≤ ·) := by
          have := List.pairwise_mergeSort (le := fun x y : Int => decide (x ≤ y)) (fun a b c h1 h2 => by simp only [decide_eq_true_eq] at *; omega) (fun a b => by simp only [Bool.or_eq_true, decide_eq_true_eq]; omega) ks
          exact this.imp (fun h => by simpa using h)
        have HPW := Lib.hid hpw
        have hml : (ks.mergeSort fun x y => decide (x ≤ y)).length = ks.length := by simp
        have HML := Lib.hid hml
        clear hcl hgr hpw hml hg h1 h2 h3 h4 hmem
        go_wp2_with fail
        go_ret
        refine ⟨_, ks.mergeSort fun x y => decide (x ≤ y), rfl, ?_, HPW.out, fun a => by rw [List.mem_mergeSort]; exact HMEM.out a, by rw [HML.out]; omega, HB5.out⟩
        rw [HML.out]
        exact HO5.out
    · intro x c kl yd yp w2 cnt2 hkey hlk hv hat hrg2 hlt hg2 hs2 hen
      obtain ⟨x', ex, rfl, hwx⟩ := Maps.keyOf_int_inv Tryz.underlying3 hkey
      cases ex
      have HCOL2 := Lib.hid (HCOL.out.step hlk hat)
      have HRG2 := Lib.hid hrg2
      have hsz2 : w.heap.size ≤ w2.heap.size := Nat.le_trans HB.out.size hg2.size
      have hb2 := HB.out.grown hg2 HB.out.size (fun g hg => by injection hg with hg; omega)
      have ho2 := fo_kept HOWN.out hg2 (fun g hg e => hrow_it (by rw [hg]; exact e.symm))
      have hS := BlkL.new w2 3 (nums [x])
      have hbS := (Below.refl w2.heap.size w2).alloc (Nat.le_refl _) (.cells (nums [x]).toArray 3)
      have HOS := Lib.hid (own_below ho2 hbS)
      have HBS := Lib.hid (hb2.trans (hbS.mono hsz2))
      have HSS := Lib.hid hS
      have HRS := Lib.hid (hrg2.alloc (.cells (nums [x]).toArray 3))
      have hzS : w.heap.size ≤ (w2.alloc (.cells (nums [x]).toArray 3)).heap.size := HBS.out.size
      have hri2 := row_ne_iter HOS.out HRS.out
      have hmr2 := map_ne_row HRS.out.owns HOS.out
      clear hS hbS ho2 hb2 hg2 hs2 hrg2 hkey hlk hv hat
      go_wp2_with (first | (at_builtin; refine wpList_append_own_at _ rfl _ _ 37 rfl w.heap.size 3 i0 (.int .i64 0) 1 8 Tryz.underlying37 hi0 hz0 hz1 hz2 rfl (by decide) _ _ _ rfl HOS.out ⟨w2.heap.size, 0, none⟩ 1 1 (nums [x]) rfl rfl (fun j u hj => by rw [Addr.add_lit, Nat.zero_add]; exact (HSS.out.cell j).trans hj) (ints_oneCell .i64 [x]) (by simp only [maxLen]; omega) (by omega) hzS ?_) | fail)
      intro v' w4 how hgr _ hat4
      have hnn : nums ks ++ nums [x] = nums (ks ++ [x]) := by simp [nums]
      have how : w4.ownsRow w.heap.size 3 1 v' (ks ++ [x]).length (nums (ks ++ [x])) := by rw [List.length_append, ← hnn]; exact how
      have hb4 := HBS.out.grown hgr hzS (fun g hg => (HOS.out.lt g hg).1)
      have hr4 := HRS.out.kept hgr (fun e => hmr2 e.symm) hri2
      have hrl4 := hr4.left_eq
      have HO4 := Lib.hid how
      have HB4 := Lib.hid hb4
      have HR4 := Lib.hid hr4
      have HRL4 := Lib.hid hrl4
      clear how hgr hat4 hb4 hr4 hrl4 hnn hri2 hmr2 hrow_it
      go_wp2_with fail
      go_roundw
      case rel => exact ⟨_, cnt2, ks ++ [x], HR4.out, HCOL2.out, HO4.out, HB4.out, by rw [List.length_append]; simp; omega⟩
      case measure => rw [HRL4.out, HRL.out]; exact hlt
end Go.Proofs.YthjkgbcomjiejaaGreatDoor
namespace Go.Proofs.YthjkgbcomjiejaaGreatDoor
open Go.RowKit
set_option linter.unusedVariables false

theorem sorted_last {zs : List Int} (hs : zs.Pairwise (· ≤ ·)) {M : Int} (hm : M ∈ zs) (hle : ∀ a ∈ zs, a ≤ M) {k : Nat} (hk : k + 1 = zs.length) : zs[k]? = some M := by
  obtain ⟨j, hj, he⟩ := List.getElem_of_mem hm
  have hkl : k < zs.length := by omega
  rw [List.getElem?_eq_getElem hkl]
  congr 1
  have h1 := hle _ (List.getElem_mem hkl)
  by_cases e : j = k
  · subst e; exact he
  · have := List.pairwise_iff_getElem.1 hs j k hj hkl (by omega)
    omega
theorem opq_nil {z : Pz} (h : z.t = 0) : opq z = [] := by unfold opq; rw [h]; exact opl_zero _ _
theorem opq_last {z : Pz} (hok : PzOk z) (hq : z.q.Pairwise (· < ·)) {t : Nat} (ht : z.t = t + 1) (h6 : knd z.l z.t ≠ 6) : z.q.getD t 0 ∈ opq z ∧ ∀ a ∈ opq z, a ≤ z.q.getD t 0 := by
  have htq : t < z.q.length := by have := hok.tip; have := hok.len; omega
  have e1 : opq z = opl z.l z.q (par z.l t) ++ [z.q.getD t 0] := by
    unfold opq
    rw [ht] at h6 ⊢
    exact opl_yes h6
  rw [e1]
  refine ⟨by simp, fun a ha => ?_⟩
  rcases List.mem_append.1 ha with h | h
  · have := opl_top hq htq h; omega
  · rw [List.mem_singleton] at h; omega
def EndPz (w : World) (z : Pz) (e : Ending) (w' : World) : Prop :=
  (z.t = 0 → e = .returned (.tuple #[])) ∧ (∀ c a, endZ z = .error (c, a) → e = .panicked [{ v := fltV c a, recovered := false }]) ∧ Below w.heap.size w w'
theorem EndPz.bad {w w' : World} {z : Pz} {c a : Int} (h0 : z.t ≠ 0) (h : endZ z = .error (c, a)) (hb : Below w.heap.size w w') : EndPz w z (.panicked [{ v := fltV c a, recovered := false }]) w' := by
  refine ⟨fun h2 => (h0 h2).elim, fun c2 a2 h2 => ?_, hb⟩
  rw [h] at h2
  injection h2 with h2
  injection h2 with e1 e2
  subst e1 e2
  rfl
theorem EndPz.good {w w' : World} {z : Pz} (h0 : z.t = 0) (hb : Below w.heap.size w w') : EndPz w z (.returned (.tuple #[])) w' :=
  ⟨fun _ => rfl, (fun c a h => by unfold endZ at h; rw [if_pos h0] at h; cases h), hb⟩
set_option maxHeartbeats 4000000 in
set_option maxRecDepth 100000 in
theorem end_any {w : World} {B : Nat} {z : Pz} {pb bm : Nat} {vL : Value} {ps : Nat → Nat} {vs : Nat → Value} {D : DU} (h : PzM w B z pb bm vL ps vs D) (hok : PzOk z) (h200 : z.l.length ≤ 200) (hq : z.q.Pairwise (· < ·)) :
    Calls Tryz.prog 61 #[ptr pb] w (EndPz w z) := by
  have H := Lib.hid h
  have HOK := Lib.hid hok
  have HQ := Lib.hid hq
  obtain ⟨c0, c1, c2, cl⟩ := h.cells
  obtain ⟨d0, d1, d2, d3, d4, d5, dl⟩ := h.fo.cells hok.tip
  have HOP := Lib.hid (opened_any h h200)
  unfold ptr at c1 HOP
  clear h hok hq
  unfold ptr
  by_cases h6 : knd z.l z.t = 6
  · obtain ⟨t, ht⟩ : ∃ t, z.t = t + 1 := ⟨z.t - 1, by
      have h0 : z.t ≠ 0 := fun e => by rw [e, knd_zero] at h6; omega
      omega⟩
    have HST := Lib.hid (show endZ z = .error (4, z.q.getD t 0) by
      unfold endZ
      rw [if_neg (by omega), if_pos h6, ht]
      rfl)
    have H0 := Lib.hid (show z.t ≠ 0 by omega)
    have d3' : w.cell? ⟨ps z.t, 3, none⟩ = some (.int .i64 (z.q.getD t 0)) := by rw [d3, ht]; rfl
    obtain ⟨a0, ha0⟩ : ∃ a0, z.q.getD t 0 = a0 := ⟨_, rfl⟩
    rw [ha0] at d3' HST
    rw [h6] at d1
    clear ht ha0 h6 d3
    go_enter Tryz.func61, Tryz.ntmps61
    go_wp2_with fail
    exact ⟨rfl, EndPz.bad H0.out HST.out (Below.refl _ _)⟩
  · have h6b : (knd z.l z.t == 6) = false := by simpa using h6
    have H6 := Lib.hid h6
    clear h6
    go_enter Tryz.func61, Tryz.ntmps61
    go_wp2_with fail
    refine HOP.out.mono ?_
    rintro e w2 ⟨v, zs, rfl, hown, hpw, hmem, h1000, hb2⟩
    have HPW := Lib.hid hpw
    have HM := Lib.hid hmem
    have HB := Lib.hid hb2
    clear hpw hmem hb2 c0 c1 c2 cl d0 d1 d2 d3 d4 d5 dl
    obtain ⟨Av, cv, rfl⟩ := own_slice hown
    by_cases h0 : z.t = 0
    · have HZ := Lib.hid h0
      have hz : zs.length = 0 := by
        cases zs with
        | nil => rfl
        | cons a r => have := (HM.out a).1 (by simp); rw [opq_nil h0] at this; cases this
      rw [hz]
      clear h0 hz hown
      go_wp2_with fail
      go_end0
      exact EndPz.good HZ.out HB.out
    · obtain ⟨t, ht⟩ : ∃ t, z.t = t + 1 := ⟨z.t - 1, by omega⟩
      obtain ⟨hm1, hm2⟩ := opq_last HOK.out HQ.out ht H6.out
      have HST := Lib.hid (show endZ z = .error (3, z.q.getD t 0) by
        unfold endZ
        rw [if_neg h0, if_neg H6.out, ht]
        rfl)
      obtain ⟨a0, ha0⟩ : ∃ a0, z.q.getD t 0 = a0 := ⟨_, rfl⟩
      rw [ha0] at hm1 hm2 HST
      have hin := (HM.out a0).2 hm1
      obtain ⟨k, hk⟩ : ∃ k, zs.length = k + 1 := ⟨zs.length - 1, by have := List.length_pos_of_mem hin; omega⟩
      have hlast := sorted_last HPW.out hin (fun a ha => hm2 a ((HM.out a).1 ha)) hk.symm
      obtain ⟨g, hgA, hgl, hgc⟩ := own_cells hown (j := k) (by omega)
      subst hgA
      have cg : w2.cell? ⟨g, k, none⟩ = some (.int .i64 a0) := hgc.trans (by unfold nums; rw [List.getElem?_map, hlast]; rfl)
      have H0 := Lib.hid h0
      rw [hk]
      have hk1 : ((k + 1 : Nat) : Int) - 1 = k := by omega
      have hk2 : wrap64 (((k + 1 : Nat) : Int) - 1) = k := by unfold wrap64; omega
      have hkb : k ≤ 1000 := by omega
      clear hin hlast hgc hown hm1 hm2 ha0 ht h0 hk
      go_wp2_with fail
      exact ⟨rfl, EndPz.bad H0.out HST.out HB.out⟩
end Go.Proofs.YthjkgbcomjiejaaGreatDoor
