/-
  How a branch grows, and whether it is whole, over branches with a place in a text (made out of Trd's and Tre's texts by gen_pzc.py).
-/
import Derived.Test.YthjkgbcomjiejaaGreatDoorKk36
namespace Go.Proofs.YthjkgbcomjiejaaGreatDoor
open Go.RowKit
set_option linter.unusedVariables false

def GrQ (w : World) (B : Nat) (l : List Nd) (k : Nat) (at_ : Nat → Int) (ps : Nat → Nat) (vs : Nat → Value) (i : Nat) (e : Ending) (w' : World) : Prop :=
  ∃ p v, e = .returned (ptr p) ∧ w.heap.size ≤ p ∧ Fq w' B l (k + 1) at_ (upd ps (k + 1) p) (upd (upd vs i v) (k + 1) (.slice none 0 0)) ∧ (v.ownBlock = (vs i).ownBlock ∨ ∃ g, v.ownBlock = some g ∧ w.heap.size ≤ g) ∧
    w'.os = w.os ∧ w'.tape = w.tape ∧ w'.output = w.output ∧ w.heap.size ≤ w'.heap.size ∧ ∀ q, q < w.heap.size → q ≠ ps i → some q ≠ (vs i).ownBlock → w'.heap[q]? = w.heap[q]?
set_option maxHeartbeats 1000000 in
set_option maxRecDepth 100000 in
theorem growQ_any {w : World} {B k : Nat} {l : List Nd} {at_ : Nat → Int} {ps : Nat → Nat} {vs : Nat → Value} (h : Fq w B l k at_ ps vs) (x : Nd) (hk : l[k]? = some x) (hB : B ≤ w.heap.size) (h200 : k ≤ 1000) (a : Int) (ha : at_ (k + 1) = a) :
    Calls Tryz.prog 71 #[ptr (ps (par l k)), .agg #[.int .i64 x.d, .int .i64 x.k, .string x.s], .int .i64 a] w (GrQ w B l k at_ ps vs (par l k)) := by
  obtain ⟨i0, hi0, hz0, hz1, hz2⟩ := info_parts infoBr
  have hpk := par_le l k
  obtain ⟨i, hi⟩ : ∃ i, par l k = i := ⟨_, rfl⟩
  rw [hi] at hpk ⊢
  have HI := Lib.hid hi
  have HK := Lib.hid hk
  have H := Lib.hid h
  have HA := Lib.hid ha
  clear hi hk h ha
  unfold ptr
  have hps := H.out.lt hpk
  obtain ⟨A, c, hv, hkid⟩ := H.out.kid hpk
  have hcell := H.out.cells hpk
  have hrow := H.out.row i hpk
  rw [hv] at hcell hrow
  obtain ⟨_, _, _, _, _, c5, cl⟩ := hcell
  have hlen := kidsN_len l i k
  clear hkid
  obtain ⟨n, hn⟩ : ∃ n, (kidsN l i k).length = n := ⟨_, rfl⟩
  rw [hn] at hv c5 hrow hlen
  have HN := Lib.hid hn
  have HV := Lib.hid hv
  have HROW := Lib.hid hrow
  clear hn hv hrow
  go_enter Tryz.func71, Tryz.ntmps71
  have hb1 := (Below.refl w.heap.size w).alloc (Nat.le_refl _) (.cells #[.int .i64 x.d, .int .i64 x.k, .string x.s] 31)
  have hP := BlkL.new (w.alloc (.cells #[.int .i64 x.d, .int .i64 x.k, .string x.s] 31)) 70 [.int .i64 x.d, .int .i64 x.k, .string x.s, .int .i64 a, .pointer (some ⟨ps i, 0, none⟩), .slice none 0 0]
  change BlkL ((w.alloc (.cells #[.int .i64 x.d, .int .i64 x.k, .string x.s] 31)).alloc (.cells #[.int .i64 x.d, .int .i64 x.k, .string x.s, .int .i64 a, .pointer (some ⟨ps i, 0, none⟩), .slice none 0 0] 70)) _ _ _ at hP
  have hb2 := hb1.alloc hb1.size (.cells #[.int .i64 x.d, .int .i64 x.k, .string x.s, .int .i64 a, .pointer (some ⟨ps i, 0, none⟩), .slice none 0 0] 70)
  have hz1' : (w.alloc (.cells #[.int .i64 x.d, .int .i64 x.k, .string x.s] 31)).heap.size = w.heap.size + 1 := by simp
  rw [hz1'] at hP
  have hz2' : ((w.alloc (.cells #[.int .i64 x.d, .int .i64 x.k, .string x.s] 31)).alloc (.cells #[.int .i64 x.d, .int .i64 x.k, .string x.s, .int .i64 a, .pointer (some ⟨ps i, 0, none⟩), .slice none 0 0] 70)).heap.size = w.heap.size + 2 := by simp
  have hS := BlkL.new ((w.alloc (.cells #[.int .i64 x.d, .int .i64 x.k, .string x.s] 31)).alloc (.cells #[.int .i64 x.d, .int .i64 x.k, .string x.s, .int .i64 a, .pointer (some ⟨ps i, 0, none⟩), .slice none 0 0] 70)) 68 [.pointer (some ⟨w.heap.size + 1, 0, none⟩)]
  change BlkL (((w.alloc (.cells #[.int .i64 x.d, .int .i64 x.k, .string x.s] 31)).alloc (.cells #[.int .i64 x.d, .int .i64 x.k, .string x.s, .int .i64 a, .pointer (some ⟨ps i, 0, none⟩), .slice none 0 0] 70)).alloc (.cells #[.pointer (some ⟨w.heap.size + 1, 0, none⟩)] 68)) _ _ _ at hS
  rw [hz2'] at hS
  have hb3 := hb2.alloc hb2.size (.cells #[.pointer (some ⟨w.heap.size + 1, 0, none⟩)] 68)
  have hP3 := hP.alloc (.cells #[.pointer (some ⟨w.heap.size + 1, 0, none⟩)] 68)
  have HS := Lib.hid hS
  have HP := Lib.hid hP3
  have HB3 := Lib.hid hb3
  have hO3 := Lib.hid (own_below HROW.out hb3)
  have hz3 : B ≤ (((w.alloc (.cells #[.int .i64 x.d, .int .i64 x.k, .string x.s] 31)).alloc (.cells #[.int .i64 x.d, .int .i64 x.k, .string x.s, .int .i64 a, .pointer (some ⟨ps i, 0, none⟩), .slice none 0 0] 70)).alloc (.cells #[.pointer (some ⟨w.heap.size + 1, 0, none⟩)] 68)).heap.size := Nat.le_trans hB hb3.size
  clear hS hP hb1 hb2 hP3 hb3 hz1' hz2'
  go_wp2_with (at_builtin; refine wpList_append_own_at _ rfl _ _ 64 rfl B 68 i0 (.pointer none) 1 8 Tryz.underlying64 hi0 hz0 hz1 hz2 rfl (by decide) _ _ _ rfl hO3.out ⟨w.heap.size + 2, 0, none⟩ 1 1 [.pointer (some ⟨w.heap.size + 1, 0, none⟩)] rfl rfl (fun j u hj => by rw [Addr.add_lit, Nat.zero_add]; exact (HS.out.cell j).trans hj) (ptr_one _) (by simp only [maxLen]; omega) (by omega) hz3 ?_)
  intro v' w6 hown6 hgr6 _ hat6
  have hw3 : (((w.alloc (.cells #[.int .i64 x.d, .int .i64 x.k, .string x.s] 31)).alloc (.cells #[.int .i64 x.d, .int .i64 x.k, .string x.s, .int .i64 a, .pointer (some ⟨ps i, 0, none⟩), .slice none 0 0] 70)).alloc (.cells #[.pointer (some ⟨w.heap.size + 1, 0, none⟩)] 68)).heap.size = w.heap.size + 1 + 1 + 1 := by simp
  have HF3 := Lib.hid (H.out.below HB3.out)
  generalize (((w.alloc (.cells #[.int .i64 x.d, .int .i64 x.k, .string x.s] 31)).alloc (.cells #[.int .i64 x.d, .int .i64 x.k, .string x.s, .int .i64 a, .pointer (some ⟨ps i, 0, none⟩), .slice none 0 0] 70)).alloc (.cells #[.pointer (some ⟨w.heap.size + 1, 0, none⟩)] 68)) = w3 at *
  rw [← HV.out] at hgr6 hat6
  have hat7 : v'.ownBlock = (vs i).ownBlock ∨ ∃ g, v'.ownBlock = some g ∧ w3.heap.size ≤ g := by
    rcases hat6 with h | h
    · exact .inl h
    · exact .inr ⟨_, h, by omega⟩
  have hbi := (HF3.out.blk i hpk).grown hgr6 (fun e => fo_blk (HF3.out.row i hpk) (HF3.out.blk i hpk) (by decide) e.symm)
  have HFo := Lib.hid (HF3.out.grow (p := w.heap.size + 1) (List.getElem?_eq_some_iff.1 HK.out).1 HI.out (by omega) (fun j hj e => by have := H.out.lt hj; omega) (by rw [nAt_succ HK.out, HA.out]; exact HP.out) (by rw [HN.out]; exact hown6) hgr6 hat7)
  have HAT := Lib.hid (show v'.ownBlock = (vs i).ownBlock ∨ ∃ g, v'.ownBlock = some g ∧ w.heap.size ≤ g by
    rcases hat7 with h | ⟨g, h, hg⟩
    · exact .inl h
    · exact .inr ⟨g, h, by omega⟩)
  obtain ⟨A6, c6, rfl⟩ := own_slice hown6
  have HGR := Lib.hid hgr6
  have y5 : ∃ u, w6.cell? ⟨ps i, 5, none⟩ = some u := ⟨_, hbi.cell 5⟩
  obtain ⟨u5, y5⟩ := y5
  have yf := hbi.frozen
  have yl := hbi.lt
  clear hown6 hgr6 hat6 hat7 hbi HF3 hO3 HS HP c5 cl
  go_wp2
  go_ret
  refine ⟨w.heap.size + 1, _, rfl, by omega, HFo.out, HAT.out, HGR.out.os.trans HB3.out.os, HGR.out.tape.trans HB3.out.tape, HGR.out.output.trans HB3.out.output, ?_, fun q hq h1 h2 => ?_⟩
  · have := HGR.out.size
    simp only [World.setCell, Array.size_modify]
    omega
  · refine (Below.heap_setCell w6 ⟨ps i, 5, none⟩ _ q h1).trans ((HGR.out.block q (by omega) h2).trans (HB3.out.block q hq))
set_option maxHeartbeats 1000000 in
theorem evenQ_any {w : World} {B k : Nat} {l : List Nd} {at_ : Nat → Int} {ps : Nat → Nat} {vs : Nat → Value} (h : Fq w B l k at_ ps vs) (i : Nat) (hi : i ≤ k) (h200 : k ≤ 1000) :
    Calls Tryz.prog 92 #[ptr (ps i)] w fun e w' => e = .returned (.bool (evB (plainN l (kidsN l i k)))) ∧ w = w' := by
  have H := Lib.hid h
  clear h
  obtain ⟨A, c, hv, hkid⟩ := H.out.kid hi
  have hcell := H.out.cells hi
  rw [hv] at hcell
  obtain ⟨_, _, _, _, _, c5, cl⟩ := hcell
  have hlen := kidsN_len l i k
  obtain ⟨ks, hks⟩ : ∃ ks, kidsN l i k = ks := ⟨_, rfl⟩
  have HM := Lib.hid (show ∀ x ∈ ks, x < k from fun x hx => (kidsN_mem (by rw [hks]; exact hx)).1)
  rw [hks] at hkid c5 hlen ⊢
  have HKID := Lib.hid hkid
  clear hkid hks hv
  unfold ptr
  go_enter Tryz.func92, Tryz.ntmps92
  go_wp2
  clear c5 cl
  go_loopw [3, 11] (fun ev iv wr => ∃ j : Nat, j ≤ ks.length ∧ iv = .int .i64 j ∧ ev = .bool (evB (plainN l (ks.take j))) ∧ wr = w) (fun _ iv _ => ks.length - (intOf iv).toNat)
  case atStart => exact ⟨0, Nat.zero_le _, rfl, rfl, rfl⟩
  case round =>
    obtain ⟨j, hj, rfl, rfl, rfl⟩ := hrel
    by_cases hjl : j < ks.length
    · have hx := List.getElem?_eq_getElem hjl
      obtain ⟨x, hx'⟩ : ∃ x, ks[j] = x := ⟨_, rfl⟩
      rw [hx'] at hx
      obtain ⟨g, rfl, hgl, cg⟩ := HKID.out j x hx
      have hxk := HM.out x (List.mem_of_getElem? hx)
      obtain ⟨_, d1, _, _, _, _, dl⟩ := H.out.cells (show x + 1 ≤ k by omega)
      have HST := Lib.hid (plainN_step (l := l) hx)
      unfold ptr at cg
      clear hx hx'
      by_cases h2 : knd l (x + 1) = 2
      · have HE := Lib.hid (show evB (plainN l (ks.take (j + 1))) = evB (plainN l (ks.take j)) by rw [HST.out, if_pos h2]; rfl)
        rw [h2] at d1
        go_wp2
        go_roundw
        case rel => exact ⟨j + 1, by omega, by go_num, by rw [HE.out], trivial⟩
        case measure => simp [intOf]; omega
      · have HE := Lib.hid (show evB (plainN l (ks.take (j + 1))) = !evB (plainN l (ks.take j)) by rw [HST.out, if_neg h2, evB_succ])
        have b1 : (knd l (x + 1) == 2) = false := by simpa using h2
        have b2 : (knd l (x + 1) != 2) = true := by simpa using h2
        clear h2
        go_wp2
        go_roundw
        case rel => exact ⟨j + 1, by omega, by go_num, by rw [HE.out], trivial⟩
        case measure => simp [intOf]; omega
    · have e : ks.take j = ks := List.take_of_length_le (by omega)
      rw [e]
      go_wp2
      go_ret
      exact ⟨rfl, rfl⟩
set_option maxHeartbeats 1000000 in
theorem wholeQ_any {w : World} {B k : Nat} {l : List Nd} {at_ : Nat → Int} {ps : Nat → Nat} {vs : Nat → Value} (h : Fq w B l k at_ ps vs) (i : Nat) (hi : i ≤ k) (h200 : k ≤ 1000) :
    Calls Tryz.prog 72 #[ptr (ps i)] w fun e w' => e = .returned (.bool (whl l i k)) ∧ w = w' := by
  have H := Lib.hid h
  clear h
  obtain ⟨A, c, hv, hkid⟩ := H.out.kid hi
  have hcell := H.out.cells hi
  rw [hv] at hcell
  obtain ⟨_, c1, _, _, _, c5, cl⟩ := hcell
  have hlen := kidsN_len l i k
  unfold ptr
  by_cases h6 : knd l i = 6
  · obtain ⟨ks, hks⟩ : ∃ ks, kidsN l i k = ks := ⟨_, rfl⟩
    have HM := Lib.hid (show ∀ x ∈ ks, x < k from fun x hx => (kidsN_mem (by rw [hks]; exact hx)).1)
    have HI := Lib.hid (show whl l i k = (decide (ks.length = 1) && decide (plainN l ks = 1)) by unfold whl; rw [if_pos h6, hks])
    rw [hks] at hkid c5 hlen
    rw [h6] at c1
    clear hks hv h6
    by_cases h1 : ks.length = 1
    · match ks, h1 with
      | [x], _ =>
        obtain ⟨g, rfl, hgl, cg⟩ := hkid 0 x rfl
        have hxk := HM.out x (by simp)
        obtain ⟨_, d1, _, _, _, _, dl⟩ := H.out.cells (show x + 1 ≤ k by omega)
        unfold ptr at cg
        by_cases h2 : knd l (x + 1) = 2
        · have HE := Lib.hid (show whl l i k = false by rw [HI.out]; simp [plainN, h2])
          rw [h2] at d1
          clear hkid
          simp only [List.length_cons, List.length_nil, Nat.zero_add] at c5
          go_enter Tryz.func72, Tryz.ntmps72
          go_wp2
          go_ret
          rw [HE.out]
          exact ⟨rfl, rfl⟩
        · have HE := Lib.hid (show whl l i k = true by rw [HI.out]; simp [plainN, h2])
          have b1 : (knd l (x + 1) == 2) = false := by simpa using h2
          have b2 : (knd l (x + 1) != 2) = true := by simpa using h2
          clear hkid h2
          simp only [List.length_cons, List.length_nil, Nat.zero_add] at c5
          go_enter Tryz.func72, Tryz.ntmps72
          go_wp2
          go_ret
          rw [HE.out]
          exact ⟨rfl, rfl⟩
    · have HE := Lib.hid (show whl l i k = false by rw [HI.out]; simp [h1])
      have b1 : ((ks.length : Int) == 1) = false := by simp; omega
      clear hkid h1
      go_enter Tryz.func72, Tryz.ntmps72
      go_wp2
      go_ret
      rw [HE.out]
      exact ⟨rfl, rfl⟩
  · have b6 : (knd l i == 6) = false := by simpa using h6
    by_cases h5 : knd l i = 5
    · have HI := Lib.hid (show whl l i k = evB (plainN l (kidsN l i k)) by unfold whl; rw [if_neg h6, if_pos h5]; rfl)
      rw [h5] at c1 b6
      clear h5 h6 hkid c5
      go_enter Tryz.func72, Tryz.ntmps72
      go_wp2_with fail
      refine (evenQ_any H.out i hi h200).mono ?_
      rintro e w' ⟨rfl, rfl⟩
      go_wp2
      go_ret
      rw [HI.out]
      exact ⟨rfl, rfl⟩
    · have HI := Lib.hid (show whl l i k = true by unfold whl; rw [if_neg h6, if_neg h5])
      have b5 : (knd l i == 5) = false := by simpa using h5
      clear h5 h6 hkid c5
      go_enter Tryz.func72, Tryz.ntmps72
      go_wp2
      go_ret
      rw [HI.out]
      exact ⟨rfl, rfl⟩
end Go.Proofs.YthjkgbcomjiejaaGreatDoor
