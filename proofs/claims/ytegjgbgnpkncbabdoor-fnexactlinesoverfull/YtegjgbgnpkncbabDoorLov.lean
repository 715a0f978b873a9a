/-
  LinesOverfull on both sides.
-/
import Derived.Test.YtegjgbgnpkncbabDoorLnf
import Derived.Test.YtegjgbgnpkncbabDoorSly
namespace Go.Proofs.YtegjgbgnpkncbabDoor
open Go.RowKit
set_option linter.unusedVariables false

theorem layB_size (W : Int) (l : List Tk) : (layB W l).size ≤ 16777216 := by
  unfold layB
  split
  · rename_i h
    have hS := (okB_true h).2.2
    have h4 := (strB_true hS).1
    have h1 := (run_ok W hS l.length (Nat.le_refl _)).1.out
    show (run W l l.length).1.out.toArray.size ≤ 16777216
    simp only [List.size_toArray]
    omega
  · decide
theorem tens_count (x : List UInt8) : x.count 10 = tens x := by
  unfold tens List.count
  exact List.countP_eq_length_filter
theorem layB_lns (W : Int) (l : List Tk) : (lns (layB W l)).length ≤ 402 := by
  have h0 : (lns (layB W l)).length ≤ (parts (layB W l)).length := by
    unfold lns
    split
    · simp
    · exact Nat.le_refl _
  have h1 : (parts (layB W l)).length = (layB W l).data.toList.count 10 + 1 := by
    unfold parts
    rw [List.length_map, prt_len]
  have h2 : (layB W l).data.toList.count 10 ≤ 400 := by
    unfold layB
    split
    · rename_i h
      have hS := (okB_true h).2.2
      have h4 := (strB_true hS).1
      have h5 := run_ok W hS l.length (Nat.le_refl _)
      have h6 := h5.1.ln
      have h7 := h5.2.2.1
      show (run W l l.length).1.out.toArray.toList.count 10 ≤ 400
      rw [List.toList_toArray]
      have h8 : (run W l l.length).1.out.count 10 = tens (run W l l.length).1.out := tens_count _
      omega
    · decide
  omega
theorem lns_empty : lns ByteArray.empty = [] := by
  unfold lns
  rw [if_pos (by rfl)]
  rfl
def lofL (W : Int) (l : List Tk) : List Int := lgL (lns (layB W l)) 0 W
theorem lofL_le (W : Int) (l : List Tk) : (lofL W l).length ≤ 402 := by
  have h1 := lgL_len (lns (layB W l)) 0 W
  have h2 := layB_lns W l
  unfold lofL
  omega
theorem lofL_no {W : Int} {l : List Tk} (h : okB W l = false) : lofL W l = [] := by
  unfold lofL
  rw [show layB W l = ByteArray.empty from by simp [layB, h], lns_empty]
  rfl
set_option maxHeartbeats 1000000 in
set_option maxRecDepth 100000 in
theorem LinesOverfull_any (W : Int) (A : Option Addr) (l : List Tk) (m c : Nat) (w : World) (hm : l.length = m) (hmb : m ≤ 2097152) (hmc : m ≤ c) (hts : TS w A l) (hlow : ∀ b, A.map (·.block) = some b → b < w.heap.size) (hf : Fits l) :
    Calls Tryd.prog 7 #[.int .i64 W, .slice A m c] w (IntsOut w (lofL W l)) := by
  have HM := Lib.hid hm
  have HT := Lib.hid hts
  have HF := Lib.hid hf
  have HL := Lib.hid hlow
  have hls := layB_lns W l
  have hsz := layB_size W l
  have HE := Lib.hid (show lofL W l = lgL (lns (layB W l)) 0 W from rfl)
  clear hm hts hf hlow
  go_enter Tryd.func7, Tryd.ntmps7
  go_wp2_with fail
  refine (Layout_any W A l m c _ HM.out hmb hmc HT.out HL.out HF.out).mono ?_
  rintro e w1 ⟨rfl, hb1⟩
  have HB1 := Lib.hid hb1
  clear hb1
  obtain ⟨s, hs⟩ : ∃ s, layB W l = s := ⟨_, rfl⟩
  rw [hs] at HE hls hsz ⊢
  obtain ⟨b0, hb0⟩ : ∃ b, okB W l = b := ⟨_, rfl⟩
  rw [hb0]
  clear hs hb0
  go_wp2_with fail
  refine (linesOf_any s _ hsz).mono ?_
  rintro e w2 ⟨A2, c2, rfl, hsw, hlo, hb2⟩
  have HB2 := Lib.hid (HB1.out.trans (hb2.mono HB1.out.size))
  clear hb2 hlo
  go_wp2_with fail
  refine (longerThan_any W _).mono ?_
  rintro e w3 ⟨rfl, hw⟩
  have hb3 : Below w2.heap.size w2 w3 := by rw [hw]; exact (Below.refl _ _).alloc (Nat.le_refl _) _
  have hc3 : w3.cell? ⟨w2.heap.size, 0, none⟩ = some (.int .i64 W) := by rw [hw]; exact ((BlkL.new w2 3 [.int .i64 W]).cell 0)
  have HB3 := Lib.hid (HB2.out.trans (hb3.mono HB2.out.size))
  have hsw3 := hsw.below hb3
  clear hb3 hw hsw
  go_wp2_with fail
  refine (numbersWhere_long A2 (lns s) _ c2 0 W _ w3 rfl (by omega) (by omega) (by omega) hsw3 hc3).mono ?_
  rintro e w4 ⟨hb4, A4, c4, rfl, hlo4, hnil4, hrow4⟩
  have HB4 := Lib.hid (HB3.out.trans (hb4.mono HB3.out.size))
  have HLO := Lib.hid (show ∀ b, A4.map (·.block) = some b → w.heap.size ≤ b from fun b hb => Nat.le_trans HB3.out.size (hlo4 b hb))
  have HNI := Lib.hid hnil4
  have HRO := Lib.hid hrow4
  clear hb4 hlo4 hnil4 hrow4 hsw3 hc3
  go_wp2_with fail
  go_ret
  rw [HE.out]
  exact ⟨HB4.out, A4, c4, rfl, HLO.out, HNI.out, HRO.out⟩
set_option maxHeartbeats 1000000 in
set_option maxRecDepth 100000 in
theorem sLinesOverfull_any (W : Int) (A : Option Addr) (l : List Tk) (m c : Nat) (w : World) (hm : l.length = m) (hmb : m ≤ 2097152) (hts : TS w A l) (hlow : ∀ b, A.map (·.block) = some b → b < w.heap.size) (hf : Fits l) :
    Calls Tryd.prog 5 #[.int .i64 W, .slice A m c] w (IntsOut w (lofL W l)) := by
  obtain ⟨i0, hi0, hz0, hz1, hz2⟩ := info_parts infoI
  have HM := Lib.hid hm
  have HT := Lib.hid hts
  have HF := Lib.hid hf
  have HL := Lib.hid hlow
  have hls := layB_lns W l
  have hsz := layB_size W l
  have HE := Lib.hid (show lofL W l = lgL (lns (layB W l)) 0 W from rfl)
  have HNO := Lib.hid (show okB W l = false → lofL W l = [] from lofL_no)
  clear hm hts hf hlow
  go_enter Tryd.func5, Tryd.ntmps5
  go_wp2_with fail
  have hb0 := (Below.refl w.heap.size w).alloc (Nat.le_refl _) (.cells #[] 3)
  have ho0 := os_lit0 w 3
  generalize w.alloc (.cells #[] 3) = w0 at *
  refine (sLayout_any W A l m c _ HM.out hmb (HT.out.below hb0) (fun b hb => Nat.lt_of_lt_of_le (HL.out b hb) hb0.size) HF.out).mono ?_
  rintro e w1 ⟨rfl, hb1⟩
  have HB1 := Lib.hid (hb0.trans (hb1.mono hb0.size))
  have HO1 := Lib.hid (os_below ho0 hb1)
  have hs0 : w.heap.size < w1.heap.size := Nat.lt_of_lt_of_le (ho0.lt w.heap.size rfl |>.2) hb1.size
  clear hb0 ho0 hb1
  obtain ⟨s, hs⟩ : ∃ s, layB W l = s := ⟨_, rfl⟩
  rw [hs] at HE hls hsz ⊢
  clear hs
  cases hok : okB W l
  · have HE := Lib.hid (HNO.out hok)
    clear hok
    go_wp2_with fail
    go_ret
    rw [HE.out]
    exact ⟨HB1.out, none, 0, rfl, fun b hb => by simp at hb, fun _ => rfl, .inl ⟨rfl, rfl⟩⟩
  clear hok HNO
  go_wp2_with fail
  refine (sLineWidths_any s _ hsz).mono ?_
  rintro e w2 ⟨hb2, A2, c2, rfl, hlo2, hnil2, hrow2⟩
  have HB2 := Lib.hid (HB1.out.trans (hb2.mono HB1.out.size))
  have HO2 := Lib.hid (os_below HO1.out hb2)
  have HR := Lib.hid hrow2
  have HLO := Lib.hid hlo2
  clear hb2 hrow2 hlo2 hnil2 HO1
  obtain ⟨q, hq⟩ : ∃ q, lns s = q := ⟨_, rfl⟩
  rw [hq] at HE HR hls ⊢
  clear hq
  obtain ⟨n, hn⟩ : ∃ n, q.length = n := ⟨_, rfl⟩
  rw [szL_len, hn]
  rw [hn] at hls
  have HN := Lib.hid hn
  clear hn
  go_wp2_with fail
  go_loopw [5, 9] (fun v iv wr => ∃ i : Nat, i ≤ n ∧ iv = .int .i64 i ∧ wr.ownsRow w.heap.size 3 1 v (lgK q 0 W i).length (nums (lgK q 0 W i)) ∧ Below w.heap.size w wr ∧ IntRow wr A2 (szL q) ∧ (∀ g b, v.ownBlock = some g → A2.map (·.block) = some b → g ≠ b)) (fun _ iv _ => n - (intOf iv).toNat)
  case atStart => exact ⟨0, Nat.zero_le _, rfl, HO2.out, HB2.out, HR.out, fun g b hg hb => by have := HLO.out b hb; have : w.heap.size = g := Option.some.inj hg; omega⟩
  case round =>
    obtain ⟨i, hi, rfl, hown, hb, hsw, hne⟩ := hrel
    have HO := Lib.hid hown
    have HB := Lib.hid hb
    have HSW := Lib.hid hsw
    have HNE := Lib.hid hne
    have hsz2 := hb.size
    have hle := lgK_le q 0 W i
    obtain ⟨Av, cv, rfl⟩ := os_slice hown
    clear hown hb hsw hne HO2 HB2
    by_cases hil : i < n
    · have hx : q[i]? = some (q[i]'(by have := HN.out; omega)) := List.getElem?_eq_getElem _
      obtain ⟨x, hxe⟩ : ∃ x, q[i]'(by have := HN.out; omega) = x := ⟨_, rfl⟩
      rw [hxe] at hx
      obtain ⟨b, rfl, hbl, c0⟩ := HSW.out.is i _ (szL_at hx)
      by_cases hkx : W < (x.size : Int)
      · have hkb : decide (W < (x.size : Int)) = true := by simp [hkx]
        have HG := Lib.hid (lgK_yes (first := 0) hx hkx)
        clear hx hkx hxe
        have hS := BlkL.new wr 3 [.int .i64 (i : Int)]
        have hb3 := (Below.refl wr.heap.size wr).alloc (Nat.le_refl _) (.cells #[.int .i64 (i : Int)] 3)
        have HO3 := Lib.hid (os_below HO.out hb3)
        have HB3 := Lib.hid (HB.out.trans (hb3.mono hsz2))
        have HW3 := Lib.hid (HSW.out.below hb3)
        have HS := Lib.hid hS
        have hz3 : w.heap.size ≤ (wr.alloc (.cells #[.int .i64 (i : Int)] 3)).heap.size := HB3.out.size
        have hbz : b < (wr.alloc (.cells #[.int .i64 (i : Int)] 3)).heap.size := Nat.lt_of_lt_of_le hbl hb3.size
        clear hS hb3
        go_wp2_with (at_builtin; refine wpList_append_own_at _ rfl _ _ 24 rfl w.heap.size 3 i0 (.int .i64 0) 1 8 Tryd.underlying24 hi0 hz0 hz1 hz2 rfl (by decide) _ _ _ rfl HO3.out ⟨wr.heap.size, 0, none⟩ 1 1 [.int .i64 (i : Int)] rfl rfl (fun j u hj => by rw [Addr.add_lit, Nat.zero_add]; exact (HS.out.cell j).trans hj) (os_int _) (by simp only [maxLen]; omega) (by omega) hz3 ?_)
        intro v' w5 hown5 hgr5 _ hat5
        have HB5 := Lib.hid (HB3.out.grown hgr5 hz3 (fun g hg => (HO3.out.lt g hg).1))
        have HW5 := Lib.hid (HW3.out.grown hgr5 (fun b' hb' e => HNE.out b' b' e.symm hb' rfl))
        have HN5 := Lib.hid (show ∀ g b', v'.ownBlock = some g → (some (⟨b, 0, none⟩ : Addr)).map (·.block) = some b' → g ≠ b' from fun g b' hg hb' => by
          have hb2 : b = b' := Option.some.inj hb'
          subst hb2
          rcases hat5 with e | e
          · exact HNE.out g b (e.symm.trans hg) rfl
          · rw [e] at hg
            have := Option.some.inj hg
            omega)
        obtain ⟨A5, c5, rfl⟩ := os_slice hown5
        have HO5 := Lib.hid (show w5.ownsRow w.heap.size 3 1 (.slice A5 ((lgK q 0 W i).length + 1) c5) (lgK q 0 W (i + 1)).length (nums (lgK q 0 W (i + 1))) by rw [HG.out, List.length_append, Int.zero_add]; simpa [nums] using hown5)
        clear hown5 hgr5 hat5 HO3 HB3 HS HW3
        go_wp2_with fail
        go_roundw
        case rel => exact ⟨i + 1, by omega, by go_num, HO5.out, HB5.out, HW5.out, HN5.out⟩
        case measure => simp [intOf]; omega
      · have hkb : decide (W < (x.size : Int)) = false := by simp; omega
        have HG := Lib.hid (lgK_no (first := 0) hx hkx)
        clear hx hkx hxe
        go_wp2_with fail
        go_roundw
        case rel => exact ⟨i + 1, by omega, by go_num, by rw [HG.out]; exact HO.out, HB.out, HSW.out, HNE.out⟩
        case measure => simp [intOf]; omega
    · obtain rfl : i = n := by omega
      have e : lofL W l = lgK q 0 W i := by rw [HE.out]; unfold lgL; rw [HN.out]
      go_wp2_with fail
      go_ret
      rw [e]
      exact ints_own rfl HO.out HB.out
end Go.Proofs.YtegjgbgnpkncbabDoor
