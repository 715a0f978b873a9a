/-
  LongLines, TrailOk and WidestLine on both sides.
-/
import Derived.Test.YtegjgbgnpkncbaaDoorLnd
namespace Go.Proofs.YtegjgbgnpkncbaaDoor
open Go.RowKit
set_option linter.unusedVariables false

/-- the numbers (from first on) of those among the first i lines that are longer than k. -/
def lgK (l : List ByteArray) (first k : Int) : Nat → List Int
  | 0 => []
  | i + 1 => lgK l first k i ++ (match l[i]? with | some x => if k < (x.size : Int) then [first + i] else [] | none => [])
def lgL (l : List ByteArray) (first k : Int) : List Int := lgK l first k l.length
theorem lgK_le (l : List ByteArray) (first k : Int) : ∀ i, (lgK l first k i).length ≤ i
  | 0 => Nat.le_refl _
  | i + 1 => by
    have := lgK_le l first k i
    simp only [lgK, List.length_append]
    split
    · split <;> simp <;> omega
    · simp; omega
theorem lgL_len (l : List ByteArray) (first k : Int) : (lgL l first k).length ≤ l.length := lgK_le _ _ _ _
theorem lgK_yes {l : List ByteArray} {first k : Int} {i : Nat} {x : ByteArray} (h : l[i]? = some x) (hk : k < (x.size : Int)) : lgK l first k (i + 1) = lgK l first k i ++ [first + i] := by
  simp only [lgK, h, if_pos hk]
theorem lgK_no {l : List ByteArray} {first k : Int} {i : Nat} {x : ByteArray} (h : l[i]? = some x) (hk : ¬ k < (x.size : Int)) : lgK l first k (i + 1) = lgK l first k i := by
  simp only [lgK, h, if_neg hk, List.append_nil]
set_option maxHeartbeats 1000000 in
set_option maxRecDepth 100000 in
theorem longer_any (x : ByteArray) (p : Addr) (k : Int) (w : World) (hp : w.cell? p = some (.int .i64 k)) :
    Calls Tryd.prog 35 #[.string x, .pointer (some p)] w fun e w' => e = .returned (.bool (decide (k < (x.size : Int)))) ∧ w = w' := by
  go_enter Tryd.func35, Tryd.ntmps35
  go_wp2_with fail
  go_ret
  exact ⟨rfl, rfl⟩
set_option maxHeartbeats 1000000 in
set_option maxRecDepth 100000 in
theorem longerThan_any (k : Int) (w : World) :
    Calls Tryd.prog 29 #[.int .i64 k] w fun e w' => e = .returned (.func (.func 35) #[] #[.pointer (some ⟨w.heap.size, 0, none⟩)]) ∧ w' = w.alloc (.cells #[.int .i64 k] 3) := by
  go_enter Tryd.func29, Tryd.ntmps29
  go_wp2_with fail
  go_ret
  exact ⟨rfl, rfl⟩
set_option maxHeartbeats 1000000 in
set_option maxRecDepth 100000 in
theorem numbersWhere_long (A : Option Addr) (l : List ByteArray) (n c : Nat) (first k : Int) (p : Addr) (w : World) (hn : l.length = n) (hm : n ≤ 2097152) (hf0 : 0 ≤ first) (hf1 : first ≤ 1) (hl : SW w A l) (hp : w.cell? p = some (.int .i64 k)) :
    Calls Tryd.prog 28 #[.slice A n c, .int .i64 first, .func (.func 35) #[] #[.pointer (some p)]] w (IntsOut w (lgL l first k)) := by
  obtain ⟨i0, hi0, hz0, hz1, hz2⟩ := info_parts infoI
  have HN := Lib.hid hn
  have HL := Lib.hid hl
  have HP := Lib.hid hp
  have hpl := World.block_lt_of_cell? w p hp
  clear hn hl hp
  go_enter Tryd.func28, Tryd.ntmps28
  go_wp2_with fail
  go_loopw [7, 12] (fun v iv wr => ∃ i : Nat, i ≤ n ∧ iv = .int .i64 i ∧ wr.ownsRow w.heap.size 3 1 v (lgK l first k i).length (nums (lgK l first k i)) ∧ Below w.heap.size w wr) (fun _ iv _ => n - (intOf iv).toNat)
  case atStart => exact ⟨0, Nat.zero_le _, rfl, os_nil _ _ _ _, Below.refl _ _⟩
  case round =>
    obtain ⟨i, hi, rfl, hown, hb⟩ := hrel
    have HO := Lib.hid hown
    have HB := Lib.hid hb
    have hsz := hb.size
    have hle := lgK_le l first k i
    have HPW := Lib.hid ((hb.cell (p := p) hpl).trans HP.out)
    obtain ⟨Av, cv, rfl⟩ := os_slice hown
    clear hown hb
    by_cases hil : i < n
    · obtain ⟨x, b, o, hx, rfl, hbl, c0⟩ := (HL.out.below HB.out).at (k := i) (by have := HN.out; omega)
      by_cases hk : k < (x.size : Int)
      · have hkb : decide (k < (x.size : Int)) = true := by simp [hk]
        have HG := Lib.hid (lgK_yes (first := first) hx hk)
        clear hx hk
        go_wp2_with fail
        refine (longer_any x p k _ HPW.out).mono ?_
        rintro e w2 ⟨rfl, rfl⟩
        rw [hkb]
        have hS := BlkL.new wr 3 [.int .i64 (first + (i : Int))]
        have hb3 := (Below.refl wr.heap.size wr).alloc (Nat.le_refl _) (.cells #[.int .i64 (first + (i : Int))] 3)
        have HO3 := Lib.hid (os_below HO.out hb3)
        have HB3 := Lib.hid (HB.out.trans (hb3.mono hsz))
        have HS := Lib.hid hS
        have hz3 : w.heap.size ≤ (wr.alloc (.cells #[.int .i64 (first + (i : Int))] 3)).heap.size := HB3.out.size
        clear hS hb3
        go_wp2_with (at_builtin; refine wpList_append_own_at _ rfl _ _ 22 rfl w.heap.size 3 i0 (.int .i64 0) 1 8 Tryd.underlying22 hi0 hz0 hz1 hz2 rfl (by decide) _ _ _ rfl HO3.out ⟨wr.heap.size, 0, none⟩ 1 1 [.int .i64 (first + (i : Int))] rfl rfl (fun j u hj => by rw [Addr.add_lit, Nat.zero_add]; exact (HS.out.cell j).trans hj) (os_int _) (by simp only [maxLen]; omega) (by omega) hz3 ?_)
        intro v' w5 hown5 hgr5 _ _
        have HB5 := Lib.hid (HB3.out.grown hgr5 hz3 (fun g hg => (HO3.out.lt g hg).1))
        obtain ⟨A5, c5, rfl⟩ := os_slice hown5
        have HO5 := Lib.hid (show w5.ownsRow w.heap.size 3 1 (.slice A5 ((lgK l first k i).length + 1) c5) (lgK l first k (i + 1)).length (nums (lgK l first k (i + 1))) by rw [HG.out, List.length_append]; simpa [nums] using hown5)
        clear hown5 hgr5 HO3 HB3 HS
        go_wp2_with fail
        go_roundw
        case rel => exact ⟨i + 1, by omega, by go_num, HO5.out, HB5.out⟩
        case measure => simp [intOf]; omega
      · have hkb : decide (k < (x.size : Int)) = false := by simp; omega
        have HG := Lib.hid (lgK_no (first := first) hx hk)
        clear hx hk
        go_wp2_with fail
        refine (longer_any x p k _ HPW.out).mono ?_
        rintro e w2 ⟨rfl, rfl⟩
        rw [hkb]
        go_wp2_with fail
        go_roundw
        case rel => exact ⟨i + 1, by omega, by go_num, by rw [HG.out]; exact HO.out, HB.out⟩
        case measure => simp [intOf]; omega
    · obtain rfl : i = n := by omega
      have e : lgL l first k = lgK l first k i := by unfold lgL; rw [HN.out]
      go_wp2_with fail
      go_ret
      rw [e]
      exact ints_own rfl HO.out HB.out
set_option maxHeartbeats 1000000 in
set_option maxRecDepth 100000 in
theorem LongLines_any (s : ByteArray) (k : Int) (w : World) (hs : s.size ≤ 1048576) (hk : (Lit.int .i64 k).wf = true) :
    Calls Tryd.prog 18 #[.string s, .int .i64 k] w (IntsOut w (lgL (lns s) 1 k)) := by
  have hlen := lns_len s
  go_enter Tryd.func18, Tryd.ntmps18
  go_wp2_with fail
  refine (linesOf_any s _ hs).mono ?_
  rintro e w1 ⟨A, c, rfl, hsw, hlo, hb⟩
  have HB := Lib.hid hb
  clear hb hlo
  go_wp2_with fail
  refine (longerThan_any k _).mono ?_
  rintro e w2 ⟨rfl, hw⟩
  have hb2 : Below w1.heap.size w1 w2 := by rw [hw]; exact (Below.refl _ _).alloc (Nat.le_refl _) _
  have hc2 : w2.cell? ⟨w1.heap.size, 0, none⟩ = some (.int .i64 k) := by rw [hw]; exact ((BlkL.new w1 3 [.int .i64 k]).cell 0)
  have HB2 := Lib.hid (HB.out.trans (hb2.mono HB.out.size))
  have hsw2 := hsw.below hb2
  clear hb2 hw hsw
  go_wp2_with fail
  refine (numbersWhere_long A (lns s) _ c 1 k _ w2 rfl (by omega) (by omega) (by omega) hsw2 hc2).mono ?_
  rintro e w3 ⟨hb3, A3, c3, rfl, hlo3, hnil3, hrow3⟩
  have HB3 := Lib.hid (HB2.out.trans (hb3.mono HB2.out.size))
  have HLO := Lib.hid (show ∀ b, A3.map (·.block) = some b → w.heap.size ≤ b from fun b hb => Nat.le_trans HB2.out.size (hlo3 b hb))
  have HNI := Lib.hid hnil3
  have HRO := Lib.hid hrow3
  clear hb3 hlo3 hnil3 hrow3 hsw2 hc2
  go_wp2_with fail
  go_ret
  exact ⟨HB3.out, A3, c3, rfl, HLO.out, HNI.out, HRO.out⟩
/-- does a line end with a blank? -/
def eB (x : ByteArray) : Bool := Lib.hasSuffix x.data.toList [32]
theorem eB_empty {x : ByteArray} (h : x.size = 0) : eB x = false := by
  have h1 : x.data.toList.length = x.size := (Lib.size_eq x).symm
  have h2 : x.data.toList = [] := List.eq_nil_of_length_eq_zero (by omega)
  unfold eB Lib.hasSuffix
  rw [h2]
  rfl
theorem eB_last {x : ByteArray} {m : Nat} (h : x.size = m + 1) : eB x = ((x[m]'(by omega)).toNat == 32) := by
  have h1 : x.data.toList.length = x.size := (Lib.size_eq x).symm
  have h2 : x.data.toList = x.data.toList.take m ++ [x[m]'(by omega)] := by
    have h3 : x.data.toList[m]'(by omega) = x[m]'(by omega) := rfl
    rw [← h3]
    have h5 := List.take_append_getElem (l := x.data.toList) (i := m) (by omega)
    rw [List.take_of_length_le (i := m + 1) (by omega)] at h5
    exact h5.symm
  unfold eB Lib.hasSuffix
  rw [h2]
  by_cases h4 : x[m]'(by omega) = 32
  · rw [h4]
    have : ([32] : List UInt8) <:+ x.data.toList.take m ++ [32] := List.suffix_append _ _
    rw [List.isSuffixOf_iff_suffix.2 this]
    rfl
  · have h5 : ((x[m]'(by omega)).toNat == 32) = false := by
      simp
      intro h6
      exact h4 (UInt8.toNat_inj.1 h6)
    rw [h5]
    have h6 : ¬ ([32] : List UInt8) <:+ x.data.toList.take m ++ [x[m]'(by omega)] := by
      intro h7
      obtain ⟨t, ht⟩ := h7
      have := List.append_inj_right' ht rfl
      simp at this
      exact h4 this.symm
    cases h8 : ([32] : List UInt8).isSuffixOf (x.data.toList.take m ++ [x[m]'(by omega)])
    · rfl
    · exact absurd (List.isSuffixOf_iff_suffix.1 h8) h6
def trN (l : List ByteArray) (i : Nat) : Bool := (l.take i).all fun x => !eB x
def trB (l : List ByteArray) : Bool := l.all fun x => !eB x
theorem trN_all (l : List ByteArray) {n : Nat} (h : l.length = n) : trN l n = trB l := by subst h; simp [trN, trB]
theorem trN_yes {l : List ByteArray} {i : Nat} {x : ByteArray} (hx : l[i]? = some x) (he : eB x = false) (h : trN l i = true) : trN l (i + 1) = true := by
  unfold trN at h ⊢
  rw [List.take_add_one, hx, List.all_append, h]
  simp [he]
theorem trB_no {l : List ByteArray} {i : Nat} {x : ByteArray} (hx : l[i]? = some x) (he : eB x = true) : trB l = false := by
  unfold trB
  rw [List.all_eq_false]
  exact ⟨x, List.mem_of_getElem? hx, by simp [he]⟩
set_option maxHeartbeats 1000000 in
set_option maxRecDepth 100000 in
theorem endsWithBlank_any (x : ByteArray) (w : World) (hx : x.size ≤ 1048576) :
    Calls Tryd.prog 27 #[.string x] w fun e w' => e = .returned (.bool (eB x)) ∧ w = w' := by
  go_enter Tryd.func27, Tryd.ntmps27
  go_wp2_with fail
  refine (Any.strings_HasSuffix Tryd.lays100 x ⟨#[32]⟩ _ (by omega)).mono ?_
  rintro e w1 ⟨rfl, rfl⟩
  go_wp2_with fail
  go_ret
  exact ⟨rfl, rfl⟩
def IdxP (l : List ByteArray) (w : World) (e : Ending) (w' : World) : Prop := ∃ r : Int, e = .returned (.int .i64 r) ∧ w = w' ∧ decide (0 ≤ r) = !trB l ∧ -1 ≤ r ∧ r ≤ 2097152
set_option maxHeartbeats 1000000 in
set_option maxRecDepth 100000 in
theorem IndexFunc_any (A : Option Addr) (l : List ByteArray) (n c : Nat) (w : World) (hn : l.length = n) (hm : n ≤ 2097152) (hl : SW w A l) (hs : ∀ x ∈ l, x.size ≤ 1048576) :
    Calls Tryd.prog 33 #[.slice A n c, .func (.func 27) #[] #[]] w (IdxP l w) := by
  have HN := Lib.hid hn
  have HL := Lib.hid hl
  have HS := Lib.hid hs
  clear hn hl hs
  go_enter Tryd.func33, Tryd.ntmps33
  go_wp2_with fail
  go_loopw [8] (fun iv wr => ∃ i : Nat, i ≤ n ∧ iv = .int .i64 i ∧ w = wr ∧ trN l i = true) (fun iv _ => n - (intOf iv).toNat)
  case atStart => exact ⟨0, Nat.zero_le _, rfl, rfl, rfl⟩
  case round =>
    obtain ⟨i, hi, rfl, rfl, htr⟩ := hrel
    have HT := Lib.hid htr
    clear htr
    by_cases hil : i < n
    · obtain ⟨x, b, o, hx, rfl, hbl, c0⟩ := HL.out.at (k := i) (by have := HN.out; omega)
      have hxs := HS.out x (List.mem_of_getElem? hx)
      cases he : eB x
      · have HG := Lib.hid (trN_yes hx he HT.out)
        have HE := Lib.hid he
        clear hx he
        go_wp2_with fail
        refine (endsWithBlank_any x _ hxs).mono ?_
        rintro e w2 ⟨rfl, rfl⟩
        rw [HE.out]
        go_wp2_with fail
        go_roundw
        case rel => exact ⟨i + 1, by omega, by go_num, trivial, HG.out⟩
        case measure => simp [intOf]; omega
      · have HG := Lib.hid (trB_no hx he)
        have HE := Lib.hid he
        clear hx he
        go_wp2_with fail
        refine (endsWithBlank_any x _ hxs).mono ?_
        rintro e w2 ⟨rfl, rfl⟩
        rw [HE.out]
        go_wp2_with fail
        go_ret
        exact ⟨i, rfl, rfl, by rw [HG.out]; simp, by omega, by omega⟩
    · obtain rfl : i = n := by omega
      have e := trN_all l HN.out
      rw [HT.out] at e
      have HE := Lib.hid e
      clear e
      go_wp2_with fail
      go_ret
      exact ⟨-1, rfl, rfl, by rw [← HE.out]; rfl, by omega, by omega⟩
set_option maxHeartbeats 1000000 in
set_option maxRecDepth 100000 in
theorem TrailOk_any (s : ByteArray) (w : World) (hs : s.size ≤ 1048576) :
    Calls Tryd.prog 16 #[.string s] w fun e w' => e = .returned (.bool (trB (lns s))) ∧ Below w.heap.size w w' := by
  have hlen := lns_len s
  go_enter Tryd.func16, Tryd.ntmps16
  go_wp2_with fail
  refine (linesOf_any s _ hs).mono ?_
  rintro e w1 ⟨A, c, rfl, hsw, hlo, hb⟩
  have HB := Lib.hid hb
  have HSZ := Lib.hid (fun x (hx : x ∈ lns s) => lns_size hx)
  clear hb hlo
  go_wp2_with fail
  go_enter Tryd.func26, Tryd.ntmps26
  go_wp2_with fail
  refine (IndexFunc_any A (lns s) _ c _ rfl (by omega) hsw (fun x hx => by have := HSZ.out x hx; omega)).mono ?_
  rintro e w2 ⟨r, rfl, rfl, hr, h1, h2⟩
  have HR := Lib.hid (show (!decide (0 ≤ r)) = trB (lns s) by rw [hr]; simp)
  clear hr
  go_wp2_with fail
  go_ret
  exact ⟨by rw [← HR.out]; rfl, HB.out⟩
set_option maxHeartbeats 1000000 in
set_option maxRecDepth 100000 in
theorem sLongLines_any (s : ByteArray) (k : Int) (w : World) (hs : s.size ≤ 1048576) (hk : (Lit.int .i64 k).wf = true) :
    Calls Tryd.prog 17 #[.string s, .int .i64 k] w (IntsOut w (lgL (lns s) 1 k)) := by
  obtain ⟨i0, hi0, hz0, hz1, hz2⟩ := info_parts infoI
  have hlen := lns_len s
  go_enter Tryd.func17, Tryd.ntmps17
  go_wp2_with fail
  have hb0 := (Below.refl w.heap.size w).alloc (Nat.le_refl _) (.cells #[] 3)
  have ho0 := os_lit0 w 3
  generalize w.alloc (.cells #[] 3) = w0 at *
  refine (sLineWidths_any s _ hs).mono ?_
  rintro e w1 ⟨hb, A, c, rfl, hlo, _, hrow⟩
  have HO1 := Lib.hid (os_below ho0 hb)
  have HB1 := Lib.hid (hb0.trans (hb.mono hb0.size))
  have HL := Lib.hid hrow
  have HLO := Lib.hid hlo
  have hs0 : w.heap.size < w0.heap.size := ho0.lt w.heap.size rfl |>.2
  clear ho0 hb0 hb hrow hlo
  obtain ⟨l, hl⟩ : ∃ l, lns s = l := ⟨_, rfl⟩
  have HLN := Lib.hid hl
  rw [hl] at HL hlen ⊢
  clear hl
  obtain ⟨n, hn⟩ : ∃ n, l.length = n := ⟨_, rfl⟩
  rw [szL_len, hn]
  rw [hn] at hlen
  have HN := Lib.hid hn
  clear hn
  go_wp2_with fail
  go_loopw [5, 7] (fun v iv wr => ∃ i : Nat, i ≤ n ∧ iv = .int .i64 i ∧ wr.ownsRow w.heap.size 3 1 v (lgK l 1 k i).length (nums (lgK l 1 k i)) ∧ Below w.heap.size w wr ∧ IntRow wr A (szL l) ∧ (∀ g b, v.ownBlock = some g → A.map (·.block) = some b → g ≠ b)) (fun _ iv _ => n - (intOf iv).toNat)
  case atStart => exact ⟨0, Nat.zero_le _, rfl, HO1.out, HB1.out, HL.out, fun g b hg hb => by have := HLO.out b hb; have : w.heap.size = g := Option.some.inj hg; omega⟩
  case round =>
    obtain ⟨i, hi, rfl, hown, hb, hsw, hne⟩ := hrel
    have HO := Lib.hid hown
    have HB := Lib.hid hb
    have HSW := Lib.hid hsw
    have HNE := Lib.hid hne
    have hsz := hb.size
    have hle := lgK_le l 1 k i
    obtain ⟨Av, cv, rfl⟩ := os_slice hown
    clear hown hb hsw hne HO1 HB1
    by_cases hil : i < n
    · have hx : l[i]? = some (l[i]'(by have := HN.out; omega)) := List.getElem?_eq_getElem _
      obtain ⟨x, hxe⟩ : ∃ x, l[i]'(by have := HN.out; omega) = x := ⟨_, rfl⟩
      rw [hxe] at hx
      obtain ⟨b, rfl, hbl, c0⟩ := HSW.out.is i _ (szL_at hx)
      by_cases hkx : k < (x.size : Int)
      · have hkb : decide (k < (x.size : Int)) = true := by simp [hkx]
        have HG := Lib.hid (lgK_yes (first := 1) hx hkx)
        clear hx hkx hxe
        have hS := BlkL.new wr 3 [.int .i64 ((i : Int) + 1)]
        have hb3 := (Below.refl wr.heap.size wr).alloc (Nat.le_refl _) (.cells #[.int .i64 ((i : Int) + 1)] 3)
        have HO3 := Lib.hid (os_below HO.out hb3)
        have HB3 := Lib.hid (HB.out.trans (hb3.mono hsz))
        have HW3 := Lib.hid (HSW.out.below hb3)
        have HS := Lib.hid hS
        have hz3 : w.heap.size ≤ (wr.alloc (.cells #[.int .i64 ((i : Int) + 1)] 3)).heap.size := HB3.out.size
        have hbz : b < (wr.alloc (.cells #[.int .i64 ((i : Int) + 1)] 3)).heap.size := Nat.lt_of_lt_of_le hbl hb3.size
        clear hS hb3
        go_wp2_with (at_builtin; refine wpList_append_own_at _ rfl _ _ 22 rfl w.heap.size 3 i0 (.int .i64 0) 1 8 Tryd.underlying22 hi0 hz0 hz1 hz2 rfl (by decide) _ _ _ rfl HO3.out ⟨wr.heap.size, 0, none⟩ 1 1 [.int .i64 ((i : Int) + 1)] rfl rfl (fun j u hj => by rw [Addr.add_lit, Nat.zero_add]; exact (HS.out.cell j).trans hj) (os_int _) (by simp only [maxLen]; omega) (by omega) hz3 ?_)
        intro v' w5 hown5 hgr5 _ hat5
        have HB5 := Lib.hid (HB3.out.grown hgr5 hz3 (fun g hg => (HO3.out.lt g hg).1))
        have HW5 := Lib.hid (HW3.out.grown hgr5 (fun b' hb' e => HNE.out b' b' e.symm hb' rfl))
        have HN5 := Lib.hid (show ∀ g b', v'.ownBlock = some g → (some (⟨b, 0, none⟩ : Addr)).map (·.block) = some b' → g ≠ b' from fun g b' hg hb' => by
          have hb2 : b = b' := Option.some.inj hb'
          subst hb2
          rcases hat5 with e | e
          · exact HNE.out g b (e.symm.trans hg) rfl
          · rw [e] at hg
            have := Option.some.inj hg
            omega)
        obtain ⟨A5, c5, rfl⟩ := os_slice hown5
        have HO5 := Lib.hid (show w5.ownsRow w.heap.size 3 1 (.slice A5 ((lgK l 1 k i).length + 1) c5) (lgK l 1 k (i + 1)).length (nums (lgK l 1 k (i + 1))) by rw [HG.out, List.length_append, Int.add_comm]; simpa [nums] using hown5)
        clear hown5 hgr5 hat5 HO3 HB3 HS HW3
        go_wp2_with fail
        go_roundw
        case rel => exact ⟨i + 1, by omega, by go_num, HO5.out, HB5.out, HW5.out, HN5.out⟩
        case measure => simp [intOf]; omega
      · have hkb : decide (k < (x.size : Int)) = false := by simp; omega
        have HG := Lib.hid (lgK_no (first := 1) hx hkx)
        clear hx hkx hxe
        go_wp2_with fail
        go_roundw
        case rel => exact ⟨i + 1, by omega, by go_num, by rw [HG.out]; exact HO.out, HB.out, HSW.out, HNE.out⟩
        case measure => simp [intOf]; omega
    · obtain rfl : i = n := by omega
      have e : lgL (lns s) 1 k = lgK l 1 k i := by rw [HLN.out]; unfold lgL; rw [HN.out]
      go_wp2_with fail
      go_ret
      rw [e]
      exact ints_own rfl HO.out HB.out
/-- the greatest of the first i sizes. -/
def wdN (l : List ByteArray) : Nat → Nat
  | 0 => 0
  | i + 1 => match l[i]? with | some x => max (wdN l i) x.size | none => wdN l i
def wdL (l : List ByteArray) : Int := (wdN l l.length : Int)
theorem wdN_at {l : List ByteArray} {i : Nat} {x : ByteArray} (h : l[i]? = some x) : wdN l (i + 1) = max (wdN l i) x.size := by simp only [wdN, h]
set_option maxHeartbeats 1000000 in
set_option maxRecDepth 100000 in
theorem sWidestLine_any (s : ByteArray) (w : World) (hs : s.size ≤ 1048576) :
    Calls Tryd.prog 19 #[.string s] w fun e w' => e = .returned (.int .i64 (wdL (lns s))) ∧ Below w.heap.size w w' := by
  have hlen := lns_len s
  go_enter Tryd.func19, Tryd.ntmps19
  go_wp2_with fail
  refine (sLineWidths_any s _ hs).mono ?_
  rintro e w1 ⟨hb, A, c, rfl, hlo, _, hrow⟩
  have HB1 := Lib.hid hb
  have HL := Lib.hid hrow.is
  have HSZ := Lib.hid (fun x (hx : x ∈ lns s) => lns_size hx)
  clear hb hrow hlo
  obtain ⟨l, hl⟩ : ∃ l, lns s = l := ⟨_, rfl⟩
  have HLN := Lib.hid hl
  rw [hl] at HL hlen HSZ ⊢
  clear hl
  obtain ⟨n, hn⟩ : ∃ n, l.length = n := ⟨_, rfl⟩
  rw [szL_len, hn]
  rw [hn] at hlen
  have HN := Lib.hid hn
  clear hn
  go_wp2_with fail
  go_loopw [3, 5] (fun v iv wr => ∃ i : Nat, i ≤ n ∧ iv = .int .i64 i ∧ v = .int .i64 (wdN l i) ∧ w1 = wr ∧ wdN l i ≤ s.size) (fun _ iv _ => n - (intOf iv).toNat)
  case atStart => exact ⟨0, Nat.zero_le _, rfl, rfl, rfl, Nat.zero_le _⟩
  case round =>
    obtain ⟨i, hi, rfl, rfl, rfl, hsm⟩ := hrel
    by_cases hil : i < n
    · have hx : l[i]? = some (l[i]'(by have := HN.out; omega)) := List.getElem?_eq_getElem _
      obtain ⟨x, hxe⟩ : ∃ x, l[i]'(by have := HN.out; omega) = x := ⟨_, rfl⟩
      rw [hxe] at hx
      have hxs := HSZ.out x (List.mem_of_getElem? hx)
      obtain ⟨b, rfl, hbl, c0⟩ := HL.out i _ (szL_at hx)
      have HG := Lib.hid (wdN_at hx)
      clear hx hxe
      go_wp2_with fail
      all_goals
        refine ⟨⟨i + 1, by omega, by go_num, ?_, trivial, by rw [HG.out]; omega⟩, by simp [intOf]; omega⟩
        rw [HG.out]
        congr 1
        simp only [Nat.max_def]
        split <;> omega
    · obtain rfl : i = n := by omega
      have e : wdL (lns s) = (wdN l i : Int) := by rw [HLN.out]; unfold wdL; rw [HN.out]
      go_wp2_with fail
      go_ret
      rw [e]
      exact ⟨rfl, HB1.out⟩
set_option maxHeartbeats 1000000 in
set_option maxRecDepth 100000 in
theorem WidestLine_any (s : ByteArray) (w : World) (hs : s.size ≤ 1048576) :
    Calls Tryd.prog 20 #[.string s] w fun e w' => e = .returned (.int .i64 (wdL (lns s))) ∧ Below w.heap.size w w' := by
  have hlen := lns_len s
  go_enter Tryd.func20, Tryd.ntmps20
  go_wp2_with fail
  refine (LineWidths_any s _ hs).mono ?_
  rintro e w1 ⟨hb, A, c, rfl, hlo, _, hrow⟩
  have HB1 := Lib.hid hb
  have HL := Lib.hid hrow.is
  have HSZ := Lib.hid (fun x (hx : x ∈ lns s) => lns_size hx)
  clear hb hrow hlo
  obtain ⟨l, hl⟩ : ∃ l, lns s = l := ⟨_, rfl⟩
  have HLN := Lib.hid hl
  rw [hl] at HL hlen HSZ ⊢
  clear hl
  obtain ⟨n, hn⟩ : ∃ n, l.length = n := ⟨_, rfl⟩
  rw [szL_len, hn]
  rw [hn] at hlen
  have HN := Lib.hid hn
  clear hn
  go_wp2_with fail
  go_loopw [3, 9] (fun v iv wr => ∃ i : Nat, i ≤ n ∧ iv = .int .i64 i ∧ v = .int .i64 (wdN l i) ∧ w1 = wr ∧ wdN l i ≤ s.size) (fun _ iv _ => n - (intOf iv).toNat)
  case atStart => exact ⟨0, Nat.zero_le _, rfl, rfl, rfl, Nat.zero_le _⟩
  case round =>
    obtain ⟨i, hi, rfl, rfl, rfl, hsm⟩ := hrel
    by_cases hil : i < n
    · have hx : l[i]? = some (l[i]'(by have := HN.out; omega)) := List.getElem?_eq_getElem _
      obtain ⟨x, hxe⟩ : ∃ x, l[i]'(by have := HN.out; omega) = x := ⟨_, rfl⟩
      rw [hxe] at hx
      have hxs := HSZ.out x (List.mem_of_getElem? hx)
      obtain ⟨b, rfl, hbl, c0⟩ := HL.out i _ (szL_at hx)
      have HG := Lib.hid (wdN_at hx)
      clear hx hxe
      go_wp2_with fail
      refine ⟨⟨i + 1, by omega, by go_num, ?_, trivial, by rw [HG.out]; omega⟩, by simp [intOf]; omega⟩
      rw [HG.out]
      congr 1
      simp only [Nat.max_def, Int.max_def]
      split <;> split <;> omega
    · obtain rfl : i = n := by omega
      have e : wdL (lns s) = (wdN l i : Int) := by rw [HLN.out]; unfold wdL; rw [HN.out]
      go_wp2_with fail
      go_ret
      rw [e]
      exact ⟨rfl, HB1.out⟩
end Go.Proofs.YtegjgbgnpkncbaaDoor
