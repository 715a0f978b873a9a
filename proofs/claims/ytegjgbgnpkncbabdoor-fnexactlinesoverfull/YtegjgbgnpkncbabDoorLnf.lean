/-
  LongLines, TrailOk and WidestLine on both sides.
-/
import Derived.Test.YtegjgbgnpkncbabDoorLnd
namespace Go.Proofs.YtegjgbgnpkncbabDoor
open Go.RowKit
set_option linter.unusedVariables false

/-- the numbers (from first on) of those among the first i lines that are longer than k. -/
def lgK (l : List ByteArray) (first k : Int) : Nat → List Int
  | 0 => []
  | i + 1 => lgK l first k i ++ (match l[i]? with | some x => if k < (x.size : Int) then [first + i] else [] | none => [])
def lgL (l : List ByteArray) (first k : Int) : List Int := lgK l first k l.length
theorem lgK_le (l : List ByteArray) (first k : Int) : ∀ i, (lgK l first k i).length ≤ i
  | 0 => Nat.le_refl _
  | i + 1 => by
    have := lgK_le l first k i
    simp only [lgK, List.length_append]
    split
    · split <;> simp <;> omega
    · simp; omega
theorem lgL_len (l : List ByteArray) (first k : Int) : (lgL l first k).length ≤ l.length := lgK_le _ _ _ _
theorem lgK_yes {l : List ByteArray} {first k : Int} {i : Nat} {x : ByteArray} (h : l[i]? = some x) (hk : k < (x.size : Int)) : lgK l first k (i + 1) = lgK l first k i ++ [first + i] := by
  simp only [lgK, h, if_pos hk]
theorem lgK_no {l : List ByteArray} {first k : Int} {i : Nat} {x : ByteArray} (h : l[i]? = some x) (hk : ¬ k < (x.size : Int)) : lgK l first k (i + 1) = lgK l first k i := by
  simp only [lgK, h, if_neg hk, List.append_nil]
set_option maxHeartbeats 1000000 in
set_option maxRecDepth 100000 in
theorem longer_any (x : ByteArray) (p : Addr) (k : Int) (w : World) (hp : w.cell? p = some (.int .i64 k)) :
    Calls Tryd.prog 27 #[.string x, .pointer (some p)] w fun e w' => e = .returned (.bool (decide (k < (x.size : Int)))) ∧ w = w' := by
  go_enter Tryd.func27, Tryd.ntmps27
  go_wp2_with fail
  go_ret
  exact ⟨rfl, rfl⟩
set_option maxHeartbeats 1000000 in
set_option maxRecDepth 100000 in
theorem longerThan_any (k : Int) (w : World) :
    Calls Tryd.prog 20 #[.int .i64 k] w fun e w' => e = .returned (.func (.func 27) #[] #[.pointer (some ⟨w.heap.size, 0, none⟩)]) ∧ w' = w.alloc (.cells #[.int .i64 k] 3) := by
  go_enter Tryd.func20, Tryd.ntmps20
  go_wp2_with fail
  go_ret
  exact ⟨rfl, rfl⟩
set_option maxHeartbeats 1000000 in
set_option maxRecDepth 100000 in
theorem numbersWhere_long (A : Option Addr) (l : List ByteArray) (n c : Nat) (first k : Int) (p : Addr) (w : World) (hn : l.length = n) (hm : n ≤ 2097152) (hf0 : 0 ≤ first) (hf1 : first ≤ 1) (hl : SW w A l) (hp : w.cell? p = some (.int .i64 k)) :
    Calls Tryd.prog 18 #[.slice A n c, .int .i64 first, .func (.func 27) #[] #[.pointer (some p)]] w (IntsOut w (lgL l first k)) := by
  obtain ⟨i0, hi0, hz0, hz1, hz2⟩ := info_parts infoI
  have HN := Lib.hid hn
  have HL := Lib.hid hl
  have HP := Lib.hid hp
  have hpl := World.block_lt_of_cell? w p hp
  clear hn hl hp
  go_enter Tryd.func18, Tryd.ntmps18
  go_wp2_with fail
  go_loopw [7, 12] (fun v iv wr => ∃ i : Nat, i ≤ n ∧ iv = .int .i64 i ∧ wr.ownsRow w.heap.size 3 1 v (lgK l first k i).length (nums (lgK l first k i)) ∧ Below w.heap.size w wr) (fun _ iv _ => n - (intOf iv).toNat)
  case atStart => exact ⟨0, Nat.zero_le _, rfl, os_nil _ _ _ _, Below.refl _ _⟩
  case round =>
    obtain ⟨i, hi, rfl, hown, hb⟩ := hrel
    have HO := Lib.hid hown
    have HB := Lib.hid hb
    have hsz := hb.size
    have hle := lgK_le l first k i
    have HPW := Lib.hid ((hb.cell (p := p) hpl).trans HP.out)
    obtain ⟨Av, cv, rfl⟩ := os_slice hown
    clear hown hb
    by_cases hil : i < n
    · obtain ⟨x, b, o, hx, rfl, hbl, c0⟩ := (HL.out.below HB.out).at (k := i) (by have := HN.out; omega)
      by_cases hk : k < (x.size : Int)
      · have hkb : decide (k < (x.size : Int)) = true := by simp [hk]
        have HG := Lib.hid (lgK_yes (first := first) hx hk)
        clear hx hk
        go_wp2_with fail
        refine (longer_any x p k _ HPW.out).mono ?_
        rintro e w2 ⟨rfl, rfl⟩
        rw [hkb]
        have hS := BlkL.new wr 3 [.int .i64 (first + (i : Int))]
        have hb3 := (Below.refl wr.heap.size wr).alloc (Nat.le_refl _) (.cells #[.int .i64 (first + (i : Int))] 3)
        have HO3 := Lib.hid (os_below HO.out hb3)
        have HB3 := Lib.hid (HB.out.trans (hb3.mono hsz))
        have HS := Lib.hid hS
        have hz3 : w.heap.size ≤ (wr.alloc (.cells #[.int .i64 (first + (i : Int))] 3)).heap.size := HB3.out.size
        clear hS hb3
        go_wp2_with (at_builtin; refine wpList_append_own_at _ rfl _ _ 24 rfl w.heap.size 3 i0 (.int .i64 0) 1 8 Tryd.underlying24 hi0 hz0 hz1 hz2 rfl (by decide) _ _ _ rfl HO3.out ⟨wr.heap.size, 0, none⟩ 1 1 [.int .i64 (first + (i : Int))] rfl rfl (fun j u hj => by rw [Addr.add_lit, Nat.zero_add]; exact (HS.out.cell j).trans hj) (os_int _) (by simp only [maxLen]; omega) (by omega) hz3 ?_)
        intro v' w5 hown5 hgr5 _ _
        have HB5 := Lib.hid (HB3.out.grown hgr5 hz3 (fun g hg => (HO3.out.lt g hg).1))
        obtain ⟨A5, c5, rfl⟩ := os_slice hown5
        have HO5 := Lib.hid (show w5.ownsRow w.heap.size 3 1 (.slice A5 ((lgK l first k i).length + 1) c5) (lgK l first k (i + 1)).length (nums (lgK l first k (i + 1))) by rw [HG.out, List.length_append]; simpa [nums] using hown5)
        clear hown5 hgr5 HO3 HB3 HS
        go_wp2_with fail
        go_roundw
        case rel => exact ⟨i + 1, by omega, by go_num, HO5.out, HB5.out⟩
        case measure => simp [intOf]; omega
      · have hkb : decide (k < (x.size : Int)) = false := by simp; omega
        have HG := Lib.hid (lgK_no (first := first) hx hk)
        clear hx hk
        go_wp2_with fail
        refine (longer_any x p k _ HPW.out).mono ?_
        rintro e w2 ⟨rfl, rfl⟩
        rw [hkb]
        go_wp2_with fail
        go_roundw
        case rel => exact ⟨i + 1, by omega, by go_num, by rw [HG.out]; exact HO.out, HB.out⟩
        case measure => simp [intOf]; omega
    · obtain rfl : i = n := by omega
      have e : lgL l first k = lgK l first k i := by unfold lgL; rw [HN.out]
      go_wp2_with fail
      go_ret
      rw [e]
      exact ints_own rfl HO.out HB.out
/-- does a line end with a blank? -/
def eB (x : ByteArray) : Bool := Lib.hasSuffix x.data.toList [32]
theorem eB_empty {x : ByteArray} (h : x.size = 0) : eB x = false := by
  have h1 : x.data.toList.length = x.size := (Lib.size_eq x).symm
  have h2 : x.data.toList = [] := List.eq_nil_of_length_eq_zero (by omega)
  unfold eB Lib.hasSuffix
  rw [h2]
  rfl
theorem eB_last {x : ByteArray} {m : Nat} (h : x.size = m + 1) : eB x = ((x[m]'(by omega)).toNat == 32) := by
  have h1 : x.data.toList.length = x.size := (Lib.size_eq x).symm
  have h2 : x.data.toList = x.data.toList.take m ++ [x[m]'(by omega)] := by
    have h3 : x.data.toList[m]'(by omega) = x[m]'(by omega) := rfl
    rw [← h3]
    have h5 := List.take_append_getElem (l := x.data.toList) (i := m) (by omega)
    rw [List.take_of_length_le (i := m + 1) (by omega)] at h5
    exact h5.symm
  unfold eB Lib.hasSuffix
  rw [h2]
  by_cases h4 : x[m]'(by omega) = 32
  · rw [h4]
    have : ([32] : List UInt8) <:+ x.data.toList.take m ++ [32] := List.suffix_append _ _
    rw [List.isSuffixOf_iff_suffix.2 this]
    rfl
  · have h5 : ((x[m]'(by omega)).toNat == 32) = false := by
      simp
      intro h6
      exact h4 (UInt8.toNat_inj.1 h6)
    rw [h5]
    have h6 : ¬ ([32] : List UInt8) <:+ x.data.toList.take m ++ [x[m]'(by omega)] := by
      intro h7
      obtain ⟨t, ht⟩ := h7
      have := List.append_inj_right' ht rfl
      simp at this
      exact h4 this.symm
    cases h8 : ([32] : List UInt8).isSuffixOf (x.data.toList.take m ++ [x[m]'(by omega)])
    · rfl
    · exact absurd (List.isSuffixOf_iff_suffix.1 h8) h6
def trN (l : List ByteArray) (i : Nat) : Bool := (l.take i).all fun x => !eB x
def trB (l : List ByteArray) : Bool := l.all fun x => !eB x
theorem trN_all (l : List ByteArray) {n : Nat} (h : l.length = n) : trN l n = trB l := by subst h; simp [trN, trB]
theorem trN_yes {l : List ByteArray} {i : Nat} {x : ByteArray} (hx : l[i]? = some x) (he : eB x = false) (h : trN l i = true) : trN l (i + 1) = true := by
  unfold trN at h ⊢
  rw [List.take_add_one, hx, List.all_append, h]
  simp [he]
theorem trB_no {l : List ByteArray} {i : Nat} {x : ByteArray} (hx : l[i]? = some x) (he : eB x = true) : trB l = false := by
  unfold trB
  rw [List.all_eq_false]
  exact ⟨x, List.mem_of_getElem? hx, by simp [he]⟩
def IdxP (l : List ByteArray) (w : World) (e : Ending) (w' : World) : Prop := ∃ r : Int, e = .returned (.int .i64 r) ∧ w = w' ∧ decide (0 ≤ r) = !trB l ∧ -1 ≤ r ∧ r ≤ 2097152
/-- the greatest of the first i sizes. -/
def wdN (l : List ByteArray) : Nat → Nat
  | 0 => 0
  | i + 1 => match l[i]? with | some x => max (wdN l i) x.size | none => wdN l i
def wdL (l : List ByteArray) : Int := (wdN l l.length : Int)
theorem wdN_at {l : List ByteArray} {i : Nat} {x : ByteArray} (h : l[i]? = some x) : wdN l (i + 1) = max (wdN l i) x.size := by simp only [wdN, h]
end Go.Proofs.YtegjgbgnpkncbabDoor
