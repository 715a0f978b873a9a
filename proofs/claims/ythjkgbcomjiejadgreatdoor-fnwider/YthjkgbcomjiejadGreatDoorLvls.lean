/-
  LevelsOf and DepthOf on both sides.
-/
import Derived.Test.YthjkgbcomjiejadGreatDoorOpn
namespace Go.Proofs.YthjkgbcomjiejadGreatDoor
open Go.RowKit
set_option linter.unusedVariables false

def LvPost (w : World) (l : List Tk) (e : Ending) (w' : World) : Prop :=
  Below w.heap.size w w' ∧ ((strB l = true ∧ e = .returned (.slice (some ⟨w.heap.size, 0, none⟩) l.length l.length) ∧ BlkL w' w.heap.size 3 (nums (levs l) ++ [.int .i64 0])) ∨
    (strB l = false ∧ e = .returned (.slice none 0 0)))

/-- levels in the first k places, counts behind them. -/
def lvTo (l : List Tk) (n k : Nat) : List Int := (List.range (n + 1)).map fun i => if i < k then levI l i else opN l i
theorem lvTo_length (l : List Tk) (n k : Nat) : (lvTo l n k).length = n + 1 := by simp [lvTo]
theorem lvTo_zero (l : List Tk) : lvTo l l.length 0 = ops l := by
  simp only [lvTo, ops, opsTo]
  apply List.map_congr_left
  intro i hi
  rw [if_neg (by omega), if_pos (by have := List.mem_range.1 hi; omega)]
theorem lvTo_at (l : List Tk) {n k i : Nat} (hi : i ≤ n) (hk : k ≤ i) : (lvTo l n k)[i]? = some (opN l i) := by
  simp only [lvTo, List.getElem?_map, List.getElem?_range (show i < n + 1 by omega), Option.map_some]
  rw [if_neg (by omega)]
theorem lvTo_set (l : List Tk) {n k : Nat} (hk : k < n) {x : Int} (hx : levI l k = x) : (lvTo l n k).set k x = lvTo l n (k + 1) := by
  apply List.ext_getElem?
  intro i
  by_cases hi : i < n + 1
  · rw [List.getElem?_set]
    by_cases e : k = i
    · subst e
      rw [if_pos rfl, if_pos (by rw [lvTo_length]; omega)]
      simp only [lvTo, List.getElem?_map, List.getElem?_range hi, Option.map_some]
      rw [if_pos (by omega), hx]
    · rw [if_neg e]
      simp only [lvTo, List.getElem?_map, List.getElem?_range hi, Option.map_some]
      by_cases h0 : i < k
      · rw [if_pos h0, if_pos (by omega)]
      · rw [if_neg h0, if_neg (by omega)]
  · rw [List.getElem?_eq_none (by rw [List.length_set, lvTo_length]; omega), List.getElem?_eq_none (by rw [lvTo_length]; omega)]
theorem lvTo_all (l : List Tk) : nums (lvTo l l.length l.length) = nums (levs l) ++ [.int .i64 (opN l l.length)] := by
  simp only [lvTo, levs, nums, List.range_succ, List.map_append, List.map_cons, List.map_nil, List.map_map]
  rw [if_neg (by omega)]
  congr 1
  apply List.map_congr_left
  intro i hi
  have := List.mem_range.1 hi
  simp [this]

theorem levI_if (l : List Tk) (k : Nat) : levI l k = if opN l (k + 1) < opN l k then opN l (k + 1) else opN l k := by
  unfold levI; split <;> omega
set_option maxHeartbeats 1000000 in
set_option maxRecDepth 100000 in
theorem LevelsOf_any (A : Option Addr) (l : List Tk) (n c : Nat) (w : World) (hn : l.length = n) (hm : n ≤ 2097152) (hts : TS w A l) (hf : Fits l) :
    Calls Tryz.prog 97 #[.slice A n c] w (LvPost w l) := by
  have HN := Lib.hid hn
  go_enter Tryz.func97, Tryz.ntmps97
  go_wp2_with fail
  refine (openBlocks_any _ l _ _ _ HN.out hm hts hf).mono ?_
  clear hn
  rintro e w1 ⟨hb, ⟨hS, rfl, hk⟩ | ⟨hS, rfl⟩⟩
  · have e1 := HN.out
    subst e1
    have HB := Lib.hid hb
    have HS := Lib.hid hS
    rw [← lvTo_zero] at hk
    have HK := Lib.hid hk
    clear hb hS hk
    go_wp2
    go_loopw [15] (fun i wr => ∃ k : Nat, k ≤ l.length ∧ i = .int .i64 k ∧ BlkL wr w.heap.size 3 (nums (lvTo l l.length k)) ∧ Below w.heap.size w wr) (fun i _ => l.length - (intOf i).toNat)
    case atStart => exact ⟨0, Nat.zero_le _, rfl, HK.out, HB.out⟩
    case round =>
      obtain ⟨k, hkl, rfl, hblk, hbw⟩ := hrel
      have h4 := strB_true HS.out
      obtain ⟨h4, hok, h0⟩ := h4
      have HO := Lib.hid h0
      have b1 := opN_bd l k
      have b2 := opN_bd l (k + 1)
      clear hok h0 HK HB
      by_cases hlt : k < l.length
      · have c0 := (hblk.cell k).trans (nums_at (lvTo_at l hkl (Nat.le_refl _)))
        have c1 := (hblk.cell (k + 1)).trans (nums_at (lvTo_at l (n := l.length) (i := k + 1) (k := k) (by omega) (by omega)))
        have f0 := hblk.frozen k
        have HK := Lib.hid hblk
        have HB := Lib.hid hbw
        clear hblk hbw
        go_wp2
        go_region
        rw [← levI_if]
        go_wp2
        go_roundw
        case rel =>
          have h1 := HK.out.set k (.int .i64 (levI l k))
          rw [nums_set, lvTo_set l hlt rfl] at h1
          exact ⟨k + 1, by omega, by go_num, h1, (HB.out.setCell (p := ⟨w.heap.size, k, none⟩) (Nat.le_refl _) _).drew⟩
        case measure => simp [intOf]; omega
      · have hkn : k = l.length := by omega
        subst hkn
        rw [lvTo_all, HO.out] at hblk
        have HK := Lib.hid hblk
        have HB := Lib.hid hbw
        clear hblk hbw
        go_wp2
        go_ret
        exact ⟨HB.out, .inl ⟨HS.out, rfl, HK.out⟩⟩
  · have HB := Lib.hid hb
    have HS := Lib.hid hS
    clear hb hS
    go_wp2
    go_ret
    exact ⟨HB.out, .inr ⟨HS.out, rfl⟩⟩

def SLvPost (w : World) (l : List Tk) (e : Ending) (w' : World) : Prop :=
  Below w.heap.size w w' ∧ ((strB l = true ∧ ∃ A c, e = .returned (.slice A l.length c) ∧ (∀ b, A.map (·.block) = some b → w.heap.size ≤ b ∧ b < w'.heap.size) ∧ IS w' A (levs l)) ∨
    (strB l = false ∧ e = .returned (.slice none 0 0)))
end Go.Proofs.YthjkgbcomjiejadGreatDoor
