/-
  MatchOf on both sides.
-/
import Derived.Test.YthjkgbcomjiejabGreatDoorFf38
import Derived.Test.YthjkgbcomjiejabGreatDoorFf08
import Derived.Test.YthjkgbcomjiejabGreatDoorFf37
import Derived.Test.YthjkgbcomjiejabGreatDoorFf03
import Derived.Deep.QuietTactic
import Derived.BigQuiet
namespace Go.Proofs.YthjkgbcomjiejabGreatDoor
open Go.RowKit
set_option linter.unusedVariables false

def smTo (l : List Tk) (n k : Nat) : List Int := (List.range (n + 1)).map fun i => if i ≤ k then smN l i else 0
theorem smTo_length (l : List Tk) (n k : Nat) : (smTo l n k).length = n + 1 := by simp [smTo]
theorem smTo_at (l : List Tk) {n k i : Nat} (hi : i ≤ k) (hk : k ≤ n) : (smTo l n k)[i]? = some (smN l i) := by
  simp [smTo, List.getElem?_map, List.getElem?_range (show i < n + 1 by omega), hi]
theorem smTo_next (l : List Tk) {n k : Nat} (hk : k < n) : (smTo l n k)[k + 1]? = some 0 := by
  simp only [smTo, List.getElem?_map, List.getElem?_range (show k + 1 < n + 1 by omega), Option.map_some]
  rw [if_neg (by omega)]
theorem smTo_zero (l : List Tk) (n : Nat) : smTo l n 0 = List.replicate (n + 1) 0 := by
  apply List.ext_getElem?
  intro i
  by_cases hi : i < n + 1
  · simp only [smTo, List.getElem?_map, List.getElem?_range hi, List.getElem?_replicate, hi, if_true, Option.map_some]
    by_cases h0 : i ≤ 0
    · obtain rfl : i = 0 := by omega
      simp [smN_zero]
    · simp [h0]
  · rw [List.getElem?_eq_none (by rw [smTo_length]; omega), List.getElem?_eq_none (by simp; omega)]
theorem smTo_set (l : List Tk) {n k : Nat} (hk : k < n) {x : Int} (hx : smN l (k + 1) = x) : (smTo l n k).set (k + 1) x = smTo l n (k + 1) := by
  apply List.ext_getElem?
  intro i
  by_cases hi : i < n + 1
  · rw [List.getElem?_set]
    by_cases e : k + 1 = i
    · subst e
      rw [if_pos rfl, if_pos (by rw [smTo_length]; omega), smTo_at l (Nat.le_refl _) (by omega), hx]
    · rw [if_neg e]
      simp only [smTo, List.getElem?_map, List.getElem?_range hi, Option.map_some]
      by_cases h0 : i ≤ k
      · rw [if_pos h0, if_pos (by omega)]
      · rw [if_neg h0, if_neg (by omega)]
  · rw [List.getElem?_eq_none (by rw [List.length_set, smTo_length]; omega), List.getElem?_eq_none (by rw [smTo_length]; omega)]
def sms (l : List Tk) : List Int := smTo l l.length l.length
theorem sms_at (l : List Tk) {i : Nat} (hi : i ≤ l.length) : (sms l)[i]? = some (smN l i) := smTo_at l hi (Nat.le_refl _)
theorem Tk.kw_if (t : Tk) : t.kw = if t.k = 4 then 1000000 else widB t.k t.s t.d t.o := rfl

set_option maxHeartbeats 2000000 in
set_option maxRecDepth 100000 in
theorem sumsAhead_any (A : Option Addr) (l : List Tk) (n c : Nat) (w : World) (hn : l.length = n) (hS : strB l = true) (hts : TS w A l) (hf : Fits l) :
    Calls Tryz.prog 46 #[.slice A n c] w fun e w' => e = .returned (.slice (some ⟨w.heap.size, 0, none⟩) (n + 1) (n + 1)) ∧ BlkL w' w.heap.size 3 (nums (sms l)) ∧ Below w.heap.size w w' := by
  obtain ⟨h4, hok, _⟩ := strB_true hS
  have HN := Lib.hid hn
  have h4' : n ≤ 400 := by omega
  clear hn
  have hmk := fun W => mkInts (n + 1) (by omega) W
  simp only [show (((n + 1 : Nat)) : Int) = (n : Int) + 1 from by omega] at hmk
  have HOK := Lib.hid hok
  clear hok hS
  go_enter Tryz.func46, Tryz.ntmps46
  go_wp2
  go_loopw [13] (fun i wr => ∃ k : Nat, k ≤ n ∧ i = .int .i64 k ∧ BlkL wr w.heap.size 3 (nums (smTo l n k)) ∧ Below w.heap.size w wr) (fun i _ => n - (intOf i).toNat)
  case atStart => exact ⟨0, Nat.zero_le _, rfl, by rw [smTo_zero]; exact BlkL.new w 3 _, (Below.refl _ _).alloc (Nat.le_refl _) _⟩
  case round =>
    obtain ⟨k, hk, rfl, hblk, hbw⟩ := hrel
    clear hmk
    by_cases hkl : k < n
    · obtain ⟨t, b, o, ht, rfl, hbl, _⟩ := hts.at (k := k) (by have := HN.out; omega)
      have hs := hf k t ht
      obtain ⟨hbl', c0, c1, c2, c3⟩ := (hts.below hbw).get ht
      have HT := Lib.hid ht
      have hkw := t.kw_bd (okN_at HOK.out (by have := HN.out; omega) ht).1
      have hsm := smN_bd HOK.out (show k ≤ l.length by have := HN.out; omega)
      have KW := Lib.hid t.kw_if
      have SM := Lib.hid (smN_succ ht)
      clear ht
      have HB := Lib.hid hbw
      clear hbw
      have HK := Lib.hid hblk
      clear hblk
      obtain ⟨hkw0, hkw1⟩ := hkw
      obtain ⟨hsm0, hsm1⟩ := hsm
      have hN := BlkL.new wr 44 [.int .i64 t.k, .string t.s, .int .i64 t.d, .int .i64 t.o]
      have n0 := (hN.cell 0).trans rfl
      have n1 := (hN.cell 1).trans rfl
      have n2 := (hN.cell 2).trans rfl
      have n3 := (hN.cell 3).trans rfl
      have HNN := Lib.hid hN
      clear hN
      go_wp2_with fail
      refine (WidthOf_any _ _ _ _ _ hs).mono ?_
      rintro e w4 ⟨rfl, hb4⟩
      have m0 := (hb4.cell (p := ⟨wr.heap.size, 0, none⟩) HNN.out.lt).trans n0
      have hK4 := (HK.out.alloc (.cells #[.int .i64 t.k, .string t.s, .int .i64 t.d, .int .i64 t.o] 44)).below hb4 (by have := HK.out.lt; simp; omega)
      have HB4 := Lib.hid ((HB.out.alloc HB.out.size (.cells #[.int .i64 t.k, .string t.s, .int .i64 t.d, .int .i64 t.o] 44)).trans (hb4.mono (by have := HB.out.size; simp; omega)))
      have z0 := (hK4.cell k).trans (nums_at (smTo_at l (Nat.le_refl k) (show k ≤ n by omega)))
      have z1 := (hK4.cell (k + 1)).trans (nums_at (smTo_next l hkl))
      have z2 := hK4.frozen (k + 1)
      have HK4 := Lib.hid hK4
      clear hb4 hK4 n0 n1 n2 n3 c0 c1 c2 c3 HNN HB HK
      have x3 : ((k : Int) + 1).toNat = k + 1 := by omega
      by_cases hk4 : t.k = 4
      · have E := Lib.hid (show smN l (k + 1) = smN l k + 1000000 from by rw [SM.out, KW.out, if_pos hk4])
        go_wp2
        go_roundw
        case rel =>
          have h1 := HK4.out.set (k + 1) (.int .i64 (smN l k + 1000000))
          rw [nums_set, smTo_set l hkl E.out] at h1
          exact ⟨k + 1, by omega, by go_num, h1, (HB4.out.setCell (p := ⟨w.heap.size, k + 1, none⟩) (Nat.le_refl _) _)⟩
        case measure => simp [intOf]; omega
      · have hk4' : (t.k == 4) = false := by simp [hk4]
        have E := Lib.hid (show smN l (k + 1) = smN l k + widB t.k t.s t.d t.o from by rw [SM.out, KW.out, if_neg hk4])
        have hw0 : 0 ≤ widB t.k t.s t.d t.o ∧ widB t.k t.s t.d t.o ≤ 1000000 := by have := KW.out; rw [if_neg hk4] at this; omega
        obtain ⟨hw0, hw1⟩ := hw0
        clear hk4
        go_wp2
        go_roundw
        case rel =>
          have h1 := HK4.out.set (k + 1) (.int .i64 (smN l k + widB t.k t.s t.d t.o))
          rw [nums_set, smTo_set l hkl E.out] at h1
          exact ⟨k + 1, by omega, by go_num, h1, (HB4.out.setCell (p := ⟨w.heap.size, k + 1, none⟩) (Nat.le_refl _) _)⟩
        case measure => simp [intOf]; omega
    · have hkn : k = n := by omega
      have HB := Lib.hid hbw
      have HK := Lib.hid hblk
      have HKN := Lib.hid hkn
      clear hbw hblk hkn
      go_wp2
      go_ret
      have e1 := HN.out; have e2 := HKN.out; subst e1; subst e2
      exact ⟨rfl, HK.out, HB.out⟩
end Go.Proofs.YthjkgbcomjiejabGreatDoor
namespace Go.Proofs.YthjkgbcomjiejabGreatDoor
open Go.RowKit
set_option linter.unusedVariables false

theorem levs_at (l : List Tk) {i : Nat} (hi : i < l.length) : (levs l)[i]? = some (levI l i) := by
  simp [levs, List.getElem?_range hi]
theorem below_drewNm {B : Nat} {a w : World} (h : Below B a w) (n : Nat) : Below B a (w.drewN n) := ⟨h.os, h.tape, h.output, h.size, h.block⟩

end Go.Proofs.YthjkgbcomjiejabGreatDoor
