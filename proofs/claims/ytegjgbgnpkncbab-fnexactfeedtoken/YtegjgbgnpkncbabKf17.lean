/-
  The laws' marks: numbers and texts written into a slice and looked for again; the comparison of two slices of numbers.
-/
import Derived.Test.YtegjgbgnpkncbabKf12
import Derived.Laws.IdiomStrings
import Derived.IntWalk
namespace Go.Proofs.Ytegjgbgnpkncbab
open Go.RowKit
set_option linter.unusedVariables false

theorem below_drewN {B : Nat} {a w : World} (h : Below B a w) (n : Nat) : Below B a (w.drewN n) := ⟨h.os, h.tape, h.output, h.size, h.block⟩

/-- the last digit of j, as a letter. -/
def dgc (j : Nat) : UInt8 := UInt8.ofNat (48 + j % 10)
theorem dgc_nat (j : Nat) : ((dgc j).toNat : Int) = 48 + (j : Int) % 10 := by
  have : (dgc j).toNat = 48 + j % 10 := by unfold dgc; simp; omega
  omega
def dgs (n : Nat) : List UInt8 := if h : n = 0 then [] else dgs (n / 10) ++ [dgc n]
termination_by n
theorem dgs_zero : dgs 0 = [] := by rw [dgs]; simp
theorem dgs_pos {n : Nat} (h : 0 < n) : dgs n = dgs (n / 10) ++ [dgc n] := by rw [dgs, dif_neg (by omega)]
def mtx (k : Int) : ByteArray := if k ≤ 0 then ⟨#[109, 48]⟩ else ⟨(109 :: dgs k.toNat).toArray⟩

theorem bapp (x : UInt8) (o : List UInt8) : (⟨#[x]⟩ : ByteArray) ++ ⟨o.toArray⟩ = ⟨(x :: o).toArray⟩ := by
  apply ByteArray.ext
  simp

theorem conv1 (x : UInt8) (X : Int) (hx : (x.toNat : Int) = X) (w : World) :
    (convert 94 9 (.slice (some ⟨w.heap.size, 0, none⟩) 1 1)).run Try.prog (w.alloc (.cells #[.int .u8 X] 5)) = .ok (.string ⟨#[x]⟩) (w.alloc (.cells #[.int .u8 X] 5)) := by
  have h := run_convert_bytes_back (P := Try.prog) (w.alloc (.cells #[.int .u8 X] 5)) 94 9 5 ⟨w.heap.size, 0, none⟩ 1 [x] Try.underlying94 Try.underlying5 Try.underlying9 (by
    intro i hi
    have hi0 : i = 0 := by simpa using hi
    subst hi0
    subst hx
    simp [Addr.add])
  exact h

set_option maxHeartbeats 400000 in
set_option maxRecDepth 100000 in
theorem markText_any (k : Int) (w : World) (hk : k ≤ 1000000000) :
    Calls Try.prog 38 #[.int .i64 k] w fun e w' => e = .returned (.string (mtx k)) ∧ Below w.heap.size w w' := by
  by_cases h0 : k ≤ 0
  · have hT := Lib.hid (show mtx k = ⟨#[109, 48]⟩ from if_pos h0)
    go_enter Try.func38, Try.ntmps38
    go_wp2
    go_ret
    rw [hT.out]
    exact ⟨rfl, Below.refl _ _⟩
  · have hT := Lib.hid (show mtx k = ⟨(109 :: dgs k.toNat).toArray⟩ from if_neg h0)
    obtain ⟨K, rfl⟩ := Int.eq_ofNat_of_zero_le (show 0 ≤ k by omega)
    have hK : 0 < K := by omega
    have hd : decide ((K : Int) ≤ 0) = false := by simp; omega
    clear h0
    go_enter Try.func38, Try.ntmps38
    go_wp2
    go_loopw [0, 3] (fun kk out wr => ∃ (j : Nat) (o : List UInt8), kk = .int .i64 j ∧ out = .string ⟨o.toArray⟩ ∧ dgs K = dgs j ++ o ∧ j + o.length ≤ K ∧ Below w.heap.size w wr) (fun kk _ _ => (intOf kk).toNat)
    case atStart => exact ⟨K, [], rfl, rfl, by simp, by simp, Below.refl _ _⟩
    case round =>
      obtain ⟨j, o, rfl, rfl, hj, hjo, hb⟩ := hrel
      have HJ := Lib.hid hj
      have HB := Lib.hid hb
      clear hj hb
      by_cases hj0 : 0 < j
      · have hcv := conv1 (dgc j) _ (dgc_nat j) wr
        go_wp2
        go_roundw
        case rel =>
          refine ⟨j / 10, dgc j :: o, by go_num, ?_, ?_, ?_, HB.out.alloc HB.out.size _⟩
          · exact congrArg Value.string (bapp _ _)
          · rw [HJ.out, dgs_pos hj0]; simp
          · simp; omega
        case measure => simp [intOf]; omega
      · have hjz : j = 0 := by omega
        subst hjz
        have hO := Lib.hid (show mtx (K : Int) = (⟨#[109]⟩ : ByteArray) ++ ⟨o.toArray⟩ from by
          have := HJ.out
          rw [dgs_zero] at this
          rw [hT.out, show ((K : Int)).toNat = K from by omega, this, bapp]
          rfl)
        go_wp2
        go_ret
        rw [hO.out]
        exact ⟨rfl, HB.out⟩

set_option maxHeartbeats 400000 in
set_option maxRecDepth 100000 in
theorem eqIntS_same (A B : Option Addr) (xs : List Int) (n c d : Nat) (w : World) (hn : xs.length = n) (hm : n ≤ 2097152) (ha : IS w A xs) (hb : IS w B xs) :
    Calls Try.prog 12 #[.slice A n c, .slice B n d] w fun e w' => e = .returned (.bool true) ∧ Below w.heap.size w w' := by
  have HN := Lib.hid hn
  clear hn
  go_enter Try.func12, Try.ntmps12
  go_wp2
  go_loopw [5] (fun i wr => ∃ k : Nat, k ≤ n ∧ i = .int .i64 k ∧ Below w.heap.size w wr) (fun i _ => n - (intOf i).toNat)
  case atStart => exact ⟨0, Nat.zero_le _, rfl, Below.refl _ _⟩
  case round =>
    obtain ⟨k, hk, rfl, hbw⟩ := hrel
    by_cases hkl : k < n
    · obtain ⟨x, a, hx, rfl, hal, _⟩ := ha.at (k := k) (by have := HN.out; omega)
      obtain ⟨b, rfl, hbl, _⟩ := hb k x hx
      obtain ⟨hal', c0⟩ := (ha.below hbw).get hx
      obtain ⟨hbl', d0⟩ := (hb.below hbw).get hx
      have HX := Lib.hid hx
      have HB := Lib.hid hbw
      clear hx hbw
      go_wp2
      go_quiet (fail)
      go_wp2
      go_roundw
      case rel => exact ⟨k + 1, by omega, by go_num, below_drewN HB.out _⟩
      case measure => simp [intOf]; omega
    · go_wp2
      go_ret
      exact ⟨rfl, hbw⟩

/-- x, x + 1, .., in the first k places of n; the old numbers behind them. -/
def upTo (xs : List Int) (x : Int) (k : Nat) : List Int := (List.range xs.length).map fun i => if i < k then x + i else xs.getD i 0
theorem upTo_length (xs : List Int) (x : Int) (k : Nat) : (upTo xs x k).length = xs.length := by simp [upTo]
theorem upTo_zero (xs : List Int) (x : Int) : upTo xs x 0 = xs := by
  apply List.ext_getElem?
  intro i
  by_cases hi : i < xs.length
  · simp [upTo, List.getElem?_range hi, List.getElem?_eq_getElem hi]
  · rw [List.getElem?_eq_none (by rw [upTo_length]; omega), List.getElem?_eq_none (by omega)]
theorem upTo_set (xs : List Int) (x : Int) {k : Nat} (hk : k < xs.length) {y : Int} (hy : x + (k : Int) = y) : (upTo xs x k).set k y = upTo xs x (k + 1) := by
  apply List.ext_getElem?
  intro i
  by_cases hi : i < xs.length
  · rw [List.getElem?_set]
    by_cases e : k = i
    · subst e
      rw [if_pos rfl, if_pos (by rw [upTo_length]; omega)]
      simp only [upTo, List.getElem?_map, List.getElem?_range hi, Option.map_some]
      rw [if_pos (by omega), hy]
    · rw [if_neg e]
      simp only [upTo, List.getElem?_map, List.getElem?_range hi, Option.map_some]
      by_cases h0 : i < k
      · rw [if_pos h0, if_pos (by omega)]
      · rw [if_neg h0, if_neg (by omega)]
  · rw [List.getElem?_eq_none (by rw [List.length_set, upTo_length]; omega), List.getElem?_eq_none (by rw [upTo_length]; omega)]
theorem upTo_at (xs : List Int) (x : Int) {k i : Nat} (hi : i < xs.length) (hk : i < k) : (upTo xs x k)[i]? = some (x + i) := by
  simp only [upTo, List.getElem?_map, List.getElem?_range hi, Option.map_some]
  rw [if_pos hk]

/-- a block's numbers with what lies behind them. -/
theorem nums_set_app (xs : List Int) (rest : List Value) {i : Nat} (hi : i < xs.length) (x : Int) : (nums xs ++ rest).set i (.int .i64 x) = nums (xs.set i x) ++ rest := by
  rw [List.set_append_left _ _ (by simpa [nums] using hi)]; simp [nums]
theorem grown_self_set {a w : World} {g : Nat} (h : a.grownBy w (some g)) (i : Nat) (u : Value) : a.grownBy (w.setCell ⟨g, i, none⟩ u) (some g) :=
  ⟨h.os, h.tape, h.output, by simpa [World.setCell] using h.size, fun j hj hne => (Below.heap_setCell w ⟨g, i, none⟩ u j (by rintro rfl; exact hne rfl)).trans (h.block j hj hne)⟩

set_option maxHeartbeats 400000 in
set_option maxRecDepth 100000 in
theorem markIntS_blk (g : Nat) (xs : List Int) (rest : List Value) (n c : Nat) (x : Int) (w : World) (hn : xs.length = n) (hm : n ≤ 2097152) (hx0 : 0 ≤ x) (hx1 : x ≤ 1000000000) (hb : BlkL w g 3 (nums xs ++ rest)) :
    Calls Try.prog 15 #[.slice (some ⟨g, 0, none⟩) n c, .int .i64 x] w fun e w' => e = .returned (.int .i64 (x + n)) ∧ BlkL w' g 3 (nums (upTo xs x n) ++ rest) ∧ w.grownBy w' (some g) := by
  have HN := Lib.hid hn
  clear hn
  go_enter Try.func15, Try.ntmps15
  go_wp2
  go_loopw [1, 5] (fun y i wr => ∃ k : Nat, k ≤ n ∧ i = .int .i64 k ∧ y = .int .i64 (x + k) ∧ BlkL wr g 3 (nums (upTo xs x k) ++ rest) ∧ w.grownBy wr (some g)) (fun _ i _ => n - (intOf i).toNat)
  case atStart => exact ⟨0, Nat.zero_le _, rfl, by simp, by rw [upTo_zero]; exact hb, World.grownBy.refl _ _⟩
  case round =>
    obtain ⟨k, hk, rfl, rfl, hbk, hgr⟩ := hrel
    by_cases hkl : k < n
    · have hlen : (upTo xs x k).length = n := (upTo_length xs x k).trans HN.out
      obtain ⟨v0, c0⟩ : ∃ v, wr.cell? ⟨g, k, none⟩ = some v := ⟨_, (hbk.cell k).trans (List.getElem?_eq_getElem (by simp [nums, hlen]; omega))⟩
      have f0 := hbk.frozen k
      have HK := Lib.hid hbk
      have HG := Lib.hid hgr
      have HL := Lib.hid hlen
      clear hbk hgr hlen
      go_wp2
      go_roundw
      case rel =>
        have h1 := HK.out.set k (.int .i64 (x + k))
        rw [nums_set_app _ _ (by rw [HL.out]; exact hkl), upTo_set xs x (by rw [HN.out]; exact hkl) rfl] at h1
        exact ⟨k + 1, by omega, by go_num, by go_num, h1, grown_self_set HG.out _ _⟩
      case measure => simp [intOf]; omega
    · have HK := Lib.hid hbk
      have HG := Lib.hid hgr
      clear hbk hgr
      have hkn : k = n := by omega
      have HKN := Lib.hid hkn
      clear hkn
      go_wp2
      go_ret
      have e := HKN.out
      subst e
      exact ⟨rfl, HK.out, HG.out⟩

set_option maxHeartbeats 400000 in
set_option maxRecDepth 100000 in
theorem heldIntS_any (A : Option Addr) (xs : List Int) (n c : Nat) (x : Int) (w : World) (hn : xs.length = n) (hm : n ≤ 2097152) (hx0 : 0 ≤ x) (hx1 : x ≤ 1000000000) (ha : IS w A xs) (hv : ∀ i, i < n → xs[i]? = some (x + (i : Int))) :
    Calls Try.prog 16 #[.slice A n c, .int .i64 x] w fun e w' => e = .returned (.int .i64 (x + n)) ∧ w = w' := by
  have HN := Lib.hid hn
  have HV := Lib.hid hv
  clear hn hv
  go_enter Try.func16, Try.ntmps16
  go_wp2
  go_loop [1, 5] (fun y i => ∃ k : Nat, k ≤ n ∧ i = .int .i64 k ∧ y = .int .i64 (x + k)) (fun _ i => n - (intOf i).toNat)
  case atStart => exact ⟨0, Nat.zero_le _, rfl, by simp⟩
  case round =>
    obtain ⟨k, hk, rfl, rfl⟩ := hrel
    by_cases hkl : k < n
    · obtain ⟨y, a, hy, rfl, hal, c0⟩ := ha.at (k := k) (by have := HN.out; omega)
      have e : y = x + (k : Int) := by have := HV.out k hkl; rw [this] at hy; exact (Option.some.inj hy).symm
      subst e
      clear hy
      go_wp2
      go_round
      case rel => exact ⟨k + 1, by omega, by go_num, by go_num⟩
      case measure => simp [intOf]; omega
    · have hkn : k = n := by omega
      have HKN := Lib.hid hkn
      clear hkn
      go_wp2
      go_ret
      have e := HKN.out
      subst e
      exact ⟨rfl, rfl⟩

theorem grown_below {a w w' : World} {row : Option Nat} (h : a.grownBy w row) (hb : Below w.heap.size w w') : a.grownBy w' row :=
  ⟨hb.os.trans h.os, hb.tape.trans h.tape, hb.output.trans h.output, Nat.le_trans h.size hb.size, fun i hi hne => (hb.block i (Nat.lt_of_lt_of_le hi h.size)).trans (h.block i hi hne)⟩

def mkT (x : Int) (i : Nat) : Tk := ⟨x + 4 * i, mtx (x + 4 * i + 1), x + 4 * i + 1 + 1, x + 4 * i + 1 + 1 + 1⟩
def mkTo (l : List Tk) (x : Int) (k : Nat) : List Tk := (List.range l.length).map fun i => if i < k then mkT x i else l.getD i zeroTk
theorem mkTo_length (l : List Tk) (x : Int) (k : Nat) : (mkTo l x k).length = l.length := by simp [mkTo]
theorem mkTo_zero (l : List Tk) (x : Int) : mkTo l x 0 = l := by
  apply List.ext_getElem?
  intro i
  by_cases hi : i < l.length
  · simp [mkTo, List.getElem?_range hi, List.getElem?_eq_getElem hi]
  · rw [List.getElem?_eq_none (by rw [mkTo_length]; omega), List.getElem?_eq_none (by omega)]
theorem mkTo_set (l : List Tk) (x : Int) {k : Nat} (hk : k < l.length) : (mkTo l x k).set k (mkT x k) = mkTo l x (k + 1) := by
  apply List.ext_getElem?
  intro i
  by_cases hi : i < l.length
  · rw [List.getElem?_set]
    by_cases e : k = i
    · subst e
      rw [if_pos rfl, if_pos (by rw [mkTo_length]; omega)]
      simp only [mkTo, List.getElem?_map, List.getElem?_range hi, Option.map_some]
      rw [if_pos (by omega)]
    · rw [if_neg e]
      simp only [mkTo, List.getElem?_map, List.getElem?_range hi, Option.map_some]
      by_cases h0 : i < k
      · rw [if_pos h0, if_pos (by omega)]
      · rw [if_neg h0, if_neg (by omega)]
  · rw [List.getElem?_eq_none (by rw [List.length_set, mkTo_length]; omega), List.getElem?_eq_none (by rw [mkTo_length]; omega)]
theorem mkTo_at (l : List Tk) (x : Int) {k i : Nat} (hi : i < l.length) (hk : i < k) : (mkTo l x k)[i]? = some (mkT x i) := by
  simp only [mkTo, List.getElem?_map, List.getElem?_range hi, Option.map_some]
  rw [if_pos hk]

set_option maxHeartbeats 400000 in
set_option maxRecDepth 100000 in
theorem markTokenS_blk (g : Nat) (l : List Tk) (n c : Nat) (x : Int) (w : World) (hn : l.length = n) (hm : n ≤ 2097152) (hx0 : 0 ≤ x) (hx1 : x ≤ 900000000) (hb : BlkL w g 51 (flat l)) :
    Calls Try.prog 14 #[.slice (some ⟨g, 0, none⟩) n c, .int .i64 x] w fun e w' => e = .returned (.int .i64 (x + 4 * n)) ∧ BlkL w' g 51 (flat (mkTo l x n)) ∧ w.grownBy w' (some g) := by
  have HN := Lib.hid hn
  clear hn
  go_enter Try.func14, Try.ntmps14
  go_wp2
  go_loopw [1, 5] (fun y i wr => ∃ k : Nat, k ≤ n ∧ i = .int .i64 k ∧ y = .int .i64 (x + 4 * k) ∧ BlkL wr g 51 (flat (mkTo l x k)) ∧ w.grownBy wr (some g)) (fun _ i _ => n - (intOf i).toNat)
  case atStart => exact ⟨0, Nat.zero_le _, rfl, by simp, by rw [mkTo_zero]; exact hb, World.grownBy.refl _ _⟩
  case round =>
    obtain ⟨k, hk, rfl, rfl, hbk, hgr⟩ := hrel
    by_cases hkl : k < n
    · obtain ⟨v0, v1, v2, v3, q0, q1, q2, q3, z0, z1, z2, z3⟩ := hbk.four (k := k) (by rw [mkTo_length, HN.out]; exact hkl)
      have HK := Lib.hid hbk
      have HG := Lib.hid hgr
      clear hbk hgr
      go_wp2_with fail
      refine (markText_any _ _ (by omega)).mono ?_
      rintro e w2 ⟨rfl, hb2⟩
      have hK1 := HK.out.set (k * 4) (.int .i64 (x + 4 * k))
      have hK2 := hK1.below hb2 hK1.lt
      have hG2 := grown_below (grown_self_set HG.out (k * 4) (.int .i64 (x + 4 * k))) hb2
      have hlen : k * 4 + 3 < ((flat (mkTo l x k)).set (k * 4) (.int .i64 (x + 4 * k))).length := by rw [List.length_set, flat_length, mkTo_length, HN.out]; omega
      obtain ⟨y1, r1⟩ := hK2.some_ (i := k * 4 + 1) (by omega)
      obtain ⟨y2, r2⟩ := hK2.some_ (i := k * 4 + 2) (by omega)
      obtain ⟨y3, r3⟩ := hK2.some_ (i := k * 4 + 3) (by omega)
      have s1 := hK2.frozen (k * 4 + 1)
      have s2 := hK2.frozen (k * 4 + 2)
      have s3 := hK2.frozen (k * 4 + 3)
      have HK2 := Lib.hid hK2
      have HG2 := Lib.hid hG2
      clear hK1 hK2 hG2 hb2 hlen q0 q1 q2 q3 z0 z1 z2 z3
      go_wp2
      go_roundw
      case rel =>
        have h1 := ((HK2.out.set (k * 4 + 1) (.string (mtx (x + 4 * k + 1)))).set (k * 4 + 2) (.int .i64 (x + 4 * k + 1 + 1))).set (k * 4 + 3) (.int .i64 (x + 4 * k + 1 + 1 + 1))
        have h2 := flat_set (l := mkTo l x k) (mkT x k) (i := k) (by rw [mkTo_length, HN.out]; exact hkl)
        simp only [mkT] at h2
        rw [h2] at h1
        have h3 := mkTo_set l x (k := k) (by rw [HN.out]; exact hkl)
        simp only [mkT] at h3
        rw [h3] at h1
        exact ⟨k + 1, by omega, by go_num, by go_num, h1, grown_self_set (grown_self_set (grown_self_set HG2.out _ _) _ _) _ _⟩
      case measure => simp [intOf]; omega
    · have HK := Lib.hid hbk
      have HG := Lib.hid hgr
      clear hbk hgr
      have hkn : k = n := by omega
      have HKN := Lib.hid hkn
      clear hkn
      go_wp2
      go_ret
      have e := HKN.out
      subst e
      exact ⟨rfl, HK.out, HG.out⟩

end Go.Proofs.Ytegjgbgnpkncbab
