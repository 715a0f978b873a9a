/-
  An argument that is a slice of tokens, read as a list of tokens; the step from a walk to the row.
-/
import Derived.Test.YtlcplgfjicifeaaGreatDoorQt04
import Derived.Test.YtlcplgfjicifeaaGreatDoorQt01
import Derived.Deep.QuietTactic
import Derived.BigQuiet
import Derived.Laws.MakeOwn
import Derived.Deep.RegionHeld3
import Derived.Laws.IdiomStrings
import Derived.IntWalk
import Derived.Test.YtlcplgfjicifeaaGreatDoorRows
import Derived.ProofKit
import Derived.OpenShut
import Derived.ShutString
import Derived.ChangeOld
import Derived.Below
import Derived.Lib.SmallJoins
import Derived.Deep.Slices
namespace Go.Proofs.YtlcplgfjicifeaaGreatDoor
open Go.RowKit

/-- The token and true, or the zero value and false. -/
def madeV (k : Int) (s : ByteArray) (d o : Int) : Value := if tokB k s d o = true then .agg #[.int .i64 k, .string s, .int .i64 d, .int .i64 o] else .agg #[.int .i64 0, .string ByteArray.empty, .int .i64 0, .int .i64 0]
theorem madeV_yes {k : Int} {s : ByteArray} {d o : Int} (h : tokB k s d o = true) : madeV k s d o = .agg #[.int .i64 k, .string s, .int .i64 d, .int .i64 o] := if_pos h
theorem madeV_no {k : Int} {s : ByteArray} {d o : Int} (h : tokB k s d o = false) : madeV k s d o = .agg #[.int .i64 0, .string ByteArray.empty, .int .i64 0, .int .i64 0] := if_neg (by simp [h])

set_option maxHeartbeats 400000 in
theorem eqToken_same (k : Int) (s : ByteArray) (d o : Int) (w : World) :
    Calls Tryz.prog 72 #[.agg #[.int .i64 k, .string s, .int .i64 d, .int .i64 o], .agg #[.int .i64 k, .string s, .int .i64 d, .int .i64 o]] w fun e w' => e = .returned (.bool true) ∧ Below w.heap.size w w' := by
  go_enter Tryz.func72, Tryz.ntmps72
  go_wp2
  go_ret
  exact ⟨rfl, ((Below.refl _ _).alloc (Nat.le_refl _) _).alloc (by simp) _⟩

theorem below4 {B b : Nat} {a w : World} {v0 v1 v2 v3 : Value} (h : Below B a w) (hb : B ≤ b) :
    Below B a ((((w.setCell ⟨b, 0, none⟩ v0).setCell ⟨b, 1, none⟩ v1).setCell ⟨b, 2, none⟩ v2).setCell ⟨b, 3, none⟩ v3) :=
  (((h.setCell hb _).setCell hb _).setCell hb _).setCell hb _

theorem bcell {W w1 : World} (hb : Below W.heap.size W w1) : (∀ b o, b < W.heap.size → w1.cell? ⟨b, o, none⟩ = W.cell? ⟨b, o, none⟩) ∧ (∀ b o, b < W.heap.size → w1.frozen? ⟨b, o, none⟩ = W.frozen? ⟨b, o, none⟩) :=
  ⟨fun b o h => hb.cell (p := ⟨b, o, none⟩) h, fun b o h => hb.frozen (p := ⟨b, o, none⟩) h⟩

end Go.Proofs.YtlcplgfjicifeaaGreatDoor
namespace Go.Proofs.YtlcplgfjicifeaaGreatDoor
open Go.RowKit

def szB (left : Int) (l : List Tk) : Int := if left < (bulk l : Int) then -1 else left - bulk l

set_option maxHeartbeats 400000 in
theorem szTokenS_any (A : Option Addr) (l : List Tk) (n c : Nat) (left : Int) (w : World) (hn : l.length = n) (hm : n ≤ maxLen) (h0 : 0 ≤ left) (h1 : left ≤ 1048576) (hts : TS w A l) (hf : Fits l) :
    Calls Tryz.prog 56 #[.slice A n c, .int .i64 left] w fun e w' => e = .returned (.int .i64 (szB left l)) ∧ Below w.heap.size w w' := by
  unfold maxLen at hm
  have HN := Lib.hid hn
  clear hn
  by_cases hlt : left < n
  · have hI := Lib.hid (show szB left l = -1 from if_pos (by have := HN.out; unfold bulk; omega))
    go_enter Tryz.func56, Tryz.ntmps56
    go_wp2
    go_ret
    rw [hI.out]
    exact ⟨rfl, Below.refl _ _⟩
  · have hd : decide (left - (n : Int) < 0) = false := by simp; omega
    go_enter Tryz.func56, Tryz.ntmps56
    go_wp2
    go_loopw [1, 5] (fun v i wr => ∃ (k : Nat) (r : Int), k ≤ n ∧ i = .int .i64 k ∧ v = .int .i64 r ∧ 0 ≤ r ∧ r = left - n - bulkN l k ∧ Below w.heap.size w wr) (fun _ i _ => n - (intOf i).toNat)
    case atStart => exact ⟨0, _, Nat.zero_le _, rfl, rfl, by omega, by rw [bulkN_zero]; omega, Below.refl _ _⟩
    case round =>
      obtain ⟨k, r, hk, rfl, rfl, hr0, hr, hb⟩ := hrel
      have hr1 : r ≤ 1048576 := by omega
      have HR := Lib.hid hr
      clear hr
      by_cases hkl : k < n
      · obtain ⟨t, b, o, ht, rfl, hbl, hc⟩ := hts.at (k := k) (by have := HN.out; omega)
        have hs := hf k t ht
        obtain ⟨hbl', c0, c1, c2, c3⟩ := (hts.below hb).get ht
        have HT := Lib.hid ht
        clear ht hc
        have HB := Lib.hid hb
        clear hb
        go_wp2_with fail
        refine (szToken_any _ _ _ _ _ _ hs hr0 hr1).mono ?_
        rintro e w2 ⟨rfl, hb2⟩
        have HB2 := Lib.hid hb2
        clear hb2
        by_cases h : r < (t.s.size : Int)
        · have hI := Lib.hid (show szB left l = -1 from if_pos (by
            have e1 := HN.out; have e2 := HR.out; have e3 := bulkN_succ HT.out; have e4 := bulkN_mono l (show k + 1 ≤ l.length by omega)
            unfold bulk; omega))
          rw [show szV r t.s.size = -1 from if_pos h]
          go_wp2
          go_ret
          rw [hI.out]
          exact ⟨rfl, HB.out.trans (HB2.out.mono HB.out.size)⟩
        · rw [show szV r t.s.size = r - t.s.size from if_neg h]
          go_wp2
          go_roundw
          case rel => exact ⟨k + 1, _, by omega, by go_num, rfl, by omega, by rw [bulkN_succ HT.out, HR.out]; omega, HB.out.trans (HB2.out.mono HB.out.size)⟩
          case measure => simp [intOf]; omega
      · have hI := Lib.hid (show szB left l = r from by
          have e1 := HN.out; have e2 := HR.out
          obtain rfl : k = l.length := by omega
          unfold szB bulk
          rw [if_neg (by omega), e2]; omega)
        go_wp2
        go_ret
        rw [hI.out]
        exact ⟨rfl, hb⟩

def zeroTk : Tk := ⟨0, ByteArray.empty, 0, 0⟩
theorem flat_rep (n : Nat) : flat (List.replicate n zeroTk) = (madeCells #[.int .i64 0, .string ByteArray.empty, .int .i64 0, .int .i64 0] (n * 4)).toList := by
  apply List.ext_getElem?
  intro j
  by_cases hj : j < n * 4
  · have hr : (madeCells #[.int .i64 0, .string ByteArray.empty, .int .i64 0, .int .i64 0] (n * 4)).toList[j]? = some (#[Value.int .i64 0, .string ByteArray.empty, .int .i64 0, .int .i64 0][j % 4]!) := by
      rw [Array.getElem?_toList]
      simp [madeCells, hj]
    rw [hr]
    have ht : (List.replicate n zeroTk)[j / 4]? = some zeroTk := by rw [List.getElem?_replicate]; rw [if_pos (by omega)]
    have f := flat_at ht
    have e : j = j / 4 * 4 + j % 4 := by omega
    have hm : j % 4 < 4 := by omega
    generalize j / 4 = q at *
    generalize j % 4 = m at *
    subst e
    match m, hm with
    | 0, _ => exact f.1
    | 1, _ => exact f.2.1
    | 2, _ => exact f.2.2.1
    | 3, _ => exact f.2.2.2
  · rw [List.getElem?_eq_none (by rw [flat_length]; simp; omega), List.getElem?_eq_none (by simp [size_madeCells]; omega)]

theorem infoTok : (Tryz.prog.info? 48).map (fun i => (i.zero, i.size, i.bytes)) = some (some (.agg #[.int .i64 0, .string ByteArray.empty, .int .i64 0, .int .i64 0]), 4, 40) := by kernel_rfl
theorem infoInt : (Tryz.prog.info? 3).map (fun i => (i.zero, i.size, i.bytes)) = some (some (.int .i64 0), 1, 8) := by kernel_rfl

theorem mkToks (n : Nat) (hn : n ≤ 2097152) (w : World) : (Instr.makeSlice 26 (.int .i64 n) (.int .i64 n)).run Tryz.prog w =
    .ok (.slice (some ⟨w.heap.size, 0, none⟩) n n) (w.alloc (.cells (flat (List.replicate n zeroTk)).toArray 48)) := by
  obtain ⟨i, hi, hz, hs, hb⟩ := info_parts infoTok
  have h := run_make (P := Tryz.prog) w 26 48 i _ Tryz.underlying26 hi hz .i64 .i64 n n (by omega) (by omega) (by rw [hb]; omega) (by omega)
  rw [h, flat_rep, hs]
  simp [Value.cells]
theorem mkInts (n : Nat) (hn : n ≤ 2097152) (w : World) : (Instr.makeSlice 59 (.int .i64 n) (.int .i64 n)).run Tryz.prog w =
    .ok (.slice (some ⟨w.heap.size, 0, none⟩) n n) (w.alloc (.cells (nums (List.replicate n 0)).toArray 3)) := by
  obtain ⟨i, hi, hz, hs, hb⟩ := info_parts infoInt
  have h := run_make (P := Tryz.prog) w 59 3 i _ Tryz.underlying59 hi hz .i64 .i64 n n (by omega) (by omega) (by rw [hb]; omega) (by omega)
  rw [h, hs]
  have e : (madeCells (Value.int .i64 0).cells (n * 1)).toList = nums (List.replicate n 0) := by
    rw [Nat.mul_one, show (Value.int .i64 0).cells = #[.int .i64 0] from rfl, toList_madeCells_one]; simp [nums]
  rw [← e]
  simp

def ToPost (w : World) (l : List Tk) (e : Ending) (w' : World) : Prop :=
  e = .returned (.slice (some ⟨w.heap.size, 0, none⟩) l.length l.length) ∧ BlkL w' w.heap.size 48 (flat l) ∧ Below w.heap.size w w'

def fillTo (l : List Tk) (n k : Nat) : List Tk := l.take k ++ List.replicate (n - k) zeroTk
theorem fillTo_length {l : List Tk} {n k : Nat} (hl : l.length = n) (hk : k ≤ n) : (fillTo l n k).length = n := by simp [fillTo]; omega
theorem fillTo_set {l : List Tk} {n k : Nat} {t : Tk} (hl : l.length = n) (hk : k < n) (ht : l[k]? = some t) : (fillTo l n k).set k t = fillTo l n (k + 1) := by
  unfold fillTo
  have e : n - k = (n - (k + 1)) + 1 := by omega
  have hlen : (l.take k).length = k := by simp; omega
  rw [List.set_append_right _ _ (by omega), hlen, e, List.replicate_succ, Nat.sub_self, List.set_cons_zero, List.take_add_one, ht]
  simp
theorem fillTo_all {l : List Tk} {n : Nat} (hl : l.length = n) : fillTo l n n = l := by
  subst hl; simp [fillTo]

set_option maxHeartbeats 400000 in
theorem toTokenS_any (A : Option Addr) (l : List Tk) (n c : Nat) (w : World) (hn : l.length = n) (hm : n ≤ 1048576) (hts : TS w A l) :
    Calls Tryz.prog 58 #[.slice A n c] w (ToPost w l) := by
  have HN := Lib.hid hn
  clear hn
  have hmk := fun W => mkToks n (by omega) W
  go_enter Tryz.func58, Tryz.ntmps58
  go_wp2
  go_loopw [4] (fun i wr => ∃ k : Nat, k ≤ n ∧ i = .int .i64 k ∧ BlkL wr w.heap.size 48 (flat (fillTo l n k)) ∧ Below w.heap.size w wr) (fun i _ => n - (intOf i).toNat)
  case atStart => exact ⟨0, Nat.zero_le _, rfl, by simpa [fillTo] using BlkL.new w 48 (flat (List.replicate n zeroTk)), (Below.refl _ _).alloc (Nat.le_refl _) _⟩
  case round =>
    obtain ⟨k, hk, rfl, hblk, hb⟩ := hrel
    clear hmk
    by_cases hkl : k < n
    · obtain ⟨t, b, o, ht, rfl, hbl, hc⟩ := hts.at (k := k) (by have := HN.out; omega)
      obtain ⟨hbl', c0, c1, c2, c3⟩ := (hts.below hb).get ht
      have HT := Lib.hid ht
      clear ht hc
      have HB := Lib.hid hb
      have hz := hb.size
      clear hb
      have HK := Lib.hid hblk
      clear hblk
      go_wp2_with fail
      refine (toToken_any _ _ _ _ _).mono ?_
      rintro e w2 ⟨rfl, hb2⟩
      have hblk2 := HK.out.below hb2 HK.out.lt
      obtain ⟨v0, v1, v2, v3, q0, q1, q2, q3, z0, z1, z2, z3⟩ := hblk2.four (k := k) (by rw [fillTo_length HN.out hk]; exact hkl)
      have HB2 := Lib.hid hb2
      clear hb2
      have HK2 := Lib.hid hblk2
      clear hblk2
      go_wp2
      go_roundw
      case rel =>
        have hp := HK2.out.put (k := k) (by rw [fillTo_length HN.out hk]; exact hkl) t
        rw [fillTo_set HN.out hkl HT.out] at hp
        exact ⟨k + 1, by omega, by go_num, hp, below_put (HB.out.trans (HB2.out.mono hz)) (Nat.le_refl _) _ _ _ _ _⟩
      case measure => simp [intOf]; omega
    · go_wp2
      go_ret
      have e := HN.out
      obtain rfl : k = n := by omega
      rw [fillTo_all e] at hblk
      subst e
      exact ⟨rfl, hblk, hb⟩

def Eight (w0 : World) (a p b q : Nat) (t : Tk) (w : World) : Prop :=
  w.cell? ⟨a, p, none⟩ = some (.int .i64 t.k) ∧ w.cell? ⟨a, p + 1, none⟩ = some (.string t.s) ∧ w.cell? ⟨a, p + 2, none⟩ = some (.int .i64 t.d) ∧ w.cell? ⟨a, p + 3, none⟩ = some (.int .i64 t.o) ∧
  w.cell? ⟨b, q, none⟩ = some (.int .i64 t.k) ∧ w.cell? ⟨b, q + 1, none⟩ = some (.string t.s) ∧ w.cell? ⟨b, q + 2, none⟩ = some (.int .i64 t.d) ∧ w.cell? ⟨b, q + 3, none⟩ = some (.int .i64 t.o) ∧
  Below w0.heap.size w0 w
theorem Eight.go {w0 w w' : World} {a p b q : Nat} {t : Tk} (ha : a < w.heap.size) (hb : b < w.heap.size) (h : Eight w0 a p b q t w) (hw : Below w.heap.size w w') : Eight w0 a p b q t w' := by
  obtain ⟨h0, h1, h2, h3, h4, h5, h6, h7, h8⟩ := h
  exact ⟨(hw.cell (p := ⟨a, _, none⟩) ha).trans h0, (hw.cell (p := ⟨a, _, none⟩) ha).trans h1, (hw.cell (p := ⟨a, _, none⟩) ha).trans h2, (hw.cell (p := ⟨a, _, none⟩) ha).trans h3, (hw.cell (p := ⟨b, _, none⟩) hb).trans h4, (hw.cell (p := ⟨b, _, none⟩) hb).trans h5, (hw.cell (p := ⟨b, _, none⟩) hb).trans h6, (hw.cell (p := ⟨b, _, none⟩) hb).trans h7, h8.trans (hw.mono h8.size)⟩

set_option maxHeartbeats 400000 in
set_option maxRecDepth 100000 in
theorem eqTokenS_same (A B : Option Addr) (l : List Tk) (n c d : Nat) (w : World) (hn : l.length = n) (hm : n ≤ 1048576) (ha : TS w A l) (hb : TS w B l) :
    Calls Tryz.prog 18 #[.slice A n c, .slice B n d] w fun e w' => e = .returned (.bool true) ∧ Below w.heap.size w w' := by
  have HN := Lib.hid hn
  clear hn
  go_enter Tryz.func18, Tryz.ntmps18
  go_wp2
  go_loopw [5] (fun i wr => ∃ k : Nat, k ≤ n ∧ i = .int .i64 k ∧ Below w.heap.size w wr) (fun i _ => n - (intOf i).toNat)
  case atStart => exact ⟨0, Nat.zero_le _, rfl, Below.refl _ _⟩
  case round =>
    obtain ⟨k, hk, rfl, hbw⟩ := hrel
    by_cases hkl : k < n
    · obtain ⟨t, a, p, ht, rfl, hal, _⟩ := ha.at (k := k) (by have := HN.out; omega)
      obtain ⟨b, q, rfl, hbl, _⟩ := hb k t ht
      obtain ⟨hal', c0, c1, c2, c3⟩ := (ha.below hbw).get ht
      obtain ⟨hbl', d0, d1, d2, d3⟩ := (hb.below hbw).get ht
      have HT := Lib.hid ht
      clear ht
      have HB := Lib.hid hbw
      clear hbw
      go_wp2
      go_region_held3 (fun w' => w'.cell? ⟨a, p + k * 4, none⟩ = some (.int .i64 t.k) ∧ w'.cell? ⟨a, p + k * 4 + 1, none⟩ = some (.string t.s) ∧ w'.cell? ⟨a, p + k * 4 + 2, none⟩ = some (.int .i64 t.d) ∧ w'.cell? ⟨a, p + k * 4 + 3, none⟩ = some (.int .i64 t.o) ∧ w'.cell? ⟨b, q + k * 4, none⟩ = some (.int .i64 t.k) ∧ w'.cell? ⟨b, q + k * 4 + 1, none⟩ = some (.string t.s) ∧ w'.cell? ⟨b, q + k * 4 + 2, none⟩ = some (.int .i64 t.d) ∧ w'.cell? ⟨b, q + k * 4 + 3, none⟩ = some (.int .i64 t.o) ∧ Below w.heap.size w w')
        (first | exact ⟨c0, c1, c2, c3, d0, d1, d2, d3, HB.out.drew⟩ | exact Eight.go (w := wr.drew) hal' hbl' ‹_› ‹_›)
        (first | ((with_reducible refine (eqToken_same _ _ _ _ _).mono ?_); rintro e w2 ⟨rfl, hb2⟩))
      go_wp2
      go_roundw
      case rel => exact ⟨k + 1, by omega, by go_num, HB.out.drew.trans (hb2.mono HB.out.size)⟩
      case measure => simp [intOf]; omega
    · go_wp2
      go_ret
      exact ⟨rfl, hbw⟩
end Go.Proofs.YtlcplgfjicifeaaGreatDoor
namespace Go.Proofs.YtlcplgfjicifeaaGreatDoor
open Go.RowKit
set_option linter.unusedVariables false

theorem below_drewN {B : Nat} {a w : World} (h : Below B a w) (n : Nat) : Below B a (w.drewN n) := ⟨h.os, h.tape, h.output, h.size, h.block⟩

/-- the last digit of j, as a letter. -/
def dgc (j : Nat) : UInt8 := UInt8.ofNat (48 + j % 10)
theorem dgc_nat (j : Nat) : ((dgc j).toNat : Int) = 48 + (j : Int) % 10 := by
  have : (dgc j).toNat = 48 + j % 10 := by unfold dgc; simp; omega
  omega
def dgs (n : Nat) : List UInt8 := if h : n = 0 then [] else dgs (n / 10) ++ [dgc n]
termination_by n
theorem dgs_zero : dgs 0 = [] := by rw [dgs]; simp
theorem dgs_pos {n : Nat} (h : 0 < n) : dgs n = dgs (n / 10) ++ [dgc n] := by rw [dgs, dif_neg (by omega)]
def mtx (k : Int) : ByteArray := if k ≤ 0 then ⟨#[109, 48]⟩ else ⟨(109 :: dgs k.toNat).toArray⟩

theorem bapp (x : UInt8) (o : List UInt8) : (⟨#[x]⟩ : ByteArray) ++ ⟨o.toArray⟩ = ⟨(x :: o).toArray⟩ := by
  apply ByteArray.ext
  simp

theorem conv1 (x : UInt8) (X : Int) (hx : (x.toNat : Int) = X) (w : World) :
    (convert 38 9 (.slice (some ⟨w.heap.size, 0, none⟩) 1 1)).run Tryz.prog (w.alloc (.cells #[.int .u8 X] 5)) = .ok (.string ⟨#[x]⟩) (w.alloc (.cells #[.int .u8 X] 5)) := by
  have h := run_convert_bytes_back (P := Tryz.prog) (w.alloc (.cells #[.int .u8 X] 5)) 38 9 5 ⟨w.heap.size, 0, none⟩ 1 [x] Tryz.underlying38 Tryz.underlying5 Tryz.underlying9 (by
    intro i hi
    have hi0 : i = 0 := by simpa using hi
    subst hi0
    subst hx
    simp [Addr.add])
  exact h

set_option maxHeartbeats 400000 in
set_option maxRecDepth 100000 in
theorem markText_any (k : Int) (w : World) (hk : k ≤ 1000000000) :
    Calls Tryz.prog 74 #[.int .i64 k] w fun e w' => e = .returned (.string (mtx k)) ∧ Below w.heap.size w w' := by
  by_cases h0 : k ≤ 0
  · have hT := Lib.hid (show mtx k = ⟨#[109, 48]⟩ from if_pos h0)
    go_enter Tryz.func74, Tryz.ntmps74
    go_wp2
    go_ret
    rw [hT.out]
    exact ⟨rfl, Below.refl _ _⟩
  · have hT := Lib.hid (show mtx k = ⟨(109 :: dgs k.toNat).toArray⟩ from if_neg h0)
    obtain ⟨K, rfl⟩ := Int.eq_ofNat_of_zero_le (show 0 ≤ k by omega)
    have hK : 0 < K := by omega
    have hd : decide ((K : Int) ≤ 0) = false := by simp; omega
    clear h0
    go_enter Tryz.func74, Tryz.ntmps74
    go_wp2
    go_loopw [0, 3] (fun kk out wr => ∃ (j : Nat) (o : List UInt8), kk = .int .i64 j ∧ out = .string ⟨o.toArray⟩ ∧ dgs K = dgs j ++ o ∧ j + o.length ≤ K ∧ Below w.heap.size w wr) (fun kk _ _ => (intOf kk).toNat)
    case atStart => exact ⟨K, [], rfl, rfl, by simp, by simp, Below.refl _ _⟩
    case round =>
      obtain ⟨j, o, rfl, rfl, hj, hjo, hb⟩ := hrel
      have HJ := Lib.hid hj
      have HB := Lib.hid hb
      clear hj hb
      by_cases hj0 : 0 < j
      · have hcv := conv1 (dgc j) _ (dgc_nat j) wr
        go_wp2
        go_roundw
        case rel =>
          refine ⟨j / 10, dgc j :: o, by go_num, ?_, ?_, ?_, HB.out.alloc HB.out.size _⟩
          · exact congrArg Value.string (bapp _ _)
          · rw [HJ.out, dgs_pos hj0]; simp
          · simp; omega
        case measure => simp [intOf]; omega
      · have hjz : j = 0 := by omega
        subst hjz
        have hO := Lib.hid (show mtx (K : Int) = (⟨#[109]⟩ : ByteArray) ++ ⟨o.toArray⟩ from by
          have := HJ.out
          rw [dgs_zero] at this
          rw [hT.out, show ((K : Int)).toNat = K from by omega, this, bapp]
          rfl)
        go_wp2
        go_ret
        rw [hO.out]
        exact ⟨rfl, HB.out⟩

/-- x, x + 1, .., in the first k places of n; the old numbers behind them. -/
def upTo (xs : List Int) (x : Int) (k : Nat) : List Int := (List.range xs.length).map fun i => if i < k then x + i else xs.getD i 0
theorem upTo_length (xs : List Int) (x : Int) (k : Nat) : (upTo xs x k).length = xs.length := by simp [upTo]
theorem upTo_zero (xs : List Int) (x : Int) : upTo xs x 0 = xs := by
  apply List.ext_getElem?
  intro i
  by_cases hi : i < xs.length
  · simp [upTo, List.getElem?_range hi, List.getElem?_eq_getElem hi]
  · rw [List.getElem?_eq_none (by rw [upTo_length]; omega), List.getElem?_eq_none (by omega)]
theorem upTo_set (xs : List Int) (x : Int) {k : Nat} (hk : k < xs.length) {y : Int} (hy : x + (k : Int) = y) : (upTo xs x k).set k y = upTo xs x (k + 1) := by
  apply List.ext_getElem?
  intro i
  by_cases hi : i < xs.length
  · rw [List.getElem?_set]
    by_cases e : k = i
    · subst e
      rw [if_pos rfl, if_pos (by rw [upTo_length]; omega)]
      simp only [upTo, List.getElem?_map, List.getElem?_range hi, Option.map_some]
      rw [if_pos (by omega), hy]
    · rw [if_neg e]
      simp only [upTo, List.getElem?_map, List.getElem?_range hi, Option.map_some]
      by_cases h0 : i < k
      · rw [if_pos h0, if_pos (by omega)]
      · rw [if_neg h0, if_neg (by omega)]
  · rw [List.getElem?_eq_none (by rw [List.length_set, upTo_length]; omega), List.getElem?_eq_none (by rw [upTo_length]; omega)]
theorem upTo_at (xs : List Int) (x : Int) {k i : Nat} (hi : i < xs.length) (hk : i < k) : (upTo xs x k)[i]? = some (x + i) := by
  simp only [upTo, List.getElem?_map, List.getElem?_range hi, Option.map_some]
  rw [if_pos hk]

/-- a block's numbers with what lies behind them. -/
theorem nums_set_app (xs : List Int) (rest : List Value) {i : Nat} (hi : i < xs.length) (x : Int) : (nums xs ++ rest).set i (.int .i64 x) = nums (xs.set i x) ++ rest := by
  rw [List.set_append_left _ _ (by simpa [nums] using hi)]; simp [nums]
theorem grown_self_set {a w : World} {g : Nat} (h : a.grownBy w (some g)) (i : Nat) (u : Value) : a.grownBy (w.setCell ⟨g, i, none⟩ u) (some g) :=
  ⟨h.os, h.tape, h.output, by simpa [World.setCell] using h.size, fun j hj hne => (Below.heap_setCell w ⟨g, i, none⟩ u j (by rintro rfl; exact hne rfl)).trans (h.block j hj hne)⟩

theorem grown_below {a w w' : World} {row : Option Nat} (h : a.grownBy w row) (hb : Below w.heap.size w w') : a.grownBy w' row :=
  ⟨hb.os.trans h.os, hb.tape.trans h.tape, hb.output.trans h.output, Nat.le_trans h.size hb.size, fun i hi hne => (hb.block i (Nat.lt_of_lt_of_le hi h.size)).trans (h.block i hi hne)⟩

def mkT (x : Int) (i : Nat) : Tk := ⟨x + 4 * i, mtx (x + 4 * i + 1), x + 4 * i + 1 + 1, x + 4 * i + 1 + 1 + 1⟩
def mkTo (l : List Tk) (x : Int) (k : Nat) : List Tk := (List.range l.length).map fun i => if i < k then mkT x i else l.getD i zeroTk
theorem mkTo_length (l : List Tk) (x : Int) (k : Nat) : (mkTo l x k).length = l.length := by simp [mkTo]
theorem mkTo_zero (l : List Tk) (x : Int) : mkTo l x 0 = l := by
  apply List.ext_getElem?
  intro i
  by_cases hi : i < l.length
  · simp [mkTo, List.getElem?_range hi, List.getElem?_eq_getElem hi]
  · rw [List.getElem?_eq_none (by rw [mkTo_length]; omega), List.getElem?_eq_none (by omega)]
theorem mkTo_set (l : List Tk) (x : Int) {k : Nat} (hk : k < l.length) : (mkTo l x k).set k (mkT x k) = mkTo l x (k + 1) := by
  apply List.ext_getElem?
  intro i
  by_cases hi : i < l.length
  · rw [List.getElem?_set]
    by_cases e : k = i
    · subst e
      rw [if_pos rfl, if_pos (by rw [mkTo_length]; omega)]
      simp only [mkTo, List.getElem?_map, List.getElem?_range hi, Option.map_some]
      rw [if_pos (by omega)]
    · rw [if_neg e]
      simp only [mkTo, List.getElem?_map, List.getElem?_range hi, Option.map_some]
      by_cases h0 : i < k
      · rw [if_pos h0, if_pos (by omega)]
      · rw [if_neg h0, if_neg (by omega)]
  · rw [List.getElem?_eq_none (by rw [List.length_set, mkTo_length]; omega), List.getElem?_eq_none (by rw [mkTo_length]; omega)]
theorem mkTo_at (l : List Tk) (x : Int) {k i : Nat} (hi : i < l.length) (hk : i < k) : (mkTo l x k)[i]? = some (mkT x i) := by
  simp only [mkTo, List.getElem?_map, List.getElem?_range hi, Option.map_some]
  rw [if_pos hk]

set_option maxHeartbeats 400000 in
set_option maxRecDepth 100000 in
theorem markTokenS_blk (g : Nat) (l : List Tk) (n c : Nat) (x : Int) (w : World) (hn : l.length = n) (hm : n ≤ 2097152) (hx0 : 0 ≤ x) (hx1 : x ≤ 900000000) (hb : BlkL w g 48 (flat l)) :
    Calls Tryz.prog 21 #[.slice (some ⟨g, 0, none⟩) n c, .int .i64 x] w fun e w' => e = .returned (.int .i64 (x + 4 * n)) ∧ BlkL w' g 48 (flat (mkTo l x n)) ∧ w.grownBy w' (some g) := by
  have HN := Lib.hid hn
  clear hn
  go_enter Tryz.func21, Tryz.ntmps21
  go_wp2
  go_loopw [1, 5] (fun y i wr => ∃ k : Nat, k ≤ n ∧ i = .int .i64 k ∧ y = .int .i64 (x + 4 * k) ∧ BlkL wr g 48 (flat (mkTo l x k)) ∧ w.grownBy wr (some g)) (fun _ i _ => n - (intOf i).toNat)
  case atStart => exact ⟨0, Nat.zero_le _, rfl, by simp, by rw [mkTo_zero]; exact hb, World.grownBy.refl _ _⟩
  case round =>
    obtain ⟨k, hk, rfl, rfl, hbk, hgr⟩ := hrel
    by_cases hkl : k < n
    · obtain ⟨v0, v1, v2, v3, q0, q1, q2, q3, z0, z1, z2, z3⟩ := hbk.four (k := k) (by rw [mkTo_length, HN.out]; exact hkl)
      have HK := Lib.hid hbk
      have HG := Lib.hid hgr
      clear hbk hgr
      go_wp2_with fail
      refine (markText_any _ _ (by omega)).mono ?_
      rintro e w2 ⟨rfl, hb2⟩
      have hK1 := HK.out.set (k * 4) (.int .i64 (x + 4 * k))
      have hK2 := hK1.below hb2 hK1.lt
      have hG2 := grown_below (grown_self_set HG.out (k * 4) (.int .i64 (x + 4 * k))) hb2
      have hlen : k * 4 + 3 < ((flat (mkTo l x k)).set (k * 4) (.int .i64 (x + 4 * k))).length := by rw [List.length_set, flat_length, mkTo_length, HN.out]; omega
      obtain ⟨y1, r1⟩ := hK2.some_ (i := k * 4 + 1) (by omega)
      obtain ⟨y2, r2⟩ := hK2.some_ (i := k * 4 + 2) (by omega)
      obtain ⟨y3, r3⟩ := hK2.some_ (i := k * 4 + 3) (by omega)
      have s1 := hK2.frozen (k * 4 + 1)
      have s2 := hK2.frozen (k * 4 + 2)
      have s3 := hK2.frozen (k * 4 + 3)
      have HK2 := Lib.hid hK2
      have HG2 := Lib.hid hG2
      clear hK1 hK2 hG2 hb2 hlen q0 q1 q2 q3 z0 z1 z2 z3
      go_wp2
      go_roundw
      case rel =>
        have h1 := ((HK2.out.set (k * 4 + 1) (.string (mtx (x + 4 * k + 1)))).set (k * 4 + 2) (.int .i64 (x + 4 * k + 1 + 1))).set (k * 4 + 3) (.int .i64 (x + 4 * k + 1 + 1 + 1))
        have h2 := flat_set (l := mkTo l x k) (mkT x k) (i := k) (by rw [mkTo_length, HN.out]; exact hkl)
        simp only [mkT] at h2
        rw [h2] at h1
        have h3 := mkTo_set l x (k := k) (by rw [HN.out]; exact hkl)
        simp only [mkT] at h3
        rw [h3] at h1
        exact ⟨k + 1, by omega, by go_num, by go_num, h1, grown_self_set (grown_self_set (grown_self_set HG2.out _ _) _ _) _ _⟩
      case measure => simp [intOf]; omega
    · have HK := Lib.hid hbk
      have HG := Lib.hid hgr
      clear hbk hgr
      have hkn : k = n := by omega
      have HKN := Lib.hid hkn
      clear hkn
      go_wp2
      go_ret
      have e := HKN.out
      subst e
      exact ⟨rfl, HK.out, HG.out⟩

set_option maxHeartbeats 1000000 in
set_option maxRecDepth 100000 in
theorem heldTokenS_any (A : Option Addr) (l : List Tk) (n c : Nat) (x : Int) (w : World) (hn : l.length = n) (hm : n ≤ 2097152) (hx0 : 0 ≤ x) (hx1 : x ≤ 900000000) (ha : TS w A l) (hv : ∀ i, i < n → l[i]? = some (mkT x i)) :
    Calls Tryz.prog 22 #[.slice A n c, .int .i64 x] w fun e w' => e = .returned (.int .i64 (x + 4 * n)) ∧ Below w.heap.size w w' := by
  have HN := Lib.hid hn
  have HV := Lib.hid hv
  clear hn hv
  go_enter Tryz.func22, Tryz.ntmps22
  go_wp2
  go_loopw [1, 5] (fun y i wr => ∃ k : Nat, k ≤ n ∧ i = .int .i64 k ∧ y = .int .i64 (x + 4 * k) ∧ Below w.heap.size w wr) (fun _ i _ => n - (intOf i).toNat)
  case atStart => exact ⟨0, Nat.zero_le _, rfl, by simp, Below.refl _ _⟩
  case round =>
    obtain ⟨k, hk, rfl, rfl, hb⟩ := hrel
    by_cases hkl : k < n
    · obtain ⟨t, b, o, ht, rfl, hbl, _⟩ := ha.at (k := k) (by have := HN.out; omega)
      have e : t = mkT x k := by have := HV.out k hkl; rw [this] at ht; exact (Option.some.inj ht).symm
      subst e
      obtain ⟨hbl', c0, c1, c2, c3⟩ := (ha.below hb).get ht
      simp only [mkT] at c0 c1 c2 c3
      have HB := Lib.hid hb
      clear hb ht
      have hw : IntKind.i64.wrap (x + 4 * (k : Int) + 1) = x + 4 * (k : Int) + 1 := IntWalk.i64_in _ (by omega)
      go_wp2
      go_region_held3 (fun w' => w'.cell? ⟨b, o + k * 4 + 1, none⟩ = some (.string (mtx (x + 4 * k + 1))) ∧ w'.cell? ⟨b, o + k * 4 + 2, none⟩ = some (.int .i64 (x + 4 * k + 1 + 1)) ∧ w'.cell? ⟨b, o + k * 4 + 3, none⟩ = some (.int .i64 (x + 4 * k + 1 + 1 + 1)) ∧ Below w.heap.size w w' ∧ b < w'.heap.size)
        (first | exact ⟨c1, c2, c3, HB.out.drew, hbl'⟩ | exact ⟨(hb2.cell (p := ⟨b, _, none⟩) hbl').trans c1, (hb2.cell (p := ⟨b, _, none⟩) hbl').trans c2, (hb2.cell (p := ⟨b, _, none⟩) hbl').trans c3, HB.out.drew.trans (hb2.mono HB.out.size), Nat.lt_of_lt_of_le hbl' hb2.size⟩)
        (first | ((with_reducible refine (markText_any _ _ (by omega)).mono ?_); rintro e w2 ⟨rfl, hb2⟩))
      rename_i hheld
      obtain ⟨r1, r2, r3, r4, r5⟩ := hheld
      have HB2 := Lib.hid r4
      clear r4 hb2 hw r1 c0 c1 c2 c3
      go_wp2
      go_roundw
      case rel => exact ⟨k + 1, by omega, by go_num, by go_num, HB2.out⟩
      case measure => simp [intOf]; omega
    · have HB := Lib.hid hb
      clear hb
      have hkn : k = n := by omega
      have HKN := Lib.hid hkn
      clear hkn
      go_wp2
      go_ret
      have e := HKN.out
      subst e
      exact ⟨rfl, HB.out⟩
end Go.Proofs.YtlcplgfjicifeaaGreatDoor
namespace Go.Proofs.YtlcplgfjicifeaaGreatDoor
open Go.ChangeShapes Go.WideShapes Go.ChangeAt Go.RowKit Go.Joins Go.Deep

theorem own : ownKnob Tryz.prog.godebug = none := by kernel_rfl
theorem laidOut : laidOutB Tryz.prog = true := by kernel_rfl
theorem cellsTok : Tryz.prog.cellsOf 158 = 4 := by kernel_rfl

theorem cell_addr {w : World} {a : Addr} {v : Value} (h : w.cell? a = some v) : a = ⟨a.block, a.off, none⟩ ∧ a.block < w.heap.size := by
  unfold World.cell? at h
  cases hb : w.heap[a.block]? with
  | none => rw [hb] at h; simp at h
  | some o =>
    refine ⟨?_, (Array.getElem?_eq_some_iff.1 hb).1⟩
    rw [hb] at h
    obtain ⟨b, off, s⟩ := a
    cases o with
    | cells c e f =>
      cases s with
      | none => rfl
      | some _ => simp at h
    | _ => simp at h
theorem add_plain (b o n : Nat) : (⟨b, o, none⟩ : Addr).add n = ⟨b, o + n, none⟩ := by
  unfold Addr.add
  by_cases h : n = 0 <;> simp [h]

theorem cellsInt : Tryz.prog.cellsOf 3 = 1 := by kernel_rfl
theorem cellsStr : Tryz.prog.cellsOf 9 = 1 := by kernel_rfl

set_option maxRecDepth 100000 in
theorem open_toks {H : Type} {enc : TypeId × Value → H} {W : World} {r : Reach} {base : Nat} {v : Value} {d : DataW H} {p : List MemPlace}
    (hv : Value.okWide Tryz.prog W r base 72 v) (h : DataW.Trod enc Tryz.prog W 0 (fun _ => true) true 72 v d p) :
    ∃ (A : Option Addr) (n c : Nat) (l : List Tk), v = .slice A n c ∧ l.length = n ∧ n ≤ maxLen ∧ TS W A l ∧ Fits l := by
  obtain ⟨A, n, c, rfl⟩ := okWide_slice Tryz.underlying72 hv
  obtain ⟨fuel, hf⟩ := h
  rcases open_slice Tryz.underlying72 hf with ⟨hcs, _⟩ | ⟨a, len, cap, m, k, D, Pl, hcs, _, hl, hm, hmm, _, hi⟩
  · have e : Value.slice A n c = .slice none 0 0 := by simpa [Value.cells] using hcs
    injection e with e1 e2 e3
    subst e1 e2 e3
    exact ⟨none, 0, 0, [], rfl, rfl, Nat.zero_le _, TS.nil _ _, fun i t h => by simp at h⟩
  · have e : Value.slice A n c = .slice (some a) len cap := by simpa [Value.cells] using hcs
    injection e with e1 e2 e3
    subst e1 e2 e3
    have hmm' : m = c := by simpa using hmm
    rw [cellsTok] at hi
    have step : ∀ i, i < n → ∃ t : Tk, W.cell? ((a.add (i * 4)).add 0) = some (.int .i64 t.k) ∧ W.cell? ((a.add (i * 4)).add 1) = some (.string t.s) ∧ W.cell? ((a.add (i * 4)).add 2) = some (.int .i64 t.d) ∧ W.cell? ((a.add (i * 4)).add 3) = some (.int .i64 t.o) ∧ t.s.size ≤ maxLen := by
      intro i hin
      obtain ⟨cs', hc, ht⟩ := hi i (by omega)
      obtain ⟨_, hcl, hat⟩ := World.cells?_some hc
      obtain ⟨y0, y1, y2, y3, n', _, _, h0, h1, h2, h3⟩ := trod_struct4 Tryz.underlying158 ht
      match cs', hcl with
      | [v0, v1, v2, v3], _ =>
        obtain ⟨k0, e0, _, _⟩ := DataW.trod_int Tryz.underlying3 h0
        obtain ⟨s0, e1, _, ws⟩ := DataW.trod_string Tryz.underlying9 h1
        obtain ⟨d0, e2, _, _⟩ := DataW.trod_int Tryz.underlying3 h2
        obtain ⟨o0, e3, _, _⟩ := DataW.trod_int Tryz.underlying3 h3
        simp [cellsInt] at e0 e2 e3
        simp [cellsStr] at e1
        subst e0 e1 e2 e3
        exact ⟨⟨k0, s0, d0, o0⟩, hat 0 (by omega), hat 1 (by omega), hat 2 (by omega), hat 3 (by omega), ws⟩
    haveI : Inhabited Tk := ⟨⟨0, ByteArray.empty, 0, 0⟩⟩
    obtain ⟨F, hF⟩ := choose_lt step
    refine ⟨some a, n, c, (List.range n).map F, rfl, by simp, by omega, ?_, ?_⟩
    · intro i t hit
      have hin : i < n := by have := (List.getElem?_eq_some_iff.1 hit).1; simpa using this
      have ht : F i = t := by simpa [List.getElem?_map, List.getElem?_range hin] using hit
      subst ht
      obtain ⟨ha, hb⟩ := cell_addr (hF 0 (by omega)).1
      have ha' : a = ⟨a.block, a.off, none⟩ := by simpa [Addr.add] using ha
      have hb' : a.block < W.heap.size := by simpa [Addr.add] using hb
      obtain ⟨q0, q1, q2, q3, _⟩ := hF i hin
      rw [ha'] at q0 q1 q2 q3
      simp only [add_plain] at q0 q1 q2 q3
      exact ⟨a.block, a.off, by rw [← ha'], hb', q0, q1, q2, q3⟩
    · intro i t hit
      have hin : i < n := by have := (List.getElem?_eq_some_iff.1 hit).1; simpa using this
      have ht : F i = t := by simpa [List.getElem?_map, List.getElem?_range hin] using hit
      subst ht
      exact (hF i hin).2.2.2.2
end Go.Proofs.YtlcplgfjicifeaaGreatDoor
