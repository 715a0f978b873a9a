/-
  The laws' helpers over slices of tokens: their size, their copy, their comparison.
-/
import Derived.Test.YthjkgbcomjiejabGreatDoorFf12
import Derived.Test.YthjkgbcomjiejabGreatDoorFf10
import Derived.Deep.QuietTactic
import Derived.BigQuiet
import Derived.Laws.MakeOwn
import Derived.Deep.RegionHeld3
namespace Go.Proofs.YthjkgbcomjiejabGreatDoor
open Go.RowKit

def szB (left : Int) (l : List Tk) : Int := if left < (bulk l : Int) then -1 else left - bulk l

set_option maxHeartbeats 400000 in
theorem szTokenS_any (A : Option Addr) (l : List Tk) (n c : Nat) (left : Int) (w : World) (hn : l.length = n) (hm : n ≤ maxLen) (h0 : 0 ≤ left) (h1 : left ≤ 1048576) (hts : TS w A l) (hf : Fits l) :
    Calls Tryz.prog 6 #[.slice A n c, .int .i64 left] w fun e w' => e = .returned (.int .i64 (szB left l)) ∧ Below w.heap.size w w' := by
  unfold maxLen at hm
  have HN := Lib.hid hn
  clear hn
  by_cases hlt : left < n
  · have hI := Lib.hid (show szB left l = -1 from if_pos (by have := HN.out; unfold bulk; omega))
    go_enter Tryz.func6, Tryz.ntmps6
    go_wp2
    go_ret
    rw [hI.out]
    exact ⟨rfl, Below.refl _ _⟩
  · have hd : decide (left - (n : Int) < 0) = false := by simp; omega
    go_enter Tryz.func6, Tryz.ntmps6
    go_wp2
    go_loopw [1, 5] (fun v i wr => ∃ (k : Nat) (r : Int), k ≤ n ∧ i = .int .i64 k ∧ v = .int .i64 r ∧ 0 ≤ r ∧ r = left - n - bulkN l k ∧ Below w.heap.size w wr) (fun _ i _ => n - (intOf i).toNat)
    case atStart => exact ⟨0, _, Nat.zero_le _, rfl, rfl, by omega, by rw [bulkN_zero]; omega, Below.refl _ _⟩
    case round =>
      obtain ⟨k, r, hk, rfl, rfl, hr0, hr, hb⟩ := hrel
      have hr1 : r ≤ 1048576 := by omega
      have HR := Lib.hid hr
      clear hr
      by_cases hkl : k < n
      · obtain ⟨t, b, o, ht, rfl, hbl, hc⟩ := hts.at (k := k) (by have := HN.out; omega)
        have hs := hf k t ht
        obtain ⟨hbl', c0, c1, c2, c3⟩ := (hts.below hb).get ht
        have HT := Lib.hid ht
        clear ht hc
        have HB := Lib.hid hb
        clear hb
        go_wp2_with fail
        refine (szToken_any _ _ _ _ _ _ hs hr0 hr1).mono ?_
        rintro e w2 ⟨rfl, hb2⟩
        have HB2 := Lib.hid hb2
        clear hb2
        by_cases h : r < (t.s.size : Int)
        · have hI := Lib.hid (show szB left l = -1 from if_pos (by
            have e1 := HN.out; have e2 := HR.out; have e3 := bulkN_succ HT.out; have e4 := bulkN_mono l (show k + 1 ≤ l.length by omega)
            unfold bulk; omega))
          rw [show szV r t.s.size = -1 from if_pos h]
          go_wp2
          go_ret
          rw [hI.out]
          exact ⟨rfl, HB.out.trans (HB2.out.mono HB.out.size)⟩
        · rw [show szV r t.s.size = r - t.s.size from if_neg h]
          go_wp2
          go_roundw
          case rel => exact ⟨k + 1, _, by omega, by go_num, rfl, by omega, by rw [bulkN_succ HT.out, HR.out]; omega, HB.out.trans (HB2.out.mono HB.out.size)⟩
          case measure => simp [intOf]; omega
      · have hI := Lib.hid (show szB left l = r from by
          have e1 := HN.out; have e2 := HR.out
          obtain rfl : k = l.length := by omega
          unfold szB bulk
          rw [if_neg (by omega), e2]; omega)
        go_wp2
        go_ret
        rw [hI.out]
        exact ⟨rfl, hb⟩

def zeroTk : Tk := ⟨0, ByteArray.empty, 0, 0⟩
theorem flat_rep (n : Nat) : flat (List.replicate n zeroTk) = (madeCells #[.int .i64 0, .string ByteArray.empty, .int .i64 0, .int .i64 0] (n * 4)).toList := by
  apply List.ext_getElem?
  intro j
  by_cases hj : j < n * 4
  · have hr : (madeCells #[.int .i64 0, .string ByteArray.empty, .int .i64 0, .int .i64 0] (n * 4)).toList[j]? = some (#[Value.int .i64 0, .string ByteArray.empty, .int .i64 0, .int .i64 0][j % 4]!) := by
      rw [Array.getElem?_toList]
      simp [madeCells, hj]
    rw [hr]
    have ht : (List.replicate n zeroTk)[j / 4]? = some zeroTk := by rw [List.getElem?_replicate]; rw [if_pos (by omega)]
    have f := flat_at ht
    have e : j = j / 4 * 4 + j % 4 := by omega
    have hm : j % 4 < 4 := by omega
    generalize j / 4 = q at *
    generalize j % 4 = m at *
    subst e
    match m, hm with
    | 0, _ => exact f.1
    | 1, _ => exact f.2.1
    | 2, _ => exact f.2.2.1
    | 3, _ => exact f.2.2.2
  · rw [List.getElem?_eq_none (by rw [flat_length]; simp; omega), List.getElem?_eq_none (by simp [size_madeCells]; omega)]

theorem infoTok : (Tryz.prog.info? 44).map (fun i => (i.zero, i.size, i.bytes)) = some (some (.agg #[.int .i64 0, .string ByteArray.empty, .int .i64 0, .int .i64 0]), 4, 40) := by kernel_rfl
theorem infoInt : (Tryz.prog.info? 3).map (fun i => (i.zero, i.size, i.bytes)) = some (some (.int .i64 0), 1, 8) := by kernel_rfl

theorem mkToks (n : Nat) (hn : n ≤ 2097152) (w : World) : (Instr.makeSlice 25 (.int .i64 n) (.int .i64 n)).run Tryz.prog w =
    .ok (.slice (some ⟨w.heap.size, 0, none⟩) n n) (w.alloc (.cells (flat (List.replicate n zeroTk)).toArray 44)) := by
  obtain ⟨i, hi, hz, hs, hb⟩ := info_parts infoTok
  have h := run_make (P := Tryz.prog) w 25 44 i _ Tryz.underlying25 hi hz .i64 .i64 n n (by omega) (by omega) (by rw [hb]; omega) (by omega)
  rw [h, flat_rep, hs]
  simp [Value.cells]
theorem mkInts (n : Nat) (hn : n ≤ 2097152) (w : World) : (Instr.makeSlice 48 (.int .i64 n) (.int .i64 n)).run Tryz.prog w =
    .ok (.slice (some ⟨w.heap.size, 0, none⟩) n n) (w.alloc (.cells (nums (List.replicate n 0)).toArray 3)) := by
  obtain ⟨i, hi, hz, hs, hb⟩ := info_parts infoInt
  have h := run_make (P := Tryz.prog) w 48 3 i _ Tryz.underlying48 hi hz .i64 .i64 n n (by omega) (by omega) (by rw [hb]; omega) (by omega)
  rw [h, hs]
  have e : (madeCells (Value.int .i64 0).cells (n * 1)).toList = nums (List.replicate n 0) := by
    rw [Nat.mul_one, show (Value.int .i64 0).cells = #[.int .i64 0] from rfl, toList_madeCells_one]; simp [nums]
  rw [← e]
  simp

def ToPost (w : World) (l : List Tk) (e : Ending) (w' : World) : Prop :=
  e = .returned (.slice (some ⟨w.heap.size, 0, none⟩) l.length l.length) ∧ BlkL w' w.heap.size 44 (flat l) ∧ Below w.heap.size w w'

def fillTo (l : List Tk) (n k : Nat) : List Tk := l.take k ++ List.replicate (n - k) zeroTk
theorem fillTo_length {l : List Tk} {n k : Nat} (hl : l.length = n) (hk : k ≤ n) : (fillTo l n k).length = n := by simp [fillTo]; omega
theorem fillTo_set {l : List Tk} {n k : Nat} {t : Tk} (hl : l.length = n) (hk : k < n) (ht : l[k]? = some t) : (fillTo l n k).set k t = fillTo l n (k + 1) := by
  unfold fillTo
  have e : n - k = (n - (k + 1)) + 1 := by omega
  have hlen : (l.take k).length = k := by simp; omega
  rw [List.set_append_right _ _ (by omega), hlen, e, List.replicate_succ, Nat.sub_self, List.set_cons_zero, List.take_add_one, ht]
  simp
theorem fillTo_all {l : List Tk} {n : Nat} (hl : l.length = n) : fillTo l n n = l := by
  subst hl; simp [fillTo]

set_option maxHeartbeats 400000 in
theorem toTokenS_any (A : Option Addr) (l : List Tk) (n c : Nat) (w : World) (hn : l.length = n) (hm : n ≤ 1048576) (hts : TS w A l) :
    Calls Tryz.prog 8 #[.slice A n c] w (ToPost w l) := by
  have HN := Lib.hid hn
  clear hn
  have hmk := fun W => mkToks n (by omega) W
  go_enter Tryz.func8, Tryz.ntmps8
  go_wp2
  go_loopw [4] (fun i wr => ∃ k : Nat, k ≤ n ∧ i = .int .i64 k ∧ BlkL wr w.heap.size 44 (flat (fillTo l n k)) ∧ Below w.heap.size w wr) (fun i _ => n - (intOf i).toNat)
  case atStart => exact ⟨0, Nat.zero_le _, rfl, by simpa [fillTo] using BlkL.new w 44 (flat (List.replicate n zeroTk)), (Below.refl _ _).alloc (Nat.le_refl _) _⟩
  case round =>
    obtain ⟨k, hk, rfl, hblk, hb⟩ := hrel
    clear hmk
    by_cases hkl : k < n
    · obtain ⟨t, b, o, ht, rfl, hbl, hc⟩ := hts.at (k := k) (by have := HN.out; omega)
      obtain ⟨hbl', c0, c1, c2, c3⟩ := (hts.below hb).get ht
      have HT := Lib.hid ht
      clear ht hc
      have HB := Lib.hid hb
      have hz := hb.size
      clear hb
      have HK := Lib.hid hblk
      clear hblk
      go_wp2_with fail
      refine (toToken_any _ _ _ _ _).mono ?_
      rintro e w2 ⟨rfl, hb2⟩
      have hblk2 := HK.out.below hb2 HK.out.lt
      obtain ⟨v0, v1, v2, v3, q0, q1, q2, q3, z0, z1, z2, z3⟩ := hblk2.four (k := k) (by rw [fillTo_length HN.out hk]; exact hkl)
      have HB2 := Lib.hid hb2
      clear hb2
      have HK2 := Lib.hid hblk2
      clear hblk2
      go_wp2
      go_roundw
      case rel =>
        have hp := HK2.out.put (k := k) (by rw [fillTo_length HN.out hk]; exact hkl) t
        rw [fillTo_set HN.out hkl HT.out] at hp
        exact ⟨k + 1, by omega, by go_num, hp, below_put (HB.out.trans (HB2.out.mono hz)) (Nat.le_refl _) _ _ _ _ _⟩
      case measure => simp [intOf]; omega
    · go_wp2
      go_ret
      have e := HN.out
      obtain rfl : k = n := by omega
      rw [fillTo_all e] at hblk
      subst e
      exact ⟨rfl, hblk, hb⟩

def Eight (w0 : World) (a p b q : Nat) (t : Tk) (w : World) : Prop :=
  w.cell? ⟨a, p, none⟩ = some (.int .i64 t.k) ∧ w.cell? ⟨a, p + 1, none⟩ = some (.string t.s) ∧ w.cell? ⟨a, p + 2, none⟩ = some (.int .i64 t.d) ∧ w.cell? ⟨a, p + 3, none⟩ = some (.int .i64 t.o) ∧
  w.cell? ⟨b, q, none⟩ = some (.int .i64 t.k) ∧ w.cell? ⟨b, q + 1, none⟩ = some (.string t.s) ∧ w.cell? ⟨b, q + 2, none⟩ = some (.int .i64 t.d) ∧ w.cell? ⟨b, q + 3, none⟩ = some (.int .i64 t.o) ∧
  Below w0.heap.size w0 w
theorem Eight.go {w0 w w' : World} {a p b q : Nat} {t : Tk} (ha : a < w.heap.size) (hb : b < w.heap.size) (h : Eight w0 a p b q t w) (hw : Below w.heap.size w w') : Eight w0 a p b q t w' := by
  obtain ⟨h0, h1, h2, h3, h4, h5, h6, h7, h8⟩ := h
  exact ⟨(hw.cell (p := ⟨a, _, none⟩) ha).trans h0, (hw.cell (p := ⟨a, _, none⟩) ha).trans h1, (hw.cell (p := ⟨a, _, none⟩) ha).trans h2, (hw.cell (p := ⟨a, _, none⟩) ha).trans h3, (hw.cell (p := ⟨b, _, none⟩) hb).trans h4, (hw.cell (p := ⟨b, _, none⟩) hb).trans h5, (hw.cell (p := ⟨b, _, none⟩) hb).trans h6, (hw.cell (p := ⟨b, _, none⟩) hb).trans h7, h8.trans (hw.mono h8.size)⟩

set_option maxHeartbeats 400000 in
set_option maxRecDepth 100000 in
theorem eqTokenS_same (A B : Option Addr) (l : List Tk) (n c d : Nat) (w : World) (hn : l.length = n) (hm : n ≤ 1048576) (ha : TS w A l) (hb : TS w B l) :
    Calls Tryz.prog 10 #[.slice A n c, .slice B n d] w fun e w' => e = .returned (.bool true) ∧ Below w.heap.size w w' := by
  have HN := Lib.hid hn
  clear hn
  go_enter Tryz.func10, Tryz.ntmps10
  go_wp2
  go_loopw [5] (fun i wr => ∃ k : Nat, k ≤ n ∧ i = .int .i64 k ∧ Below w.heap.size w wr) (fun i _ => n - (intOf i).toNat)
  case atStart => exact ⟨0, Nat.zero_le _, rfl, Below.refl _ _⟩
  case round =>
    obtain ⟨k, hk, rfl, hbw⟩ := hrel
    by_cases hkl : k < n
    · obtain ⟨t, a, p, ht, rfl, hal, _⟩ := ha.at (k := k) (by have := HN.out; omega)
      obtain ⟨b, q, rfl, hbl, _⟩ := hb k t ht
      obtain ⟨hal', c0, c1, c2, c3⟩ := (ha.below hbw).get ht
      obtain ⟨hbl', d0, d1, d2, d3⟩ := (hb.below hbw).get ht
      have HT := Lib.hid ht
      clear ht
      have HB := Lib.hid hbw
      clear hbw
      go_wp2
      go_region_held3 (fun w' => w'.cell? ⟨a, p + k * 4, none⟩ = some (.int .i64 t.k) ∧ w'.cell? ⟨a, p + k * 4 + 1, none⟩ = some (.string t.s) ∧ w'.cell? ⟨a, p + k * 4 + 2, none⟩ = some (.int .i64 t.d) ∧ w'.cell? ⟨a, p + k * 4 + 3, none⟩ = some (.int .i64 t.o) ∧ w'.cell? ⟨b, q + k * 4, none⟩ = some (.int .i64 t.k) ∧ w'.cell? ⟨b, q + k * 4 + 1, none⟩ = some (.string t.s) ∧ w'.cell? ⟨b, q + k * 4 + 2, none⟩ = some (.int .i64 t.d) ∧ w'.cell? ⟨b, q + k * 4 + 3, none⟩ = some (.int .i64 t.o) ∧ Below w.heap.size w w')
        (first | exact ⟨c0, c1, c2, c3, d0, d1, d2, d3, HB.out.drew⟩ | exact Eight.go (w := wr.drew) hal' hbl' ‹_› ‹_›)
        (first | ((with_reducible refine (eqToken_same _ _ _ _ _).mono ?_); rintro e w2 ⟨rfl, hb2⟩))
      go_wp2
      go_roundw
      case rel => exact ⟨k + 1, by omega, by go_num, HB.out.drew.trans (hb2.mono HB.out.size)⟩
      case measure => simp [intOf]; omega
    · go_wp2
      go_ret
      exact ⟨rfl, hbw⟩
end Go.Proofs.YthjkgbcomjiejabGreatDoor
