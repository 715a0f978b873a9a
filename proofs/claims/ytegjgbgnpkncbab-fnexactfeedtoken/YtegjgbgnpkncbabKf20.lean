/-
  The laws' helpers over helds: their size, their copy, their comparison, what is written into them, what is read back.
-/
import Derived.Test.YtegjgbgnpkncbabKf19
namespace Go.Proofs.Ytegjgbgnpkncbab
open Go.RowKit
set_option linter.unusedVariables false

def tks (l : List Hd) : List Tk := l.map Hd.t
theorem tks_at {l : List Hd} {i : Nat} {h : Hd} (e : l[i]? = some h) : (tks l)[i]? = some h.t := by simp [tks, e]
theorem tks_length (l : List Hd) : (tks l).length = l.length := by simp [tks]
set_option maxRecDepth 100000 in
theorem szHeld_any (h : Hd) (left : Int) (w : World) (hs : h.t.s.size ≤ maxLen) (h0 : 0 ≤ left) (h1 : left ≤ 1048576) :
    Calls Try.prog 75 #[.agg #[.int .i64 h.t.k, .string h.t.s, .int .i64 h.t.d, .int .i64 h.t.o, .int .i64 h.lv, .int .i64 h.st, .int .i64 h.sz], .int .i64 left] w fun e w' => e = .returned (.int .i64 (szV left h.t.s.size)) ∧ Below w.heap.size w w' := by
  go_enter Try.func75, Try.ntmps75
  go_wp2_with fail
  refine (szToken_any _ _ _ _ _ _ hs h0 h1).mono ?_
  rintro e w2 ⟨rfl, hb2⟩
  have HB2 := Lib.hid (((Below.refl _ _).alloc (Nat.le_refl _) _).trans (hb2.mono (by simp)))
  clear hb2
  by_cases hlt : left < (h.t.s.size : Int)
  · have hI := Lib.hid (show szV left h.t.s.size = -1 from if_pos hlt)
    rw [hI.out]
    go_wp2
    go_ret
    rw [hI.out]
    exact ⟨rfl, HB2.out⟩
  · have hI := Lib.hid (show szV left h.t.s.size = left - h.t.s.size from if_neg hlt)
    rw [hI.out]
    have hd : decide (left - (h.t.s.size : Int) < 0) = false := by simp; omega
    go_wp2
    go_ret
    rw [hI.out]
    exact ⟨rfl, HB2.out⟩
set_option maxHeartbeats 400000 in
set_option maxRecDepth 100000 in
theorem szHeldS_any (A : Option Addr) (l : List Hd) (n c : Nat) (left : Int) (w : World) (hn : l.length = n) (hm : n ≤ maxLen) (h0 : 0 ≤ left) (h1 : left ≤ 1048576) (hts : HS w A l) (hf : Fits (tks l)) :
    Calls Try.prog 48 #[.slice A n c, .int .i64 left] w fun e w' => e = .returned (.int .i64 (szB left (tks l))) ∧ Below w.heap.size w w' := by
  unfold maxLen at hm
  have HN := Lib.hid hn
  clear hn
  by_cases hlt : left < n
  · have hI := Lib.hid (show szB left (tks l) = -1 from if_pos (by have := HN.out; unfold bulk; rw [tks_length]; omega))
    go_enter Try.func48, Try.ntmps48
    go_wp2
    go_ret
    rw [hI.out]
    exact ⟨rfl, Below.refl _ _⟩
  · have hd : decide (left - (n : Int) < 0) = false := by simp; omega
    go_enter Try.func48, Try.ntmps48
    go_wp2
    go_loopw [1, 5] (fun v i wr => ∃ (k : Nat) (r : Int), k ≤ n ∧ i = .int .i64 k ∧ v = .int .i64 r ∧ 0 ≤ r ∧ r = left - n - bulkN (tks l) k ∧ Below w.heap.size w wr) (fun _ i _ => n - (intOf i).toNat)
    case atStart => exact ⟨0, _, Nat.zero_le _, rfl, rfl, by omega, by rw [bulkN_zero]; omega, Below.refl _ _⟩
    case round =>
      obtain ⟨k, r, hk, rfl, rfl, hr0, hr, hb⟩ := hrel
      have hr1 : r ≤ 1048576 := by omega
      have HR := Lib.hid hr
      clear hr
      by_cases hkl : k < n
      · obtain ⟨t, b, o, ht, rfl, hbl, hc⟩ := hts.sev (k := k) (by have := HN.out; omega)
        have hs := hf k t.t (tks_at ht)
        obtain ⟨hbl', c0, c1, c2, c3, c4, c5, c6⟩ := HS.get (RS.below hts hb) ht
        have HT := Lib.hid (tks_at ht)
        clear ht hc
        have HB := Lib.hid hb
        clear hb
        go_wp2_with fail
        refine (szHeld_any t _ _ hs hr0 hr1).mono ?_
        rintro e w2 ⟨rfl, hb2⟩
        have HB2 := Lib.hid hb2
        clear hb2
        by_cases h : r < (t.t.s.size : Int)
        · have hI := Lib.hid (show szB left (tks l) = -1 from if_pos (by
            have e1 := HN.out; have e2 := HR.out; have e3 := bulkN_succ HT.out; have e5 := tks_length l; have e4 := bulkN_mono (tks l) (show k + 1 ≤ (tks l).length by omega)
            unfold bulk; omega))
          rw [show szV r t.t.s.size = -1 from if_pos h]
          go_wp2
          go_ret
          rw [hI.out]
          exact ⟨rfl, HB.out.trans (HB2.out.mono HB.out.size)⟩
        · rw [show szV r t.t.s.size = r - t.t.s.size from if_neg h]
          go_wp2
          go_roundw
          case rel => exact ⟨k + 1, _, by omega, by go_num, rfl, by omega, by rw [bulkN_succ HT.out, HR.out]; omega, HB.out.trans (HB2.out.mono HB.out.size)⟩
          case measure => simp [intOf]; omega
      · have hI := Lib.hid (show szB left (tks l) = r from by
          have e1 := HN.out; have e2 := HR.out; have e5 := tks_length l
          obtain rfl : k = (tks l).length := by omega
          unfold szB bulk
          rw [if_neg (by omega), e2]; omega)
        go_wp2
        go_ret
        rw [hI.out]
        exact ⟨rfl, hb⟩
def zeroH : Hd := ⟨⟨0, ByteArray.empty, 0, 0⟩, 0, 0, 0⟩
theorem infoHeldI : (Try.prog.info? 80).map (fun i => (i.zero, i.size, i.bytes)) = some (some (.agg #[.int .i64 0, .string ByteArray.empty, .int .i64 0, .int .i64 0, .int .i64 0, .int .i64 0, .int .i64 0]), 7, 64) := by kernel_rfl
theorem mkHelds (n : Nat) (hn : n ≤ 2097152) (w : World) : (Instr.makeSlice 45 (.int .i64 n) (.int .i64 n)).run Try.prog w =
    .ok (.slice (some ⟨w.heap.size, 0, none⟩) n n) (w.alloc (.cells (fl fh (List.replicate n zeroH)).toArray 80)) := by
  obtain ⟨i, hi, hz, hs, hb⟩ := info_parts infoHeldI
  have h := run_make (P := Try.prog) w 45 80 i _ Try.underlying45 hi hz .i64 .i64 n n (by omega) (by omega) (by rw [hb]; omega) (by omega)
  rw [h, fl_rep fh_len (by decide), hs]
  simp [Value.cells, fh, zeroH]
set_option maxRecDepth 100000 in
theorem toHeld_any (h : Hd) (w : World) : Calls Try.prog 79 #[.agg #[.int .i64 h.t.k, .string h.t.s, .int .i64 h.t.d, .int .i64 h.t.o, .int .i64 h.lv, .int .i64 h.st, .int .i64 h.sz]] w
    fun e w' => e = .returned (.agg #[.int .i64 h.t.k, .string h.t.s, .int .i64 h.t.d, .int .i64 h.t.o, .int .i64 h.lv, .int .i64 h.st, .int .i64 h.sz]) ∧ Below w.heap.size w w' := by
  go_enter Try.func79, Try.ntmps79
  go_wp2_with fail
  refine (toToken_any _ _ _ _ _).mono ?_
  rintro e w2 ⟨rfl, hb2⟩
  have hN0 := (BlkL.new w 119 (fh h))
  have hN1 := (BlkL.new (w.alloc (.cells (fh h).toArray 119)) 80 (fh zeroH))
  have hN2 := (BlkL.new ((w.alloc (.cells (fh h).toArray 119)).alloc (.cells (fh zeroH).toArray 80)) 80 (fh zeroH))
  have H0 := (((hN0.alloc (.cells (fh zeroH).toArray 80)).alloc (.cells (fh zeroH).toArray 80)).below hb2 (((hN0.alloc _).alloc _).lt))
  have H1 := ((hN1.alloc (.cells (fh zeroH).toArray 80)).below hb2 ((hN1.alloc _).lt))
  have H2 := (hN2.below hb2 hN2.lt)
  have HB := Lib.hid ((((Below.refl w.heap.size w).alloc (Nat.le_refl _) (.cells (fh h).toArray 119)).alloc (by simp) (.cells (fh zeroH).toArray 80)).alloc (by simp; omega) (.cells (fh zeroH).toArray 80) |>.trans (hb2.mono (by simp; omega)))
  have hz : w.heap.size + 1 + 1 < w2.heap.size := by have := H2.lt; simpa using this
  clear hN0 hN1 hN2 hb2
  rw [show (w.alloc (.cells (fh h).toArray 119)).heap.size = w.heap.size + 1 by simp] at H1
  rw [show ((w.alloc (.cells (fh h).toArray 119)).alloc (.cells (fh zeroH).toArray 80)).heap.size = w.heap.size + 1 + 1 by simp] at H2
  have a4 : w2.cell? ⟨w.heap.size, 4, none⟩ = some (.int .i64 h.lv) := (H0.cell 4).trans rfl
  have a5 : w2.cell? ⟨w.heap.size, 5, none⟩ = some (.int .i64 h.st) := (H0.cell 5).trans rfl
  have a6 : w2.cell? ⟨w.heap.size, 6, none⟩ = some (.int .i64 h.sz) := (H0.cell 6).trans rfl
  have b0 : w2.cell? ⟨w.heap.size + 1 + 1, 0, none⟩ = some (.int .i64 0) := (H2.cell 0).trans rfl
  have b1 : w2.cell? ⟨w.heap.size + 1 + 1, 1, none⟩ = some (.string ByteArray.empty) := (H2.cell 1).trans rfl
  have b2 : w2.cell? ⟨w.heap.size + 1 + 1, 2, none⟩ = some (.int .i64 0) := (H2.cell 2).trans rfl
  have b3 : w2.cell? ⟨w.heap.size + 1 + 1, 3, none⟩ = some (.int .i64 0) := (H2.cell 3).trans rfl
  have b4 : w2.cell? ⟨w.heap.size + 1 + 1, 4, none⟩ = some (.int .i64 0) := (H2.cell 4).trans rfl
  have b5 : w2.cell? ⟨w.heap.size + 1 + 1, 5, none⟩ = some (.int .i64 0) := (H2.cell 5).trans rfl
  have b6 : w2.cell? ⟨w.heap.size + 1 + 1, 6, none⟩ = some (.int .i64 0) := (H2.cell 6).trans rfl
  have bz := H2.frozen
  have g0 : w2.cell? ⟨w.heap.size + 1, 0, none⟩ = some (.int .i64 0) := (H1.cell 0).trans rfl
  have g1 : w2.cell? ⟨w.heap.size + 1, 1, none⟩ = some (.string ByteArray.empty) := (H1.cell 1).trans rfl
  have g2 : w2.cell? ⟨w.heap.size + 1, 2, none⟩ = some (.int .i64 0) := (H1.cell 2).trans rfl
  have g3 : w2.cell? ⟨w.heap.size + 1, 3, none⟩ = some (.int .i64 0) := (H1.cell 3).trans rfl
  have g4 : w2.cell? ⟨w.heap.size + 1, 4, none⟩ = some (.int .i64 0) := (H1.cell 4).trans rfl
  have g5 : w2.cell? ⟨w.heap.size + 1, 5, none⟩ = some (.int .i64 0) := (H1.cell 5).trans rfl
  have g6 : w2.cell? ⟨w.heap.size + 1, 6, none⟩ = some (.int .i64 0) := (H1.cell 6).trans rfl
  have gz := H1.frozen
  have hz1 : w.heap.size + 1 < w2.heap.size := by omega
  have hz0 : w.heap.size < w2.heap.size := by omega
  have HK := Lib.hid H1
  clear H0 H1 H2
  go_wp2
  have KB := Lib.hid (below_setN (B := w.heap.size) (a := w) (g := w.heap.size + 1) (by omega) (fh h) _ 0 (below_setN (g := w.heap.size + 1 + 1) (by omega) (fh h) _ 0 HB.out))
  have K := BlkL.setN (fh h) _ _ 0 (BlkL.farN (g' := w.heap.size + 1 + 1) (by omega) (fh h) _ 0 HK.out)
  change bodyPost _ _ _ _ _ (World.setN (World.setN w2 (w.heap.size + 1 + 1) 0 (fh h)) (w.heap.size + 1) 0 (fh h))
  generalize World.setN (World.setN w2 (w.heap.size + 1 + 1) 0 (fh h)) (w.heap.size + 1) 0 (fh h) = w3 at *
  have k0 : w3.cell? ⟨w.heap.size + 1, 0, none⟩ = some (.int .i64 h.t.k) := (K.cell 0).trans rfl
  have k1 : w3.cell? ⟨w.heap.size + 1, 1, none⟩ = some (.string h.t.s) := (K.cell 1).trans rfl
  have k2 : w3.cell? ⟨w.heap.size + 1, 2, none⟩ = some (.int .i64 h.t.d) := (K.cell 2).trans rfl
  have k3 : w3.cell? ⟨w.heap.size + 1, 3, none⟩ = some (.int .i64 h.t.o) := (K.cell 3).trans rfl
  have k4 : w3.cell? ⟨w.heap.size + 1, 4, none⟩ = some (.int .i64 h.lv) := (K.cell 4).trans rfl
  have k5 : w3.cell? ⟨w.heap.size + 1, 5, none⟩ = some (.int .i64 h.st) := (K.cell 5).trans rfl
  have k6 : w3.cell? ⟨w.heap.size + 1, 6, none⟩ = some (.int .i64 h.sz) := (K.cell 6).trans rfl
  refine bodyPost_ret (v := .agg #[.int .i64 h.t.k, .string h.t.s, .int .i64 h.t.d, .int .i64 h.t.o, .int .i64 h.lv, .int .i64 h.st, .int .i64 h.sz]) (by simp [results, Try.results79, go_sem, k0, k1, k2, k3, k4, k5, k6]) rfl ⟨rfl, KB.out⟩
def ToH (w : World) (l : List Hd) (e : Ending) (w' : World) : Prop :=
  e = .returned (.slice (some ⟨w.heap.size, 0, none⟩) l.length l.length) ∧ BlkL w' w.heap.size 80 (fl fh l) ∧ Below w.heap.size w w'
set_option maxHeartbeats 400000 in
set_option maxRecDepth 100000 in
theorem toHeldS_any (A : Option Addr) (l : List Hd) (n c : Nat) (w : World) (hn : l.length = n) (hm : n ≤ 1048576) (hts : HS w A l) :
    Calls Try.prog 55 #[.slice A n c] w (ToH w l) := by
  have HN := Lib.hid hn
  clear hn
  have hmk := fun W => mkHelds n (by omega) W
  go_enter Try.func55, Try.ntmps55
  go_wp2
  go_loopw [4] (fun i wr => ∃ k : Nat, k ≤ n ∧ i = .int .i64 k ∧ BlkL wr w.heap.size 80 (fl fh (upF zeroH l n k)) ∧ Below w.heap.size w wr) (fun i _ => n - (intOf i).toNat)
  case atStart => exact ⟨0, Nat.zero_le _, rfl, by rw [upF_zero]; exact BlkL.new w 80 (fl fh (List.replicate n zeroH)), (Below.refl _ _).alloc (Nat.le_refl _) _⟩
  case round =>
    obtain ⟨k, hk, rfl, hblk, hb⟩ := hrel
    clear hmk
    by_cases hkl : k < n
    · obtain ⟨t, b, o, ht, rfl, hbl, hc⟩ := hts.sev (k := k) (by have := HN.out; omega)
      obtain ⟨hbl', c0, c1, c2, c3, c4, c5, c6⟩ := HS.get (RS.below hts hb) ht
      have HT := Lib.hid ht
      clear ht hc
      have HB := Lib.hid hb
      have hz := hb.size
      clear hb
      have HK := Lib.hid hblk
      clear hblk
      go_wp2_with fail
      refine (toHeld_any t _).mono ?_
      rintro e w2 ⟨rfl, hb2⟩
      have hblk2 := HK.out.below hb2 HK.out.lt
      have hkl2 : k < (upF zeroH l n k).length := by rw [upF_length HN.out hk]; exact hkl
      obtain ⟨⟨v0, q0⟩, z0⟩ := hblk2.each fh_len (k := k) (j := 0) hkl2 (by decide)
      obtain ⟨⟨v1, q1⟩, z1⟩ := hblk2.each fh_len (k := k) (j := 1) hkl2 (by decide)
      obtain ⟨⟨v2, q2⟩, z2⟩ := hblk2.each fh_len (k := k) (j := 2) hkl2 (by decide)
      obtain ⟨⟨v3, q3⟩, z3⟩ := hblk2.each fh_len (k := k) (j := 3) hkl2 (by decide)
      obtain ⟨⟨v4, q4⟩, z4⟩ := hblk2.each fh_len (k := k) (j := 4) hkl2 (by decide)
      obtain ⟨⟨v5, q5⟩, z5⟩ := hblk2.each fh_len (k := k) (j := 5) hkl2 (by decide)
      obtain ⟨⟨v6, q6⟩, z6⟩ := hblk2.each fh_len (k := k) (j := 6) hkl2 (by decide)
      rw [Nat.add_zero] at q0 z0
      have HB2 := Lib.hid hb2
      clear hb2
      have HK2 := Lib.hid hblk2
      clear hblk2
      go_wp2
      go_roundw
      case rel =>
        have hp := BlkL.putN fh_len HK2.out hkl2 t
        rw [upF_set HN.out hkl HT.out] at hp
        exact ⟨k + 1, by omega, by go_num, hp, below_setN (Nat.le_refl _) (fh t) _ _ (HB.out.trans (HB2.out.mono hz))⟩
      case measure => simp [intOf]; omega
    · go_wp2
      go_ret
      have e := HN.out
      obtain rfl : k = n := by omega
      rw [upF_all e] at hblk
      subst e
      exact ⟨rfl, hblk, hb⟩
end Go.Proofs.Ytegjgbgnpkncbab
