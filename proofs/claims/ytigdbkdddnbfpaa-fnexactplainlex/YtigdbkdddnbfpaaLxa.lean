/-
  Words for slices of Lexeme, and the laws' helpers over them (made by gen_row.py).
-/
import Derived.Test.YtigdbkdddnbfpaaRws
import Derived.Test.YtigdbkdddnbfpaaSl
import Derived.Test.YtigdbkdddnbfpaaMark
import Derived.Test.YtigdbkdddnbfpaaArg
namespace Go.Proofs.Ytigdbkdddnbfpaa
open Go.ChangeShapes Go.WideShapes Go.ChangeAt Go.RowKit Go.Joins Go.Deep
set_option linter.unusedVariables false

structure Lx where
  k : Int
  s : ByteArray
  a : Int
def fx (x : Lx) : List Value := [.int .i64 x.k, .string x.s, .int .i64 x.a]
theorem fx_len (x : Lx) : (fx x).length = 3 := rfl
def XS (w : World) (A : Option Addr) (l : List Lx) : Prop := RS fx 3 w A l
theorem XS.all {w : World} {A : Option Addr} {l : List Lx} (h : XS w A l) {k : Nat} (hk : k < l.length) : ∃ m b o, l[k]? = some m ∧ A = some ⟨b, o, none⟩ ∧ b < w.heap.size ∧
    w.cell? ⟨b, o + k * 3, none⟩ = some (.int .i64 m.k) ∧ w.cell? ⟨b, o + k * 3 + 1, none⟩ = some (.string m.s) ∧ w.cell? ⟨b, o + k * 3 + 2, none⟩ = some (.int .i64 m.a) := by
  obtain ⟨m, b, o, hm, ha, hb, hc⟩ := RS.at h hk
  exact ⟨m, b, o, hm, ha, hb, hc 0 (by decide), hc 1 (by decide), hc 2 (by decide)⟩
theorem XS.get {w : World} {b o : Nat} {l : List Lx} (h : XS w (some ⟨b, o, none⟩) l) {k : Nat} {m : Lx} (hm : l[k]? = some m) : b < w.heap.size ∧
    w.cell? ⟨b, o + k * 3, none⟩ = some (.int .i64 m.k) ∧ w.cell? ⟨b, o + k * 3 + 1, none⟩ = some (.string m.s) ∧ w.cell? ⟨b, o + k * 3 + 2, none⟩ = some (.int .i64 m.a) := by
  obtain ⟨hb, hc⟩ := RS.get h hm
  exact ⟨hb, hc 0 (by decide), hc 1 (by decide), hc 2 (by decide)⟩
theorem XS.below {w w' : World} {A : Option Addr} {l : List Lx} (h : XS w A l) (hb : Below w.heap.size w w') : XS w' A l := RS.below h hb
theorem XS.of_blk {w : World} {g : Nat} {ty : TypeId} {l : List Lx} (h : BlkL w g ty (fl fx l)) : XS w (some ⟨g, 0, none⟩) l := RS.of_blk fx_len h
theorem XS.old {w0 w w' : World} {A : Option Addr} {l : List Lx} {row : Option Nat} (h : XS w A l) (h0 : XS w0 A l) (hz : w0.heap.size ≤ w.heap.size) (hg : w.grownBy w' row) (hr : ∀ g, row = some g → w0.heap.size ≤ g) : XS w' A l := by
  intro i t ht
  obtain ⟨b, o, rfl, hb, _⟩ := h0 i t ht
  obtain ⟨hb', hc⟩ := RS.get h ht
  refine ⟨b, o, rfl, Nat.lt_of_lt_of_le hb' hg.size, fun j hj => (World.cell?_of_block (hg.block b hb' ?_)).trans (hc j hj)⟩
  intro e
  have := hr b e.symm
  omega
def tkx (x : Lx) : Tk := ⟨0, x.s, 0, 0⟩
def txs (l : List Lx) : List Tk := l.map tkx
theorem txs_at {l : List Lx} {i : Nat} {h : Lx} (e : l[i]? = some h) : (txs l)[i]? = some (tkx h) := by simp [txs, e]
theorem txs_length (l : List Lx) : (txs l).length = l.length := by simp [txs]

set_option maxHeartbeats 400000 in
theorem szLexeme_any (x : Lx) (left : Int) (w : World) (hs : x.s.size ≤ maxLen) (h0 : 0 ≤ left) (h1 : left ≤ 1048576) :
    Calls Try.prog 22 #[.agg #[.int .i64 x.k, .string x.s, .int .i64 x.a], .int .i64 left] w fun e w' => e = .returned (.int .i64 (szV left x.s.size)) ∧ Below w.heap.size w w' := by
  unfold maxLen at hs
  by_cases h : left < (x.s.size : Int)
  · have hI := Lib.hid (show szV left x.s.size = -1 from if_pos h)
    go_enter Try.func22, Try.ntmps22
    go_wp2
    go_ret
    rw [hI.out]
    exact ⟨rfl, (Below.refl _ _).alloc (Nat.le_refl _) _⟩
  · have hI := Lib.hid (show szV left x.s.size = left - x.s.size from if_neg h)
    go_enter Try.func22, Try.ntmps22
    go_wp2
    go_ret
    rw [hI.out]
    exact ⟨rfl, (Below.refl _ _).alloc (Nat.le_refl _) _⟩
set_option maxHeartbeats 400000 in
set_option maxRecDepth 100000 in
theorem szLexemeS_any (A : Option Addr) (l : List Lx) (n c : Nat) (left : Int) (w : World) (hn : l.length = n) (hm : n ≤ maxLen) (h0 : 0 ≤ left) (h1 : left ≤ 1048576) (hts : XS w A l) (hf : Fits (txs l)) :
    Calls Try.prog 7 #[.slice A n c, .int .i64 left] w fun e w' => e = .returned (.int .i64 (szB left (txs l))) ∧ Below w.heap.size w w' := by
  unfold maxLen at hm
  have HN := Lib.hid hn
  clear hn
  by_cases hlt : left < n
  · have hI := Lib.hid (show szB left (txs l) = -1 from if_pos (by have := HN.out; unfold bulk; rw [txs_length]; omega))
    go_enter Try.func7, Try.ntmps7
    go_wp2
    go_ret
    rw [hI.out]
    exact ⟨rfl, Below.refl _ _⟩
  · have hd : decide (left - (n : Int) < 0) = false := by simp; omega
    go_enter Try.func7, Try.ntmps7
    go_wp2
    go_loopw [1, 5] (fun v i wr => ∃ (k : Nat) (r : Int), k ≤ n ∧ i = .int .i64 k ∧ v = .int .i64 r ∧ 0 ≤ r ∧ r = left - n - bulkN (txs l) k ∧ Below w.heap.size w wr) (fun _ i _ => n - (intOf i).toNat)
    case atStart => exact ⟨0, _, Nat.zero_le _, rfl, rfl, by omega, by rw [bulkN_zero]; omega, Below.refl _ _⟩
    case round =>
      obtain ⟨k, r, hk, rfl, rfl, hr0, hr, hb⟩ := hrel
      have hr1 : r ≤ 1048576 := by omega
      have HR := Lib.hid hr
      clear hr
      by_cases hkl : k < n
      · obtain ⟨t, b, o, ht, rfl, hbl, hc⟩ := hts.all (k := k) (by have := HN.out; omega)
        have hs : t.s.size ≤ maxLen := hf k (tkx t) (txs_at ht)
        obtain ⟨hbl', c0, c1, c2⟩ := XS.get (RS.below hts hb) ht
        have HT := Lib.hid (show (txs l)[k]? = some (tkx t) from txs_at ht)
        clear ht hc
        have HB := Lib.hid hb
        clear hb
        go_wp2_with fail
        refine (szLexeme_any t _ _ hs hr0 hr1).mono ?_
        rintro e w2 ⟨rfl, hb2⟩
        have HB2 := Lib.hid hb2
        clear hb2
        by_cases h : r < (t.s.size : Int)
        · have hI := Lib.hid (show szB left (txs l) = -1 from if_pos (by
            have e1 := HN.out; have e2 := HR.out; have e3 := bulkN_succ HT.out; have e5 := txs_length l; have e4 := bulkN_mono (txs l) (show k + 1 ≤ (txs l).length by omega)
            have e6 : (tkx t).s.size = t.s.size := rfl
            unfold bulk; omega))
          rw [show szV r t.s.size = -1 from if_pos h]
          go_wp2
          go_ret
          rw [hI.out]
          exact ⟨rfl, HB.out.trans (HB2.out.mono HB.out.size)⟩
        · rw [show szV r t.s.size = r - t.s.size from if_neg h]
          go_wp2
          go_roundw
          case rel => exact ⟨k + 1, _, by omega, by go_num, rfl, by omega, by rw [bulkN_succ HT.out, HR.out]; have e6 : (tkx t).s.size = t.s.size := rfl; omega, HB.out.trans (HB2.out.mono HB.out.size)⟩
          case measure => simp [intOf]; omega
      · have hI := Lib.hid (show szB left (txs l) = r from by
          have e1 := HN.out; have e2 := HR.out; have e5 := txs_length l
          obtain rfl : k = (txs l).length := by omega
          unfold szB bulk
          rw [if_neg (by omega), e2]; omega)
        go_wp2
        go_ret
        rw [hI.out]
        exact ⟨rfl, hb⟩
def zeroLx : Lx := ⟨0, ByteArray.empty, 0⟩
theorem infoLx : (Try.prog.info? 39).map (fun i => (i.zero, i.size, i.bytes)) = some (some (.agg #[.int .i64 0, .string ByteArray.empty, .int .i64 0]), 3, 32) := by kernel_rfl
theorem makeLx (n : Nat) (hn : n ≤ 2097152) (w : World) : (Instr.makeSlice 25 (.int .i64 n) (.int .i64 n)).run Try.prog w =
    .ok (.slice (some ⟨w.heap.size, 0, none⟩) n n) (w.alloc (.cells (fl fx (List.replicate n zeroLx)).toArray 39)) := by
  obtain ⟨i, hi, hz, hs, hb⟩ := info_parts infoLx
  have h := run_make (P := Try.prog) w 25 39 i _ Try.underlying25 hi hz .i64 .i64 n n (by omega) (by omega) (by rw [hb]; omega) (by omega)
  rw [h, fl_rep fx_len (by decide), hs]
  simp [Value.cells, fx, zeroLx]
set_option maxRecDepth 100000 in
theorem toLexeme_any (x : Lx) (w : World) : Calls Try.prog 23 #[.agg #[.int .i64 x.k, .string x.s, .int .i64 x.a]] w
    fun e w' => e = .returned (.agg #[.int .i64 x.k, .string x.s, .int .i64 x.a]) ∧ Below w.heap.size w w' := by
  go_enter Try.func23, Try.ntmps23
  go_wp2
  refine bodyPost_ret (v := .agg #[.int .i64 x.k, .string x.s, .int .i64 x.a]) (by simp [results, Try.results23, go_sem]) rfl ⟨rfl, ?_⟩
  exact (((Below.refl _ _).alloc (Nat.le_refl _) _).alloc (by simp) _).alloc (by simp; omega) _
def ToLx (w : World) (l : List Lx) (e : Ending) (w' : World) : Prop :=
  e = .returned (.slice (some ⟨w.heap.size, 0, none⟩) l.length l.length) ∧ BlkL w' w.heap.size 39 (fl fx l) ∧ Below w.heap.size w w'
set_option maxHeartbeats 400000 in
set_option maxRecDepth 100000 in
theorem toLexemeS_any (A : Option Addr) (l : List Lx) (n c : Nat) (w : World) (hn : l.length = n) (hm : n ≤ 1048576) (hts : XS w A l) :
    Calls Try.prog 9 #[.slice A n c] w (ToLx w l) := by
  have HN := Lib.hid hn
  clear hn
  have hmk := fun W => makeLx n (by omega) W
  go_enter Try.func9, Try.ntmps9
  go_wp2
  go_loopw [4] (fun i wr => ∃ k : Nat, k ≤ n ∧ i = .int .i64 k ∧ BlkL wr w.heap.size 39 (fl fx (upF zeroLx l n k)) ∧ Below w.heap.size w wr) (fun i _ => n - (intOf i).toNat)
  case atStart => exact ⟨0, Nat.zero_le _, rfl, by rw [upF_zero]; exact BlkL.new w 39 (fl fx (List.replicate n zeroLx)), (Below.refl _ _).alloc (Nat.le_refl _) _⟩
  case round =>
    obtain ⟨k, hk, rfl, hblk, hb⟩ := hrel
    clear hmk
    by_cases hkl : k < n
    · obtain ⟨t, b, o, ht, rfl, hbl, hc⟩ := hts.all (k := k) (by have := HN.out; omega)
      obtain ⟨hbl', c0, c1, c2⟩ := XS.get (RS.below hts hb) ht
      have HT := Lib.hid ht
      clear ht hc
      have HB := Lib.hid hb
      have hz := hb.size
      clear hb
      have HK := Lib.hid hblk
      clear hblk
      go_wp2_with fail
      refine (toLexeme_any t _).mono ?_
      rintro e w2 ⟨rfl, hb2⟩
      have hblk2 := HK.out.below hb2 HK.out.lt
      have hkl2 : k < (upF zeroLx l n k).length := by rw [upF_length HN.out hk]; exact hkl
      obtain ⟨⟨v0, q0⟩, z0⟩ := hblk2.each fx_len (k := k) (j := 0) hkl2 (by decide)
      obtain ⟨⟨v1, q1⟩, z1⟩ := hblk2.each fx_len (k := k) (j := 1) hkl2 (by decide)
      obtain ⟨⟨v2, q2⟩, z2⟩ := hblk2.each fx_len (k := k) (j := 2) hkl2 (by decide)
      rw [Nat.add_zero] at q0 z0
      have HB2 := Lib.hid hb2
      clear hb2
      have HK2 := Lib.hid hblk2
      clear hblk2
      go_wp2
      go_roundw
      case rel =>
        have hp := BlkL.putN fx_len HK2.out hkl2 t
        rw [upF_set HN.out hkl HT.out] at hp
        exact ⟨k + 1, by omega, by go_num, hp, below_setN (Nat.le_refl _) (fx t) _ _ (HB.out.trans (HB2.out.mono hz))⟩
      case measure => simp [intOf]; omega
    · go_wp2
      go_ret
      have e := HN.out
      obtain rfl : k = n := by omega
      rw [upF_all e] at hblk
      subst e
      exact ⟨rfl, hblk, hb⟩
set_option maxRecDepth 100000 in
theorem eqLexeme_same (x : Lx) (w : World) : Calls Try.prog 27 #[.agg #[.int .i64 x.k, .string x.s, .int .i64 x.a], .agg #[.int .i64 x.k, .string x.s, .int .i64 x.a]] w
    fun e w' => e = .returned (.bool true) ∧ Below w.heap.size w w' := by
  go_enter Try.func27, Try.ntmps27
  go_wp2
  go_ret
  exact ⟨rfl, ((Below.refl _ _).alloc (Nat.le_refl _) _).alloc (by simp) _⟩
def BothLx (w0 : World) (a p b q : Nat) (t : Lx) (w : World) : Prop :=
  w.cell? ⟨a, p, none⟩ = some (.int .i64 t.k) ∧ w.cell? ⟨a, p + 1, none⟩ = some (.string t.s) ∧ w.cell? ⟨a, p + 2, none⟩ = some (.int .i64 t.a) ∧ w.cell? ⟨b, q, none⟩ = some (.int .i64 t.k) ∧ w.cell? ⟨b, q + 1, none⟩ = some (.string t.s) ∧ w.cell? ⟨b, q + 2, none⟩ = some (.int .i64 t.a) ∧ Below w0.heap.size w0 w
theorem BothLx.go {w0 w w' : World} {a p b q : Nat} {t : Lx} (ha : a < w.heap.size) (hb : b < w.heap.size) (h : BothLx w0 a p b q t w) (hw : Below w.heap.size w w') : BothLx w0 a p b q t w' := by
  obtain ⟨h0, h1, h2, g0, g1, g2, h8⟩ := h
  exact ⟨(hw.cell (p := ⟨a, _, none⟩) ha).trans h0, (hw.cell (p := ⟨a, _, none⟩) ha).trans h1, (hw.cell (p := ⟨a, _, none⟩) ha).trans h2, (hw.cell (p := ⟨b, _, none⟩) hb).trans g0, (hw.cell (p := ⟨b, _, none⟩) hb).trans g1, (hw.cell (p := ⟨b, _, none⟩) hb).trans g2, h8.trans (hw.mono h8.size)⟩
set_option maxHeartbeats 1000000 in
set_option maxRecDepth 100000 in
theorem eqLexemeS_same (A B : Option Addr) (l : List Lx) (n c d : Nat) (w : World) (hn : l.length = n) (hm : n ≤ 2097152) (ha : XS w A l) (hb : XS w B l) :
    Calls Try.prog 11 #[.slice A n c, .slice B n d] w fun e w' => e = .returned (.bool true) ∧ Below w.heap.size w w' := by
  have HN := Lib.hid hn
  clear hn
  go_enter Try.func11, Try.ntmps11
  go_wp2
  go_loopw [5] (fun i wr => ∃ k : Nat, k ≤ n ∧ i = .int .i64 k ∧ Below w.heap.size w wr) (fun i _ => n - (intOf i).toNat)
  case atStart => exact ⟨0, Nat.zero_le _, rfl, Below.refl _ _⟩
  case round =>
    obtain ⟨k, hk, rfl, hbw⟩ := hrel
    by_cases hkl : k < n
    · obtain ⟨t, a, p, ht, rfl, hal, _⟩ := ha.all (k := k) (by have := HN.out; omega)
      obtain ⟨b, q, rfl, hbl, _⟩ := hb k t ht
      obtain ⟨hal', c0, c1, c2⟩ := XS.get (RS.below ha hbw) ht
      obtain ⟨hbl', d0, d1, d2⟩ := XS.get (RS.below hb hbw) ht
      have HT := Lib.hid ht
      clear ht
      have HB := Lib.hid hbw
      clear hbw
      go_wp2
      go_region_held3 (fun w' => w'.cell? ⟨a, p + k * 3, none⟩ = some (.int .i64 t.k) ∧ w'.cell? ⟨a, p + k * 3 + 1, none⟩ = some (.string t.s) ∧ w'.cell? ⟨a, p + k * 3 + 2, none⟩ = some (.int .i64 t.a) ∧ w'.cell? ⟨b, q + k * 3, none⟩ = some (.int .i64 t.k) ∧ w'.cell? ⟨b, q + k * 3 + 1, none⟩ = some (.string t.s) ∧ w'.cell? ⟨b, q + k * 3 + 2, none⟩ = some (.int .i64 t.a) ∧ Below w.heap.size w w')
        (first | exact ⟨c0, c1, c2, d0, d1, d2, HB.out.drew⟩ | exact BothLx.go (w := wr.drew) hal' hbl' ‹_› ‹_›)
        (first | ((with_reducible refine (eqLexeme_same t _).mono ?_); rintro e w2 ⟨rfl, hb2⟩))
      go_wp2
      go_roundw
      case rel => exact ⟨k + 1, by omega, by go_num, HB.out.drew.trans (hb2.mono HB.out.size)⟩
      case measure => simp [intOf]; omega
    · go_wp2
      go_ret
      exact ⟨rfl, hbw⟩
def mkLx (x : Int) (k : Nat) : Lx := ⟨x + 3 * k, mtx (x + 3 * k + 1), x + 3 * k + 1 + 1⟩
set_option maxHeartbeats 1000000 in
set_option maxRecDepth 100000 in
theorem markLexemeS_blk (g : Nat) (l : List Lx) (rest : List Value) (n c : Nat) (x : Int) (w : World) (hn : l.length = n) (hm : n ≤ 2097152) (hx0 : 0 ≤ x) (hx1 : x ≤ 900000000) (hb : BlkL w g 39 (fl fx l ++ rest)) :
    Calls Try.prog 17 #[.slice (some ⟨g, 0, none⟩) n c, .int .i64 x] w fun e w' => e = .returned (.int .i64 (x + 3 * n)) ∧ BlkL w' g 39 (fl fx (mkF (mkLx x) l n) ++ rest) ∧ w.grownBy w' (some g) := by
  have HN := Lib.hid hn
  clear hn
  go_enter Try.func17, Try.ntmps17
  go_wp2
  go_loopw [1, 5] (fun y i wr => ∃ k : Nat, k ≤ n ∧ i = .int .i64 k ∧ y = .int .i64 (x + 3 * k) ∧ BlkL wr g 39 (fl fx (mkF (mkLx x) l k) ++ rest) ∧ w.grownBy wr (some g)) (fun _ i _ => n - (intOf i).toNat)
  case atStart => exact ⟨0, Nat.zero_le _, rfl, by simp, by rw [mkF_zero]; exact hb, World.grownBy.refl _ _⟩
  case round =>
    obtain ⟨k, hk, rfl, rfl, hbk, hgr⟩ := hrel
    by_cases hkl : k < n
    · have hkl2 : k < (mkF (mkLx x) l k).length := by rw [mkF_length, HN.out]; exact hkl
      obtain ⟨⟨v0, q0⟩, z0⟩ := BlkL.eachR fx_len hbk (k := k) (j := 0) hkl2 (by decide)
      rw [Nat.add_zero] at q0 z0
      have HK := Lib.hid hbk
      have HG := Lib.hid hgr
      clear hbk hgr
      go_wp2_with fail
      refine (markText_any _ _ (by omega)).mono ?_
      rintro e w2 ⟨rfl, hb2⟩
      have hK1 := BlkL.setN [.int .i64 (x + 3 * k)] _ _ (k * 3) HK.out
      have hK2 := hK1.below hb2 hK1.lt
      have hG2 := grown_below (grown_setN [.int .i64 (x + 3 * k)] _ (k * 3) HG.out) hb2
      have hlen : k * 3 + 2 < (setN (fl fx (mkF (mkLx x) l k) ++ rest) (k * 3) [.int .i64 (x + 3 * k)]).length := by
        simp only [setN, List.length_set]
        rw [List.length_append, fl_length fx_len, mkF_length, HN.out]; omega
      obtain ⟨y1, r1⟩ := hK2.some_ (i := k * 3 + 1) (by omega)
      have s1 := hK2.frozen (k * 3 + 1)
      obtain ⟨y2, r2⟩ := hK2.some_ (i := k * 3 + 2) (by omega)
      have s2 := hK2.frozen (k * 3 + 2)
      have HK2 := Lib.hid hK2
      have HG2 := Lib.hid hG2
      clear hK1 hK2 hG2 hb2 hlen q0 z0
      go_wp2
      go_roundw
      case rel =>
        have h1 := BlkL.setN ((fx (mkLx x k)).drop 1) _ _ (k * 3 + 1) HK2.out
        have h2 : setN (setN (fl fx (mkF (mkLx x) l k) ++ rest) (k * 3) [.int .i64 (x + 3 * k)]) (k * 3 + 1) ((fx (mkLx x k)).drop 1) = fl fx ((mkF (mkLx x) l k).set k (mkLx x k)) ++ rest := by
          have e1 : setN (setN (fl fx (mkF (mkLx x) l k) ++ rest) (k * 3) [.int .i64 (x + 3 * k)]) (k * 3 + 1) ((fx (mkLx x k)).drop 1) = setN (fl fx (mkF (mkLx x) l k) ++ rest) (k * 3) (fx (mkLx x k)) := rfl
          rw [e1, setN_app _ _ _ _ (by rw [fl_length fx_len, fx_len]; omega), fl_set fx_len _ hkl2]
        rw [h2, mkF_set _ _ (by rw [HN.out]; exact hkl)] at h1
        exact ⟨k + 1, by omega, by go_num, by go_num, h1, grown_setN ((fx (mkLx x k)).drop 1) _ _ HG2.out⟩
      case measure => simp [intOf]; omega
    · have HK := Lib.hid hbk
      have HG := Lib.hid hgr
      clear hbk hgr
      have HKN := Lib.hid (show k = n by omega)
      go_wp2
      go_ret
      have e := HKN.out
      subst e
      exact ⟨rfl, HK.out, HG.out⟩
theorem cellsLx : Try.prog.cellsOf 38 = 3 := by kernel_rfl
set_option maxRecDepth 100000 in
theorem open_Lexemes {H : Type} {enc : TypeId × Value → H} {W : World} {r : Reach} {base : Nat} {v : Value} {d : DataW H} {p : List MemPlace}
    (hv : Value.okWide Try.prog W r base 22 v) (h : DataW.Trod enc Try.prog W 0 (fun _ => true) true 22 v d p) :
    ∃ (A : Option Addr) (n c : Nat) (l : List Lx), v = .slice A n c ∧ l.length = n ∧ n ≤ maxLen ∧ XS W A l ∧ Fits (txs l) := by
  obtain ⟨A, n, c, rfl⟩ := okWide_slice Try.underlying22 hv
  obtain ⟨fuel, hf⟩ := h
  rcases open_slice Try.underlying22 hf with ⟨hcs, _⟩ | ⟨a, len, cap, m, k, D, Pl, hcs, _, hl, hm, hmm, _, hi⟩
  · have e : Value.slice A n c = .slice none 0 0 := by simpa [Value.cells] using hcs
    injection e with e1 e2 e3
    subst e1 e2 e3
    exact ⟨none, 0, 0, [], rfl, rfl, Nat.zero_le _, RS.nil _ _, fun i t h => by simp [txs] at h⟩
  · have e : Value.slice A n c = .slice (some a) len cap := by simpa [Value.cells] using hcs
    injection e with e1 e2 e3
    subst e1 e2 e3
    have hmm' : m = c := by simpa using hmm
    rw [cellsLx] at hi
    have step : ∀ i, i < n → ∃ t : Lx, W.cell? ((a.add (i * 3)).add 0) = some (.int .i64 t.k) ∧ W.cell? ((a.add (i * 3)).add 1) = some (.string t.s) ∧ W.cell? ((a.add (i * 3)).add 2) = some (.int .i64 t.a) ∧ t.s.size ≤ maxLen := by
      intro i hin
      obtain ⟨cs', hc, ht⟩ := hi i (by omega)
      obtain ⟨_, hcl, hat⟩ := World.cells?_some hc
      obtain ⟨y0, y1, y2, n', _, _, h0, h1, h2⟩ := trod_struct3 Try.underlying38 ht
      match cs', hcl with
      | [v0, v1, v2], _ =>
        obtain ⟨u0, e0, _, _⟩ := DataW.trod_int Try.underlying3 h0
        obtain ⟨u1, e1, _, ws⟩ := DataW.trod_string Try.underlying9 h1
        obtain ⟨u2, e2, _, _⟩ := DataW.trod_int Try.underlying3 h2
        simp [cellsInt] at e0 e2
        simp [cellsStr] at e1
        subst e0 e1 e2
        exact ⟨⟨u0, u1, u2⟩, hat 0 (by omega), hat 1 (by omega), hat 2 (by omega), ws⟩
    haveI : Inhabited Lx := ⟨zeroLx⟩
    obtain ⟨G, hG⟩ := choose_lt step
    refine ⟨some a, n, c, (List.range n).map G, rfl, by simp, by omega, ?_, ?_⟩
    · intro i t hit
      have hin : i < n := by have := (List.getElem?_eq_some_iff.1 hit).1; simpa using this
      have ht : G i = t := by simpa [List.getElem?_map, List.getElem?_range hin] using hit
      subst ht
      obtain ⟨ha, hb⟩ := cell_addr (hG 0 (by omega)).1
      have ha' : a = ⟨a.block, a.off, none⟩ := by simpa [Addr.add] using ha
      have hb' : a.block < W.heap.size := by simpa [Addr.add] using hb
      obtain ⟨q0, q1, q2, _⟩ := hG i hin
      rw [ha'] at q0 q1 q2
      simp only [add_plain] at q0 q1 q2
      refine ⟨a.block, a.off, by rw [← ha'], hb', fun j hj => ?_⟩
      match j, hj with
      | 0, _ => exact q0
      | 1, _ => exact q1
      | 2, _ => exact q2
    · intro i t hit
      simp only [txs, List.map_map, List.getElem?_map, Option.map_eq_some_iff] at hit
      obtain ⟨u, hu, e⟩ := hit
      have hin : i < n := by have := (List.getElem?_eq_some_iff.1 hu).1; simpa using this
      have hu' : u = i := by rw [List.getElem?_range hin] at hu; simpa using hu.symm
      subst hu'
      rw [← e]
      exact (hG u hin).2.2.2
end Go.Proofs.Ytigdbkdddnbfpaa
