/-
  Words for marks, helds and engines, and the laws' helpers over marks.
-/
import Derived.Test.YtegjgbgnpkncbabKf16
import Derived.Test.YtegjgbgnpkncbabKf12
import Derived.Test.YtegjgbgnpkncbabKf17
namespace Go.Proofs.Ytegjgbgnpkncbab
open Go.RowKit
set_option linter.unusedVariables false

structure Hd where
  t : Tk
  lv : Int
  st : Int
  sz : Int
def fh (h : Hd) : List Value := [.int .i64 h.t.k, .string h.t.s, .int .i64 h.t.d, .int .i64 h.t.o, .int .i64 h.lv, .int .i64 h.st, .int .i64 h.sz]
theorem fh_len (h : Hd) : (fh h).length = 7 := rfl
def fm (m : Int × Int) : List Value := [.int .i64 m.1, .int .i64 m.2]
theorem fm_len (m : Int × Int) : (fm m).length = 2 := rfl
structure En where
  W : Int
  col : Int
  pend : Int
  ms : List (Int × Int)
  it : List Hd
  tot : Int
  lev : Int
def MS (w : World) (A : Option Addr) (l : List (Int × Int)) : Prop := RS fm 2 w A l
def HS (w : World) (A : Option Addr) (l : List Hd) : Prop := RS fh 7 w A l
theorem MS.two {w : World} {A : Option Addr} {l : List (Int × Int)} (h : MS w A l) {k : Nat} (hk : k < l.length) : ∃ m b o, l[k]? = some m ∧ A = some ⟨b, o, none⟩ ∧ b < w.heap.size ∧
    w.cell? ⟨b, o + k * 2, none⟩ = some (.int .i64 m.1) ∧ w.cell? ⟨b, o + k * 2 + 1, none⟩ = some (.int .i64 m.2) := by
  obtain ⟨m, b, o, hm, ha, hb, hc⟩ := RS.at h hk
  exact ⟨m, b, o, hm, ha, hb, hc 0 (by decide), hc 1 (by decide)⟩
theorem MS.get {w : World} {b o : Nat} {l : List (Int × Int)} (h : MS w (some ⟨b, o, none⟩) l) {k : Nat} {m : Int × Int} (hm : l[k]? = some m) : b < w.heap.size ∧
    w.cell? ⟨b, o + k * 2, none⟩ = some (.int .i64 m.1) ∧ w.cell? ⟨b, o + k * 2 + 1, none⟩ = some (.int .i64 m.2) := by
  obtain ⟨hb, hc⟩ := RS.get h hm
  exact ⟨hb, hc 0 (by decide), hc 1 (by decide)⟩
/-- the seven cells of a held. -/
def Sev (w : World) (b p : Nat) (h : Hd) : Prop :=
  w.cell? ⟨b, p, none⟩ = some (.int .i64 h.t.k) ∧ w.cell? ⟨b, p + 1, none⟩ = some (.string h.t.s) ∧ w.cell? ⟨b, p + 2, none⟩ = some (.int .i64 h.t.d) ∧ w.cell? ⟨b, p + 3, none⟩ = some (.int .i64 h.t.o) ∧
  w.cell? ⟨b, p + 4, none⟩ = some (.int .i64 h.lv) ∧ w.cell? ⟨b, p + 5, none⟩ = some (.int .i64 h.st) ∧ w.cell? ⟨b, p + 6, none⟩ = some (.int .i64 h.sz)
theorem HS.sev {w : World} {A : Option Addr} {l : List Hd} (h : HS w A l) {k : Nat} (hk : k < l.length) : ∃ m b o, l[k]? = some m ∧ A = some ⟨b, o, none⟩ ∧ b < w.heap.size ∧ Sev w b (o + k * 7) m := by
  obtain ⟨m, b, o, hm, ha, hb, hc⟩ := RS.at h hk
  exact ⟨m, b, o, hm, ha, hb, hc 0 (by decide), hc 1 (by decide), hc 2 (by decide), hc 3 (by decide), hc 4 (by decide), hc 5 (by decide), hc 6 (by decide)⟩
theorem HS.get {w : World} {b o : Nat} {l : List Hd} (h : HS w (some ⟨b, o, none⟩) l) {k : Nat} {m : Hd} (hm : l[k]? = some m) : b < w.heap.size ∧ Sev w b (o + k * 7) m := by
  obtain ⟨hb, hc⟩ := RS.get h hm
  exact ⟨hb, hc 0 (by decide), hc 1 (by decide), hc 2 (by decide), hc 3 (by decide), hc 4 (by decide), hc 5 (by decide), hc 6 (by decide)⟩
theorem Sev.below {w w' : World} {b p : Nat} {h : Hd} (hs : Sev w b p h) (hb : b < w.heap.size) (hw : Below w.heap.size w w') : Sev w' b p h := by
  obtain ⟨h0, h1, h2, h3, h4, h5, h6⟩ := hs
  exact ⟨(hw.cell (p := ⟨b, _, none⟩) hb).trans h0, (hw.cell (p := ⟨b, _, none⟩) hb).trans h1, (hw.cell (p := ⟨b, _, none⟩) hb).trans h2, (hw.cell (p := ⟨b, _, none⟩) hb).trans h3, (hw.cell (p := ⟨b, _, none⟩) hb).trans h4, (hw.cell (p := ⟨b, _, none⟩) hb).trans h5, (hw.cell (p := ⟨b, _, none⟩) hb).trans h6⟩

/-- the value of an engine whose marks and helds lie at A and A2. -/
def ev (e : En) (A : Option Addr) (c : Nat) (A2 : Option Addr) (c2 : Nat) : Value :=
  .agg #[.int .i64 e.W, .int .i64 e.col, .int .i64 e.pend, .slice A e.ms.length c, .slice A2 e.it.length c2, .int .i64 e.tot, .int .i64 e.lev]

def szM (left : Int) (n : Nat) : Int := if left < (n : Int) then -1 else left - n
theorem szMarkS_any (A : Option Addr) (n c : Nat) (left : Int) (w : World) (hm : n ≤ maxLen) (h0 : 0 ≤ left) (h1 : left ≤ 1048576) :
    Calls Try.prog 47 #[.slice A n c, .int .i64 left] w fun e w' => e = .returned (.int .i64 (szM left n)) ∧ Below w.heap.size w w' := by
  unfold maxLen at hm
  by_cases hlt : left < n
  · have hI := Lib.hid (show szM left n = -1 from if_pos hlt)
    go_enter Try.func47, Try.ntmps47
    go_wp2
    go_ret
    rw [hI.out]
    exact ⟨rfl, Below.refl _ _⟩
  · have hI := Lib.hid (show szM left n = left - n from if_neg hlt)
    have hd : decide (left - (n : Int) < 0) = false := by simp; omega
    go_enter Try.func47, Try.ntmps47
    go_wp2
    go_ret
    rw [hI.out]
    exact ⟨rfl, Below.refl _ _⟩
def zeroM : Int × Int := (0, 0)
theorem infoMarkI : (Try.prog.info? 121).map (fun i => (i.zero, i.size, i.bytes)) = some (some (.agg #[.int .i64 0, .int .i64 0]), 2, 16) := by kernel_rfl
theorem mkMarks (n : Nat) (hn : n ≤ 2097152) (w : World) : (Instr.makeSlice 44 (.int .i64 n) (.int .i64 n)).run Try.prog w =
    .ok (.slice (some ⟨w.heap.size, 0, none⟩) n n) (w.alloc (.cells (fl fm (List.replicate n zeroM)).toArray 121)) := by
  obtain ⟨i, hi, hz, hs, hb⟩ := info_parts infoMarkI
  have h := run_make (P := Try.prog) w 44 121 i _ Try.underlying44 hi hz .i64 .i64 n n (by omega) (by omega) (by rw [hb]; omega) (by omega)
  rw [h, fl_rep fm_len (by decide), hs]
  simp [Value.cells, fm, zeroM]
theorem toMark_any (a b : Int) (w : World) : Calls Try.prog 78 #[.agg #[.int .i64 a, .int .i64 b]] w fun e w' => e = .returned (.agg #[.int .i64 a, .int .i64 b]) ∧ Below w.heap.size w w' := by
  go_enter Try.func78, Try.ntmps78
  go_wp2
  refine bodyPost_ret (v := .agg #[.int .i64 a, .int .i64 b]) (by simp [results, Try.results78, go_sem]) rfl ⟨rfl, ?_⟩
  exact (((Below.refl _ _).alloc (Nat.le_refl _) _).alloc (by simp) _).alloc (by simp; omega) _
def ToM (w : World) (l : List (Int × Int)) (e : Ending) (w' : World) : Prop :=
  e = .returned (.slice (some ⟨w.heap.size, 0, none⟩) l.length l.length) ∧ BlkL w' w.heap.size 121 (fl fm l) ∧ Below w.heap.size w w'
set_option maxHeartbeats 400000 in
theorem toMarkS_any (A : Option Addr) (l : List (Int × Int)) (n c : Nat) (w : World) (hn : l.length = n) (hm : n ≤ 1048576) (hts : MS w A l) :
    Calls Try.prog 54 #[.slice A n c] w (ToM w l) := by
  have HN := Lib.hid hn
  clear hn
  have hmk := fun W => mkMarks n (by omega) W
  go_enter Try.func54, Try.ntmps54
  go_wp2
  go_loopw [4] (fun i wr => ∃ k : Nat, k ≤ n ∧ i = .int .i64 k ∧ BlkL wr w.heap.size 121 (fl fm (upF zeroM l n k)) ∧ Below w.heap.size w wr) (fun i _ => n - (intOf i).toNat)
  case atStart => exact ⟨0, Nat.zero_le _, rfl, by rw [upF_zero]; exact BlkL.new w 121 (fl fm (List.replicate n zeroM)), (Below.refl _ _).alloc (Nat.le_refl _) _⟩
  case round =>
    obtain ⟨k, hk, rfl, hblk, hb⟩ := hrel
    clear hmk
    by_cases hkl : k < n
    · obtain ⟨t, b, o, ht, rfl, hbl, hc⟩ := hts.two (k := k) (by have := HN.out; omega)
      obtain ⟨hbl', c0, c1⟩ := MS.get (RS.below hts hb) ht
      have HT := Lib.hid ht
      clear ht hc
      have HB := Lib.hid hb
      have hz := hb.size
      clear hb
      have HK := Lib.hid hblk
      clear hblk
      go_wp2_with fail
      refine (toMark_any _ _ _).mono ?_
      rintro e w2 ⟨rfl, hb2⟩
      have hblk2 := HK.out.below hb2 HK.out.lt
      have hkl2 : k < (upF zeroM l n k).length := by rw [upF_length HN.out hk]; exact hkl
      obtain ⟨⟨v0, q0⟩, z0⟩ := hblk2.each fm_len (k := k) (j := 0) hkl2 (by decide)
      obtain ⟨⟨v1, q1⟩, z1⟩ := hblk2.each fm_len (k := k) (j := 1) hkl2 (by decide)
      rw [Nat.add_zero] at q0 z0
      have HB2 := Lib.hid hb2
      clear hb2
      have HK2 := Lib.hid hblk2
      clear hblk2
      go_wp2
      go_roundw
      case rel =>
        have hp := BlkL.putN fm_len HK2.out hkl2 t
        rw [upF_set HN.out hkl HT.out] at hp
        exact ⟨k + 1, by omega, by go_num, hp, below_setN (Nat.le_refl _) (fm t) _ _ (HB.out.trans (HB2.out.mono hz))⟩
      case measure => simp [intOf]; omega
    · go_wp2
      go_ret
      have e := HN.out
      obtain rfl : k = n := by omega
      rw [upF_all e] at hblk
      subst e
      exact ⟨rfl, hblk, hb⟩
end Go.Proofs.Ytegjgbgnpkncbab
