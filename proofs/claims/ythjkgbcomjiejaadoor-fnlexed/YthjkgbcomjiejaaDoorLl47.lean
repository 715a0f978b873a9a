/-
  LexAt of the program.
-/
import Derived.Test.YthjkgbcomjiejaaDoorLl46
import Derived.Test.YthjkgbcomjiejaaDoorLl19
namespace Go.Proofs.YthjkgbcomjiejaaDoor
open Go.RowKit
set_option linter.unusedVariables false

set_option maxHeartbeats 1000000 in
set_option maxRecDepth 100000 in
theorem covers_any (x : Lx) (k : Int) (w : World) (h0 : 0 ≤ x.a) (h1 : x.a ≤ 2000) (h2 : x.s.size ≤ 2000) (h3 : 0 ≤ k) (h4 : k ≤ 2000) :
    Calls Tryd.prog 25 #[.agg #[.int .i64 x.k, .string x.s, .int .i64 x.a], .int .i64 k] w fun e w' => e = .returned (.bool (cvB x k)) ∧ Below w.heap.size w w' := by
  by_cases hc : x.a ≤ k
  · have hcb : decide (x.a ≤ k) = true := decide_eq_true hc
    have hI := Lib.hid (show cvB x k = decide (k - x.a < (x.s.size : Int)) by
      unfold cvB
      rw [hcb, Bool.true_and]
      congr 1
      rw [eq_iff_iff]
      omega)
    go_enter Tryd.func25, Tryd.ntmps25
    go_wp2
    go_ret
    rw [hI.out]
    exact ⟨rfl, (Below.refl _ _).alloc (Nat.le_refl _) _⟩
  · have hcb : decide (x.a ≤ k) = false := decide_eq_false hc
    have hI := Lib.hid (show cvB x k = false by unfold cvB; rw [hcb]; rfl)
    go_enter Tryd.func25, Tryd.ntmps25
    go_wp2
    go_ret
    rw [hI.out]
    exact ⟨rfl, (Below.refl _ _).alloc (Nat.le_refl _) _⟩
set_option maxHeartbeats 1000000 in
set_option maxRecDepth 100000 in
theorem coversAt_any (x : Lx) (p : Addr) (k : Int) (w : World) (hp : w.cell? p = some (.int .i64 k)) (h0 : 0 ≤ x.a) (h1 : x.a ≤ 2000) (h2 : x.s.size ≤ 2000) (h3 : 0 ≤ k) (h4 : k ≤ 2000) :
    Calls Tryd.prog 24 #[.agg #[.int .i64 x.k, .string x.s, .int .i64 x.a], .pointer (some p)] w fun e w' => e = .returned (.bool (cvB x k)) ∧ Below w.heap.size w w' := by
  have hpl := World.block_lt_of_cell? w p hp
  have hb0 := (Below.refl w.heap.size w).alloc (Nat.le_refl _) (.cells #[.int .i64 x.k, .string x.s, .int .i64 x.a] 32)
  have hp2 := (hb0.cell (p := p) hpl).trans hp
  have HB0 := Lib.hid hb0
  clear hb0
  go_enter Tryd.func24, Tryd.ntmps24
  go_wp2_with fail
  refine (covers_any x k _ h0 h1 h2 h3 h4).mono ?_
  rintro e w1 ⟨rfl, hb⟩
  have HB := Lib.hid (HB0.out.trans (hb.mono HB0.out.size))
  clear hb
  go_wp2_with fail
  go_ret
  exact ⟨rfl, HB.out⟩
set_option maxHeartbeats 1000000 in
set_option maxRecDepth 100000 in
theorem idxCovers_any (A : Option Addr) (l : List Lx) (n c : Nat) (p : Addr) (k : Int) (w : World) (hn : l.length = n) (hm : n ≤ 2097152) (hl : XS w A l) (hp : w.cell? p = some (.int .i64 k)) (hbd : ∀ x ∈ l, 0 ≤ x.a ∧ x.a ≤ 2000 ∧ x.s.size ≤ 2000) (h3 : 0 ≤ k) (h4 : k ≤ 2000)
    (i : Nat) (x : Lx) (hx : l[i]? = some x) (hcv : cvB x k = true) (hno : ∀ (j : Nat) (y : Lx), j < i → l[j]? = some y → cvB y k = false) :
    Calls Tryd.prog 23 #[.slice A n c, .func (.func 24) #[] #[.pointer (some p)]] w fun e w' => e = .returned (.int .i64 i) ∧ Below w.heap.size w w' := by
  have HN := Lib.hid hn
  have HL := Lib.hid hl
  have HP := Lib.hid hp
  have HBD := Lib.hid hbd
  have HX := Lib.hid hx
  have HCV := Lib.hid hcv
  have HNO := Lib.hid hno
  have hpl := World.block_lt_of_cell? w p hp
  have hin : i < n := by rw [← hn]; exact (List.getElem?_eq_some_iff.1 hx).1
  clear hn hl hp hbd hx hcv hno
  go_enter Tryd.func23, Tryd.ntmps23
  go_wp2_with fail
  go_loopw [8] (fun iv wr => ∃ j : Nat, j ≤ i ∧ iv = .int .i64 j ∧ Below w.heap.size w wr) (fun iv _ => n - (intOf iv).toNat)
  case atStart => exact ⟨0, Nat.zero_le _, rfl, Below.refl _ _⟩
  case round =>
    obtain ⟨j, hj, rfl, hb⟩ := hrel
    have HB := Lib.hid hb
    have hjn : j < n := by omega
    obtain ⟨y, b, o, hy, rfl, hbl, c0, c1, c2⟩ := (HL.out.below hb).all (k := j) (by have := HN.out; omega)
    have hyb := HBD.out y (List.mem_of_getElem? hy)
    have hcp := (hb.cell (p := p) hpl).trans HP.out
    have HC := Lib.hid (coversAt_any y p k wr hcp hyb.1 hyb.2.1 hyb.2.2 h3 h4)
    clear hb
    by_cases hji : j = i
    · subst hji
      obtain rfl : x = y := by have h := HX.out; rw [hy] at h; injection h with h; exact h.symm
      clear hy
      go_wp2_with fail
      refine HC.out.mono ?_
      rintro e w2 ⟨rfl, hb2⟩
      rw [HCV.out]
      have HB2 := Lib.hid (HB.out.trans (hb2.mono HB.out.size))
      clear hb2
      go_wp2_with fail
      go_ret
      exact ⟨rfl, HB2.out⟩
    · have hno := HNO.out j y (by omega) hy
      have HNO2 := Lib.hid hno
      clear hy hno
      go_wp2_with fail
      refine HC.out.mono ?_
      rintro e w2 ⟨rfl, hb2⟩
      rw [HNO2.out]
      have HB2 := Lib.hid (HB.out.trans (hb2.mono HB.out.size))
      clear hb2
      go_wp2_with fail
      go_roundw
      case rel => exact ⟨j + 1, by omega, by go_num, HB2.out⟩
      case measure => simp [intOf]; omega
set_option maxHeartbeats 1000000 in
set_option maxRecDepth 100000 in
theorem LexAt_first (A : Option Addr) (l : List Lx) (n c : Nat) (k : Int) (w : World) (hn : l.length = n) (hm : n ≤ 2097152) (hl : XS w A l) (hbd : ∀ x ∈ l, 0 ≤ x.a ∧ x.a ≤ 2000 ∧ x.s.size ≤ 2000) (h3 : 0 ≤ k) (h4 : k ≤ 2000)
    (i : Nat) (x : Lx) (hx : l[i]? = some x) (hcv : cvB x k = true) (hno : ∀ (j : Nat) (y : Lx), j < i → l[j]? = some y → cvB y k = false) :
    Calls Tryd.prog 11 #[.slice A n c, .int .i64 k] w fun e w' => e = .returned (.int .i64 i) ∧ Below w.heap.size w w' := by
  have hk := BlkL.new w 3 [.int .i64 k]
  have hb0 := (Below.refl w.heap.size w).alloc (Nat.le_refl _) (.cells #[.int .i64 k] 3)
  have HI := Lib.hid (idxCovers_any A l n c ⟨w.heap.size, 0, none⟩ k _ hn hm (hl.below hb0) ((hk.cell 0).trans rfl) hbd h3 h4 i x hx hcv hno)
  have HB := Lib.hid hb0
  clear hk hb0 hn hl hbd hx hcv hno
  go_enter Tryd.func11, Tryd.ntmps11
  go_wp2_with fail
  refine HI.out.mono ?_
  rintro e w2 ⟨rfl, hb2⟩
  have HB2 := Lib.hid (HB.out.trans (hb2.mono HB.out.size))
  clear hb2
  go_wp2_with fail
  go_ret
  exact ⟨rfl, HB2.out⟩
end Go.Proofs.YthjkgbcomjiejaaDoor
