/-
  The laws' helpers over marks: their comparison, what is written into them, what is read back.
-/
import Derived.Test.YtegjgbgnpkncbabKf18
namespace Go.Proofs.Ytegjgbgnpkncbab
open Go.RowKit
set_option linter.unusedVariables false

theorem eqMark_same (a b : Int) (w : World) : Calls Try.prog 93 #[.agg #[.int .i64 a, .int .i64 b], .agg #[.int .i64 a, .int .i64 b]] w fun e w' => e = .returned (.bool true) ∧ Below w.heap.size w w' := by
  go_enter Try.func93, Try.ntmps93
  go_wp2
  go_ret
  exact ⟨rfl, ((Below.refl _ _).alloc (Nat.le_refl _) _).alloc (by simp) _⟩
def Four (w0 : World) (a p b q : Nat) (m : Int × Int) (w : World) : Prop :=
  w.cell? ⟨a, p, none⟩ = some (.int .i64 m.1) ∧ w.cell? ⟨a, p + 1, none⟩ = some (.int .i64 m.2) ∧ w.cell? ⟨b, q, none⟩ = some (.int .i64 m.1) ∧ w.cell? ⟨b, q + 1, none⟩ = some (.int .i64 m.2) ∧ Below w0.heap.size w0 w
theorem Four.go {w0 w w' : World} {a p b q : Nat} {m : Int × Int} (ha : a < w.heap.size) (hb : b < w.heap.size) (h : Four w0 a p b q m w) (hw : Below w.heap.size w w') : Four w0 a p b q m w' := by
  obtain ⟨h0, h1, h2, h3, h8⟩ := h
  exact ⟨(hw.cell (p := ⟨a, _, none⟩) ha).trans h0, (hw.cell (p := ⟨a, _, none⟩) ha).trans h1, (hw.cell (p := ⟨b, _, none⟩) hb).trans h2, (hw.cell (p := ⟨b, _, none⟩) hb).trans h3, h8.trans (hw.mono h8.size)⟩
set_option maxHeartbeats 400000 in
set_option maxRecDepth 100000 in
theorem eqMarkS_same (A B : Option Addr) (l : List (Int × Int)) (n c d : Nat) (w : World) (hn : l.length = n) (hm : n ≤ 2097152) (ha : MS w A l) (hb : MS w B l) :
    Calls Try.prog 62 #[.slice A n c, .slice B n d] w fun e w' => e = .returned (.bool true) ∧ Below w.heap.size w w' := by
  have HN := Lib.hid hn
  clear hn
  go_enter Try.func62, Try.ntmps62
  go_wp2
  go_loopw [5] (fun i wr => ∃ k : Nat, k ≤ n ∧ i = .int .i64 k ∧ Below w.heap.size w wr) (fun i _ => n - (intOf i).toNat)
  case atStart => exact ⟨0, Nat.zero_le _, rfl, Below.refl _ _⟩
  case round =>
    obtain ⟨k, hk, rfl, hbw⟩ := hrel
    by_cases hkl : k < n
    · obtain ⟨t, a, p, ht, rfl, hal, _⟩ := ha.two (k := k) (by have := HN.out; omega)
      obtain ⟨b, q, rfl, hbl, _⟩ := hb k t ht
      obtain ⟨hal', c0, c1⟩ := MS.get (RS.below ha hbw) ht
      obtain ⟨hbl', d0, d1⟩ := MS.get (RS.below hb hbw) ht
      have HT := Lib.hid ht
      clear ht
      have HB := Lib.hid hbw
      clear hbw
      go_wp2
      go_region_held3 (fun w' => w'.cell? ⟨a, p + k * 2, none⟩ = some (.int .i64 t.1) ∧ w'.cell? ⟨a, p + k * 2 + 1, none⟩ = some (.int .i64 t.2) ∧ w'.cell? ⟨b, q + k * 2, none⟩ = some (.int .i64 t.1) ∧ w'.cell? ⟨b, q + k * 2 + 1, none⟩ = some (.int .i64 t.2) ∧ Below w.heap.size w w')
        (first | exact ⟨c0, c1, d0, d1, HB.out.drew⟩ | exact Four.go (w := wr.drew) hal' hbl' ‹_› ‹_›)
        (first | ((with_reducible refine (eqMark_same _ _ _).mono ?_); rintro e w2 ⟨rfl, hb2⟩))
      go_wp2
      go_roundw
      case rel => exact ⟨k + 1, by omega, by go_num, HB.out.drew.trans (hb2.mono HB.out.size)⟩
      case measure => simp [intOf]; omega
    · go_wp2
      go_ret
      exact ⟨rfl, hbw⟩
def mkM (x : Int) (k : Nat) : Int × Int := (x + 2 * k, x + 2 * k + 1)
set_option maxHeartbeats 400000 in
set_option maxRecDepth 100000 in
theorem markMarkS_blk (g : Nat) (l : List (Int × Int)) (rest : List Value) (n c : Nat) (x : Int) (w : World) (hn : l.length = n) (hm : n ≤ 2097152) (hx0 : 0 ≤ x) (hx1 : x ≤ 900000000) (hb : BlkL w g 121 (fl fm l ++ rest)) :
    Calls Try.prog 64 #[.slice (some ⟨g, 0, none⟩) n c, .int .i64 x] w fun e w' => e = .returned (.int .i64 (x + 2 * n)) ∧ BlkL w' g 121 (fl fm (mkF (mkM x) l n) ++ rest) ∧ w.grownBy w' (some g) := by
  have HN := Lib.hid hn
  clear hn
  go_enter Try.func64, Try.ntmps64
  go_wp2
  go_loopw [1, 5] (fun y i wr => ∃ k : Nat, k ≤ n ∧ i = .int .i64 k ∧ y = .int .i64 (x + 2 * k) ∧ BlkL wr g 121 (fl fm (mkF (mkM x) l k) ++ rest) ∧ w.grownBy wr (some g)) (fun _ i _ => n - (intOf i).toNat)
  case atStart => exact ⟨0, Nat.zero_le _, rfl, by simp, by rw [mkF_zero]; exact hb, World.grownBy.refl _ _⟩
  case round =>
    obtain ⟨k, hk, rfl, rfl, hbk, hgr⟩ := hrel
    by_cases hkl : k < n
    · have hkl2 : k < (mkF (mkM x) l k).length := by rw [mkF_length, HN.out]; exact hkl
      obtain ⟨⟨v0, q0⟩, z0⟩ := BlkL.eachR fm_len hbk (k := k) (j := 0) hkl2 (by decide)
      obtain ⟨⟨v1, q1⟩, z1⟩ := BlkL.eachR fm_len hbk (k := k) (j := 1) hkl2 (by decide)
      rw [Nat.add_zero] at q0 z0
      have HK := Lib.hid hbk
      have HG := Lib.hid hgr
      clear hbk hgr
      go_wp2
      go_roundw
      case rel =>
        have hp := BlkL.putR fm_len HK.out hkl2 (mkM x k)
        rw [mkF_set _ _ (by rw [HN.out]; exact hkl)] at hp
        exact ⟨k + 1, by omega, by go_num, by go_num, hp, grown_setN (fm (mkM x k)) _ _ HG.out⟩
      case measure => simp [intOf]; omega
    · have HK := Lib.hid hbk
      have HG := Lib.hid hgr
      clear hbk hgr
      have HKN := Lib.hid (show k = n by omega)
      go_wp2
      go_ret
      have e := HKN.out
      subst e
      exact ⟨rfl, HK.out, HG.out⟩
set_option maxHeartbeats 400000 in
set_option maxRecDepth 100000 in
theorem heldMarkS_any (A : Option Addr) (l : List (Int × Int)) (n c : Nat) (x : Int) (w : World) (hn : l.length = n) (hm : n ≤ 2097152) (hx0 : 0 ≤ x) (hx1 : x ≤ 900000000) (ha : MS w A l) (hv : ∀ i, i < n → l[i]? = some (mkM x i)) :
    Calls Try.prog 66 #[.slice A n c, .int .i64 x] w fun e w' => e = .returned (.int .i64 (x + 2 * n)) ∧ Below w.heap.size w w' := by
  have HN := Lib.hid hn
  have HV := Lib.hid hv
  clear hn hv
  go_enter Try.func66, Try.ntmps66
  go_wp2
  go_loopw [1, 5] (fun y i wr => ∃ k : Nat, k ≤ n ∧ i = .int .i64 k ∧ y = .int .i64 (x + 2 * k) ∧ Below w.heap.size w wr) (fun _ i _ => n - (intOf i).toNat)
  case atStart => exact ⟨0, Nat.zero_le _, rfl, by simp, Below.refl _ _⟩
  case round =>
    obtain ⟨k, hk, rfl, rfl, hb⟩ := hrel
    by_cases hkl : k < n
    · obtain ⟨t, b, o, ht, rfl, hbl, _⟩ := ha.two (k := k) (by have := HN.out; omega)
      have e : t = mkM x k := by have := HV.out k hkl; rw [this] at ht; exact (Option.some.inj ht).symm
      subst e
      obtain ⟨hbl', c0, c1⟩ := MS.get (RS.below ha hb) ht
      simp only [mkM] at c0 c1
      have HB := Lib.hid hb
      clear hb ht
      go_wp2
      go_roundw
      case rel => exact ⟨k + 1, by omega, by go_num, by go_num, HB.out⟩
      case measure => simp [intOf]; omega
    · have HB := Lib.hid hb
      clear hb
      have HKN := Lib.hid (show k = n by omega)
      go_wp2
      go_ret
      have e := HKN.out
      subst e
      exact ⟨rfl, HB.out⟩
end Go.Proofs.Ytegjgbgnpkncbab
