/-
  The laws' helpers over helds, second part: their comparison, what is written into them, what is read back.
-/
import Derived.Test.YtegjgbgnpkncbabKf20
namespace Go.Proofs.Ytegjgbgnpkncbab
open Go.RowKit
set_option linter.unusedVariables false

set_option maxRecDepth 100000 in
theorem eqHeld_same (h : Hd) (w : World) : Calls Try.prog 94 #[.agg #[.int .i64 h.t.k, .string h.t.s, .int .i64 h.t.d, .int .i64 h.t.o, .int .i64 h.lv, .int .i64 h.st, .int .i64 h.sz], .agg #[.int .i64 h.t.k, .string h.t.s, .int .i64 h.t.d, .int .i64 h.t.o, .int .i64 h.lv, .int .i64 h.st, .int .i64 h.sz]] w
    fun e w' => e = .returned (.bool true) ∧ Below w.heap.size w w' := by
  go_enter Try.func94, Try.ntmps94
  go_wp2
  go_ret
  exact ⟨rfl, ((((Below.refl _ _).alloc (Nat.le_refl _) _).alloc (by simp) _).alloc (by simp; omega) _).alloc (by simp; omega) _⟩
def Fourt (w0 : World) (a p b q : Nat) (t : Hd) (w : World) : Prop :=
  w.cell? ⟨a, p, none⟩ = some (.int .i64 t.t.k) ∧ w.cell? ⟨a, p + 1, none⟩ = some (.string t.t.s) ∧ w.cell? ⟨a, p + 2, none⟩ = some (.int .i64 t.t.d) ∧ w.cell? ⟨a, p + 3, none⟩ = some (.int .i64 t.t.o) ∧ w.cell? ⟨a, p + 4, none⟩ = some (.int .i64 t.lv) ∧ w.cell? ⟨a, p + 5, none⟩ = some (.int .i64 t.st) ∧ w.cell? ⟨a, p + 6, none⟩ = some (.int .i64 t.sz) ∧ w.cell? ⟨b, q, none⟩ = some (.int .i64 t.t.k) ∧ w.cell? ⟨b, q + 1, none⟩ = some (.string t.t.s) ∧ w.cell? ⟨b, q + 2, none⟩ = some (.int .i64 t.t.d) ∧ w.cell? ⟨b, q + 3, none⟩ = some (.int .i64 t.t.o) ∧ w.cell? ⟨b, q + 4, none⟩ = some (.int .i64 t.lv) ∧ w.cell? ⟨b, q + 5, none⟩ = some (.int .i64 t.st) ∧ w.cell? ⟨b, q + 6, none⟩ = some (.int .i64 t.sz) ∧ Below w0.heap.size w0 w
theorem Fourt.go {w0 w w' : World} {a p b q : Nat} {t : Hd} (ha : a < w.heap.size) (hb : b < w.heap.size) (h : Fourt w0 a p b q t w) (hw : Below w.heap.size w w') : Fourt w0 a p b q t w' := by
  obtain ⟨h0, h1, h2, h3, h4, h5, h6, g0, g1, g2, g3, g4, g5, g6, h8⟩ := h
  exact ⟨(hw.cell (p := ⟨a, _, none⟩) ha).trans h0, (hw.cell (p := ⟨a, _, none⟩) ha).trans h1, (hw.cell (p := ⟨a, _, none⟩) ha).trans h2, (hw.cell (p := ⟨a, _, none⟩) ha).trans h3, (hw.cell (p := ⟨a, _, none⟩) ha).trans h4, (hw.cell (p := ⟨a, _, none⟩) ha).trans h5, (hw.cell (p := ⟨a, _, none⟩) ha).trans h6,
    (hw.cell (p := ⟨b, _, none⟩) hb).trans g0, (hw.cell (p := ⟨b, _, none⟩) hb).trans g1, (hw.cell (p := ⟨b, _, none⟩) hb).trans g2, (hw.cell (p := ⟨b, _, none⟩) hb).trans g3, (hw.cell (p := ⟨b, _, none⟩) hb).trans g4, (hw.cell (p := ⟨b, _, none⟩) hb).trans g5, (hw.cell (p := ⟨b, _, none⟩) hb).trans g6, h8.trans (hw.mono h8.size)⟩
set_option maxHeartbeats 1000000 in
set_option maxRecDepth 100000 in
theorem eqHeldS_same (A B : Option Addr) (l : List Hd) (n c d : Nat) (w : World) (hn : l.length = n) (hm : n ≤ 2097152) (ha : HS w A l) (hb : HS w B l) :
    Calls Try.prog 63 #[.slice A n c, .slice B n d] w fun e w' => e = .returned (.bool true) ∧ Below w.heap.size w w' := by
  have HN := Lib.hid hn
  clear hn
  go_enter Try.func63, Try.ntmps63
  go_wp2
  go_loopw [5] (fun i wr => ∃ k : Nat, k ≤ n ∧ i = .int .i64 k ∧ Below w.heap.size w wr) (fun i _ => n - (intOf i).toNat)
  case atStart => exact ⟨0, Nat.zero_le _, rfl, Below.refl _ _⟩
  case round =>
    obtain ⟨k, hk, rfl, hbw⟩ := hrel
    by_cases hkl : k < n
    · obtain ⟨t, a, p, ht, rfl, hal, _⟩ := ha.sev (k := k) (by have := HN.out; omega)
      obtain ⟨b, q, rfl, hbl, _⟩ := hb k t ht
      obtain ⟨hal', s1⟩ := HS.get (RS.below ha hbw) ht
      obtain ⟨hbl', s2⟩ := HS.get (RS.below hb hbw) ht
      have S1 := Lib.hid s1
      have S2 := Lib.hid s2
      obtain ⟨c0, c1, c2, c3, c4, c5, c6⟩ := s1
      obtain ⟨d0, d1, d2, d3, d4, d5, d6⟩ := s2
      have HT := Lib.hid ht
      clear ht
      have HB := Lib.hid hbw
      clear hbw
      go_wp2
      go_region_held3 (fun w' => w'.cell? ⟨a, p + k * 7, none⟩ = some (.int .i64 t.t.k) ∧ w'.cell? ⟨a, p + k * 7 + 1, none⟩ = some (.string t.t.s) ∧ w'.cell? ⟨a, p + k * 7 + 2, none⟩ = some (.int .i64 t.t.d) ∧ w'.cell? ⟨a, p + k * 7 + 3, none⟩ = some (.int .i64 t.t.o) ∧ w'.cell? ⟨a, p + k * 7 + 4, none⟩ = some (.int .i64 t.lv) ∧ w'.cell? ⟨a, p + k * 7 + 5, none⟩ = some (.int .i64 t.st) ∧ w'.cell? ⟨a, p + k * 7 + 6, none⟩ = some (.int .i64 t.sz) ∧ w'.cell? ⟨b, q + k * 7, none⟩ = some (.int .i64 t.t.k) ∧ w'.cell? ⟨b, q + k * 7 + 1, none⟩ = some (.string t.t.s) ∧ w'.cell? ⟨b, q + k * 7 + 2, none⟩ = some (.int .i64 t.t.d) ∧ w'.cell? ⟨b, q + k * 7 + 3, none⟩ = some (.int .i64 t.t.o) ∧ w'.cell? ⟨b, q + k * 7 + 4, none⟩ = some (.int .i64 t.lv) ∧ w'.cell? ⟨b, q + k * 7 + 5, none⟩ = some (.int .i64 t.st) ∧ w'.cell? ⟨b, q + k * 7 + 6, none⟩ = some (.int .i64 t.sz) ∧ Below w.heap.size w w')
        (first | exact ⟨c0, c1, c2, c3, c4, c5, c6, d0, d1, d2, d3, d4, d5, d6, HB.out.drew⟩ | exact Fourt.go (w := wr.drew) hal' hbl' ‹_› ‹_›)
        (first | ((with_reducible refine (eqHeld_same t _).mono ?_); rintro e w2 ⟨rfl, hb2⟩))
      go_wp2
      go_roundw
      case rel => exact ⟨k + 1, by omega, by go_num, HB.out.drew.trans (hb2.mono HB.out.size)⟩
      case measure => simp [intOf]; omega
    · go_wp2
      go_ret
      exact ⟨rfl, hbw⟩
def mkH (x : Int) (k : Nat) : Hd := ⟨⟨x + 7 * k, mtx (x + 7 * k + 1), x + 7 * k + 1 + 1, x + 7 * k + 1 + 1 + 1⟩, x + 7 * k + 1 + 1 + 1 + 1, x + 7 * k + 1 + 1 + 1 + 1 + 1, x + 7 * k + 1 + 1 + 1 + 1 + 1 + 1⟩
set_option maxHeartbeats 1000000 in
set_option maxRecDepth 100000 in
theorem markHeldS_blk (g : Nat) (l : List Hd) (rest : List Value) (n c : Nat) (x : Int) (w : World) (hn : l.length = n) (hm : n ≤ 2097152) (hx0 : 0 ≤ x) (hx1 : x ≤ 900000000) (hb : BlkL w g 80 (fl fh l ++ rest)) :
    Calls Try.prog 65 #[.slice (some ⟨g, 0, none⟩) n c, .int .i64 x] w fun e w' => e = .returned (.int .i64 (x + 7 * n)) ∧ BlkL w' g 80 (fl fh (mkF (mkH x) l n) ++ rest) ∧ w.grownBy w' (some g) := by
  have HN := Lib.hid hn
  clear hn
  go_enter Try.func65, Try.ntmps65
  go_wp2
  go_loopw [1, 5] (fun y i wr => ∃ k : Nat, k ≤ n ∧ i = .int .i64 k ∧ y = .int .i64 (x + 7 * k) ∧ BlkL wr g 80 (fl fh (mkF (mkH x) l k) ++ rest) ∧ w.grownBy wr (some g)) (fun _ i _ => n - (intOf i).toNat)
  case atStart => exact ⟨0, Nat.zero_le _, rfl, by simp, by rw [mkF_zero]; exact hb, World.grownBy.refl _ _⟩
  case round =>
    obtain ⟨k, hk, rfl, rfl, hbk, hgr⟩ := hrel
    by_cases hkl : k < n
    · have hkl2 : k < (mkF (mkH x) l k).length := by rw [mkF_length, HN.out]; exact hkl
      obtain ⟨⟨v0, q0⟩, z0⟩ := BlkL.eachR fh_len hbk (k := k) (j := 0) hkl2 (by decide)
      rw [Nat.add_zero] at q0 z0
      have HK := Lib.hid hbk
      have HG := Lib.hid hgr
      clear hbk hgr
      go_wp2_with fail
      refine (markText_any _ _ (by omega)).mono ?_
      rintro e w2 ⟨rfl, hb2⟩
      have hK1 := HK.out.set (k * 7) (.int .i64 (x + 7 * k))
      have hK2 := hK1.below hb2 hK1.lt
      have hG2 := grown_below (grown_self_set HG.out (k * 7) (.int .i64 (x + 7 * k))) hb2
      have hlen : k * 7 + 6 < ((fl fh (mkF (mkH x) l k) ++ rest).set (k * 7) (.int .i64 (x + 7 * k))).length := by rw [List.length_set, List.length_append, fl_length fh_len, mkF_length, HN.out]; omega
      obtain ⟨y1, r1⟩ := hK2.some_ (i := k * 7 + 1) (by omega)
      obtain ⟨y2, r2⟩ := hK2.some_ (i := k * 7 + 2) (by omega)
      obtain ⟨y3, r3⟩ := hK2.some_ (i := k * 7 + 3) (by omega)
      obtain ⟨y4, r4⟩ := hK2.some_ (i := k * 7 + 4) (by omega)
      obtain ⟨y5, r5⟩ := hK2.some_ (i := k * 7 + 5) (by omega)
      obtain ⟨y6, r6⟩ := hK2.some_ (i := k * 7 + 6) (by omega)
      have s1 := hK2.frozen (k * 7 + 1)
      have s2 := hK2.frozen (k * 7 + 2)
      have s3 := hK2.frozen (k * 7 + 3)
      have s4 := hK2.frozen (k * 7 + 4)
      have s5 := hK2.frozen (k * 7 + 5)
      have s6 := hK2.frozen (k * 7 + 6)
      have HK2 := Lib.hid hK2
      have HG2 := Lib.hid hG2
      clear hK1 hK2 hG2 hb2 hlen q0 z0
      go_wp2
      go_roundw
      case rel =>
        have h1 := BlkL.setN ((fh (mkH x k)).tail) _ _ (k * 7 + 1) HK2.out
        have h2 : setN ((fl fh (mkF (mkH x) l k) ++ rest).set (k * 7) (.int .i64 (x + 7 * k))) (k * 7 + 1) (fh (mkH x k)).tail = fl fh ((mkF (mkH x) l k).set k (mkH x k)) ++ rest := by
          have e1 : setN ((fl fh (mkF (mkH x) l k) ++ rest).set (k * 7) (.int .i64 (x + 7 * k))) (k * 7 + 1) (fh (mkH x k)).tail = setN (fl fh (mkF (mkH x) l k) ++ rest) (k * 7) (fh (mkH x k)) := rfl
          rw [e1, setN_app _ _ _ _ (by rw [fl_length fh_len, fh_len]; omega), fl_set fh_len _ hkl2]
        rw [h2, mkF_set _ _ (by rw [HN.out]; exact hkl)] at h1
        exact ⟨k + 1, by omega, by go_num, by go_num, h1, grown_setN ((fh (mkH x k)).tail) _ _ HG2.out⟩
      case measure => simp [intOf]; omega
    · have HK := Lib.hid hbk
      have HG := Lib.hid hgr
      clear hbk hgr
      have HKN := Lib.hid (show k = n by omega)
      go_wp2
      go_ret
      have e := HKN.out
      subst e
      exact ⟨rfl, HK.out, HG.out⟩
set_option maxHeartbeats 2000000 in
set_option maxRecDepth 100000 in
theorem heldHeldS_any (A : Option Addr) (l : List Hd) (n c : Nat) (x : Int) (w : World) (hn : l.length = n) (hm : n ≤ 2097152) (hx0 : 0 ≤ x) (hx1 : x ≤ 900000000) (ha : HS w A l) (hv : ∀ i, i < n → l[i]? = some (mkH x i)) :
    Calls Try.prog 67 #[.slice A n c, .int .i64 x] w fun e w' => e = .returned (.int .i64 (x + 7 * n)) ∧ Below w.heap.size w w' := by
  have HN := Lib.hid hn
  have HV := Lib.hid hv
  clear hn hv
  go_enter Try.func67, Try.ntmps67
  go_wp2
  go_loopw [1, 5] (fun y i wr => ∃ k : Nat, k ≤ n ∧ i = .int .i64 k ∧ y = .int .i64 (x + 7 * k) ∧ Below w.heap.size w wr) (fun _ i _ => n - (intOf i).toNat)
  case atStart => exact ⟨0, Nat.zero_le _, rfl, by simp, Below.refl _ _⟩
  case round =>
    obtain ⟨k, hk, rfl, rfl, hb⟩ := hrel
    by_cases hkl : k < n
    · obtain ⟨t, b, o, ht, rfl, hbl, _⟩ := ha.sev (k := k) (by have := HN.out; omega)
      have e : t = mkH x k := by have := HV.out k hkl; rw [this] at ht; exact (Option.some.inj ht).symm
      subst e
      obtain ⟨hbl', c0, c1, c2, c3, c4, c5, c6⟩ := HS.get (RS.below ha hb) ht
      simp only [mkH] at c0 c1 c2 c3 c4 c5 c6
      have HB := Lib.hid hb
      clear hb ht
      have hw : IntKind.i64.wrap (x + 7 * (k : Int) + 1) = x + 7 * (k : Int) + 1 := IntWalk.i64_in _ (by omega)
      go_wp2
      go_region_held3 (fun w' => w'.cell? ⟨b, o + k * 7 + 1, none⟩ = some (.string (mtx (x + 7 * k + 1))) ∧ w'.cell? ⟨b, o + k * 7 + 2, none⟩ = some (.int .i64 (x + 7 * k + 1 + 1)) ∧ w'.cell? ⟨b, o + k * 7 + 3, none⟩ = some (.int .i64 (x + 7 * k + 1 + 1 + 1)) ∧ w'.cell? ⟨b, o + k * 7 + 4, none⟩ = some (.int .i64 (x + 7 * k + 1 + 1 + 1 + 1)) ∧ w'.cell? ⟨b, o + k * 7 + 5, none⟩ = some (.int .i64 (x + 7 * k + 1 + 1 + 1 + 1 + 1)) ∧ w'.cell? ⟨b, o + k * 7 + 6, none⟩ = some (.int .i64 (x + 7 * k + 1 + 1 + 1 + 1 + 1 + 1)) ∧ Below w.heap.size w w' ∧ b < w'.heap.size)
        (first | exact ⟨c1, c2, c3, c4, c5, c6, HB.out.drew, hbl'⟩ | exact ⟨(hb2.cell (p := ⟨b, _, none⟩) hbl').trans c1, (hb2.cell (p := ⟨b, _, none⟩) hbl').trans c2, (hb2.cell (p := ⟨b, _, none⟩) hbl').trans c3, (hb2.cell (p := ⟨b, _, none⟩) hbl').trans c4, (hb2.cell (p := ⟨b, _, none⟩) hbl').trans c5, (hb2.cell (p := ⟨b, _, none⟩) hbl').trans c6, HB.out.drew.trans (hb2.mono HB.out.size), Nat.lt_of_lt_of_le hbl' hb2.size⟩)
        (first | ((with_reducible refine (markText_any _ _ (by omega)).mono ?_); rintro e w2 ⟨rfl, hb2⟩))
      rename_i hheld
      obtain ⟨r1, r2, r3, r4, r5, r6, r7, r8⟩ := hheld
      have HB2 := Lib.hid r7
      clear r7 hb2 hw r1 c0 c1 c2 c3 c4 c5 c6
      go_wp2
      go_roundw
      case rel => exact ⟨k + 1, by omega, by go_num, by go_num, HB2.out⟩
      case measure => simp [intOf]; omega
    · have HB := Lib.hid hb
      clear hb
      have HKN := Lib.hid (show k = n by omega)
      go_wp2
      go_ret
      have e := HKN.out
      subst e
      exact ⟨rfl, HB.out⟩
end Go.Proofs.Ytegjgbgnpkncbab
