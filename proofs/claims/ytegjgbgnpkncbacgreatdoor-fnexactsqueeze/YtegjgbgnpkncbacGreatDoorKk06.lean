/-
  Words for slices of Node, and the laws' helpers over them (made by gen_row.py).
-/
import Derived.Test.YtegjgbgnpkncbacGreatDoorKk03
import Derived.Test.YtegjgbgnpkncbacGreatDoorKk04
import Derived.Test.YtegjgbgnpkncbacGreatDoorKk05
namespace Go.Proofs.YtegjgbgnpkncbacGreatDoor
open Go.ChangeShapes Go.WideShapes Go.ChangeAt Go.RowKit Go.Joins Go.Deep
set_option linter.unusedVariables false

structure Nd where
  d : Int
  k : Int
  s : ByteArray
def fn (x : Nd) : List Value := [.int .i64 x.d, .int .i64 x.k, .string x.s]
theorem fn_len (x : Nd) : (fn x).length = 3 := rfl
def NS (w : World) (A : Option Addr) (l : List Nd) : Prop := RS fn 3 w A l
theorem NS.all {w : World} {A : Option Addr} {l : List Nd} (h : NS w A l) {k : Nat} (hk : k < l.length) : ∃ m b o, l[k]? = some m ∧ A = some ⟨b, o, none⟩ ∧ b < w.heap.size ∧
    w.cell? ⟨b, o + k * 3, none⟩ = some (.int .i64 m.d) ∧ w.cell? ⟨b, o + k * 3 + 1, none⟩ = some (.int .i64 m.k) ∧ w.cell? ⟨b, o + k * 3 + 2, none⟩ = some (.string m.s) := by
  obtain ⟨m, b, o, hm, ha, hb, hc⟩ := RS.at h hk
  exact ⟨m, b, o, hm, ha, hb, hc 0 (by decide), hc 1 (by decide), hc 2 (by decide)⟩
theorem NS.get {w : World} {b o : Nat} {l : List Nd} (h : NS w (some ⟨b, o, none⟩) l) {k : Nat} {m : Nd} (hm : l[k]? = some m) : b < w.heap.size ∧
    w.cell? ⟨b, o + k * 3, none⟩ = some (.int .i64 m.d) ∧ w.cell? ⟨b, o + k * 3 + 1, none⟩ = some (.int .i64 m.k) ∧ w.cell? ⟨b, o + k * 3 + 2, none⟩ = some (.string m.s) := by
  obtain ⟨hb, hc⟩ := RS.get h hm
  exact ⟨hb, hc 0 (by decide), hc 1 (by decide), hc 2 (by decide)⟩
theorem NS.below {w w' : World} {A : Option Addr} {l : List Nd} (h : NS w A l) (hb : Below w.heap.size w w') : NS w' A l := RS.below h hb
theorem NS.of_blk {w : World} {g : Nat} {ty : TypeId} {l : List Nd} (h : BlkL w g ty (fl fn l)) : NS w (some ⟨g, 0, none⟩) l := RS.of_blk fn_len h
theorem NS.old {w0 w w' : World} {A : Option Addr} {l : List Nd} {row : Option Nat} (h : NS w A l) (h0 : NS w0 A l) (hz : w0.heap.size ≤ w.heap.size) (hg : w.grownBy w' row) (hr : ∀ g, row = some g → w0.heap.size ≤ g) : NS w' A l := by
  intro i t ht
  obtain ⟨b, o, rfl, hb, _⟩ := h0 i t ht
  obtain ⟨hb', hc⟩ := RS.get h ht
  refine ⟨b, o, rfl, Nat.lt_of_lt_of_le hb' hg.size, fun j hj => (World.cell?_of_block (hg.block b hb' ?_)).trans (hc j hj)⟩
  intro e
  have := hr b e.symm
  omega
def tkn (x : Nd) : Tk := ⟨0, x.s, 0, 0⟩
def tns (l : List Nd) : List Tk := l.map tkn
theorem tns_at {l : List Nd} {i : Nat} {h : Nd} (e : l[i]? = some h) : (tns l)[i]? = some (tkn h) := by simp [tns, e]
theorem tns_length (l : List Nd) : (tns l).length = l.length := by simp [tns]

def zeroNd : Nd := ⟨0, 0, ByteArray.empty⟩
theorem infoNd : (Tryz.prog.info? 38).map (fun i => (i.zero, i.size, i.bytes)) = some (some (.agg #[.int .i64 0, .int .i64 0, .string ByteArray.empty]), 3, 32) := by kernel_rfl
theorem makeNd (n : Nat) (hn : n ≤ 2097152) (w : World) : (Instr.makeSlice 22 (.int .i64 n) (.int .i64 n)).run Tryz.prog w =
    .ok (.slice (some ⟨w.heap.size, 0, none⟩) n n) (w.alloc (.cells (fl fn (List.replicate n zeroNd)).toArray 38)) := by
  obtain ⟨i, hi, hz, hs, hb⟩ := info_parts infoNd
  have h := run_make (P := Tryz.prog) w 22 38 i _ Tryz.underlying22 hi hz .i64 .i64 n n (by omega) (by omega) (by rw [hb]; omega) (by omega)
  rw [h, fl_rep fn_len (by decide), hs]
  simp [Value.cells, fn, zeroNd]
def ToNd (w : World) (l : List Nd) (e : Ending) (w' : World) : Prop :=
  e = .returned (.slice (some ⟨w.heap.size, 0, none⟩) l.length l.length) ∧ BlkL w' w.heap.size 38 (fl fn l) ∧ Below w.heap.size w w'
set_option maxRecDepth 100000 in
theorem eqNode_same (x : Nd) (w : World) : Calls Tryz.prog 22 #[.agg #[.int .i64 x.d, .int .i64 x.k, .string x.s], .agg #[.int .i64 x.d, .int .i64 x.k, .string x.s]] w
    fun e w' => e = .returned (.bool true) ∧ Below w.heap.size w w' := by
  go_enter Tryz.func22, Tryz.ntmps22
  go_wp2
  go_ret
  exact ⟨rfl, ((Below.refl _ _).alloc (Nat.le_refl _) _).alloc (by simp) _⟩
def BothNd (w0 : World) (a p b q : Nat) (t : Nd) (w : World) : Prop :=
  w.cell? ⟨a, p, none⟩ = some (.int .i64 t.d) ∧ w.cell? ⟨a, p + 1, none⟩ = some (.int .i64 t.k) ∧ w.cell? ⟨a, p + 2, none⟩ = some (.string t.s) ∧ w.cell? ⟨b, q, none⟩ = some (.int .i64 t.d) ∧ w.cell? ⟨b, q + 1, none⟩ = some (.int .i64 t.k) ∧ w.cell? ⟨b, q + 2, none⟩ = some (.string t.s) ∧ Below w0.heap.size w0 w
theorem BothNd.go {w0 w w' : World} {a p b q : Nat} {t : Nd} (ha : a < w.heap.size) (hb : b < w.heap.size) (h : BothNd w0 a p b q t w) (hw : Below w.heap.size w w') : BothNd w0 a p b q t w' := by
  obtain ⟨h0, h1, h2, g0, g1, g2, h8⟩ := h
  exact ⟨(hw.cell (p := ⟨a, _, none⟩) ha).trans h0, (hw.cell (p := ⟨a, _, none⟩) ha).trans h1, (hw.cell (p := ⟨a, _, none⟩) ha).trans h2, (hw.cell (p := ⟨b, _, none⟩) hb).trans g0, (hw.cell (p := ⟨b, _, none⟩) hb).trans g1, (hw.cell (p := ⟨b, _, none⟩) hb).trans g2, h8.trans (hw.mono h8.size)⟩
set_option maxHeartbeats 1000000 in
set_option maxRecDepth 100000 in
theorem eqNodeS_same (A B : Option Addr) (l : List Nd) (n c d : Nat) (w : World) (hn : l.length = n) (hm : n ≤ 2097152) (ha : NS w A l) (hb : NS w B l) :
    Calls Tryz.prog 8 #[.slice A n c, .slice B n d] w fun e w' => e = .returned (.bool true) ∧ Below w.heap.size w w' := by
  have HN := Lib.hid hn
  clear hn
  go_enter Tryz.func8, Tryz.ntmps8
  go_wp2
  go_loopw [5] (fun i wr => ∃ k : Nat, k ≤ n ∧ i = .int .i64 k ∧ Below w.heap.size w wr) (fun i _ => n - (intOf i).toNat)
  case atStart => exact ⟨0, Nat.zero_le _, rfl, Below.refl _ _⟩
  case round =>
    obtain ⟨k, hk, rfl, hbw⟩ := hrel
    by_cases hkl : k < n
    · obtain ⟨t, a, p, ht, rfl, hal, _⟩ := ha.all (k := k) (by have := HN.out; omega)
      obtain ⟨b, q, rfl, hbl, _⟩ := hb k t ht
      obtain ⟨hal', c0, c1, c2⟩ := NS.get (RS.below ha hbw) ht
      obtain ⟨hbl', d0, d1, d2⟩ := NS.get (RS.below hb hbw) ht
      have HT := Lib.hid ht
      clear ht
      have HB := Lib.hid hbw
      clear hbw
      go_wp2
      go_region_held3 (fun w' => w'.cell? ⟨a, p + k * 3, none⟩ = some (.int .i64 t.d) ∧ w'.cell? ⟨a, p + k * 3 + 1, none⟩ = some (.int .i64 t.k) ∧ w'.cell? ⟨a, p + k * 3 + 2, none⟩ = some (.string t.s) ∧ w'.cell? ⟨b, q + k * 3, none⟩ = some (.int .i64 t.d) ∧ w'.cell? ⟨b, q + k * 3 + 1, none⟩ = some (.int .i64 t.k) ∧ w'.cell? ⟨b, q + k * 3 + 2, none⟩ = some (.string t.s) ∧ Below w.heap.size w w')
        (first | exact ⟨c0, c1, c2, d0, d1, d2, HB.out.drew⟩ | exact BothNd.go (w := wr.drew) hal' hbl' ‹_› ‹_›)
        (first | ((with_reducible refine (eqNode_same t _).mono ?_); rintro e w2 ⟨rfl, hb2⟩))
      go_wp2
      go_roundw
      case rel => exact ⟨k + 1, by omega, by go_num, HB.out.drew.trans (hb2.mono HB.out.size)⟩
      case measure => simp [intOf]; omega
    · go_wp2
      go_ret
      exact ⟨rfl, hbw⟩
def mkNd (x : Int) (k : Nat) : Nd := ⟨x + 3 * k, x + 3 * k + 1, mtx (x + 3 * k + 1 + 1)⟩
set_option maxHeartbeats 1000000 in
set_option maxRecDepth 100000 in
theorem markNodeS_blk (g : Nat) (l : List Nd) (rest : List Value) (n c : Nat) (x : Int) (w : World) (hn : l.length = n) (hm : n ≤ 2097152) (hx0 : 0 ≤ x) (hx1 : x ≤ 900000000) (hb : BlkL w g 38 (fl fn l ++ rest)) :
    Calls Tryz.prog 9 #[.slice (some ⟨g, 0, none⟩) n c, .int .i64 x] w fun e w' => e = .returned (.int .i64 (x + 3 * n)) ∧ BlkL w' g 38 (fl fn (mkF (mkNd x) l n) ++ rest) ∧ w.grownBy w' (some g) := by
  have HN := Lib.hid hn
  clear hn
  go_enter Tryz.func9, Tryz.ntmps9
  go_wp2
  go_loopw [1, 5] (fun y i wr => ∃ k : Nat, k ≤ n ∧ i = .int .i64 k ∧ y = .int .i64 (x + 3 * k) ∧ BlkL wr g 38 (fl fn (mkF (mkNd x) l k) ++ rest) ∧ w.grownBy wr (some g)) (fun _ i _ => n - (intOf i).toNat)
  case atStart => exact ⟨0, Nat.zero_le _, rfl, by simp, by rw [mkF_zero]; exact hb, World.grownBy.refl _ _⟩
  case round =>
    obtain ⟨k, hk, rfl, rfl, hbk, hgr⟩ := hrel
    by_cases hkl : k < n
    · have hkl2 : k < (mkF (mkNd x) l k).length := by rw [mkF_length, HN.out]; exact hkl
      obtain ⟨⟨v0, q0⟩, z0⟩ := BlkL.eachR fn_len hbk (k := k) (j := 0) hkl2 (by decide)
      obtain ⟨⟨v1, q1⟩, z1⟩ := BlkL.eachR fn_len hbk (k := k) (j := 1) hkl2 (by decide)
      rw [Nat.add_zero] at q0 z0
      have HK := Lib.hid hbk
      have HG := Lib.hid hgr
      clear hbk hgr
      go_wp2_with fail
      refine (markText_any _ _ (by omega)).mono ?_
      rintro e w2 ⟨rfl, hb2⟩
      have hK1 := BlkL.setN [.int .i64 (x + 3 * k), .int .i64 (x + 3 * k + 1)] _ _ (k * 3) HK.out
      have hK2 := hK1.below hb2 hK1.lt
      have hG2 := grown_below (grown_setN [.int .i64 (x + 3 * k), .int .i64 (x + 3 * k + 1)] _ (k * 3) HG.out) hb2
      have hlen : k * 3 + 2 < (setN (fl fn (mkF (mkNd x) l k) ++ rest) (k * 3) [.int .i64 (x + 3 * k), .int .i64 (x + 3 * k + 1)]).length := by
        simp only [setN, List.length_set]
        rw [List.length_append, fl_length fn_len, mkF_length, HN.out]; omega
      obtain ⟨y2, r2⟩ := hK2.some_ (i := k * 3 + 2) (by omega)
      have s2 := hK2.frozen (k * 3 + 2)
      have HK2 := Lib.hid hK2
      have HG2 := Lib.hid hG2
      clear hK1 hK2 hG2 hb2 hlen q0 z0 q1 z1
      go_wp2
      go_roundw
      case rel =>
        have h1 := BlkL.setN ((fn (mkNd x k)).drop 2) _ _ (k * 3 + 2) HK2.out
        have h2 : setN (setN (fl fn (mkF (mkNd x) l k) ++ rest) (k * 3) [.int .i64 (x + 3 * k), .int .i64 (x + 3 * k + 1)]) (k * 3 + 2) ((fn (mkNd x k)).drop 2) = fl fn ((mkF (mkNd x) l k).set k (mkNd x k)) ++ rest := by
          have e1 : setN (setN (fl fn (mkF (mkNd x) l k) ++ rest) (k * 3) [.int .i64 (x + 3 * k), .int .i64 (x + 3 * k + 1)]) (k * 3 + 2) ((fn (mkNd x k)).drop 2) = setN (fl fn (mkF (mkNd x) l k) ++ rest) (k * 3) (fn (mkNd x k)) := rfl
          rw [e1, setN_app _ _ _ _ (by rw [fl_length fn_len, fn_len]; omega), fl_set fn_len _ hkl2]
        rw [h2, mkF_set _ _ (by rw [HN.out]; exact hkl)] at h1
        exact ⟨k + 1, by omega, by go_num, by go_num, h1, grown_setN ((fn (mkNd x k)).drop 2) _ _ HG2.out⟩
      case measure => simp [intOf]; omega
    · have HK := Lib.hid hbk
      have HG := Lib.hid hgr
      clear hbk hgr
      have HKN := Lib.hid (show k = n by omega)
      go_wp2
      go_ret
      have e := HKN.out
      subst e
      exact ⟨rfl, HK.out, HG.out⟩
set_option maxHeartbeats 2000000 in
set_option maxRecDepth 100000 in
theorem heldNodeS_any (A : Option Addr) (l : List Nd) (n c : Nat) (x : Int) (w : World) (hn : l.length = n) (hm : n ≤ 2097152) (hx0 : 0 ≤ x) (hx1 : x ≤ 900000000) (ha : NS w A l) (hv : ∀ i, i < n → l[i]? = some (mkNd x i)) :
    Calls Tryz.prog 10 #[.slice A n c, .int .i64 x] w fun e w' => e = .returned (.int .i64 (x + 3 * n)) ∧ Below w.heap.size w w' := by
  have HN := Lib.hid hn
  have HV := Lib.hid hv
  clear hn hv
  go_enter Tryz.func10, Tryz.ntmps10
  go_wp2
  go_loopw [1, 5] (fun y i wr => ∃ k : Nat, k ≤ n ∧ i = .int .i64 k ∧ y = .int .i64 (x + 3 * k) ∧ Below w.heap.size w wr) (fun _ i _ => n - (intOf i).toNat)
  case atStart => exact ⟨0, Nat.zero_le _, rfl, by simp, Below.refl _ _⟩
  case round =>
    obtain ⟨k, hk, rfl, rfl, hb⟩ := hrel
    by_cases hkl : k < n
    · obtain ⟨t, b, o, ht, rfl, hbl, _⟩ := ha.all (k := k) (by have := HN.out; omega)
      have e : t = mkNd x k := by have := HV.out k hkl; rw [this] at ht; exact (Option.some.inj ht).symm
      subst e
      obtain ⟨hbl', c0, c1, c2⟩ := NS.get (RS.below ha hb) ht
      simp only [mkNd] at c0 c1 c2
      have HB := Lib.hid hb
      clear hb ht
      have hw : IntKind.i64.wrap (x + 3 * (k : Int) + 1 + 1) = x + 3 * (k : Int) + 1 + 1 := IntWalk.i64_in _ (by omega)
      go_wp2
      go_region_held3 (fun w' => w'.cell? ⟨b, o + k * 3 + 2, none⟩ = some (.string (mtx (x + 3 * k + 1 + 1))) ∧ Below w.heap.size w w' ∧ b < w'.heap.size)
        (first | exact ⟨c2, HB.out.drew, hbl'⟩ | exact ⟨(hb2.cell (p := ⟨b, _, none⟩) hbl').trans c2, HB.out.drew.trans (hb2.mono HB.out.size), Nat.lt_of_lt_of_le hbl' hb2.size⟩)
        (first | ((with_reducible refine (markText_any _ _ (by omega)).mono ?_); rintro e w2 ⟨rfl, hb2⟩))
      rename_i hheld
      obtain ⟨r2, r7, r8⟩ := hheld
      have HB2 := Lib.hid r7
      clear r7 hb2 hw r2 c0 c1 c2
      go_wp2
      go_roundw
      case rel => exact ⟨k + 1, by omega, by go_num, by go_num, HB2.out⟩
      case measure => simp [intOf]; omega
    · have HB := Lib.hid hb
      clear hb
      have HKN := Lib.hid (show k = n by omega)
      go_wp2
      go_ret
      have e := HKN.out
      subst e
      exact ⟨rfl, HB.out⟩
end Go.Proofs.YtegjgbgnpkncbacGreatDoor
