/-
  Words for slices of Lexeme, and the laws' helpers over them (made by gen_row.py).
-/
import Derived.Test.YthjkgbcomjiejaaGreatDoorKk15
import Derived.Test.YthjkgbcomjiejaaGreatDoorKk17
import Derived.WalkMore
import Derived.ScopeJumps
import Derived.Test.YthjkgbcomjiejaaGreatDoorKk09
import Derived.Test.YthjkgbcomjiejaaGreatDoorKk04
import Derived.Test.YthjkgbcomjiejaaGreatDoorKk10
namespace Go.Proofs.YthjkgbcomjiejaaGreatDoor
open Go.RowKit
set_option linter.unusedVariables false

/-- where reading at place a fails, cnt others being there. -/
def rdO (s : ByteArray) (a cnt : Nat) : Option Nat := if cnt = 200 then some a else (plO (fun i => bt s (a + i)) (s.size - a)).map (a + ·)
def rdZ (s : ByteArray) (a : Nat) : Nat := szO (fun i => bt s (a + i)) (s.size - a)
def RdP (s : ByteArray) (a cnt : Nat) (w : World) (e : Ending) (w' : World) : Prop :=
  ((∃ p : Nat, rdO s a cnt = some p ∧ e = .returned (.tuple #[.agg #[.int .i64 0, .string ⟨#[]⟩, .int .i64 0], .iface 113 (.agg #[.int .i64 p])])) ∨
   (rdO s a cnt = none ∧ rdZ s a ≤ 40 ∧ a + rdZ s a ≤ s.size ∧ e = .returned (.tuple #[.agg #[.int .i64 (kdI (bt s a)), .string (s.extract a (a + rdZ s a)), .int .i64 a], .nilIface]))) ∧ Below w.heap.size w w'
/-- what holds at the end by goto. -/
def AtF (s : ByteArray) (a cnt : Nat) (w : World) (a' : Act) (w' : World) : Prop :=
  ∃ (f p : Nat) (u3 u4 u5 u7 u8 u9 u10 u12 u13 u14 u15 u16 u17 u18 u19 u20 u21 u22 u23 u24 u25 u26 u27 u28 u29 u30 u31 u32 u33 u34 u35 u36 u37 u38 u39 u40 u41 u42 u43 : Value), a' = { tmps := #[.string s, .int .i64 a, .int .i64 cnt, u3, u4, u5, .pointer (some ⟨w.heap.size, 0, none⟩), u7, u8, u9, u10, .pointer (some ⟨f, 0, none⟩), u12, u13, u14, u15, u16, u17, u18, u19, u20, u21, u22, u23, u24, u25, u26, u27, u28, u29, u30, u31, u32, u33, u34, u35, u36, u37, u38, u39, u40, u41, u42, u43], defers := [] } ∧ rdO s a cnt = some p ∧ BlkL w' w.heap.size 51 [.int .i64 0, .string ⟨#[]⟩, .int .i64 0] ∧ BlkL w' f 113 [.int .i64 p] ∧ Below w.heap.size w w' ∧ w.heap.size < f
set_option maxHeartbeats 1000000 in
set_option maxRecDepth 100000 in
theorem readLexeme_any (s : ByteArray) (a cnt : Nat) (w : World) (hs : s.size ≤ 1048576) (ha : a < s.size) (hc : cnt ≤ 1048576) :
    Calls Tryz.prog 96 #[.string s, .int .i64 a, .int .i64 cnt] w (RdP s a cnt w) := by
  go_enter Tryz.func96, Tryz.ntmps96
  go_wp2_with fail
  refine wp_scope_jumps 0 (AtF s a cnt w) (fun _ _ => 0) rfl ?_ ?_
  · go_wp2_with fail
    refine (cutLexeme_any s a _ hs ha).mono ?_
    rintro e w2 ⟨⟨sz, en, rfl, hle, hcut⟩, hb2⟩
    have hX0 := BlkL.new w 51 [.int .i64 0, .string ⟨#[]⟩, .int .i64 0]
    have hX2 := hX0.below hb2 hX0.lt
    have hB2 := ((Below.refl w.heap.size w).alloc (Nat.le_refl _) (.cells #[.int .i64 0, .string ⟨#[]⟩, .int .i64 0] 51)).trans (hb2.mono (by simp))
    have hz2 := hX2.lt
    have HO := Lib.hid (hcut.out (by omega))
    have HX2 := Lib.hid hX2
    have HB2 := Lib.hid hB2
    clear hX0 hb2 hX2 hB2 hcut
    have hTz : (s.extract a (a + sz)).size = sz := by simp [ByteArray.size_extract]; omega
    have HFB := Lib.hid (show fbI (s.extract a (a + sz)) = if fbN (fun i => bt s (a + i)) sz < sz then (fbN (fun i => bt s (a + i)) sz : Int) else -1 by
      have e : fbN (bt (s.extract a (a + sz))) sz = fbN (fun i => bt s (a + i)) sz := fst_congr fun i hi => by rw [bt_extract s a (a + sz) i hle (by omega)]
      rw [fbI_fst, hTz, e])
    obtain ⟨T, hTE⟩ : ∃ T, s.extract a (a + sz) = T := ⟨_, rfl⟩
    rw [hTE] at hTz HFB ⊢
    have HTE := Lib.hid hTE
    clear hTE
    go_wp2_with fail
    refine (firstUnprintable_any T _).mono ?_
    rintro e w3 ⟨rfl, hb3⟩
    have hN0 := BlkL.new w2 51 [.int .i64 (kdI (bt s a)), .string T, .int .i64 a]
    have hN3 := hN0.below hb3 hN0.lt
    have hX3 := (HX2.out.alloc (.cells #[.int .i64 (kdI (bt s a)), .string T, .int .i64 a] 51)).below hb3 (HX2.out.alloc _).lt
    have hB3 := (HB2.out.alloc (by omega) (.cells #[.int .i64 (kdI (bt s a)), .string T, .int .i64 a] 51)).trans (hb3.mono (by simp; omega))
    clear hb3 hN0
    -- the fault's block
    have hF4 := BlkL.new w3 113 [.int .i64 a]
    have hN4 := hN3.alloc (.cells #[.int .i64 a] 113)
    have hX4 := hX3.alloc (.cells #[.int .i64 a] 113)
    have hB4 := hB3.alloc hB3.size (.cells #[.int .i64 a] 113)
    have hw23 : w2.heap.size < w3.heap.size := hN3.lt
    have hz4 : (w3.alloc (.cells #[.int .i64 a] 113)).heap.size = w3.heap.size + 1 := by simp
    have HX4 := Lib.hid hX4
    have HN4 := Lib.hid hN4
    have HF4 := Lib.hid hF4
    have HB4 := Lib.hid hB4
    have q1 : w3.cell? ⟨w2.heap.size, 1, none⟩ = some (.string T) := (hN3.cell 1).trans rfl
    clear hN3 hX3 hB3 hX4 hN4 hF4 hB4
    by_cases hcn : cnt = 200
    · have HR := Lib.hid (show rdO s a cnt = some a by simp [rdO, hcn])
      have bc : ((cnt : Int) == 200) = true := by simp; omega
      clear hcn
      go_wp2
      go_step3
      exact ⟨rfl, w3.heap.size, a, _, _, _, _, _, _, _, _, _, _, _, _, _, _, _, _, _, _, _, _, _, _, _, _, _, _, _, _, _, _, _, _, _, _, _, _, _, _, _, rfl, HR.out, HX4.out, HF4.out, HB4.out, by omega⟩
    · have bc : ((cnt : Int) == 200) = false := by simp; omega
      have HR0 := Lib.hid (show rdO s a cnt = (plO (fun i => bt s (a + i)) (s.size - a)).map (a + ·) by rw [rdO, if_neg hcn])
      clear hcn
      go_wp2_with fail
      refine (within_any _ _ _ _).mono ?_
      rintro e w4 ⟨rfl, hw4⟩
      rw [hw4] at HX4 HN4 HF4 HB4 hz4
      clear hw4 q1
      have n0 : w4.cell? ⟨w2.heap.size, 0, none⟩ = some (.int .i64 (kdI (bt s a))) := (HN4.out.cell 0).trans rfl
      have n1 : w4.cell? ⟨w2.heap.size, 1, none⟩ = some (.string T) := (HN4.out.cell 1).trans rfl
      have n2 : w4.cell? ⟨w2.heap.size, 2, none⟩ = some (.int .i64 a) := (HN4.out.cell 2).trans rfl
      have f0 : w4.cell? ⟨w3.heap.size, 0, none⟩ = some (.int .i64 a) := (HF4.out.cell 0).trans rfl
      have ff := HF4.out.frozen 0
      have fl4 := HF4.out.lt
      have x0 : w4.cell? ⟨w.heap.size, 0, none⟩ = some (.int .i64 0) := (HX4.out.cell 0).trans rfl
      have x1 : w4.cell? ⟨w.heap.size, 1, none⟩ = some (.string ⟨#[]⟩) := (HX4.out.cell 1).trans rfl
      have x2 : w4.cell? ⟨w.heap.size, 2, none⟩ = some (.int .i64 0) := (HX4.out.cell 2).trans rfl
      have xf := HX4.out.frozen
      cases hin : inB (fbI T) 0 40
      · have HNB := Lib.hid (show ¬ (fbN (fun i => bt s (a + i)) sz < sz ∧ fbN (fun i => bt s (a + i)) sz ≤ 40) by
          have h1 := inB_false.1 hin
          rw [HFB.out] at h1
          intro h2
          rw [if_pos h2.1] at h1
          omega)
        clear hin
        cases en
        · have HR := Lib.hid (show rdO s a cnt = some a by rw [HR0.out, HO.out.2.1 HNB.out (.inl rfl)]; rfl)
          go_wp2
          go_step3
          exact ⟨rfl, w3.heap.size, a, _, _, _, _, _, _, _, _, _, _, _, _, _, _, _, _, _, _, _, _, _, _, _, _, _, _, _, _, _, _, _, _, _, _, _, _, _, _, _, rfl, HR.out, HX4.out, HF4.out, HB4.out, by omega⟩
        · by_cases h40 : 40 < T.size
          · have HR := Lib.hid (show rdO s a cnt = some a by rw [HR0.out, HO.out.2.1 HNB.out (.inr (by omega))]; rfl)
            go_wp2
            go_step3
            exact ⟨rfl, w3.heap.size, a, _, _, _, _, _, _, _, _, _, _, _, _, _, _, _, _, _, _, _, _, _, _, _, _, _, _, _, _, _, _, _, _, _, _, _, _, _, _, _, rfl, HR.out, HX4.out, HF4.out, HB4.out, by omega⟩
          · obtain ⟨o1, o2⟩ := HO.out.2.2 HNB.out rfl (by omega)
            have HR := Lib.hid (show rdO s a cnt = none by rw [HR0.out, o1]; rfl)
            have HZ := Lib.hid (show rdZ s a = sz from o2)
            clear o1 o2
            go_wp2
            simp only [Exit.jump]
            have hK3 := BlkL.setN [.int .i64 (kdI (bt s a)), .string T, .int .i64 a] _ _ 0 HX4.out
            have hB3 := below_setN (g := w.heap.size) (Nat.le_refl _) [.int .i64 (kdI (bt s a)), .string T, .int .i64 a] _ 0 HB4.out
            change bodyPost _ _ _ _ _ (World.setN w4 w.heap.size 0 [.int .i64 (kdI (bt s a)), .string T, .int .i64 a])
            generalize World.setN w4 w.heap.size 0 [.int .i64 (kdI (bt s a)), .string T, .int .i64 a] = w5 at *
            have z0 : w5.cell? ⟨w.heap.size, 0, none⟩ = some (.int .i64 (kdI (bt s a))) := (hK3.cell 0).trans rfl
            have z1 : w5.cell? ⟨w.heap.size, 1, none⟩ = some (.string T) := (hK3.cell 1).trans rfl
            have z2 : w5.cell? ⟨w.heap.size, 2, none⟩ = some (.int .i64 a) := (hK3.cell 2).trans rfl
            refine bodyPost_ret (v := .tuple #[.agg #[.int .i64 (kdI (bt s a)), .string T, .int .i64 a], .nilIface]) (by simp [results, Tryz.results96, go_sem, z0, z1, z2]) rfl ?_
            refine ⟨.inr ⟨HR.out, by rw [HZ.out]; omega, by rw [HZ.out]; omega, ?_⟩, hB3⟩
            rw [HZ.out, HTE.out]
      · have h1 := inB_true.1 hin
        obtain ⟨q, hq⟩ := Int.eq_ofNat_of_zero_le h1.1
        have hqf : fbN (fun i => bt s (a + i)) sz < sz ∧ fbN (fun i => bt s (a + i)) sz = q := by
          have h2 := HFB.out
          by_cases h3 : fbN (fun i => bt s (a + i)) sz < sz
          · rw [if_pos h3] at h2; exact ⟨h3, by omega⟩
          · rw [if_neg h3] at h2; omega
        have HR := Lib.hid (show rdO s a cnt = some (a + q) by
          have h3 := HO.out.1 ⟨hqf.1, by omega⟩
          rw [HR0.out, h3, hqf.2]; rfl)
        have hq40 : q ≤ 40 := by omega
        have HQ := Lib.hid hq
        rw [hq]
        clear hin h1 hqf hq
        go_wp2
        go_step3
        have hF5 := HF4.out.set 0 (.int .i64 ((a + q : Nat) : Int))
        have hX5 := HX4.out.far (p := ⟨w3.heap.size, 0, none⟩) (by show w.heap.size ≠ w3.heap.size; omega) (.int .i64 ((a + q : Nat) : Int))
        have hB5 := HB4.out.setCell (p := ⟨w3.heap.size, 0, none⟩) (by show w.heap.size ≤ w3.heap.size; omega) (.int .i64 ((a + q : Nat) : Int))
        rw [show ((a + q : Nat) : Int) = (a : Int) + (q : Int) by omega] at hF5 hX5 hB5
        exact ⟨rfl, w3.heap.size, a + q, _, _, _, _, _, _, _, _, _, _, _, _, _, _, _, _, _, _, _, _, _, _, _, _, _, _, _, _, _, _, _, _, _, _, _, _, _, _, _, rfl, HR.out, hX5, hF5, hB5, by omega⟩
  · rintro a' w' ⟨f, p, u3, u4, u5, u7, u8, u9, u10, u12, u13, u14, u15, u16, u17, u18, u19, u20, u21, u22, u23, u24, u25, u26, u27, u28, u29, u30, u31, u32, u33, u34, u35, u36, u37, u38, u39, u40, u41, u42, u43, rfl, hp, hX, hF, hb, hwf⟩
    have HP := Lib.hid hp
    have HX := Lib.hid hX
    have HF := Lib.hid hF
    have HB := Lib.hid hb
    have x0 : w'.cell? ⟨w.heap.size, 0, none⟩ = some (.int .i64 0) := (hX.cell 0).trans rfl
    have x1 : w'.cell? ⟨w.heap.size, 1, none⟩ = some (.string ⟨#[]⟩) := (hX.cell 1).trans rfl
    have x2 : w'.cell? ⟨w.heap.size, 2, none⟩ = some (.int .i64 0) := (hX.cell 2).trans rfl
    have xf := hX.frozen
    have xl := hX.lt
    have y0 : w'.cell? ⟨f, 0, none⟩ = some (.int .i64 p) := (hF.cell 0).trans rfl
    have yl := hF.lt
    clear hp hX hF hb
    go_wp2_with fail
    first
      | go_region_with (fail)
      | fail
    all_goals
      go_wp2
      simp only [Exit.jump]
      have hK3 := BlkL.setN [.int .i64 0, .string ⟨#[]⟩, .int .i64 0] _ _ 0 HX.out
      have hB3 := below_setN (g := w.heap.size) (Nat.le_refl _) [.int .i64 0, .string ⟨#[]⟩, .int .i64 0] _ 0 HB.out
      change bodyPost _ _ _ _ _ (World.setN w' w.heap.size 0 [.int .i64 0, .string ⟨#[]⟩, .int .i64 0]).drew
      generalize World.setN w' w.heap.size 0 [.int .i64 0, .string ⟨#[]⟩, .int .i64 0] = w3 at *
      have z0 : w3.cell? ⟨w.heap.size, 0, none⟩ = some (.int .i64 0) := (hK3.cell 0).trans rfl
      have z1 : w3.cell? ⟨w.heap.size, 1, none⟩ = some (.string ⟨#[]⟩) := (hK3.cell 1).trans rfl
      have z2 : w3.cell? ⟨w.heap.size, 2, none⟩ = some (.int .i64 0) := (hK3.cell 2).trans rfl
      refine bodyPost_ret (v := .tuple #[.agg #[.int .i64 0, .string ⟨#[]⟩, .int .i64 0], .iface 113 (.agg #[.int .i64 p])]) (by simp [results, Tryz.results96, go_sem, z0, z1, z2]) rfl ?_
      exact ⟨.inl ⟨p, HP.out, rfl⟩, hB3.drew⟩
end Go.Proofs.YthjkgbcomjiejaaGreatDoor
namespace Go.Proofs.YthjkgbcomjiejaaGreatDoor
open Go.ChangeShapes Go.WideShapes Go.ChangeAt Go.RowKit Go.Joins Go.Deep
set_option linter.unusedVariables false

structure Lx where
  k : Int
  s : ByteArray
  a : Int
def fx (x : Lx) : List Value := [.int .i64 x.k, .string x.s, .int .i64 x.a]
theorem fx_len (x : Lx) : (fx x).length = 3 := rfl
def XS (w : World) (A : Option Addr) (l : List Lx) : Prop := RS fx 3 w A l
theorem XS.all {w : World} {A : Option Addr} {l : List Lx} (h : XS w A l) {k : Nat} (hk : k < l.length) : ∃ m b o, l[k]? = some m ∧ A = some ⟨b, o, none⟩ ∧ b < w.heap.size ∧
    w.cell? ⟨b, o + k * 3, none⟩ = some (.int .i64 m.k) ∧ w.cell? ⟨b, o + k * 3 + 1, none⟩ = some (.string m.s) ∧ w.cell? ⟨b, o + k * 3 + 2, none⟩ = some (.int .i64 m.a) := by
  obtain ⟨m, b, o, hm, ha, hb, hc⟩ := RS.at h hk
  exact ⟨m, b, o, hm, ha, hb, hc 0 (by decide), hc 1 (by decide), hc 2 (by decide)⟩
theorem XS.get {w : World} {b o : Nat} {l : List Lx} (h : XS w (some ⟨b, o, none⟩) l) {k : Nat} {m : Lx} (hm : l[k]? = some m) : b < w.heap.size ∧
    w.cell? ⟨b, o + k * 3, none⟩ = some (.int .i64 m.k) ∧ w.cell? ⟨b, o + k * 3 + 1, none⟩ = some (.string m.s) ∧ w.cell? ⟨b, o + k * 3 + 2, none⟩ = some (.int .i64 m.a) := by
  obtain ⟨hb, hc⟩ := RS.get h hm
  exact ⟨hb, hc 0 (by decide), hc 1 (by decide), hc 2 (by decide)⟩
theorem XS.below {w w' : World} {A : Option Addr} {l : List Lx} (h : XS w A l) (hb : Below w.heap.size w w') : XS w' A l := RS.below h hb
theorem XS.of_blk {w : World} {g : Nat} {ty : TypeId} {l : List Lx} (h : BlkL w g ty (fl fx l)) : XS w (some ⟨g, 0, none⟩) l := RS.of_blk fx_len h
theorem XS.old {w0 w w' : World} {A : Option Addr} {l : List Lx} {row : Option Nat} (h : XS w A l) (h0 : XS w0 A l) (hz : w0.heap.size ≤ w.heap.size) (hg : w.grownBy w' row) (hr : ∀ g, row = some g → w0.heap.size ≤ g) : XS w' A l := by
  intro i t ht
  obtain ⟨b, o, rfl, hb, _⟩ := h0 i t ht
  obtain ⟨hb', hc⟩ := RS.get h ht
  refine ⟨b, o, rfl, Nat.lt_of_lt_of_le hb' hg.size, fun j hj => (World.cell?_of_block (hg.block b hb' ?_)).trans (hc j hj)⟩
  intro e
  have := hr b e.symm
  omega
def tkx (x : Lx) : Tk := ⟨0, x.s, 0, 0⟩
def txs (l : List Lx) : List Tk := l.map tkx
theorem txs_at {l : List Lx} {i : Nat} {h : Lx} (e : l[i]? = some h) : (txs l)[i]? = some (tkx h) := by simp [txs, e]
theorem txs_length (l : List Lx) : (txs l).length = l.length := by simp [txs]

def zeroLx : Lx := ⟨0, ByteArray.empty, 0⟩
theorem infoLx : (Tryz.prog.info? 51).map (fun i => (i.zero, i.size, i.bytes)) = some (some (.agg #[.int .i64 0, .string ByteArray.empty, .int .i64 0]), 3, 32) := by kernel_rfl
theorem makeLx (n : Nat) (hn : n ≤ 2097152) (w : World) : (Instr.makeSlice 47 (.int .i64 n) (.int .i64 n)).run Tryz.prog w =
    .ok (.slice (some ⟨w.heap.size, 0, none⟩) n n) (w.alloc (.cells (fl fx (List.replicate n zeroLx)).toArray 51)) := by
  obtain ⟨i, hi, hz, hs, hb⟩ := info_parts infoLx
  have h := run_make (P := Tryz.prog) w 47 51 i _ Tryz.underlying47 hi hz .i64 .i64 n n (by omega) (by omega) (by rw [hb]; omega) (by omega)
  rw [h, fl_rep fx_len (by decide), hs]
  simp [Value.cells, fx, zeroLx]
def ToLx (w : World) (l : List Lx) (e : Ending) (w' : World) : Prop :=
  e = .returned (.slice (some ⟨w.heap.size, 0, none⟩) l.length l.length) ∧ BlkL w' w.heap.size 51 (fl fx l) ∧ Below w.heap.size w w'
def BothLx (w0 : World) (a p b q : Nat) (t : Lx) (w : World) : Prop :=
  w.cell? ⟨a, p, none⟩ = some (.int .i64 t.k) ∧ w.cell? ⟨a, p + 1, none⟩ = some (.string t.s) ∧ w.cell? ⟨a, p + 2, none⟩ = some (.int .i64 t.a) ∧ w.cell? ⟨b, q, none⟩ = some (.int .i64 t.k) ∧ w.cell? ⟨b, q + 1, none⟩ = some (.string t.s) ∧ w.cell? ⟨b, q + 2, none⟩ = some (.int .i64 t.a) ∧ Below w0.heap.size w0 w
theorem BothLx.go {w0 w w' : World} {a p b q : Nat} {t : Lx} (ha : a < w.heap.size) (hb : b < w.heap.size) (h : BothLx w0 a p b q t w) (hw : Below w.heap.size w w') : BothLx w0 a p b q t w' := by
  obtain ⟨h0, h1, h2, g0, g1, g2, h8⟩ := h
  exact ⟨(hw.cell (p := ⟨a, _, none⟩) ha).trans h0, (hw.cell (p := ⟨a, _, none⟩) ha).trans h1, (hw.cell (p := ⟨a, _, none⟩) ha).trans h2, (hw.cell (p := ⟨b, _, none⟩) hb).trans g0, (hw.cell (p := ⟨b, _, none⟩) hb).trans g1, (hw.cell (p := ⟨b, _, none⟩) hb).trans g2, h8.trans (hw.mono h8.size)⟩
def mkLx (x : Int) (k : Nat) : Lx := ⟨x + 3 * k, mtx (x + 3 * k + 1), x + 3 * k + 1 + 1⟩
end Go.Proofs.YthjkgbcomjiejaaGreatDoor
