/-
  The program's printer: a token is put; all are.
-/
import Derived.Test.YthjkgbcomjiejadGreatDoorPro
namespace Go.Proofs.YthjkgbcomjiejadGreatDoor
open Go.RowKit
set_option linter.unusedVariables false

theorem PA.pop {w : World} {B p : Nat} {W : Int} {s : Pr} {vW vM : Value} (h : PA w B p W s vW vM) (hn : s.ms ≠ []) : ∃ g c, vM = .slice (some ⟨g, 0, none⟩) s.ms.length c ∧ s.ms.length ≤ c ∧ 0 < s.ms.length ∧
    PA (w.setCell ⟨p, 4, none⟩ (.slice (some ⟨g, 0, none⟩) (s.ms.length - 1) c)) B p W { s with ms := s.ms.dropLast } vW (.slice (some ⟨g, 0, none⟩) (s.ms.length - 1) c) ∧ Chg B w (w.setCell ⟨p, 4, none⟩ (.slice (some ⟨g, 0, none⟩) (s.ms.length - 1) c)) := by
  obtain ⟨g, c, rfl, hc, hp⟩ := PM.pop h hn
  exact ⟨g, c, rfl, hc, List.length_pos_iff.2 hn, hp.set 4 _, hp.chg_set 4 _⟩
theorem PA.pend {w : World} {B p n : Nat} {W : Int} {s : Pr} {vW vM : Value} (h : PA w B p W s vW vM) :
    PA (w.setCell ⟨p, 1, none⟩ (.int .i64 n)) B p W { s with pend := n } vW vM ∧ Chg B w (w.setCell ⟨p, 1, none⟩ (.int .i64 n)) := ⟨PM.set h 1 _, PM.chg_set h 1 _⟩
theorem Bw.x1 {w w1 : World} (h : Bw w w1) : Bw w w1.drew := Below.drew h
theorem Bw.x2 {w w1 : World} (h : Bw w w1) (o : Obj) : Bw w (w1.alloc o).drew := Below.drew (Below.alloc h h.size o)
theorem Bw.x3 {w w1 : World} (h : Bw w w1) (o : Obj) : Bw w (w1.alloc o).drew.drew := Below.drew (Below.drew (Below.alloc h h.size o))

set_option maxHeartbeats 1000000 in
set_option maxRecDepth 100000 in
theorem put_any {w : World} {B p : Nat} {W z : Int} {s : Pr} {t : Tk} {vW vM : Value} (h : PA w B p W s vW vM) (hs : s.Sm) (hB : B ≤ w.heap.size) (hW0 : 0 ≤ W) (hW1 : W ≤ 1000) (ht : t.ok = true) :
    Calls Tryz.prog 105 #[.pointer (some ⟨p, 0, none⟩), .agg #[.int .i64 t.k, .string t.s, .int .i64 t.d, .int .i64 t.o], .int .i64 z] w (PPost B p W w (.bool (s.put W t z).2) (s.put W t z).1) := by
  have H := Lib.hid h
  have HS := Lib.hid hs
  have HT := Lib.hid ht
  have ho := t.o_bd ht
  have hsz := (t.s_bd ht).1
  obtain ⟨c0, c1, c2, c3, c4, hp⟩ := h.cells
  have hmc := mk_col
  clear h hs
  have k0 := t.k_bd ht
  clear ht
  rcases k0 with hk | hk | hk | hk | hk
  · have HP := Lib.hid (show s.put W t z = (s.text t.s.data.toList, false) from by simp [Pr.put, hk])
    have HW := Lib.hid (show ∀ V, Bw w V → Calls Tryz.prog 141 #[.pointer (some ⟨p, 0, none⟩), .string t.s] V (PPost B p W V (.tuple #[]) (s.text t.s.data.toList)) from
      fun V hV => write_any (PM.below H.out hV) HS.out (Nat.le_trans hB hV.size) hsz)
    go_enter Tryz.func105, Tryz.ntmps105
    go_wp2_with fail
    go_region_with (first | ((with_reducible refine (HW.out _ ?_).mono ?_); exact Bw.a1 _ _; rintro e w2 ⟨rfl, hc2, vW2, vM2, hp2⟩; have HC2 := Lib.hid hc2; have HP2 := Lib.hid hp2; clear hc2 hp2))
    go_wp2
    go_ret
    rw [HP.out]
    exact ⟨rfl, (Chg.of_below (Bw.a1 _ _)).trans HC2.out, _, _, HP2.out⟩
  · cases hst : s.stays W z
    · have HP := Lib.hid (show s.put W t z = (s.brk t.o, true) from by simp [Pr.put, hk, hst])
      have HST := Lib.hid hst
      clear hst
      go_enter Tryz.func105, Tryz.ntmps105
      go_wp2_with fail
      refine (stays_any (PM.alloc H.out _) HS.out hW0 hW1).mono ?_
      rintro e w1 ⟨rfl, hb1⟩
      rw [HST.out]
      have HF : Bw w w1 ∧ w1.cell? ⟨w.heap.size, 3, none⟩ = some (.int .i64 t.o) ∧ w.heap.size < w1.heap.size := by
        have hN := BlkL.new w 38 [.int .i64 1, .string t.s, .int .i64 t.d, .int .i64 t.o]
        refine ⟨Bw.keep w _ _ ((Below.refl _ _).alloc (Nat.le_refl _) _) hb1, ?_, ?_⟩
        · exact ((hN.below hb1 hN.lt).cell 3).trans rfl
        · exact Nat.lt_of_lt_of_le hN.lt hb1.size
      clear hb1
      obtain ⟨hbw, q3, hlt⟩ : Bw w w1 ∧ w1.cell? ⟨w.heap.size, 3, none⟩ = some (.int .i64 t.o) ∧ w.heap.size < w1.heap.size := HF
      have HBW := Lib.hid hbw
      have HTP := Lib.hid (show ∀ V, Bw w V → Calls Tryz.prog 145 #[.pointer (some ⟨p, 0, none⟩)] V (fun e w' => e = .returned (.agg #[.int .i64 s.top.1, .int .i64 s.top.2]) ∧ w' = (V.alloc (.cells #[.int .i64 s.top.1, .int .i64 s.top.2] 144)).drew) from
        fun V hV => PA.top_eq (PM.below H.out hV) HS.out)
      have HNL := Lib.hid (show ∀ V, Bw w V → Calls Tryz.prog 144 #[.pointer (some ⟨p, 0, none⟩), .int .i64 (s.top.2 + t.o)] V (PPost B p W V (.tuple #[]) (s.brk t.o)) from
        fun V hV => newLine_any (PM.below H.out hV) HS.out (Nat.le_trans hB hV.size) ho.1 ho.2.1)
      have x1 : IntKind.i64.wrap ((s.top.2 : Int) + t.o) = s.top.2 + t.o := IntWalk.i64_in _ (by have := HS.out.top; omega)
      clear hbw c0 c1 c2 c3 c4
      go_wp2_with fail
      go_region_with (first
        | ((with_reducible refine (HTP.out _ ?_).mono ?_); exact Bw.x1 HBW.out; rintro e w2 ⟨rfl, rfl⟩)
        | ((with_reducible refine (HNL.out _ ?_).mono ?_); exact Bw.x3 HBW.out _; rintro e w2 ⟨rfl, hc2, vW2, vM2, hp2⟩; have HC2 := Lib.hid hc2; have HP2 := Lib.hid hp2; clear hc2 hp2))
      all_goals
        go_wp2
        go_ret
        rw [HP.out]
        exact ⟨rfl, (Chg.of_below (Bw.x3 HBW.out _)).trans HC2.out, _, _, HP2.out⟩
    · have hd := d_bd1 HT.out hk
      have HP := Lib.hid (show s.put W t z = ({ s with pend := s.pend + t.d.toNat }, false) from by simp [Pr.put, hk, hst])
      have HST := Lib.hid hst
      obtain ⟨d, hd'⟩ := Int.eq_ofNat_of_zero_le hd.1
      have hd9 : d ≤ 9 := by omega
      have hpend := HS.out.pend
      have HD := Lib.hid hd'
      clear hst hd' hd
      go_enter Tryz.func105, Tryz.ntmps105
      go_wp2_with fail
      refine (stays_any (PM.alloc H.out _) HS.out hW0 hW1).mono ?_
      rintro e w1 ⟨rfl, hb1⟩
      rw [HST.out]
      have HF : Bw w w1 ∧ w1.cell? ⟨w.heap.size, 2, none⟩ = some (.int .i64 t.d) ∧ w.heap.size < w1.heap.size := by
        have hN := BlkL.new w 38 [.int .i64 1, .string t.s, .int .i64 t.d, .int .i64 t.o]
        refine ⟨Bw.keep w _ _ ((Below.refl _ _).alloc (Nat.le_refl _) _) hb1, ?_, ?_⟩
        · exact ((hN.below hb1 hN.lt).cell 2).trans rfl
        · exact Nat.lt_of_lt_of_le hN.lt hb1.size
      obtain ⟨hbw, q3, hlt⟩ := HF
      have HBW := Lib.hid hbw
      have H1 := Lib.hid (PM.below H.out hbw)
      obtain ⟨a0, a1, a2, a3, a4, a5⟩ := PA.cells H1.out
      have af := PM.frz H1.out
      clear hb1 hbw c0 c1 c2 c3 c4
      rw [HD.out] at q3
      go_wp2
      go_region
      go_wp2
      go_ret
      rw [HP.out, HD.out]
      obtain ⟨r1, r2⟩ := PA.pend (n := s.pend + d) H1.out
      rw [Int.natCast_add] at r1 r2
      exact ⟨rfl, ((Chg.of_below HBW.out).trans r2).drew, _, _, PM.drew r1⟩
  · have HP := Lib.hid (show s.put W t z = (s.open W t z, false) from by simp [Pr.put, hk])
    have h0 := ho.2.2 hk
    have HW := Lib.hid (show ∀ V, Bw w V → Calls Tryz.prog 142 #[.pointer (some ⟨p, 0, none⟩), .agg #[.int .i64 2, .string t.s, .int .i64 t.d, .int .i64 t.o], .int .i64 z] V (PPost B p W V (.tuple #[]) (s.open W t z)) from
      fun V hV => by rw [← hk]; exact open_any (PM.below H.out hV) HS.out (Nat.le_trans hB hV.size) hW0 hW1 h0 ho.2.1)
    go_enter Tryz.func105, Tryz.ntmps105
    go_wp2_with fail
    refine (HW.out _ ((Below.refl _ _).alloc (Nat.le_refl _) _)).mono ?_
    rintro e w2 ⟨rfl, hc2, vW2, vM2, hp2⟩
    have HC2 := Lib.hid ((Chg.alloc (Chg.refl B w) _).trans hc2)
    have HP2 := Lib.hid hp2
    clear hc2 hp2 c0 c1 c2 c3 c4 HW
    go_wp2
    go_ret
    rw [HP.out]
    exact ⟨rfl, HC2.out, _, _, HP2.out⟩
  · have HP := Lib.hid (show s.put W t z = ({ s with ms := s.ms.dropLast }, false) from by simp [Pr.put, hk])
    have hlen := HS.out.len
    obtain ⟨g, c, rfl, hc, hl0, hpop, hchg⟩ := PA.pop H.out HS.out.ne
    have HPP := Lib.hid hpop
    have HCC := Lib.hid hchg
    clear hpop hchg
    have af := PA.frozen H.out
    obtain ⟨n, hn⟩ : ∃ n, s.ms.length = n + 1 := ⟨s.ms.length - 1, by omega⟩
    have HN := Lib.hid hn
    rw [hn] at c4 hc hlen
    clear hn hl0
    go_enter Tryz.func105, Tryz.ntmps105
    go_wp2_with fail
    go_region
    go_wp2
    go_ret
    rw [HP.out]
    have r1 := HPP.out
    have r2 := HCC.out
    rw [HN.out, Nat.add_sub_cancel] at r1 r2
    exact ⟨rfl, (r2.alloc _).drew, _, _, PM.drew (PM.alloc r1 _)⟩
  · have HP := Lib.hid (show s.put W t z = (s.brk t.o, true) from by simp [Pr.put, hk])
    go_enter Tryz.func105, Tryz.ntmps105
    go_wp2_with fail
    have HF : Bw w (w.alloc (.cells #[.int .i64 4, .string t.s, .int .i64 t.d, .int .i64 t.o] 38)) ∧ (w.alloc (.cells #[.int .i64 4, .string t.s, .int .i64 t.d, .int .i64 t.o] 38)).cell? ⟨w.heap.size, 3, none⟩ = some (.int .i64 t.o) ∧ w.heap.size < (w.alloc (.cells #[.int .i64 4, .string t.s, .int .i64 t.d, .int .i64 t.o] 38)).heap.size := by
      have hN := BlkL.new w 38 [.int .i64 4, .string t.s, .int .i64 t.d, .int .i64 t.o]
      exact ⟨(Below.refl _ _).alloc (Nat.le_refl _) _, (hN.cell 3).trans rfl, hN.lt⟩
    generalize w.alloc (.cells #[.int .i64 4, .string t.s, .int .i64 t.d, .int .i64 t.o] 38) = w1 at *
    obtain ⟨hbw, q3, hlt⟩ : Bw w w1 ∧ w1.cell? ⟨w.heap.size, 3, none⟩ = some (.int .i64 t.o) ∧ w.heap.size < w1.heap.size := HF
    have HBW := Lib.hid hbw
    have HTP := Lib.hid (show ∀ V, Bw w V → Calls Tryz.prog 145 #[.pointer (some ⟨p, 0, none⟩)] V (fun e w' => e = .returned (.agg #[.int .i64 s.top.1, .int .i64 s.top.2]) ∧ w' = (V.alloc (.cells #[.int .i64 s.top.1, .int .i64 s.top.2] 144)).drew) from
      fun V hV => PA.top_eq (PM.below H.out hV) HS.out)
    have HNL := Lib.hid (show ∀ V, Bw w V → Calls Tryz.prog 144 #[.pointer (some ⟨p, 0, none⟩), .int .i64 (s.top.2 + t.o)] V (PPost B p W V (.tuple #[]) (s.brk t.o)) from
      fun V hV => newLine_any (PM.below H.out hV) HS.out (Nat.le_trans hB hV.size) ho.1 ho.2.1)
    have x1 : IntKind.i64.wrap ((s.top.2 : Int) + t.o) = s.top.2 + t.o := IntWalk.i64_in _ (by have := HS.out.top; omega)
    clear hbw c0 c1 c2 c3 c4
    go_region_with (first
      | ((with_reducible refine (HTP.out _ ?_).mono ?_); exact Bw.x1 HBW.out; rintro e w2 ⟨rfl, rfl⟩)
      | ((with_reducible refine (HNL.out _ ?_).mono ?_); exact Bw.x3 HBW.out _; rintro e w2 ⟨rfl, hc2, vW2, vM2, hp2⟩; have HC2 := Lib.hid hc2; have HP2 := Lib.hid hp2; clear hc2 hp2))
    all_goals
      go_wp2
      go_ret
      rw [HP.out]
      exact ⟨rfl, (Chg.of_below (Bw.x3 HBW.out _)).trans HC2.out, _, _, HP2.out⟩
end Go.Proofs.YthjkgbcomjiejadGreatDoor
