/-
  The model's FinishEngine.
-/
import Derived.Test.YtigdbkdddnbfpabFlm
import Derived.Test.YtigdbkdddnbfpabEnr
namespace Go.Proofs.Ytigdbkdddnbfpab
open Go.RowKit
set_option linter.unusedVariables false
def AnsR (w : World) (e : En) (t : ByteArray) (b : Bool) (r : Ending) (w' : World) : Prop := ∃ v, r = .returned (.tuple #[v, .string t, .bool b]) ∧ EngR w' v e ∧ Below w.heap.size w w'
set_option maxHeartbeats 2000000 in
set_option maxRecDepth 100000 in
theorem sFinishEngine_any (e : En) (v : Value) (w : World) (hm : e.ms.length ≤ 2097152) (hi : e.it.length ≤ 2097152) (hf : Fits (tks e.it)) (h : EngR w v e) :
    Calls Try.prog 15 #[v] w (AnsR w (finE e) (finT e) (finB e)) := by
  have HE := Lib.hid h
  obtain ⟨A, c, A2, c2, rfl, m1, i1⟩ := h
  have M1 := Lib.hid m1
  have I1 := Lib.hid i1
  have HF := Lib.hid hf
  clear m1 i1 hf
  unfold ev at *
  go_enter Try.func15, Try.ntmps15
  go_wp2_with fail
  have hX0 := BlkL.new w 33 (ecs e (.slice A e.ms.length c) (.slice A2 e.it.length c2))
  have hX1 := hX0.alloc (.cells (ecs ⟨0, 0, 0, [], [], 0, 0⟩ (.slice none 0 0) (.slice none 0 0)).toArray 33)
  have hY1 := BlkL.new (w.alloc (.cells (ecs e (.slice A e.ms.length c) (.slice A2 e.it.length c2)).toArray 33)) 33 (ecs ⟨0, 0, 0, [], [], 0, 0⟩ (.slice none 0 0) (.slice none 0 0))
  rw [show (w.alloc (.cells (ecs e (.slice A e.ms.length c) (.slice A2 e.it.length c2)).toArray 33)).heap.size = w.heap.size + 1 by simp] at hY1
  have hB1 := ((Below.refl w.heap.size w).alloc (Nat.le_refl _) (.cells (ecs e (.slice A e.ms.length c) (.slice A2 e.it.length c2)).toArray 33)).alloc (by simp) (.cells (ecs ⟨0, 0, 0, [], [], 0, 0⟩ (.slice none 0 0) (.slice none 0 0)).toArray 33)
  change Calls _ _ _ ((w.alloc (.cells (ecs e (.slice A e.ms.length c) (.slice A2 e.it.length c2)).toArray 33)).alloc (.cells (ecs ⟨0, 0, 0, [], [], 0, 0⟩ (.slice none 0 0) (.slice none 0 0)).toArray 33)) _
  generalize (w.alloc (.cells (ecs e (.slice A e.ms.length c) (.slice A2 e.it.length c2)).toArray 33)).alloc (.cells (ecs ⟨0, 0, 0, [], [], 0, 0⟩ (.slice none 0 0) (.slice none 0 0)).toArray 33) = w1 at *
  clear hX0
  refine (l05Copy_any e A c A2 c2 w1 hm hi (RS.below M1.out hB1) (RS.below I1.out hB1)).mono ?_
  rintro r w2 ⟨A3, c3, A4, c4, rfl, hom, hoi, hcap, hb2⟩
  have HOM := Lib.hid hom
  have HOI := Lib.hid hoi
  have HCAP := Lib.hid hcap
  have HB2 := Lib.hid (hB1.trans (hb2.mono hB1.size))
  have hX2 := hX1.below hb2 hX1.lt
  have hY2 := hY1.below hb2 hY1.lt
  have x0 : w2.cell? ⟨w.heap.size, 0, none⟩ = some (.int .i64 e.W) := (hX2.cell 0).trans rfl
  have x1 : w2.cell? ⟨w.heap.size, 1, none⟩ = some (.int .i64 e.col) := (hX2.cell 1).trans rfl
  have x2 : w2.cell? ⟨w.heap.size, 2, none⟩ = some (.int .i64 e.pend) := (hX2.cell 2).trans rfl
  have x3 : w2.cell? ⟨w.heap.size, 3, none⟩ = some (.slice A e.ms.length c) := (hX2.cell 3).trans rfl
  have x4 : w2.cell? ⟨w.heap.size, 4, none⟩ = some (.slice A2 e.it.length c2) := (hX2.cell 4).trans rfl
  have x5 : w2.cell? ⟨w.heap.size, 5, none⟩ = some (.int .i64 e.tot) := (hX2.cell 5).trans rfl
  have x6 : w2.cell? ⟨w.heap.size, 6, none⟩ = some (.int .i64 e.lev) := (hX2.cell 6).trans rfl
  have xl := hX2.lt
  have HX2 := Lib.hid hX2
  have HY2 := Lib.hid hY2
  have hsz := hb2.size
  have hsw := hB1.size
  have hyl := hY1.lt
  clear hX1 hY1 hb2 hB1 hX2 hY2 hom hoi hcap
  unfold ev
  go_wp2_with fail
  clear x0 x1 x2 x3 x4 x5 x6 xl
  have hZ3 := BlkL.new w2 33 [.int .i64 e.W, .int .i64 e.col, .int .i64 e.pend, .slice A3 e.ms.length c3, .slice A4 e.it.length c4, .int .i64 e.tot, .int .i64 e.lev]
  have hbA := (Below.refl w2.heap.size w2).alloc (Nat.le_refl _) (.cells ([.int .i64 e.W, .int .i64 e.col, .int .i64 e.pend, .slice A3 e.ms.length c3, .slice A4 e.it.length c4, .int .i64 e.tot, .int .i64 e.lev] : List Value).toArray 33)
  have HX3 := Lib.hid (HX2.out.below hbA HX2.out.lt)
  have HY3 := Lib.hid (HY2.out.below hbA HY2.out.lt)
  have HB3 := Lib.hid (HB2.out.trans (hbA.mono HB2.out.size))
  have HOM3 := Lib.hid (HOM.out.below hbA)
  have HOI3 := Lib.hid (HOI.out.below hbA)
  change Calls _ _ _ (w2.alloc (.cells ([.int .i64 e.W, .int .i64 e.col, .int .i64 e.pend, .slice A3 e.ms.length c3, .slice A4 e.it.length c4, .int .i64 e.tot, .int .i64 e.lev] : List Value).toArray 33)) _
  generalize w2.alloc (.cells ([.int .i64 e.W, .int .i64 e.col, .int .i64 e.pend, .slice A3 e.ms.length c3, .slice A4 e.it.length c4, .int .i64 e.tot, .int .i64 e.lev] : List Value).toArray 33) = w3 at *
  clear hbA HX2 HY2 HOM HOI
  refine (sEngineOk_any e _ w3 (by unfold maxLen; omega) (by unfold maxLen; omega) HF.out (HE.out.below HB3.out)).mono ?_
  rintro r w4 ⟨rfl, hb4⟩
  have HX4 := Lib.hid (HX3.out.below hb4 HX3.out.lt)
  have HY4 := Lib.hid (HY3.out.below hb4 HY3.out.lt)
  have HZ4 := Lib.hid (hZ3.below hb4 hZ3.lt)
  have HB4 := Lib.hid (HB3.out.trans (hb4.mono HB3.out.size))
  have HOM5 := Lib.hid (HOM3.out.below hb4)
  have HOI5 := Lib.hid (HOI3.out.below hb4)
  have HOM4 := Lib.hid ((HOM3.out.below hb4).lowB (show w.heap.size ≤ w1.heap.size by omega))
  have HOI4 := Lib.hid ((HOI3.out.below hb4).lowB (show w.heap.size ≤ w1.heap.size by omega))
  clear hb4 hZ3 HX3 HY3 HB3 HOM3 HOI3
  have x0 : w4.cell? ⟨w.heap.size, 0, none⟩ = some (.int .i64 e.W) := (HX4.out.cell 0).trans rfl
  have x1 : w4.cell? ⟨w.heap.size, 1, none⟩ = some (.int .i64 e.col) := (HX4.out.cell 1).trans rfl
  have x2 : w4.cell? ⟨w.heap.size, 2, none⟩ = some (.int .i64 e.pend) := (HX4.out.cell 2).trans rfl
  have x3 : w4.cell? ⟨w.heap.size, 3, none⟩ = some (.slice A e.ms.length c) := (HX4.out.cell 3).trans rfl
  have x4 : w4.cell? ⟨w.heap.size, 4, none⟩ = some (.slice A2 e.it.length c2) := (HX4.out.cell 4).trans rfl
  have x5 : w4.cell? ⟨w.heap.size, 5, none⟩ = some (.int .i64 e.tot) := (HX4.out.cell 5).trans rfl
  have x6 : w4.cell? ⟨w.heap.size, 6, none⟩ = some (.int .i64 e.lev) := (HX4.out.cell 6).trans rfl
  have xl := HX4.out.lt
  have z0 : w4.cell? ⟨w2.heap.size, 0, none⟩ = some (.int .i64 e.W) := (HZ4.out.cell 0).trans rfl
  have z1 : w4.cell? ⟨w2.heap.size, 1, none⟩ = some (.int .i64 e.col) := (HZ4.out.cell 1).trans rfl
  have z2 : w4.cell? ⟨w2.heap.size, 2, none⟩ = some (.int .i64 e.pend) := (HZ4.out.cell 2).trans rfl
  have z3 : w4.cell? ⟨w2.heap.size, 3, none⟩ = some (.slice A3 e.ms.length c3) := (HZ4.out.cell 3).trans rfl
  have z4 : w4.cell? ⟨w2.heap.size, 4, none⟩ = some (.slice A4 e.it.length c4) := (HZ4.out.cell 4).trans rfl
  have z5 : w4.cell? ⟨w2.heap.size, 5, none⟩ = some (.int .i64 e.tot) := (HZ4.out.cell 5).trans rfl
  have z6 : w4.cell? ⟨w2.heap.size, 6, none⟩ = some (.int .i64 e.lev) := (HZ4.out.cell 6).trans rfl
  have zf := HZ4.out.frozen
  have zl := HZ4.out.lt
  cases he : engB e
  · have HBN := Lib.hid (show finB e = false by unfold finB; rw [he]; rfl)
    clear he
    have HT := Lib.hid (show finT e = ByteArray.empty from if_neg (by rw [HBN.out]; decide))
    have HEE := Lib.hid (show finE e = e from if_neg (by rw [HBN.out]; decide))
    have y0 : w4.cell? ⟨w.heap.size + 1, 0, none⟩ = some (.int .i64 0) := (HY4.out.cell 0).trans rfl
    have y1 : w4.cell? ⟨w.heap.size + 1, 1, none⟩ = some (.int .i64 0) := (HY4.out.cell 1).trans rfl
    have y2 : w4.cell? ⟨w.heap.size + 1, 2, none⟩ = some (.int .i64 0) := (HY4.out.cell 2).trans rfl
    have y3 : w4.cell? ⟨w.heap.size + 1, 3, none⟩ = some (.slice none 0 0) := (HY4.out.cell 3).trans rfl
    have y4 : w4.cell? ⟨w.heap.size + 1, 4, none⟩ = some (.slice none 0 0) := (HY4.out.cell 4).trans rfl
    have y5 : w4.cell? ⟨w.heap.size + 1, 5, none⟩ = some (.int .i64 0) := (HY4.out.cell 5).trans rfl
    have y6 : w4.cell? ⟨w.heap.size + 1, 6, none⟩ = some (.int .i64 0) := (HY4.out.cell 6).trans rfl
    have yf := HY4.out.frozen
    have yl := HY4.out.lt
    go_wp2
    clear y0 y1 y2 y3 y4 y5 y6 yf yl z0 z1 z2 z3 z4 z5 z6 zl zf x0 x1 x2 x3 x4 x5 x6 xl
    have hO9 := EngO.setN HY4.out (by decide) (by decide) [.int .i64 e.W, .int .i64 e.col, .int .i64 e.pend, .slice A3 e.ms.length c3, .slice A4 e.it.length c4, .int .i64 e.tot, .int .i64 e.lev] 0 (show EngO w4 w.heap.size (ev e A3 c3 A4 c4) e from ⟨A3, c3, A4, c4, rfl, HOM4.out, HOI4.out⟩)
    have hB9 := below_setN (B := w.heap.size) (a := w) (g := w.heap.size + 1) (by omega) [.int .i64 e.W, .int .i64 e.col, .int .i64 e.pend, .slice A3 e.ms.length c3, .slice A4 e.it.length c4, .int .i64 e.tot, .int .i64 e.lev] _ 0 HB4.out
    have hY9 := BlkL.setN [.int .i64 e.W, .int .i64 e.col, .int .i64 e.pend, .slice A3 e.ms.length c3, .slice A4 e.it.length c4, .int .i64 e.tot, .int .i64 e.lev] _ _ 0 HY4.out
    change bodyPost _ _ _ _ _ (World.setN w4 (w.heap.size + 1) 0 [.int .i64 e.W, .int .i64 e.col, .int .i64 e.pend, .slice A3 e.ms.length c3, .slice A4 e.it.length c4, .int .i64 e.tot, .int .i64 e.lev])
    generalize World.setN w4 (w.heap.size + 1) 0 [.int .i64 e.W, .int .i64 e.col, .int .i64 e.pend, .slice A3 e.ms.length c3, .slice A4 e.it.length c4, .int .i64 e.tot, .int .i64 e.lev] = w9 at *
    have k0 : w9.cell? ⟨w.heap.size + 1, 0, none⟩ = some (.int .i64 e.W) := (hY9.cell 0).trans rfl
    have k1 : w9.cell? ⟨w.heap.size + 1, 1, none⟩ = some (.int .i64 e.col) := (hY9.cell 1).trans rfl
    have k2 : w9.cell? ⟨w.heap.size + 1, 2, none⟩ = some (.int .i64 e.pend) := (hY9.cell 2).trans rfl
    have k3 : w9.cell? ⟨w.heap.size + 1, 3, none⟩ = some (.slice A3 e.ms.length c3) := (hY9.cell 3).trans rfl
    have k4 : w9.cell? ⟨w.heap.size + 1, 4, none⟩ = some (.slice A4 e.it.length c4) := (hY9.cell 4).trans rfl
    have k5 : w9.cell? ⟨w.heap.size + 1, 5, none⟩ = some (.int .i64 e.tot) := (hY9.cell 5).trans rfl
    have k6 : w9.cell? ⟨w.heap.size + 1, 6, none⟩ = some (.int .i64 e.lev) := (hY9.cell 6).trans rfl
    refine bodyPost_ret (v := .tuple #[ev e A3 c3 A4 c4, .string ByteArray.empty, .bool false]) (by simp [results, Try.results15, go_sem, k0, k1, k2, k3, k4, k5, k6, ev] <;> rfl) rfl ⟨ev e A3 c3 A4 c4, ?_, ?_, hB9⟩
    · rw [HT.out, HBN.out]
    · rw [HEE.out]; exact hO9.r
  have HEN := Lib.hid (engB_ok he)
  by_cases hlv : e.lev = 0
  · have hl1 : (e.lev == 0) = true := by simpa using hlv
    have hl2 : (e.lev != 0) = false := by simpa using hlv
    have HEB := Lib.hid he
    have HLV := Lib.hid hlv
    clear he hlv
    go_wp2_with fail
    clear x0 x1 x2 x3 x4 x5 x6 xl z0 z1 z2 z3 z4 z5 z6 zf zl
    go_loopw [6] (fun i wr => ∃ (k : Nat), k ≤ e.it.length ∧ i = .int .i64 k ∧ BlkL wr w2.heap.size 33 [.int .i64 e.W, .int .i64 e.col, .int .i64 e.pend, .slice A3 e.ms.length c3, .slice A4 e.it.length c4, .int .i64 e.tot, .int .i64 e.lev] ∧ OR fm 114 wr w1.heap.size (.slice A3 e.ms.length c3) e.ms ∧ OR fh 65 wr w1.heap.size (.slice A4 e.it.length c4) (mpF (endH e.tot 0 false) e.it k) ∧ BlkL wr (w.heap.size + 1) 33 (ecs ⟨0, 0, 0, [], [], 0, 0⟩ (.slice none 0 0) (.slice none 0 0)) ∧ Below w.heap.size w wr) (fun i _ => e.it.length - (intOf i).toNat)
    case atStart => exact ⟨0, Nat.zero_le _, rfl, HZ4.out, HOM5.out, by rw [mpF_zero]; exact HOI5.out, HY4.out, HB4.out⟩
    case round =>
      clear HX4 HY4 HZ4 HB4 HOM4 HOI4 HOM5 HOI5
      obtain ⟨k, hk, rfl, hZ, hM, hI, hY, hb⟩ := hrel
      have z4 : wr.cell? ⟨w2.heap.size, 4, none⟩ = some (.slice A4 e.it.length c4) := (hZ.cell 4).trans rfl
      have z5 : wr.cell? ⟨w2.heap.size, 5, none⟩ = some (.int .i64 e.tot) := (hZ.cell 5).trans rfl
      have zl := hZ.lt
      have HZ := Lib.hid hZ
      have HM := Lib.hid hM
      have HI := Lib.hid hI
      have HY := Lib.hid hY
      have HB := Lib.hid hb
      clear hZ hM hI hY hb
      by_cases hkl : k < e.it.length
      · obtain ⟨h, b, o, hh, hA, hbl, hsev⟩ := HS.sev (show HS wr A4 _ from OR.rs fh_len HI.out) (k := k) (by rw [mpF_length]; exact hkl)
        have hik := List.getElem?_eq_getElem hkl
        rw [mpF_at hik] at hh
        injection hh with hh
        have hlk : e.it[k]? = some h := hik.trans (congrArg some hh)
        have hst := HEN.out.starts k h hlk
        have htt := HEN.out.tot
        have hlvl : 0 ≤ h.lv := (HEN.out.helds k h hlk).lv.1
        rcases HI.out with ⟨_, h0⟩ | ⟨g, c9, rest, hv, hBg, hgb⟩
        · have := congrArg List.length h0; rw [mpF_length] at this; simp at this; rw [this] at hkl; simp at hkl
        · injection hv with hv1 hv2 hv3
          rw [hv1] at hA
          injection hA with hA
          injection hA with e1 e2
          subst e1 e2 hv1
          simp only [Nat.zero_add] at hsev
          have f5 := hsev.2.2.2.2.2.1
          have f6 := hsev.2.2.2.2.2.2
          have ff := hgb.frozen (k * 7 + 6)
          have HG := Lib.hid hgb
          have HLK := Lib.hid hlk
          have HHL := Lib.hid hlvl
          clear hgb hsev hik hlk hh hlvl hv2 hv3
          by_cases hsz6 : h.sz = -1
          · rw [hsz6] at f6
            have HS6 := Lib.hid hsz6
            clear hsz6
            go_wp2_with fail
            refine wp_region_tail 14 (fun w' => ∃ m, w' = wr.drewN m) (by kernel_rfl) (by kernel_rfl) ⟨1, rfl⟩ ?_
            simp only [List.take_succ_cons, List.take_zero, List.drop_succ_cons, List.drop_zero]
            repeat (go_big_quiet_step (fail))
            refine wpQuiet_nil ?_
            rintro w5 ⟨m, rfl⟩
            go_wp2_with fail
            go_roundw
            case rel =>
              have hgw : (wr.drewN m).grownBy ((wr.drewN m).setCell ⟨g, k * 7 + 6, none⟩ (.int .i64 (e.tot - h.st))) (some g) := grown_self_set (World.grownBy.refl _ _) _ _
              have hlg : k * 7 + 6 < (fl fh (mpF (endH e.tot 0 false) e.it k)).length := by rw [fl_length fh_len, mpF_length]; omega
              have hset := BlkL.set (HG.out.drewN m) (k * 7 + 6) (.int .i64 (e.tot - h.st))
              rw [List.set_append_left _ _ hlg, fh_size (mpF_at HLK.out), show ({ h with sz := e.tot - h.st } : Hd) = endH e.tot 0 false h by (unfold endH; rw [if_pos HS6.out, if_pos HHL.out]), mpF_set HLK.out] at hset
              have hne1 : ∀ {g' : Nat} {cs : List Value}, BlkL wr g' 33 cs → g' ≠ g := fun h1 e' => by
                subst e'
                have h2 := HG.out
                unfold BlkL at h1 h2
                rw [h1] at h2
                injection h2 with h2
                injection h2 with _ h2
                revert h2
                decide
              exact ⟨k + 1, by omega, by go_num, BlkL.grown (HZ.out.drewN m) hgw (fun e' => by injection e' with e'; exact hne1 HZ.out e'), OR.keep (w := wr.drewN m) HM.out hgw (fun g' hg' e' => by
                injection e' with e'
                rcases HM.out with ⟨_, h0⟩ | ⟨g2, c2', rest2, hv', _, hb'⟩
                · have := HEN.out.nms.1; rw [h0] at this; simp at this
                · injection hv' with hv' _ _
                  rw [hv'] at hg'
                  injection hg' with hg'
                  have h2 := HG.out
                  have h1 := hb'
                  have e3 : g2 = g := hg'.trans e'
                  subst e3
                  unfold BlkL at h1 h2
                  rw [h1] at h2
                  injection h2 with h2
                  injection h2 with _ h2
                  revert h2
                  decide), .inr ⟨g, c4, rest, by rw [mpF_length], hBg, hset⟩, BlkL.grown (HY.out.drewN m) hgw (fun e' => by injection e' with e'; exact hne1 HY.out e'), HB.out.trans ⟨hgw.os, hgw.tape, hgw.output, hgw.size, fun i hi' => hgw.block i (by show i < wr.heap.size; omega) (fun e' => by injection e' with e'; omega)⟩⟩
            case measure => simp [intOf]; omega
          · have hb6 : (h.sz == -1) = false := by simpa using hsz6
            go_wp2_with fail
            go_roundw
            case rel => exact ⟨k + 1, by omega, by go_num, HZ.out, HM.out, by rw [mpF_same HLK.out (show endH e.tot 0 false h = h from if_neg hsz6)]; exact HI.out, HY.out, HB.out⟩
            case measure => simp [intOf]; omega
      · obtain rfl : k = e.it.length := by omega
        go_wp2_with fail
        have hI9 := HI.out
        rw [mpF_all] at hI9
        have hq1 : ((startP e).col : Int) = e.col := Int.toNat_of_nonneg HEN.out.col.1
        have hq2 : ((startP e).pend : Int) = e.pend := Int.toNat_of_nonneg HEN.out.pend.1
        have hq3 : (endS e.tot 0 false e.it).length = e.it.length := by simp [endS]
        have hzs : w1.heap.size ≤ w2.heap.size := hsz
        refine (l05Flush_any wr w1.heap.size w2.heap.size e.W (startP e) A3 c3 A4 c4 (endS e.tot 0 false e.it) e.tot e.lev hzs (by rw [hq1, hq2, hq3]; exact HZ.out) (OR.rs fm_len HM.out) (OR.rs fh_len hI9) (by rw [hq3]; exact HCAP.out) ?_ ?_ rfl (HEN.out.fine 0 false) ?_ HEN.out.tot.2 (by have := HEN.out.w; omega) (by have := HEN.out.w; omega)).mono ?_
        · intro b o hA hne
          rcases hI9 with ⟨_, h0⟩ | ⟨g, c9, rest, hv, hBg, hgb⟩
          · exact (hne h0).elim
          · injection hv with hv1 _ _
            rw [hA] at hv1
            injection hv1 with hv1
            injection hv1 with e1 _
            subst e1
            refine ⟨hBg, ⟨_, hgb⟩, fun g' hg' e' => ?_⟩
            subst e'
            rcases HM.out with ⟨_, h0⟩ | ⟨g2, c2', rest2, hv', _, hb'⟩
            · have := HEN.out.nms.1; rw [h0] at this; simp at this
            · injection hv' with hv' _ _
              rw [hv'] at hg'
              injection hg' with hg'
              have h2 := hgb
              have h1 := hb'
              rw [show g2 = g' from hg'] at h1
              unfold BlkL at h1 h2
              rw [h1] at h2
              injection h2 with h2
              injection h2 with _ h2
              revert h2
              decide
        · intro g' hg'
          rcases HM.out with ⟨_, h0⟩ | ⟨g2, c2', rest2, hv', hB2', _⟩
          · have := HEN.out.nms.1; rw [h0] at this; simp at this
          · injection hv' with hv' _ _
            rw [hv'] at hg'
            injection hg' with hg'
            rw [← show g2 = g' from hg']
            exact hB2'
        · intro i x hx
          unfold endS at hx
          rw [List.getElem?_map] at hx
          obtain ⟨y, hy, rfl⟩ := Option.map_eq_some_iff.1 hx
          have := HEN.out.starts i y hy
          unfold endH
          split
          · split
            · exact this
            · split <;> exact this
          · exact this
        rintro r w8 ⟨rfl, ⟨A6, c6, A7, c7, hZ8, hM8, hI8, hab8, hac8⟩, hb8⟩
        change BlkL w8 w2.heap.size 33 [.int .i64 e.W, .int .i64 ((finF e).1.col : Int), .int .i64 ((finF e).1.pend : Int), .slice A6 (finF e).1.ms.length c6, .slice A7 (finF e).2.length c7, .int .i64 e.tot, .int .i64 e.lev] at hZ8
        change MS w8 A6 (finF e).1.ms at hM8
        change HS w8 A7 (finF e).2 at hI8
        change (finF e).2 ≠ [] → _ at hac8
        have hY8 := HY.out.below hb8 hyl
        have HB8 := Lib.hid (HB.out.trans (hb8.mono hsw))
        have HBN := Lib.hid (show finB e = true by unfold finB; rw [HEB.out, HLV.out]; rfl)
        have HT := Lib.hid (show finT e = ⟨(finF e).1.out.toArray⟩ from if_pos HBN.out)
        have HEE := Lib.hid (show finE e = ⟨e.W, (finF e).1.col, (finF e).1.pend, (finF e).1.ms, (finF e).2, e.tot, e.lev⟩ from if_pos HBN.out)
        have y0 : w8.cell? ⟨w.heap.size + 1, 0, none⟩ = some (.int .i64 0) := (hY8.cell 0).trans rfl
        have y1 : w8.cell? ⟨w.heap.size + 1, 1, none⟩ = some (.int .i64 0) := (hY8.cell 1).trans rfl
        have y2 : w8.cell? ⟨w.heap.size + 1, 2, none⟩ = some (.int .i64 0) := (hY8.cell 2).trans rfl
        have y3 : w8.cell? ⟨w.heap.size + 1, 3, none⟩ = some (.slice none 0 0) := (hY8.cell 3).trans rfl
        have y4 : w8.cell? ⟨w.heap.size + 1, 4, none⟩ = some (.slice none 0 0) := (hY8.cell 4).trans rfl
        have y5 : w8.cell? ⟨w.heap.size + 1, 5, none⟩ = some (.int .i64 0) := (hY8.cell 5).trans rfl
        have y6 : w8.cell? ⟨w.heap.size + 1, 6, none⟩ = some (.int .i64 0) := (hY8.cell 6).trans rfl
        have yf := hY8.frozen
        have yl := hY8.lt
        clear z4 z5 zl
        have z0 : w8.cell? ⟨w2.heap.size, 0, none⟩ = some (.int .i64 e.W) := (hZ8.cell 0).trans rfl
        have z1 : w8.cell? ⟨w2.heap.size, 1, none⟩ = some (.int .i64 ((finF e).1.col : Int)) := (hZ8.cell 1).trans rfl
        have z2 : w8.cell? ⟨w2.heap.size, 2, none⟩ = some (.int .i64 ((finF e).1.pend : Int)) := (hZ8.cell 2).trans rfl
        have z3 : w8.cell? ⟨w2.heap.size, 3, none⟩ = some (.slice A6 (finF e).1.ms.length c6) := (hZ8.cell 3).trans rfl
        have z4 : w8.cell? ⟨w2.heap.size, 4, none⟩ = some (.slice A7 (finF e).2.length c7) := (hZ8.cell 4).trans rfl
        have z5 : w8.cell? ⟨w2.heap.size, 5, none⟩ = some (.int .i64 e.tot) := (hZ8.cell 5).trans rfl
        have z6 : w8.cell? ⟨w2.heap.size, 6, none⟩ = some (.int .i64 e.lev) := (hZ8.cell 6).trans rfl
        have zl := hZ8.lt
        have HY8 := Lib.hid hY8
        have HM8 := Lib.hid hM8
        have HI8 := Lib.hid hI8
        have HA8 := Lib.hid hab8
        have HC8 := Lib.hid hac8
        clear hY8 hM8 hI8 hab8 hac8 hb8 hZ8 hI9 hq1 hq2 hq3
        go_wp2
        clear y0 y1 y2 y3 y4 y5 y6 yf yl z0 z1 z2 z3 z4 z5 z6 zl
        have hB9 := below_setN (B := w.heap.size) (a := w) (g := w.heap.size + 1) (by omega) [.int .i64 e.W, .int .i64 ((finF e).1.col : Int), .int .i64 ((finF e).1.pend : Int), .slice A6 (finF e).1.ms.length c6, .slice A7 (finF e).2.length c7, .int .i64 e.tot, .int .i64 e.lev] _ 0 HB8.out
        have hY9 := BlkL.setN [.int .i64 e.W, .int .i64 ((finF e).1.col : Int), .int .i64 ((finF e).1.pend : Int), .slice A6 (finF e).1.ms.length c6, .slice A7 (finF e).2.length c7, .int .i64 e.tot, .int .i64 e.lev] _ _ 0 HY8.out
        have hM9 : MS (World.setN w8 (w.heap.size + 1) 0 [.int .i64 e.W, .int .i64 ((finF e).1.col : Int), .int .i64 ((finF e).1.pend : Int), .slice A6 (finF e).1.ms.length c6, .slice A7 (finF e).2.length c7, .int .i64 e.tot, .int .i64 e.lev]) A6 (finF e).1.ms := RS.keep HM8.out (by simp [World.setN]) (fun b j hA _ => cell_setN (by have := HA8.out b hA; omega) _ _ _ _)
        have hI9 : HS (World.setN w8 (w.heap.size + 1) 0 [.int .i64 e.W, .int .i64 ((finF e).1.col : Int), .int .i64 ((finF e).1.pend : Int), .slice A6 (finF e).1.ms.length c6, .slice A7 (finF e).2.length c7, .int .i64 e.tot, .int .i64 e.lev]) A7 (finF e).2 := by
          by_cases hne : (finF e).2 = []
          · rw [hne]; exact RS.nil _ _
          · exact RS.keep HI8.out (by simp [World.setN]) (fun b j hA _ => cell_setN (by have := HC8.out hne b hA; omega) _ _ _ _)
        change bodyPost _ _ _ _ _ (World.setN w8 (w.heap.size + 1) 0 [.int .i64 e.W, .int .i64 ((finF e).1.col : Int), .int .i64 ((finF e).1.pend : Int), .slice A6 (finF e).1.ms.length c6, .slice A7 (finF e).2.length c7, .int .i64 e.tot, .int .i64 e.lev])
        generalize World.setN w8 (w.heap.size + 1) 0 [.int .i64 e.W, .int .i64 ((finF e).1.col : Int), .int .i64 ((finF e).1.pend : Int), .slice A6 (finF e).1.ms.length c6, .slice A7 (finF e).2.length c7, .int .i64 e.tot, .int .i64 e.lev] = w9 at *
        have k0 : w9.cell? ⟨w.heap.size + 1, 0, none⟩ = some (.int .i64 e.W) := (hY9.cell 0).trans rfl
        have k1 : w9.cell? ⟨w.heap.size + 1, 1, none⟩ = some (.int .i64 ((finF e).1.col : Int)) := (hY9.cell 1).trans rfl
        have k2 : w9.cell? ⟨w.heap.size + 1, 2, none⟩ = some (.int .i64 ((finF e).1.pend : Int)) := (hY9.cell 2).trans rfl
        have k3 : w9.cell? ⟨w.heap.size + 1, 3, none⟩ = some (.slice A6 (finF e).1.ms.length c6) := (hY9.cell 3).trans rfl
        have k4 : w9.cell? ⟨w.heap.size + 1, 4, none⟩ = some (.slice A7 (finF e).2.length c7) := (hY9.cell 4).trans rfl
        have k5 : w9.cell? ⟨w.heap.size + 1, 5, none⟩ = some (.int .i64 e.tot) := (hY9.cell 5).trans rfl
        have k6 : w9.cell? ⟨w.heap.size + 1, 6, none⟩ = some (.int .i64 e.lev) := (hY9.cell 6).trans rfl
        refine bodyPost_ret (v := .tuple #[.agg #[.int .i64 e.W, .int .i64 ((finF e).1.col : Int), .int .i64 ((finF e).1.pend : Int), .slice A6 (finF e).1.ms.length c6, .slice A7 (finF e).2.length c7, .int .i64 e.tot, .int .i64 e.lev], .string ⟨(finF e).1.out.toArray⟩, .bool true]) (by simp [results, Try.results15, go_sem, k0, k1, k2, k3, k4, k5, k6] <;> rfl) rfl ⟨.agg #[.int .i64 e.W, .int .i64 ((finF e).1.col : Int), .int .i64 ((finF e).1.pend : Int), .slice A6 (finF e).1.ms.length c6, .slice A7 (finF e).2.length c7, .int .i64 e.tot, .int .i64 e.lev], ?_, ?_, hB9⟩
        · rw [HT.out, HBN.out]
        · rw [HEE.out]; exact ⟨A6, c6, A7, c7, rfl, hM9, hI9⟩
  · have HBN := Lib.hid (show finB e = false by unfold finB; rw [he]; simp [hlv])
    have hl1 : (e.lev == 0) = false := by simpa using hlv
    have hl2 : (e.lev != 0) = true := by simpa using hlv
    clear he
    have HT := Lib.hid (show finT e = ByteArray.empty from if_neg (by rw [HBN.out]; decide))
    have HEE := Lib.hid (show finE e = e from if_neg (by rw [HBN.out]; decide))
    have y0 : w4.cell? ⟨w.heap.size + 1, 0, none⟩ = some (.int .i64 0) := (HY4.out.cell 0).trans rfl
    have y1 : w4.cell? ⟨w.heap.size + 1, 1, none⟩ = some (.int .i64 0) := (HY4.out.cell 1).trans rfl
    have y2 : w4.cell? ⟨w.heap.size + 1, 2, none⟩ = some (.int .i64 0) := (HY4.out.cell 2).trans rfl
    have y3 : w4.cell? ⟨w.heap.size + 1, 3, none⟩ = some (.slice none 0 0) := (HY4.out.cell 3).trans rfl
    have y4 : w4.cell? ⟨w.heap.size + 1, 4, none⟩ = some (.slice none 0 0) := (HY4.out.cell 4).trans rfl
    have y5 : w4.cell? ⟨w.heap.size + 1, 5, none⟩ = some (.int .i64 0) := (HY4.out.cell 5).trans rfl
    have y6 : w4.cell? ⟨w.heap.size + 1, 6, none⟩ = some (.int .i64 0) := (HY4.out.cell 6).trans rfl
    have yf := HY4.out.frozen
    have yl := HY4.out.lt
    go_wp2
    clear y0 y1 y2 y3 y4 y5 y6 yf yl z0 z1 z2 z3 z4 z5 z6 zl zf x0 x1 x2 x3 x4 x5 x6 xl
    have hO9 := EngO.setN HY4.out (by decide) (by decide) [.int .i64 e.W, .int .i64 e.col, .int .i64 e.pend, .slice A3 e.ms.length c3, .slice A4 e.it.length c4, .int .i64 e.tot, .int .i64 e.lev] 0 (show EngO w4 w.heap.size (ev e A3 c3 A4 c4) e from ⟨A3, c3, A4, c4, rfl, HOM4.out, HOI4.out⟩)
    have hB9 := below_setN (B := w.heap.size) (a := w) (g := w.heap.size + 1) (by omega) [.int .i64 e.W, .int .i64 e.col, .int .i64 e.pend, .slice A3 e.ms.length c3, .slice A4 e.it.length c4, .int .i64 e.tot, .int .i64 e.lev] _ 0 HB4.out
    have hY9 := BlkL.setN [.int .i64 e.W, .int .i64 e.col, .int .i64 e.pend, .slice A3 e.ms.length c3, .slice A4 e.it.length c4, .int .i64 e.tot, .int .i64 e.lev] _ _ 0 HY4.out
    change bodyPost _ _ _ _ _ (World.setN w4 (w.heap.size + 1) 0 [.int .i64 e.W, .int .i64 e.col, .int .i64 e.pend, .slice A3 e.ms.length c3, .slice A4 e.it.length c4, .int .i64 e.tot, .int .i64 e.lev])
    generalize World.setN w4 (w.heap.size + 1) 0 [.int .i64 e.W, .int .i64 e.col, .int .i64 e.pend, .slice A3 e.ms.length c3, .slice A4 e.it.length c4, .int .i64 e.tot, .int .i64 e.lev] = w9 at *
    have k0 : w9.cell? ⟨w.heap.size + 1, 0, none⟩ = some (.int .i64 e.W) := (hY9.cell 0).trans rfl
    have k1 : w9.cell? ⟨w.heap.size + 1, 1, none⟩ = some (.int .i64 e.col) := (hY9.cell 1).trans rfl
    have k2 : w9.cell? ⟨w.heap.size + 1, 2, none⟩ = some (.int .i64 e.pend) := (hY9.cell 2).trans rfl
    have k3 : w9.cell? ⟨w.heap.size + 1, 3, none⟩ = some (.slice A3 e.ms.length c3) := (hY9.cell 3).trans rfl
    have k4 : w9.cell? ⟨w.heap.size + 1, 4, none⟩ = some (.slice A4 e.it.length c4) := (hY9.cell 4).trans rfl
    have k5 : w9.cell? ⟨w.heap.size + 1, 5, none⟩ = some (.int .i64 e.tot) := (hY9.cell 5).trans rfl
    have k6 : w9.cell? ⟨w.heap.size + 1, 6, none⟩ = some (.int .i64 e.lev) := (hY9.cell 6).trans rfl
    refine bodyPost_ret (v := .tuple #[ev e A3 c3 A4 c4, .string ByteArray.empty, .bool false]) (by simp [results, Try.results15, go_sem, k0, k1, k2, k3, k4, k5, k6, ev] <;> rfl) rfl ⟨ev e A3 c3 A4 c4, ?_, ?_, hB9⟩
    · rw [HT.out, HBN.out]
    · rw [HEE.out]; exact hO9.r
end Go.Proofs.Ytigdbkdddnbfpab
