/-
  The model's run over a stream.
-/
import Derived.Test.YthjkgbcomjiejadGreatDoorSpp
import Derived.Test.YthjkgbcomjiejadGreatDoorLay
import Derived.Test.YthjkgbcomjiejadGreatDoorSSiz
namespace Go.Proofs.YthjkgbcomjiejadGreatDoor
open Go.RowKit
set_option linter.unusedVariables false

set_option maxHeartbeats 400000 in
theorem sNew_any (W : Int) (w : World) : Calls Tryz.prog 173 #[.int .i64 W] w fun e w' => e = .returned (.agg #[.int .i64 W, .int .i64 0, .int .i64 0, .slice (some ⟨w.heap.size + 1, 0, none⟩) 1 1, .slice none 0 0]) ∧ Below w.heap.size w w' ∧ BlkL w' (w.heap.size + 1) 248 [.int .i64 2, .int .i64 0] := by
  go_enter Tryz.func173, Tryz.ntmps173
  go_wp2
  have h2 := BlkL.new (w.alloc (.cells #[.int .i64 W, .int .i64 0, .int .i64 0, .slice (some ⟨w.heap.size + 1, 0, none⟩) 1 1, .slice none 0 0] 186)) 248 [.int .i64 2, .int .i64 0]
  rw [World.size_alloc] at h2
  refine bodyPost_ret (v := .agg #[.int .i64 W, .int .i64 0, .int .i64 0, .slice (some ⟨w.heap.size + 1, 0, none⟩) 1 1, .slice none 0 0]) (by simp [results, Tryz.results173, go_sem]) rfl ?_
  exact ⟨rfl, ((Below.refl _ _).alloc (Nat.le_refl _) _).alloc (by simp) _, h2⟩

theorem five_blk {w : World} {R : Nat} {t : TypeId} {y0 y1 y2 y3 y4 : Value} (h : BlkL w R t [y0, y1, y2, y3, y4]) (x0 x1 x2 x3 x4 : Value) :
    BlkL (((((w.setCell ⟨R, 0, none⟩ x0).setCell ⟨R, 1, none⟩ x1).setCell ⟨R, 2, none⟩ x2).setCell ⟨R, 3, none⟩ x3).setCell ⟨R, 4, none⟩ x4) R t [x0, x1, x2, x3, x4] :=
  ((((h.set 0 x0).set 1 x1).set 2 x2).set 3 x3).set 4 x4
theorem five_below {B R : Nat} {a w : World} (h : Below B a w) (hR : B ≤ R) (x0 x1 x2 x3 x4 : Value) :
    Below B a (((((w.setCell ⟨R, 0, none⟩ x0).setCell ⟨R, 1, none⟩ x1).setCell ⟨R, 2, none⟩ x2).setCell ⟨R, 3, none⟩ x3).setCell ⟨R, 4, none⟩ x4) :=
  ((((h.setCell (p := ⟨R, 0, none⟩) hR _).setCell (p := ⟨R, 1, none⟩) hR _).setCell (p := ⟨R, 2, none⟩) hR _).setCell (p := ⟨R, 3, none⟩) hR _).setCell (p := ⟨R, 4, none⟩) hR _
theorem five_own {w : World} {B R : Nat} {e : TypeId} {z : Nat} {v : Value} {n : Nat} {xs : List Value} (h : w.ownsRow B e z v n xs) (hR : R < B) (x0 x1 x2 x3 x4 : Value) :
    (((((w.setCell ⟨R, 0, none⟩ x0).setCell ⟨R, 1, none⟩ x1).setCell ⟨R, 2, none⟩ x2).setCell ⟨R, 3, none⟩ x3).setCell ⟨R, 4, none⟩ x4).ownsRow B e z v n xs :=
  ownsRow_setCell_below (ownsRow_setCell_below (ownsRow_setCell_below (ownsRow_setCell_below (ownsRow_setCell_below h (a := ⟨R, 0, none⟩) hR _) (a := ⟨R, 1, none⟩) hR _) (a := ⟨R, 2, none⟩) hR _) (a := ⟨R, 3, none⟩) hR _) (a := ⟨R, 4, none⟩) hR _

/-- what the model's run leaves. -/
def RunPost (W : Int) (w : World) (l : List Tk) (n : Nat) (e : Ending) (w' : World) : Prop :=
  Below w.heap.size w w' ∧ ((okB W l = true ∧ ∃ v AM cM AW cW, e = .returned (.tuple #[.agg #[.int .i64 W, .int .i64 (run W l n).1.col, .int .i64 (run W l n).1.pend, .slice AM (run W l n).1.ms.length cM, .slice AW (run W l n).1.out.length cW], v, .bool true]) ∧ w'.ownsRow w.heap.size 3 1 v (run W l n).2.length (nums (run W l n).2) ∧
      w'.ownsRow w.heap.size 5 1 (.slice AW (run W l n).1.out.length cW) (run W l n).1.out.length (Lib.byteCells (run W l n).1.out) ∧ w'.ownsRow w.heap.size 248 2 (.slice AM (run W l n).1.ms.length cM) (run W l n).1.ms.length (mf (run W l n).1.ms)) ∨
    (okB W l = false ∧ ∃ g, e = .returned (.tuple #[.agg #[.int .i64 W, .int .i64 0, .int .i64 0, .slice (some g) 1 1, .slice none 0 0], .slice none 0 0, .bool false])))

set_option maxHeartbeats 2000000 in
set_option maxRecDepth 100000 in
theorem sRun_any (W n : Int) (A : Option Addr) (l : List Tk) (m c : Nat) (w : World) (hm : l.length = m) (hmb : m ≤ 2097152) (hts : TS w A l) (hlow : ∀ b, A.map (·.block) = some b → b < w.heap.size) (hf : Fits l) :
    Calls Tryz.prog 146 #[.int .i64 W, .slice A m c, .int .i64 n] w (RunPost W w l (clampN n m)) := by
  have HM := Lib.hid hm
  have HT := Lib.hid hts
  have HF := Lib.hid hf
  have HL := Lib.hid hlow
  clear hm hts hf hlow
  go_enter Tryz.func146, Tryz.ntmps146
  go_wp2_with fail
  refine (sNew_any W _).mono ?_
  rintro e w1 ⟨rfl, hb1, hk1⟩
  rw [World.size_alloc] at hb1 hk1
  have hR := BlkL.new w 186 [.int .i64 0, .int .i64 0, .int .i64 0, .slice none 0 0, .slice none 0 0]
  have hR2 := (hR.below hb1 (by omega)).alloc (.cells #[.int .i64 W, .int .i64 0, .int .i64 0, .slice (some ⟨w.heap.size + 1 + 1, 0, none⟩) 1 1, .slice none 0 0] 186)
  have hP2 := BlkL.new w1 186 [.int .i64 W, .int .i64 0, .int .i64 0, .slice (some ⟨w.heap.size + 1 + 1, 0, none⟩) 1 1, .slice none 0 0]
  have hz1 : w.heap.size + 1 ≤ w1.heap.size := hb1.size |> (by simpa using ·)
  have hb2 : Below w.heap.size w (w1.alloc (.cells #[.int .i64 W, .int .i64 0, .int .i64 0, .slice (some ⟨w.heap.size + 1 + 1, 0, none⟩) 1 1, .slice none 0 0] 186)) := (((Below.refl _ _).alloc (Nat.le_refl _) _).trans (hb1.mono (by omega))).alloc (by omega) _
  have hq2 : QA (w1.alloc (.cells #[.int .i64 W, .int .i64 0, .int .i64 0, .slice (some ⟨w.heap.size + 1 + 1, 0, none⟩) 1 1, .slice none 0 0] 186)) (w.heap.size + 1) w1.heap.size W Pr.start (.slice none 0 0) (.slice (some ⟨w.heap.size + 1 + 1, 0, none⟩) 1 1) :=
    ⟨hz1, hP2, World.ownsRow_nil _ _ _ _, ⟨rfl, .inr ⟨_, 1, _, rfl, by omega, hk1.alloc _, Nat.le_refl 1, by simp only [maxLen]; omega, rfl, rfl⟩⟩, by decide, by decide, by decide, by decide, by decide⟩
  have hsz2 : (w1.alloc (.cells #[.int .i64 W, .int .i64 0, .int .i64 0, .slice (some ⟨w.heap.size + 1 + 1, 0, none⟩) 1 1, .slice none 0 0] 186)).heap.size = w1.heap.size + 1 := by simp
  have HT2 := Lib.hid (HT.out.below hb2)
  go_wp2_with fail
  clear hR hP2 hb1 hk1
  generalize w1.alloc (.cells #[.int .i64 W, .int .i64 0, .int .i64 0, .slice (some ⟨w.heap.size + 1 + 1, 0, none⟩) 1 1, .slice none 0 0] 186) = w2 at *
  have HB2 := Lib.hid hb2
  have HQ2 := Lib.hid hq2
  have HR2 := Lib.hid hR2
  clear hb2 hq2 hR2
  refine (sLevels_any A l m c _ HM.out hmb HT2.out HF.out).mono ?_
  rintro e w3 ⟨A1, m1, c1, d1, rfl, hb3, hlev⟩
  have HB3 := Lib.hid (HB2.out.trans (hb3.mono HB2.out.size))
  have HQ3 := Lib.hid (PM.below HQ2.out hb3)
  have HR3 := Lib.hid (HR2.out.below hb3 HR2.out.lt)
  have HT3 := Lib.hid (HT2.out.below hb3)
  have HLV := Lib.hid hlev
  have hz3 := hb3.size
  clear hb3 hlev
  go_wp2_with fail
  refine (l01In_any W 1 200 w3).mono ?_
  rintro e w4 ⟨rfl, rfl⟩
  cases hw : inB W 1 200
  · have HO := Lib.hid (show okB W l = false from by simp [okB, hw])
    obtain ⟨c0, c1', c2, c3, c4, hp⟩ := QA.cells HQ3.out
    have r0 : w3.cell? ⟨w.heap.size, 0, none⟩ = some (.int .i64 0) := (HR3.out.cell 0).trans rfl
    have r1 : w3.cell? ⟨w.heap.size, 1, none⟩ = some (.int .i64 0) := (HR3.out.cell 1).trans rfl
    have r2 : w3.cell? ⟨w.heap.size, 2, none⟩ = some (.int .i64 0) := (HR3.out.cell 2).trans rfl
    have r3 : w3.cell? ⟨w.heap.size, 3, none⟩ = some (.slice none 0 0) := (HR3.out.cell 3).trans rfl
    have r4 : w3.cell? ⟨w.heap.size, 4, none⟩ = some (.slice none 0 0) := (HR3.out.cell 4).trans rfl
    have rf := HR3.out.frozen
    have hne : w.heap.size ≠ w1.heap.size := by omega
    have hne' : w1.heap.size ≠ w.heap.size := by omega
    go_wp2
    have h9 := five_blk HR3.out (.int .i64 W) (.int .i64 Pr.start.col) (.int .i64 Pr.start.pend) (.slice (some ⟨w.heap.size + 1 + 1, 0, none⟩) 1 1) (.slice none 0 0)
    have hb9 := five_below HB3.out (Nat.le_refl _) (.int .i64 W) (.int .i64 Pr.start.col) (.int .i64 Pr.start.pend) (.slice (some ⟨w.heap.size + 1 + 1, 0, none⟩) 1 1) (.slice none 0 0)
    generalize ((((w3.setCell ⟨w.heap.size, 0, none⟩ (.int .i64 W)).setCell ⟨w.heap.size, 1, none⟩ (.int .i64 Pr.start.col)).setCell ⟨w.heap.size, 2, none⟩ (.int .i64 Pr.start.pend)).setCell ⟨w.heap.size, 3, none⟩ (.slice (some ⟨w.heap.size + 1 + 1, 0, none⟩) 1 1)).setCell ⟨w.heap.size, 4, none⟩ (.slice none 0 0) = w9 at *
    have e0 := (h9.cell 0)
    have e1 := (h9.cell 1)
    have e2 := (h9.cell 2)
    have e3 := (h9.cell 3)
    have e4 := (h9.cell 4)
    simp only [List.getElem?_cons_zero, List.getElem?_cons_succ] at e0 e1 e2 e3 e4
    refine bodyPost_ret (v := .tuple #[.agg #[.int .i64 W, .int .i64 Pr.start.col, .int .i64 Pr.start.pend, .slice (some ⟨w.heap.size + 1 + 1, 0, none⟩) 1 1, .slice none 0 0], .slice none 0 0, .bool false]) (by simp [results, Tryz.results146, go_sem, e0, e1, e2, e3, e4]) rfl ?_
    exact ⟨hb9, .inr ⟨HO.out, _, rfl⟩⟩
  · cases hS : strB l
    · have HO := Lib.hid (show okB W l = false from by simp [okB, hS])
      obtain ⟨c0, c1', c2, c3, c4, hp⟩ := QA.cells HQ3.out
      have r0 : w3.cell? ⟨w.heap.size, 0, none⟩ = some (.int .i64 0) := (HR3.out.cell 0).trans rfl
      have r1 : w3.cell? ⟨w.heap.size, 1, none⟩ = some (.int .i64 0) := (HR3.out.cell 1).trans rfl
      have r2 : w3.cell? ⟨w.heap.size, 2, none⟩ = some (.int .i64 0) := (HR3.out.cell 2).trans rfl
      have r3 : w3.cell? ⟨w.heap.size, 3, none⟩ = some (.slice none 0 0) := (HR3.out.cell 3).trans rfl
      have r4 : w3.cell? ⟨w.heap.size, 4, none⟩ = some (.slice none 0 0) := (HR3.out.cell 4).trans rfl
      have rf := HR3.out.frozen
      have hne : w.heap.size ≠ w1.heap.size := by omega
      have hne' : w1.heap.size ≠ w.heap.size := by omega
      go_wp2
      have h9 := five_blk HR3.out (.int .i64 W) (.int .i64 Pr.start.col) (.int .i64 Pr.start.pend) (.slice (some ⟨w.heap.size + 1 + 1, 0, none⟩) 1 1) (.slice none 0 0)
      have hb9 := five_below HB3.out (Nat.le_refl _) (.int .i64 W) (.int .i64 Pr.start.col) (.int .i64 Pr.start.pend) (.slice (some ⟨w.heap.size + 1 + 1, 0, none⟩) 1 1) (.slice none 0 0)
      generalize ((((w3.setCell ⟨w.heap.size, 0, none⟩ (.int .i64 W)).setCell ⟨w.heap.size, 1, none⟩ (.int .i64 Pr.start.col)).setCell ⟨w.heap.size, 2, none⟩ (.int .i64 Pr.start.pend)).setCell ⟨w.heap.size, 3, none⟩ (.slice (some ⟨w.heap.size + 1 + 1, 0, none⟩) 1 1)).setCell ⟨w.heap.size, 4, none⟩ (.slice none 0 0) = w9 at *
      have e0 := (h9.cell 0)
      have e1 := (h9.cell 1)
      have e2 := (h9.cell 2)
      have e3 := (h9.cell 3)
      have e4 := (h9.cell 4)
      simp only [List.getElem?_cons_zero, List.getElem?_cons_succ] at e0 e1 e2 e3 e4
      refine bodyPost_ret (v := .tuple #[.agg #[.int .i64 W, .int .i64 Pr.start.col, .int .i64 Pr.start.pend, .slice (some ⟨w.heap.size + 1 + 1, 0, none⟩) 1 1, .slice none 0 0], .slice none 0 0, .bool false]) (by simp [results, Tryz.results146, go_sem, e0, e1, e2, e3, e4]) rfl ?_
      exact ⟨hb9, .inr ⟨HO.out, _, rfl⟩⟩
    · have HO := Lib.hid (show okB W l = true from by simp [okB, hS, hw])
      have HOK := HO
      clear HO
      have hWb := inB_true.1 hw
      obtain ⟨-, hm1, hlv⟩ := HLV.out hS
      have HSS := Lib.hid hS
      have hml := HM.out
      obtain rfl : m1 = m := by omega
      have HO3 := Lib.hid hlv
      clear hlv hm1 HLV hml
      obtain ⟨i0, hi, hz0, hz1', hz2⟩ := info_parts infoInt
      have hcl : clampN n m1 ≤ m1 := by unfold clampN; omega
      have hlt0 := HO3.out.lt
      have HLT0 := Lib.hid hlt0
      clear hlt0 hS hw
      go_wp2_with fail
      go_loopw [13, 14] (fun v i wr => ∃ k : Nat, k ≤ clampN n m1 ∧ i = .int .i64 k ∧ wr.ownsRow (w.heap.size + 1) 3 1 v (run W l k).2.length (nums (run W l k).2) ∧ ((Value.slice A1 m1 c1).ownBlock = none ∨ (Value.slice A1 m1 c1).ownBlock ≠ v.ownBlock) ∧ (∃ vW vM, QA wr (w.heap.size + 1) w1.heap.size W (run W l k).1 vW vM) ∧ wr.ownsRow w2.heap.size 3 1 (.slice A1 m1 c1) m1 (nums (levs l)) ∧ BlkL wr w.heap.size 186 [.int .i64 0, .int .i64 0, .int .i64 0, .slice none 0 0, .slice none 0 0] ∧ Below w.heap.size w wr ∧ w3.heap.size ≤ wr.heap.size) (fun _ i _ => clampN n m1 - (intOf i).toNat)
      case atStart =>
        refine ⟨0, Nat.zero_le _, rfl, ?_, ?_, ⟨_, _, PM.alloc HQ3.out _⟩, HO3.out.alloc _, HR3.out.alloc _, HB3.out.alloc HB3.out.size _, by simp⟩
        · exact World.ownsRow_lit (base := w.heap.size + 1) (e := 3) (size := 1) w3 #[] 0 (by omega) (Nat.zero_le _) rfl
        · cases hA : (Value.slice A1 m1 c1).ownBlock with
          | none => exact .inl rfl
          | some q => refine .inr fun e => ?_; have := (HLT0.out q hA).2; simp [Value.ownBlock] at e; omega
      case round =>
        obtain ⟨k, hk, rfl, hown, hne, ⟨vW1, vM1, hqa⟩, hlv, hr, hbw, hz4⟩ := hrel
        have HO := Lib.hid hown
        have HNE := Lib.hid hne
        have HQA := Lib.hid hqa
        have HLV := Lib.hid hlv
        have HR := Lib.hid hr
        have HBW := Lib.hid hbw
        have HTR := Lib.hid (HT.out.below hbw)
        clear hown hne hqa hlv hr hbw
        by_cases hlt : k < clampN n m1
        · have hkm : k < m1 := by omega
          have hkn : (k : Int) < n := by unfold clampN at hlt; omega
          obtain ⟨t, ht⟩ : ∃ t, l[k]? = some t := ⟨_, List.getElem?_eq_getElem (by have := HM.out; omega)⟩
          obtain ⟨b, o, rfl, hbl, d0, d1', d2, d3⟩ := HTR.out k t ht
          have htok := (okN_at (strB_true HSS.out).2.1 (show k < l.length by have := HM.out; omega) ht).1
          have HTT := Lib.hid ht
          have HRS := Lib.hid (run_succ (W := W) ht)
          have hkl : k ≤ l.length := by have := HM.out; omega
          have hrl : (run W l k).2.length ≤ k := (run_ok W HSS.out k hkl).2.2.2
          have h400 := (strB_true HSS.out).1
          have HSZ := Lib.hid (show ∀ V, Bw wr V → Calls Tryz.prog 175 #[.slice (some ⟨b, o, none⟩) m1 c, .slice A1 m1 c1, .int .i64 k] V (fun e w' => e = .returned (.int .i64 (sizI l k t)) ∧ Below V.heap.size V w') from
            fun V hV => by
              have h := sSize_any (some ⟨b, o, none⟩) A1 l c c1 k t V HSS.out HTT.out (HTR.out.below hV) (IS.of_own (ownsRow_keep HLV.out hV)) HF.out
              rw [HM.out] at h
              exact h)
          have HPUT := Lib.hid (show ∀ V, Bw wr V → Calls Tryz.prog 174 #[.pointer (some ⟨w1.heap.size, 0, none⟩), .agg #[.int .i64 t.k, .string t.s, .int .i64 t.d, .int .i64 t.o], .int .i64 (sizI l k t)] V (QPost (w.heap.size + 1) w1.heap.size W V (.bool ((run W l k).1.put W t (sizI l k t)).2) ((run W l k).1.put W t (sizI l k t)).1) from
            fun V hV => sPut_any (PM.below HQA.out hV) (run_sm W HSS.out hkl) (Nat.le_trans (show w.heap.size + 1 ≤ wr.heap.size by omega) hV.size) (by omega) (by omega) htok)
          clear ht
          cases hput : ((run W l k).1.put W t (sizI l k t)).2
          · rw [hput] at HPUT
            go_wp2_with fail
            go_region_with (first
              | ((with_reducible refine (HSZ.out _ ?_).mono ?_); exact Bw.start _; rintro e w5 ⟨rfl, hb5⟩; have HB5 := Lib.hid (show Bw wr w5 from Bw.keep wr _ _ (Bw.start wr) hb5); obtain ⟨hb5', q0, q1, q2, q3⟩ := (HTR.out.below HB5.out).get HTT.out; clear hb5)
              | ((with_reducible refine (HPUT.out _ ?_).mono ?_); exact HB5.out; rintro e w6 ⟨rfl, hc6, vW6, vM6, hp6⟩; have HC6 := Lib.hid ((Chg.of_below HB5.out).trans hc6); have HP6 := Lib.hid hp6; clear hc6 hp6))
            all_goals
              have hz6 := HC6.out.size
              go_wp2
              go_roundw
              case rel =>
                refine ⟨k + 1, by omega, by go_num, ?_, HNE.out, ⟨vW6, vM6, ?_⟩, HC6.out.row HLV.out, (HC6.out.low _ (by omega) (by omega)).trans HR.out, HBW.out.trans ((HC6.out.below (by omega)).mono (by omega)), by omega⟩
                · rw [HRS.out, hput]
                  simpa using HC6.out.row HO.out
                · rw [HRS.out]; exact HP6.out
              case measure => simp [intOf] <;> omega
          · rw [hput] at HPUT
            go_wp2_with fail
            go_region_with (first
              | ((with_reducible refine (HSZ.out _ ?_).mono ?_); exact Bw.start _; rintro e w5 ⟨rfl, hb5⟩; have HB5 := Lib.hid (show Bw wr w5 from Bw.keep wr _ _ (Bw.start wr) hb5); obtain ⟨hb5', q0, q1, q2, q3⟩ := (HTR.out.below HB5.out).get HTT.out; clear hb5)
              | ((with_reducible refine (HPUT.out _ ?_).mono ?_); exact HB5.out; rintro e w6 ⟨rfl, hc6, vW6, vM6, hp6⟩; have HC6 := Lib.hid ((Chg.of_below HB5.out).trans hc6); have HP6 := Lib.hid hp6; clear hc6 hp6))
            all_goals
              have HO6 := Lib.hid (HC6.out.row HO.out)
              have hz6 := HC6.out.size
              go_wp2_with (at_builtin; refine wpList_append_own_at _ rfl _ _ 57 rfl (w.heap.size + 1) 3 i0 (.int .i64 0) 1 8 Tryz.underlying57 hi hz0 hz1' hz2 rfl (by decide) _ _ _ rfl (HO6.out.alloc _) ⟨w6.heap.size, 0, none⟩ 1 1 [.int .i64 k] rfl rfl (cell_one_new _ _ _) (by simp [Value.oneCell']) (by simp only [maxLen]; omega) (by omega) (by simp; omega) ?_)
              intro v' w7 hown7 hgrow7 _ hat7
              have HLV6 := HC6.out.row HLV.out
              have HO7 := Lib.hid hown7
              have HP7 := Lib.hid (PM.row_int (PM.alloc HP6.out _) (HO6.out.alloc _) hgrow7)
              have HB7 := Lib.hid (show Below w.heap.size w w7 from ((HBW.out.trans ((HC6.out.below (by omega)).mono (by omega))).alloc (by omega) _).grown hgrow7 (by simp; omega) (fun q hq => by have := (HO6.out.lt q hq).1; omega))
              have HR7 := Lib.hid (show BlkL w7 w.heap.size 186 [.int .i64 0, .int .i64 0, .int .i64 0, .slice none 0 0, .slice none 0 0] from (BlkL.alloc ((HC6.out.low _ (by omega) (by omega)).trans HR.out) _).grown hgrow7 (fun e => by have := (HO6.out.lt _ e.symm).1; omega))
              have HLV7 := Lib.hid ((HLV6.alloc _).kept hgrow7 HNE.out)
              have HN7 := Lib.hid (show ((Value.slice A1 m1 c1).ownBlock = none ∨ (Value.slice A1 m1 c1).ownBlock ≠ v'.ownBlock) from by
                rcases hat7 with h | h
                · rw [h]; exact HNE.out
                · rw [h]
                  cases hA : (Value.slice A1 m1 c1).ownBlock with
                  | none => exact .inl rfl
                  | some q => refine .inr fun e => ?_; have := (HLV6.lt q hA).2; simp at e; omega)
              have hz7 := hgrow7.size
              simp only [World.size_alloc] at hz7
              clear hown7 hgrow7 hat7 HLV6
              go_wp2
              go_roundw
              case rel =>
                refine ⟨k + 1, by omega, by go_num, ?_, HN7.out, ⟨vW6, vM6, ?_⟩, HLV7.out, HR7.out, HB7.out, by omega⟩
                · rw [HRS.out, hput]
                  have := HO7.out
                  simpa [nums] using this
                · rw [HRS.out]; exact HP7.out
              case measure => simp [intOf] <;> omega
        · have hkn : k = clampN n m1 := by omega
          have hend : ¬((k : Int) < m1 ∧ (k : Int) < n) := by unfold clampN at hkn; omega
          have r0 : wr.cell? ⟨w.heap.size, 0, none⟩ = some (.int .i64 0) := (HR.out.cell 0).trans rfl
          have r1 : wr.cell? ⟨w.heap.size, 1, none⟩ = some (.int .i64 0) := (HR.out.cell 1).trans rfl
          have r2 : wr.cell? ⟨w.heap.size, 2, none⟩ = some (.int .i64 0) := (HR.out.cell 2).trans rfl
          have r3 : wr.cell? ⟨w.heap.size, 3, none⟩ = some (.slice none 0 0) := (HR.out.cell 3).trans rfl
          have r4 : wr.cell? ⟨w.heap.size, 4, none⟩ = some (.slice none 0 0) := (HR.out.cell 4).trans rfl
          have rf := HR.out.frozen
          have hne : w.heap.size ≠ w1.heap.size := by omega
          have hne' : w1.heap.size ≠ w.heap.size := by omega
          obtain ⟨s0, s1, s2, s3, s4, hp⟩ := QA.cells HQA.out
          obtain ⟨AM, cM, rfl⟩ : ∃ AM cM, vM1 = .slice AM (run W l k).1.ms.length cM := by
            rcases Joins.ownsRow_forms (PM.mks HQA.out) with ⟨h, h0⟩ | ⟨g, cap, h⟩
            · exact ⟨none, 0, by rw [h, h0]⟩
            · exact ⟨_, _, h⟩
          obtain ⟨AW, cW, rfl, _⟩ := own_slice1 (PM.own HQA.out)
          subst hkn
          by_cases hkm : (clampN n m1 : Int) < m1
          · have hkn' : ¬ ((clampN n m1 : Int) < n) := fun h => hend ⟨hkm, h⟩
            clear hend hlt
            go_wp2
            have h9 := five_blk HR.out (.int .i64 W) (.int .i64 (run W l (clampN n m1)).1.col) (.int .i64 (run W l (clampN n m1)).1.pend) (.slice AM (run W l (clampN n m1)).1.ms.length cM) (.slice AW (run W l (clampN n m1)).1.out.length cW)
            have hb9 := five_below HBW.out (Nat.le_refl _) (.int .i64 W) (.int .i64 (run W l (clampN n m1)).1.col) (.int .i64 (run W l (clampN n m1)).1.pend) (.slice AM (run W l (clampN n m1)).1.ms.length cM) (.slice AW (run W l (clampN n m1)).1.out.length cW)
            have o1 := five_own HO.out (Nat.lt_succ_self _) (.int .i64 W) (.int .i64 (run W l (clampN n m1)).1.col) (.int .i64 (run W l (clampN n m1)).1.pend) (.slice AM (run W l (clampN n m1)).1.ms.length cM) (.slice AW (run W l (clampN n m1)).1.out.length cW)
            have o2 := five_own (PM.own HQA.out) (Nat.lt_succ_self _) (.int .i64 W) (.int .i64 (run W l (clampN n m1)).1.col) (.int .i64 (run W l (clampN n m1)).1.pend) (.slice AM (run W l (clampN n m1)).1.ms.length cM) (.slice AW (run W l (clampN n m1)).1.out.length cW)
            have o3 := five_own (PM.mks HQA.out) (Nat.lt_succ_self _) (.int .i64 W) (.int .i64 (run W l (clampN n m1)).1.col) (.int .i64 (run W l (clampN n m1)).1.pend) (.slice AM (run W l (clampN n m1)).1.ms.length cM) (.slice AW (run W l (clampN n m1)).1.out.length cW)
            generalize ((((wr.setCell ⟨w.heap.size, 0, none⟩ (.int .i64 W)).setCell ⟨w.heap.size, 1, none⟩ (.int .i64 (run W l (clampN n m1)).1.col)).setCell ⟨w.heap.size, 2, none⟩ (.int .i64 (run W l (clampN n m1)).1.pend)).setCell ⟨w.heap.size, 3, none⟩ (.slice AM (run W l (clampN n m1)).1.ms.length cM)).setCell ⟨w.heap.size, 4, none⟩ (.slice AW (run W l (clampN n m1)).1.out.length cW) = w9 at *
            have e0 := (h9.cell 0)
            have e1 := (h9.cell 1)
            have e2 := (h9.cell 2)
            have e3 := (h9.cell 3)
            have e4 := (h9.cell 4)
            simp only [List.getElem?_cons_zero, List.getElem?_cons_succ] at e0 e1 e2 e3 e4
            refine bodyPost_ret (v := .tuple #[.agg #[.int .i64 W, .int .i64 (run W l (clampN n m1)).1.col, .int .i64 (run W l (clampN n m1)).1.pend, .slice AM (run W l (clampN n m1)).1.ms.length cM, .slice AW (run W l (clampN n m1)).1.out.length cW], u13, .bool true]) (by simp [results, Tryz.results146, go_sem, e0, e1, e2, e3, e4]) rfl ?_
            exact ⟨hb9, .inl ⟨HOK.out, u13, AM, cM, AW, cW, rfl, Joins.ownsRow_le o1 (by omega), Joins.ownsRow_le o2 (by omega), Joins.ownsRow_le o3 (by omega)⟩⟩
          · clear hend hlt
            go_wp2
            have h9 := five_blk HR.out (.int .i64 W) (.int .i64 (run W l (clampN n m1)).1.col) (.int .i64 (run W l (clampN n m1)).1.pend) (.slice AM (run W l (clampN n m1)).1.ms.length cM) (.slice AW (run W l (clampN n m1)).1.out.length cW)
            have hb9 := five_below HBW.out (Nat.le_refl _) (.int .i64 W) (.int .i64 (run W l (clampN n m1)).1.col) (.int .i64 (run W l (clampN n m1)).1.pend) (.slice AM (run W l (clampN n m1)).1.ms.length cM) (.slice AW (run W l (clampN n m1)).1.out.length cW)
            have o1 := five_own HO.out (Nat.lt_succ_self _) (.int .i64 W) (.int .i64 (run W l (clampN n m1)).1.col) (.int .i64 (run W l (clampN n m1)).1.pend) (.slice AM (run W l (clampN n m1)).1.ms.length cM) (.slice AW (run W l (clampN n m1)).1.out.length cW)
            have o2 := five_own (PM.own HQA.out) (Nat.lt_succ_self _) (.int .i64 W) (.int .i64 (run W l (clampN n m1)).1.col) (.int .i64 (run W l (clampN n m1)).1.pend) (.slice AM (run W l (clampN n m1)).1.ms.length cM) (.slice AW (run W l (clampN n m1)).1.out.length cW)
            have o3 := five_own (PM.mks HQA.out) (Nat.lt_succ_self _) (.int .i64 W) (.int .i64 (run W l (clampN n m1)).1.col) (.int .i64 (run W l (clampN n m1)).1.pend) (.slice AM (run W l (clampN n m1)).1.ms.length cM) (.slice AW (run W l (clampN n m1)).1.out.length cW)
            generalize ((((wr.setCell ⟨w.heap.size, 0, none⟩ (.int .i64 W)).setCell ⟨w.heap.size, 1, none⟩ (.int .i64 (run W l (clampN n m1)).1.col)).setCell ⟨w.heap.size, 2, none⟩ (.int .i64 (run W l (clampN n m1)).1.pend)).setCell ⟨w.heap.size, 3, none⟩ (.slice AM (run W l (clampN n m1)).1.ms.length cM)).setCell ⟨w.heap.size, 4, none⟩ (.slice AW (run W l (clampN n m1)).1.out.length cW) = w9 at *
            have e0 := (h9.cell 0)
            have e1 := (h9.cell 1)
            have e2 := (h9.cell 2)
            have e3 := (h9.cell 3)
            have e4 := (h9.cell 4)
            simp only [List.getElem?_cons_zero, List.getElem?_cons_succ] at e0 e1 e2 e3 e4
            refine bodyPost_ret (v := .tuple #[.agg #[.int .i64 W, .int .i64 (run W l (clampN n m1)).1.col, .int .i64 (run W l (clampN n m1)).1.pend, .slice AM (run W l (clampN n m1)).1.ms.length cM, .slice AW (run W l (clampN n m1)).1.out.length cW], u13, .bool true]) (by simp [results, Tryz.results146, go_sem, e0, e1, e2, e3, e4]) rfl ?_
            exact ⟨hb9, .inl ⟨HOK.out, u13, AM, cM, AW, cW, rfl, Joins.ownsRow_le o1 (by omega), Joins.ownsRow_le o2 (by omega), Joins.ownsRow_le o3 (by omega)⟩⟩
end Go.Proofs.YthjkgbcomjiejadGreatDoor
