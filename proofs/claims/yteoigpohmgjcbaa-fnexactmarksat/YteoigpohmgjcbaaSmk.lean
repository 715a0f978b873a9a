/-
  MarksAt of the model.
-/
import Derived.Test.YteoigpohmgjcbaaSly
import Derived.Test.YteoigpohmgjcbaaMks
namespace Go.Proofs.Yteoigpohmgjcbaa
open Go.RowKit
set_option linter.unusedVariables false

set_option maxHeartbeats 1000000 in
set_option maxRecDepth 100000 in
theorem sMarksAt_out (W : Int) (A : Option Addr) (l : List Tk) (m c : Nat) (k : Int) (w : World) (hm : l.length = m) (hmb : m ≤ 2097152) (hts : TS w A l) (hlow : ∀ b, A.map (·.block) = some b → b < w.heap.size) (hf : Fits l) :
    Calls Try.prog 21 #[.int .i64 W, .slice A m c, .int .i64 k] w (IntsOut w (mksB W l k)) := by
  have HM := Lib.hid hm
  have HT := Lib.hid hts
  have HF := Lib.hid hf
  have HL := Lib.hid hlow
  clear hm hts hf hlow
  obtain ⟨i0, hi, hz0, hz1, hz2⟩ := info_parts infoInt
  go_enter Try.func21, Try.ntmps21
  go_wp2_with fail
  refine (sRun_any W k A l m c _ HM.out hmb (HT.out.alloc _) (fun b hb => Nat.lt_of_lt_of_le (HL.out b hb) (by simp)) HF.out).mono ?_
  rintro e w1 ⟨hb1, ⟨hok, v, AM, cM, AW, cW, rfl, hrow, hown, hmks⟩ | ⟨hok, g, rfl⟩⟩
  · have HB1 := Lib.hid (((Below.refl w.heap.size w).alloc (Nat.le_refl _) _).trans (hb1.mono (by simp)))
    have hS := (okB_true hok).2.2
    have hcl : clampN k m ≤ l.length := by rw [HM.out]; unfold clampN; omega
    have HV := Lib.hid (show mksB W l k = mcol (run W l (clampN k m)).1 from (by unfold mksB; rw [if_pos hok, HM.out]))
    have hln := (run_ms (W := W) hS hcl).2
    have hne := (run_ms (W := W) hS hcl).1
    generalize (run W l (clampN k m)).1 = s at *
    have hq := List.length_pos_iff.2 hne
    obtain ⟨g, cap, hv⟩ := Joins.ownsRow_form hmks hq
    injection hv with hv1 hv2 hv3
    subst hv1
    have hO0 : w1.ownsRow w.heap.size 3 1 (.slice (some ⟨w.heap.size, 0, none⟩) 0 0) 0 (nums ((mcol s).take 0)) :=
      ownsRow_keep (World.ownsRow_lit (base := w.heap.size) (e := 3) (size := 1) w #[] 0 (Nat.le_refl _) (Nat.zero_le _) rfl) hb1
    have hz1' : w.heap.size ≤ w1.heap.size := HB1.out.size
    have HO0 := Lib.hid hO0
    have HMK := Lib.hid hmks
    clear hb1 hok hrow hown hS hv2 hv3 hO0 hmks
    go_wp2
    have hP0 := BlkL.new w1 54 [.int .i64 W, .int .i64 s.col, .int .i64 s.pend, .slice (some ⟨g, 0, none⟩) s.ms.length cM, .slice AW s.out.length cW]
    have HP0 := Lib.hid hP0
    clear hP0
    go_loopw [7, 11] (fun v i wr => ∃ j : Nat, j ≤ s.ms.length ∧ i = .int .i64 j ∧ wr.ownsRow w.heap.size 3 1 v j (nums ((mcol s).take j)) ∧ BlkL wr w1.heap.size 54 [.int .i64 W, .int .i64 s.col, .int .i64 s.pend, .slice (some ⟨g, 0, none⟩) s.ms.length cM, .slice AW s.out.length cW] ∧ wr.ownsRow (w.alloc (.cells #[] 3)).heap.size 71 2 (.slice (some ⟨g, 0, none⟩) s.ms.length cM) s.ms.length (mf s.ms) ∧ Below w.heap.size w wr) (fun _ i _ => s.ms.length - (intOf i).toNat)
    case atStart => exact ⟨0, Nat.zero_le _, rfl, HO0.out.alloc _, HP0.out, HMK.out.alloc _, HB1.out.alloc HB1.out.size _⟩
    case round =>
      obtain ⟨j, hj, rfl, hown, hblk, hmk, hbw⟩ := hrel
      have HO := Lib.hid hown
      have HK := Lib.hid hblk
      have HMK2 := Lib.hid hmk
      have HB := Lib.hid hbw
      have hz := hbw.size
      have p3 : wr.cell? ⟨w1.heap.size, 3, none⟩ = some (.slice (some ⟨g, 0, none⟩) s.ms.length cM) := (hblk.cell 3).trans rfl
      have hpl := hblk.lt
      have hgl : g < wr.heap.size := (hmk.lt g rfl).2
      by_cases hlt : j < s.ms.length
      · obtain ⟨mk, hmj⟩ : ∃ mk, s.ms[j]? = some mk := ⟨_, List.getElem?_eq_getElem hlt⟩
        have hat := mf_at hmj
        have d1 : wr.cell? ⟨g, j * 2 + 1, none⟩ = some (.int .i64 mk.2) := (hmk.cellAt _ (by omega)).trans hat.2
        have HT2 := Lib.hid (show nums ((mcol s).take j) ++ [Value.int .i64 mk.2] = nums ((mcol s).take (j + 1)) from by
          rw [List.take_add_one, show (mcol s)[j]? = some (mk.2 : Int) from by simp [mcol, hmj]]; simp [nums])
        clear hown hblk hmk hbw hmj hat
        go_wp2_with (at_builtin; refine wpList_append_own _ rfl _ _ 30 rfl w.heap.size 3 i0 (.int .i64 0) 1 8 Try.underlying30 hi hz0 hz1 hz2 rfl (by decide) _ _ _ rfl (HO.out.alloc _) ⟨wr.heap.size, 0, none⟩ 1 1 [.int .i64 mk.2] rfl rfl (cell_one_new _ _ _) (by simp [Value.oneCell']) (by simp only [maxLen]; omega) (by omega) (by simp; omega) ?_)
        intro v' w3 hown3 hgrow3 _
        have HO3 := Lib.hid (HT2.out ▸ hown3)
        have HB3 := Lib.hid ((HB.out.alloc HB.out.size _).grown hgrow3 (by simp; omega) (fun q hq => (HO.out.lt q hq).1))
        have HK3 := Lib.hid ((HK.out.alloc _).grown hgrow3 (fun e => own_blk HO.out HK.out (by decide) e.symm))
        have HM3 := Lib.hid ((HMK2.out.alloc _).kept hgrow3 (own_apart HMK2.out HO.out (by decide)))
        clear hown3 hgrow3
        go_wp2
        go_roundw
        case rel => exact ⟨j + 1, by omega, by go_num, HO3.out, HK3.out, HM3.out, HB3.out⟩
        case measure => simp [intOf] <;> omega
      · have hjn : j = (mcol s).length := by rw [mcol_length]; omega
        have HO2 := Lib.hid (show wr.ownsRow w.heap.size 3 1 u7 (mcol s).length (nums (mcol s)) from by have h := hown; rw [hjn, List.take_of_length_le (Nat.le_refl _)] at h; exact h)
        clear hown hblk hmk hbw hjn
        go_wp2
        go_ret
        rw [HV.out]
        exact ints_of_own HB.out HO2.out
  · have HB1 := Lib.hid (((Below.refl w.heap.size w).alloc (Nat.le_refl _) _).trans (hb1.mono (by simp)))
    have HV := Lib.hid (show mksB W l k = [] from by unfold mksB; rw [if_neg (by rw [hok]; simp)])
    clear hb1 hok
    go_wp2
    go_ret
    rw [HV.out]
    exact ⟨HB1.out.alloc HB1.out.size _, none, 0, rfl, fun b hb => by simp at hb, fun _ => rfl, .inl ⟨rfl, rfl⟩⟩
end Go.Proofs.Yteoigpohmgjcbaa
