/-
  ParseStyle on both sides.
-/
import Derived.Test.YtddbcifjjblkeabDoorStx
import Derived.Test.YtddbcifjjblkeabDoorBwd
import Derived.Test.YtddbcifjjblkeabDoorStf
import Derived.Test.YtddbcifjjblkeabDoorStm
import Derived.Deep.Cut
namespace Go.Proofs.YtddbcifjjblkeabDoor
open Go.RowKit
set_option linter.unusedVariables false

def dgI (b : UInt8) : Int := (b.toNat : Int) - 48
def dmI (b : UInt8) : Int := if (b.toNat : Int) < 48 ∨ (57 : Int) < (b.toNat : Int) then -1 else (b.toNat : Int) - 48
def psA (t : ByteArray) (h : t.size = 9) : Sy := ⟨dgI t[0], dgI t[2], dgI t[4], dgI t[6], dgI t[8]⟩
def psM (t : ByteArray) (h : t.size = 9) : Sy := ⟨dmI t[0], dmI t[2], dmI t[4], dmI t[6], dmI t[8]⟩
theorem dg_in (b : UInt8) (hi : Int) (h : hi ≤ 3) : inB (dgI b) 0 hi = inB (dmI b) 0 hi := by
  unfold dgI dmI
  split
  · rw [inB_false.2 (by omega), inB_false.2 (by omega)]
  · rfl
theorem dg_eq {b : UInt8} {hi : Int} (h : hi ≤ 3) (hb : inB (dgI b) 0 hi = true) : dgI b = dmI b := by
  have := inB_true.1 hb
  unfold dgI at this
  unfold dgI dmI
  rw [if_neg (by omega)]
theorem ps_ok (t : ByteArray) (h : t.size = 9) : (psA t h).ok = (psM t h).ok := by
  unfold Sy.ok psA psM
  simp only
  rw [dg_in _ 3 (by omega), dg_in _ 3 (by omega), dg_in _ 3 (by omega), dg_in _ 3 (by omega), dg_in _ 1 (by omega)]
theorem ps_eq {t : ByteArray} {h : t.size = 9} (hk : (psA t h).ok = true) : psA t h = psM t h := by
  have h1 := hk
  simp only [Sy.ok, psA, Bool.and_eq_true] at h1
  obtain ⟨a, b, c, d, e⟩ := h1
  unfold psA psM
  rw [dg_eq (by omega) a, dg_eq (by omega) b, dg_eq (by omega) c, dg_eq (by omega) d, dg_eq (by omega) e]
def syZ : Sy := ⟨0, 0, 0, 0, 0⟩
/-- the style that a text tells, and whether it does. -/
def psO (t : ByteArray) : Sy × Bool := if h : t.size = 9 then (if (psA t h).ok = true ∧ stxT (psA t h) = t then (psA t h, true) else (syZ, false)) else (syZ, false)
theorem psO_len {t : ByteArray} (h : t.size ≠ 9) : psO t = (syZ, false) := by unfold psO; rw [dif_neg h]
theorem psO_no {t : ByteArray} (h : t.size = 9) (hk : ¬ ((psA t h).ok = true ∧ stxT (psA t h) = t)) : psO t = (syZ, false) := by unfold psO; rw [dif_pos h, if_neg hk]
theorem psO_yes {t : ByteArray} (h : t.size = 9) (hk : (psA t h).ok = true) (ht : stxT (psA t h) = t) : psO t = (psA t h, true) := by unfold psO; rw [dif_pos h, if_pos ⟨hk, ht⟩]
theorem digit_any (b : Int) (h0 : 0 ≤ b) (h1 : b ≤ 255) (w : World) :
    Calls Tryd.prog 18 #[.int .u8 b] w fun e w' => e = .returned (.int .i64 (b - 48)) ∧ w = w' := by
  go_enter Tryd.func18, Tryd.ntmps18
  go_wp2
  go_ret
  exact ⟨rfl, rfl⟩
theorem l01Digit_any (b : Int) (h0 : 0 ≤ b) (h1 : b ≤ 255) (w : World) :
    Calls Tryd.prog 17 #[.int .u8 b] w fun e w' => e = .returned (.int .i64 (if b < 48 ∨ 57 < b then -1 else b - 48)) ∧ w = w' := by
  by_cases hlo : b < 48
  · have hI := Lib.hid (show (if b < 48 ∨ 57 < b then -1 else b - 48) = -1 from if_pos (.inl hlo))
    go_enter Tryd.func17, Tryd.ntmps17
    go_wp2
    go_ret
    first | exact ⟨rfl, rfl⟩ | (rw [hI.out]; exact ⟨rfl, rfl⟩)
  by_cases hhi : 57 < b
  · have hI := Lib.hid (show (if b < 48 ∨ 57 < b then -1 else b - 48) = -1 from if_pos (.inr hhi))
    go_enter Tryd.func17, Tryd.ntmps17
    go_wp2
    go_ret
    first | exact ⟨rfl, rfl⟩ | (rw [hI.out]; exact ⟨rfl, rfl⟩)
  · have hI := Lib.hid (show (if b < 48 ∨ 57 < b then -1 else b - 48) = b - 48 from if_neg (by omega))
    go_enter Tryd.func17, Tryd.ntmps17
    go_wp2
    go_ret
    first | exact ⟨rfl, rfl⟩ | (rw [hI.out]; exact ⟨rfl, rfl⟩)
theorem ba_eq {a b : ByteArray} (h : (a.toList == b.toList) = true) : a = b := by
  have h : a.toList = b.toList := by simpa using h
  rw [ByteArray.toList_eq, ByteArray.toList_eq] at h
  obtain ⟨⟨x⟩⟩ := a
  obtain ⟨⟨y⟩⟩ := b
  simp at h
  rw [h]
theorem sty_setN (w : World) (b : Nat) (s : Sy) (t : TypeId) (h : BlkL w b t [.int .i64 0, .int .i64 0, .int .i64 0, .int .i64 0, .int .i64 0]) :
    BlkL (((((w.setCell ⟨b, 0, none⟩ (.int .i64 s.r)).setCell ⟨b, 1, none⟩ (.int .i64 s.q)).setCell ⟨b, 2, none⟩ (.int .i64 s.c)).setCell ⟨b, 3, none⟩ (.int .i64 s.h)).setCell ⟨b, 4, none⟩ (.int .i64 s.g)) b t [.int .i64 s.r, .int .i64 s.q, .int .i64 s.c, .int .i64 s.h, .int .i64 s.g] := by
  have := ((((h.set 0 (.int .i64 s.r)).set 1 (.int .i64 s.q)).set 2 (.int .i64 s.c)).set 3 (.int .i64 s.h)).set 4 (.int .i64 s.g)
  simpa using this
theorem sty_belowN (B : Nat) (v w : World) (b : Nat) (s : Sy) (hB : B ≤ b) (h : Below B v w) :
    Below B v (((((w.setCell ⟨b, 0, none⟩ (.int .i64 s.r)).setCell ⟨b, 1, none⟩ (.int .i64 s.q)).setCell ⟨b, 2, none⟩ (.int .i64 s.c)).setCell ⟨b, 3, none⟩ (.int .i64 s.h)).setCell ⟨b, 4, none⟩ (.int .i64 s.g)) :=
  ((((h.setCell (p := ⟨b, 0, none⟩) hB _).setCell (p := ⟨b, 1, none⟩) hB _).setCell (p := ⟨b, 2, none⟩) hB _).setCell (p := ⟨b, 3, none⟩) hB _).setCell (p := ⟨b, 4, none⟩) hB _
theorem u8b (b : UInt8) : (b.toNat : Int) ≤ 255 := by have := b.toNat_lt; omega
theorem sty_new (w : World) (s : Sy) (t : TypeId) : BlkL (w.alloc (.cells #[.int .i64 s.r, .int .i64 s.q, .int .i64 s.c, .int .i64 s.h, .int .i64 s.g] t)).drew w.heap.size t [.int .i64 s.r, .int .i64 s.q, .int .i64 s.c, .int .i64 s.h, .int .i64 s.g] ∧ Below w.heap.size w (w.alloc (.cells #[.int .i64 s.r, .int .i64 s.q, .int .i64 s.c, .int .i64 s.h, .int .i64 s.g] t)).drew :=
  ⟨BlkL.new w t [.int .i64 s.r, .int .i64 s.q, .int .i64 s.c, .int .i64 s.h, .int .i64 s.g], ((Below.refl _ w).alloc (Nat.le_refl _) _).drew⟩
set_option maxHeartbeats 4000000 in
set_option maxRecDepth 100000 in
theorem ParseStyle_any (t : ByteArray) (ht : t.size ≤ 1048576) (w : World) :
    Calls Tryd.prog 9 #[.string t] w fun e w' => e = .returned (.tuple #[(psO t).1.val, .bool (psO t).2]) ∧ Below w.heap.size w w' := by
  have hbZ := (Below.refl w.heap.size w).alloc (Nat.le_refl _) (.cells #[.int .i64 0, .int .i64 0, .int .i64 0, .int .i64 0, .int .i64 0] 26)
  by_cases h9 : t.size = 9
  · have hkZ := BlkL.new w 26 [.int .i64 0, .int .i64 0, .int .i64 0, .int .i64 0, .int .i64 0]
    have hz9 : (t.size : Int) = 9 := by omega
    go_enter Tryd.func9, Tryd.ntmps9
    go_wp2_with fail
    change Code.wp _ _ _ _ (w.alloc (.cells #[.int .i64 0, .int .i64 0, .int .i64 0, .int .i64 0, .int .i64 0] 26))
    have HBZ := Lib.hid hbZ
    have HKZ := Lib.hid hkZ
    clear hbZ hkZ
    generalize w.alloc (.cells #[.int .i64 0, .int .i64 0, .int .i64 0, .int .i64 0, .int .i64 0] 26) = W1 at *
    go_cut [4] from 5 (fun s4 wc => s4 = .pointer (some ⟨W1.heap.size, 0, none⟩) ∧ (BlkL wc W1.heap.size 26 [.int .i64 (psA t h9).r, .int .i64 (psA t h9).q, .int .i64 (psA t h9).c, .int .i64 (psA t h9).h, .int .i64 (psA t h9).g] ∧ Below W1.heap.size W1 wc))
    case first =>
      have hbA : Bw W1 (W1.alloc (.cells #[.int .i64 0, .int .i64 0, .int .i64 0, .int .i64 0, .int .i64 0] 26)).drew := ((Below.refl _ W1).alloc (Nat.le_refl _) _).drew
      have hFIN := Lib.hid (sty_new W1 (psA t h9) 26)
      have hne : Nonempty (Cl (Bw W1)) := ⟨⟨_, Bw.start W1⟩⟩
      refine wp_region_free [0, 0, 1, 0, 0, 3, 0, 0, 5, 0, 0, 7, 0, 0, 9, 10, 13, 11] 5 16 _ rfl (fun w' => ∃ y : Cl (Bw W1), w' = y.W) (by kernel_rfl) (by kernel_rfl) ⟨⟨_, Bw.start W1⟩, rfl⟩ ?_
      simp only [Stage.stages, Stage.pickC, Nat.reduceBEq, Nat.reduceMul, Nat.reduceAdd, cond_true, cond_false, List.map_cons, List.map_nil]
      refine free_more ?_
      repeat (go_big_quiet_step (fail))
      refine wpQuiet_nil ⟨fun K hK => ?_, fun K hK => ?_⟩
      · unfold Chain.mov
        go_simp
        simp only [Chain.movUpon]
        refine (digit_any _ (by omega) (u8b _) _).mono ?_
        rintro r w5 ⟨rfl, rfl⟩
        refine ⟨_, rfl, hK _ _ ⟨⟨⟨_, Bw.start W1⟩, rfl⟩, ?_⟩⟩
        clear hK K
        refine free_more ?_
        repeat (go_big_quiet_step (fail))
        refine wpQuiet_nil ⟨fun K hK => ?_, fun K hK => ?_⟩
        · unfold Chain.mov
          go_simp
          simp only [Chain.movUpon]
          refine (digit_any _ (by omega) (u8b _) _).mono ?_
          rintro r w5 ⟨rfl, rfl⟩
          refine ⟨_, rfl, hK _ _ ⟨⟨⟨_, Bw.start W1⟩, rfl⟩, ?_⟩⟩
          clear hK K
          refine free_more ?_
          repeat (go_big_quiet_step (fail))
          refine wpQuiet_nil ⟨fun K hK => ?_, fun K hK => ?_⟩
          · unfold Chain.mov
            go_simp
            simp only [Chain.movUpon]
            refine (digit_any _ (by omega) (u8b _) _).mono ?_
            rintro r w5 ⟨rfl, rfl⟩
            refine ⟨_, rfl, hK _ _ ⟨⟨⟨_, Bw.start W1⟩, rfl⟩, ?_⟩⟩
            clear hK K
            refine free_more ?_
            repeat (go_big_quiet_step (fail))
            refine wpQuiet_nil ⟨fun K hK => ?_, fun K hK => ?_⟩
            · unfold Chain.mov
              go_simp
              simp only [Chain.movUpon]
              refine (digit_any _ (by omega) (u8b _) _).mono ?_
              rintro r w5 ⟨rfl, rfl⟩
              refine ⟨_, rfl, hK _ _ ⟨⟨⟨_, Bw.start W1⟩, rfl⟩, ?_⟩⟩
              clear hK K
              refine free_more ?_
              repeat (go_big_quiet_step (fail))
              refine wpQuiet_nil ⟨fun K hK => ?_, fun K hK => ?_⟩
              · unfold Chain.mov
                go_simp
                simp only [Chain.movUpon]
                refine (digit_any _ (by omega) (u8b _) _).mono ?_
                rintro r w5 ⟨rfl, rfl⟩
                refine ⟨_, rfl, hK _ _ ⟨⟨⟨_, Bw.start W1⟩, rfl⟩, ?_⟩⟩
                clear hK K
                refine free_last ?_
                repeat (go_big_quiet_step (fail))
                refine wpQuiet_nil ?_
                intro K hK
                unfold Chain.mov
                go_simp
                refine hK _ _ ⟨⟨⟨_, hbA⟩, rfl⟩, ?_⟩
                clear hK K
                go_wp2
                go_meet
                case rel => exact ⟨rfl, hFIN.out⟩
              · unfold Chain.mov
                go_simp
                refine hK _ _ ⟨⟨⟨_, hbA⟩, rfl⟩, ?_⟩
                clear hK K
                refine door_more ?_
                intro K hK
                unfold Chain.mov
                go_simp
                simp only [Chain.movUpon]
                refine (digit_any _ (by omega) (u8b _) _).mono ?_
                rintro r w5 ⟨rfl, rfl⟩
                refine ⟨_, rfl, hK _ _ ⟨⟨⟨_, hbA⟩, rfl⟩, ?_⟩⟩
                clear hK K
                refine stage_last ?_
                repeat (go_big_quiet_step (fail))
                refine wpQuiet_nil ?_
                go_wp2
                go_meet
                case rel => exact ⟨rfl, hFIN.out⟩
            · unfold Chain.mov
              go_simp
              refine hK _ _ ⟨⟨⟨_, hbA⟩, rfl⟩, ?_⟩
              clear hK K
              refine door_more ?_
              intro K hK
              unfold Chain.mov
              go_simp
              simp only [Chain.movUpon]
              refine (digit_any _ (by omega) (u8b _) _).mono ?_
              rintro r w5 ⟨rfl, rfl⟩
              refine ⟨_, rfl, hK _ _ ⟨⟨⟨_, hbA⟩, rfl⟩, ?_⟩⟩
              clear hK K
              refine stage_more ?_
              repeat (go_big_quiet_step (fail))
              refine wpQuiet_nil ?_
              intro K hK
              unfold Chain.mov
              go_simp
              simp only [Chain.movUpon]
              refine (digit_any _ (by omega) (u8b _) _).mono ?_
              rintro r w5 ⟨rfl, rfl⟩
              refine ⟨_, rfl, hK _ _ ⟨⟨⟨_, hbA⟩, rfl⟩, ?_⟩⟩
              clear hK K
              refine stage_last ?_
              repeat (go_big_quiet_step (fail))
              refine wpQuiet_nil ?_
              go_wp2
              go_meet
              case rel => exact ⟨rfl, hFIN.out⟩
          · unfold Chain.mov
            go_simp
            refine hK _ _ ⟨⟨⟨_, hbA⟩, rfl⟩, ?_⟩
            clear hK K
            refine door_more ?_
            intro K hK
            unfold Chain.mov
            go_simp
            simp only [Chain.movUpon]
            refine (digit_any _ (by omega) (u8b _) _).mono ?_
            rintro r w5 ⟨rfl, rfl⟩
            refine ⟨_, rfl, hK _ _ ⟨⟨⟨_, hbA⟩, rfl⟩, ?_⟩⟩
            clear hK K
            refine stage_more ?_
            repeat (go_big_quiet_step (fail))
            refine wpQuiet_nil ?_
            intro K hK
            unfold Chain.mov
            go_simp
            simp only [Chain.movUpon]
            refine (digit_any _ (by omega) (u8b _) _).mono ?_
            rintro r w5 ⟨rfl, rfl⟩
            refine ⟨_, rfl, hK _ _ ⟨⟨⟨_, hbA⟩, rfl⟩, ?_⟩⟩
            clear hK K
            refine stage_more ?_
            repeat (go_big_quiet_step (fail))
            refine wpQuiet_nil ?_
            intro K hK
            unfold Chain.mov
            go_simp
            simp only [Chain.movUpon]
            refine (digit_any _ (by omega) (u8b _) _).mono ?_
            rintro r w5 ⟨rfl, rfl⟩
            refine ⟨_, rfl, hK _ _ ⟨⟨⟨_, hbA⟩, rfl⟩, ?_⟩⟩
            clear hK K
            refine stage_last ?_
            repeat (go_big_quiet_step (fail))
            refine wpQuiet_nil ?_
            go_wp2
            go_meet
            case rel => exact ⟨rfl, hFIN.out⟩
        · unfold Chain.mov
          go_simp
          refine hK _ _ ⟨⟨⟨_, hbA⟩, rfl⟩, ?_⟩
          clear hK K
          refine door_more ?_
          intro K hK
          unfold Chain.mov
          go_simp
          simp only [Chain.movUpon]
          refine (digit_any _ (by omega) (u8b _) _).mono ?_
          rintro r w5 ⟨rfl, rfl⟩
          refine ⟨_, rfl, hK _ _ ⟨⟨⟨_, hbA⟩, rfl⟩, ?_⟩⟩
          clear hK K
          refine stage_more ?_
          repeat (go_big_quiet_step (fail))
          refine wpQuiet_nil ?_
          intro K hK
          unfold Chain.mov
          go_simp
          simp only [Chain.movUpon]
          refine (digit_any _ (by omega) (u8b _) _).mono ?_
          rintro r w5 ⟨rfl, rfl⟩
          refine ⟨_, rfl, hK _ _ ⟨⟨⟨_, hbA⟩, rfl⟩, ?_⟩⟩
          clear hK K
          refine stage_more ?_
          repeat (go_big_quiet_step (fail))
          refine wpQuiet_nil ?_
          intro K hK
          unfold Chain.mov
          go_simp
          simp only [Chain.movUpon]
          refine (digit_any _ (by omega) (u8b _) _).mono ?_
          rintro r w5 ⟨rfl, rfl⟩
          refine ⟨_, rfl, hK _ _ ⟨⟨⟨_, hbA⟩, rfl⟩, ?_⟩⟩
          clear hK K
          refine stage_more ?_
          repeat (go_big_quiet_step (fail))
          refine wpQuiet_nil ?_
          intro K hK
          unfold Chain.mov
          go_simp
          simp only [Chain.movUpon]
          refine (digit_any _ (by omega) (u8b _) _).mono ?_
          rintro r w5 ⟨rfl, rfl⟩
          refine ⟨_, rfl, hK _ _ ⟨⟨⟨_, hbA⟩, rfl⟩, ?_⟩⟩
          clear hK K
          refine stage_last ?_
          repeat (go_big_quiet_step (fail))
          refine wpQuiet_nil ?_
          go_wp2
          go_meet
          case rel => exact ⟨rfl, hFIN.out⟩
      · unfold Chain.mov
        go_simp
        refine hK _ _ ⟨⟨⟨_, hbA⟩, rfl⟩, ?_⟩
        clear hK K
        refine door_more ?_
        intro K hK
        unfold Chain.mov
        go_simp
        simp only [Chain.movUpon]
        refine (digit_any _ (by omega) (u8b _) _).mono ?_
        rintro r w5 ⟨rfl, rfl⟩
        refine ⟨_, rfl, hK _ _ ⟨⟨⟨_, hbA⟩, rfl⟩, ?_⟩⟩
        clear hK K
        refine stage_more ?_
        repeat (go_big_quiet_step (fail))
        refine wpQuiet_nil ?_
        intro K hK
        unfold Chain.mov
        go_simp
        simp only [Chain.movUpon]
        refine (digit_any _ (by omega) (u8b _) _).mono ?_
        rintro r w5 ⟨rfl, rfl⟩
        refine ⟨_, rfl, hK _ _ ⟨⟨⟨_, hbA⟩, rfl⟩, ?_⟩⟩
        clear hK K
        refine stage_more ?_
        repeat (go_big_quiet_step (fail))
        refine wpQuiet_nil ?_
        intro K hK
        unfold Chain.mov
        go_simp
        simp only [Chain.movUpon]
        refine (digit_any _ (by omega) (u8b _) _).mono ?_
        rintro r w5 ⟨rfl, rfl⟩
        refine ⟨_, rfl, hK _ _ ⟨⟨⟨_, hbA⟩, rfl⟩, ?_⟩⟩
        clear hK K
        refine stage_more ?_
        repeat (go_big_quiet_step (fail))
        refine wpQuiet_nil ?_
        intro K hK
        unfold Chain.mov
        go_simp
        simp only [Chain.movUpon]
        refine (digit_any _ (by omega) (u8b _) _).mono ?_
        rintro r w5 ⟨rfl, rfl⟩
        refine ⟨_, rfl, hK _ _ ⟨⟨⟨_, hbA⟩, rfl⟩, ?_⟩⟩
        clear hK K
        refine stage_more ?_
        repeat (go_big_quiet_step (fail))
        refine wpQuiet_nil ?_
        intro K hK
        unfold Chain.mov
        go_simp
        simp only [Chain.movUpon]
        refine (digit_any _ (by omega) (u8b _) _).mono ?_
        rintro r w5 ⟨rfl, rfl⟩
        refine ⟨_, rfl, hK _ _ ⟨⟨⟨_, hbA⟩, rfl⟩, ?_⟩⟩
        clear hK K
        refine stage_last ?_
        repeat (go_big_quiet_step (fail))
        refine wpQuiet_nil ?_
        go_wp2
        go_meet
        case rel => exact ⟨rfl, hFIN.out⟩
    case rest =>
      obtain ⟨rfl, hkS, hbS⟩ := hcut
      have HKR := Lib.hid (HKZ.out.below hbS HKZ.out.lt)
      have HB1 := Lib.hid (HBZ.out.trans (hbS.mono HBZ.out.size))
      obtain ⟨T, hT⟩ : ∃ T, (psA t h9) = T := ⟨_, rfl⟩
      have HTT := Lib.hid hT
      rw [hT] at hkS
      clear hT hbS HBZ HKZ
      have c0 := (hkS.cell 0).trans rfl
      have c1 := (hkS.cell 1).trans rfl
      have c2 := (hkS.cell 2).trans rfl
      have c3 := (hkS.cell 3).trans rfl
      have c4 := (hkS.cell 4).trans rfl
      have HKS := Lib.hid hkS
      clear hkS
      have HST := Lib.hid (StyleText_any T)
      unfold Sy.val at HST
      go_wp2_with fail
      refine (HST.out wc).mono ?_
      rintro e w6 ⟨rfl, hb6⟩
      have HKS6 := Lib.hid (HKS.out.below hb6 HKS.out.lt)
      have HKR6 := Lib.hid (HKR.out.below hb6 HKR.out.lt)
      have HB6 := Lib.hid (HB1.out.trans (hb6.mono HB1.out.size))
      clear c0 c1 c2 c3 c4 hb6 HB1
      have q0 := (HKR6.out.cell 0).trans rfl
      have q1 := (HKR6.out.cell 1).trans rfl
      have q2 := (HKR6.out.cell 2).trans rfl
      have q3 := (HKR6.out.cell 3).trans rfl
      have q4 := (HKR6.out.cell 4).trans rfl
      have fz := HKR6.out.frozen
      have hlt6 := HKR6.out.lt
      have fz0 := fz 0
      have fz1 := fz 1
      have fz2 := fz 2
      have fz3 := fz 3
      have fz4 := fz 4
      clear fz
      have HEND := Lib.hid (show ∀ u : Sy, Below w.heap.size w (((((w6.setCell ⟨w.heap.size, 0, none⟩ (.int .i64 u.r)).setCell ⟨w.heap.size, 1, none⟩ (.int .i64 u.q)).setCell ⟨w.heap.size, 2, none⟩ (.int .i64 u.c)).setCell ⟨w.heap.size, 3, none⟩ (.int .i64 u.h)).setCell ⟨w.heap.size, 4, none⟩ (.int .i64 u.g)) from fun u => sty_belowN w.heap.size w w6 w.heap.size u (Nat.le_refl _) HB6.out)
      have HKE := Lib.hid (fun u : Sy => sty_setN w6 w.heap.size u 26 HKR6.out)
      cases hok : T.ok
      · have HI := Lib.hid (psO_no h9 (fun h => by have h2 := h.1; rw [HTT.out, hok] at h2; cases h2))
        clear hok
        go_wp2
        have hke := HKE.out syZ
        have hen := HEND.out syZ
        simp only [syZ] at hke hen
        generalize (((((w6.setCell ⟨w.heap.size, 0, none⟩ (.int .i64 0)).setCell ⟨w.heap.size, 1, none⟩ (.int .i64 0)).setCell ⟨w.heap.size, 2, none⟩ (.int .i64 0)).setCell ⟨w.heap.size, 3, none⟩ (.int .i64 0)).setCell ⟨w.heap.size, 4, none⟩ (.int .i64 0)) = V at *
        have e0 := (hke.cell 0).trans rfl
        have e1 := (hke.cell 1).trans rfl
        have e2 := (hke.cell 2).trans rfl
        have e3 := (hke.cell 3).trans rfl
        have e4 := (hke.cell 4).trans rfl
        refine bodyPost_ret (v := .tuple #[.agg #[.int .i64 0, .int .i64 0, .int .i64 0, .int .i64 0, .int .i64 0], .bool false]) (by simp [results, Tryd.results9, go_sem, e0, e1, e2, e3, e4]) rfl ⟨?_, hen⟩
        rw [HI.out]
        rfl
      · cases hwr : ((stxT T).toList == t.toList)
        · have HI := Lib.hid (psO_no h9 (fun h => by have h2 := h.2; rw [HTT.out] at h2; rw [h2, beq_self_eq_true] at hwr; cases hwr))
          clear hok
          go_wp2
          have hke := HKE.out syZ
          have hen := HEND.out syZ
          simp only [syZ] at hke hen
          generalize (((((w6.setCell ⟨w.heap.size, 0, none⟩ (.int .i64 0)).setCell ⟨w.heap.size, 1, none⟩ (.int .i64 0)).setCell ⟨w.heap.size, 2, none⟩ (.int .i64 0)).setCell ⟨w.heap.size, 3, none⟩ (.int .i64 0)).setCell ⟨w.heap.size, 4, none⟩ (.int .i64 0)) = V at *
          have e0 := (hke.cell 0).trans rfl
          have e1 := (hke.cell 1).trans rfl
          have e2 := (hke.cell 2).trans rfl
          have e3 := (hke.cell 3).trans rfl
          have e4 := (hke.cell 4).trans rfl
          refine bodyPost_ret (v := .tuple #[.agg #[.int .i64 0, .int .i64 0, .int .i64 0, .int .i64 0, .int .i64 0], .bool false]) (by simp [results, Tryd.results9, go_sem, e0, e1, e2, e3, e4]) rfl ⟨?_, hen⟩
          rw [HI.out]
          rfl
        · have HI := Lib.hid (show psO t = (T, true) by rw [psO_yes h9 (by rw [HTT.out]; exact hok) (by rw [HTT.out]; exact ba_eq hwr), HTT.out])
          have r0 := (HKS6.out.cell 0).trans rfl
          have r1 := (HKS6.out.cell 1).trans rfl
          have r2 := (HKS6.out.cell 2).trans rfl
          have r3 := (HKS6.out.cell 3).trans rfl
          have r4 := (HKS6.out.cell 4).trans rfl
          clear hok
          go_wp2
          have hke := HKE.out T
          have hen := HEND.out T
          generalize (((((w6.setCell ⟨w.heap.size, 0, none⟩ (.int .i64 T.r)).setCell ⟨w.heap.size, 1, none⟩ (.int .i64 T.q)).setCell ⟨w.heap.size, 2, none⟩ (.int .i64 T.c)).setCell ⟨w.heap.size, 3, none⟩ (.int .i64 T.h)).setCell ⟨w.heap.size, 4, none⟩ (.int .i64 T.g)) = V at *
          have e0 := (hke.cell 0).trans rfl
          have e1 := (hke.cell 1).trans rfl
          have e2 := (hke.cell 2).trans rfl
          have e3 := (hke.cell 3).trans rfl
          have e4 := (hke.cell 4).trans rfl
          refine bodyPost_ret (v := .tuple #[.agg #[.int .i64 T.r, .int .i64 T.q, .int .i64 T.c, .int .i64 T.h, .int .i64 T.g], .bool true]) (by simp [results, Tryd.results9, go_sem, e0, e1, e2, e3, e4]) rfl ⟨?_, hen⟩
          rw [HI.out]
          rfl
  · have hI := Lib.hid (psO_len h9)
    have HB := Lib.hid hbZ
    have hn : ((t.size : Int) == 9) = false := by simp; omega
    clear hbZ
    go_enter Tryd.func9, Tryd.ntmps9
    go_wp2
    refine bodyPost_ret (v := .tuple #[.agg #[.int .i64 0, .int .i64 0, .int .i64 0, .int .i64 0, .int .i64 0], .bool false]) (by simp [results, Tryd.results9, go_sem]) rfl ⟨?_, HB.out⟩
    rw [hI.out]
    rfl
def dmV (b : Int) : Int := if b < 48 ∨ 57 < b then -1 else b - 48
theorem dmV_nat (b : UInt8) : dmV (b.toNat : Int) = dmI b := rfl
theorem l01DigitV_any (b : Int) (h0 : 0 ≤ b) (h1 : b ≤ 255) (w : World) :
    Calls Tryd.prog 17 #[.int .u8 b] w fun e w' => e = .returned (.int .i64 (dmV b)) ∧ w = w' := l01Digit_any b h0 h1 w
set_option maxHeartbeats 4000000 in
set_option maxRecDepth 100000 in
theorem sParseStyle_any (t : ByteArray) (ht : t.size ≤ 1048576) (w : World) :
    Calls Tryd.prog 8 #[.string t] w fun e w' => e = .returned (.tuple #[(psO t).1.val, .bool (psO t).2]) ∧ Below w.heap.size w w' := by
  have hbZ := (Below.refl w.heap.size w).alloc (Nat.le_refl _) (.cells #[.int .i64 0, .int .i64 0, .int .i64 0, .int .i64 0, .int .i64 0] 26)
  by_cases h9 : t.size = 9
  · have hkZ := BlkL.new w 26 [.int .i64 0, .int .i64 0, .int .i64 0, .int .i64 0, .int .i64 0]
    have hz9 : (t.size : Int) = 9 := by omega
    go_enter Tryd.func8, Tryd.ntmps8
    go_wp2_with fail
    change Code.wp _ _ _ _ (w.alloc (.cells #[.int .i64 0, .int .i64 0, .int .i64 0, .int .i64 0, .int .i64 0] 26))
    have HBZ := Lib.hid hbZ
    have HKZ := Lib.hid hkZ
    clear hbZ hkZ
    generalize w.alloc (.cells #[.int .i64 0, .int .i64 0, .int .i64 0, .int .i64 0, .int .i64 0] 26) = W1 at *
    go_cut [4] from 5 (fun s4 wc => s4 = .pointer (some ⟨W1.heap.size, 0, none⟩) ∧ (BlkL wc W1.heap.size 26 [.int .i64 (psM t h9).r, .int .i64 (psM t h9).q, .int .i64 (psM t h9).c, .int .i64 (psM t h9).h, .int .i64 (psM t h9).g] ∧ Below W1.heap.size W1 wc))
    case first =>
      have hbA : Bw W1 (W1.alloc (.cells #[.int .i64 0, .int .i64 0, .int .i64 0, .int .i64 0, .int .i64 0] 26)).drew := ((Below.refl _ W1).alloc (Nat.le_refl _) _).drew
      have hFIN := Lib.hid (sty_new W1 (psM t h9) 26)
      have hne : Nonempty (Cl (Bw W1)) := ⟨⟨_, Bw.start W1⟩⟩
      refine wp_region_free [0, 0, 1, 0, 0, 3, 0, 0, 5, 0, 0, 7, 0, 0, 9, 10, 13, 11] 5 16 _ rfl (fun w' => ∃ y : Cl (Bw W1), w' = y.W) (by kernel_rfl) (by kernel_rfl) ⟨⟨_, Bw.start W1⟩, rfl⟩ ?_
      simp only [Stage.stages, Stage.pickC, Nat.reduceBEq, Nat.reduceMul, Nat.reduceAdd, cond_true, cond_false, List.map_cons, List.map_nil]
      refine free_more ?_
      repeat (go_big_quiet_step (fail))
      refine wpQuiet_nil ⟨fun K hK => ?_, fun K hK => ?_⟩
      · unfold Chain.mov
        go_simp
        simp only [Chain.movUpon]
        refine (l01DigitV_any _ (by omega) (u8b _) _).mono ?_
        rintro r w5 ⟨rfl, rfl⟩
        refine ⟨_, rfl, hK _ _ ⟨⟨⟨_, Bw.start W1⟩, rfl⟩, ?_⟩⟩
        clear hK K
        refine free_more ?_
        repeat (go_big_quiet_step (fail))
        refine wpQuiet_nil ⟨fun K hK => ?_, fun K hK => ?_⟩
        · unfold Chain.mov
          go_simp
          simp only [Chain.movUpon]
          refine (l01DigitV_any _ (by omega) (u8b _) _).mono ?_
          rintro r w5 ⟨rfl, rfl⟩
          refine ⟨_, rfl, hK _ _ ⟨⟨⟨_, Bw.start W1⟩, rfl⟩, ?_⟩⟩
          clear hK K
          refine free_more ?_
          repeat (go_big_quiet_step (fail))
          refine wpQuiet_nil ⟨fun K hK => ?_, fun K hK => ?_⟩
          · unfold Chain.mov
            go_simp
            simp only [Chain.movUpon]
            refine (l01DigitV_any _ (by omega) (u8b _) _).mono ?_
            rintro r w5 ⟨rfl, rfl⟩
            refine ⟨_, rfl, hK _ _ ⟨⟨⟨_, Bw.start W1⟩, rfl⟩, ?_⟩⟩
            clear hK K
            refine free_more ?_
            repeat (go_big_quiet_step (fail))
            refine wpQuiet_nil ⟨fun K hK => ?_, fun K hK => ?_⟩
            · unfold Chain.mov
              go_simp
              simp only [Chain.movUpon]
              refine (l01DigitV_any _ (by omega) (u8b _) _).mono ?_
              rintro r w5 ⟨rfl, rfl⟩
              refine ⟨_, rfl, hK _ _ ⟨⟨⟨_, Bw.start W1⟩, rfl⟩, ?_⟩⟩
              clear hK K
              refine free_more ?_
              repeat (go_big_quiet_step (fail))
              refine wpQuiet_nil ⟨fun K hK => ?_, fun K hK => ?_⟩
              · unfold Chain.mov
                go_simp
                simp only [Chain.movUpon]
                refine (l01DigitV_any _ (by omega) (u8b _) _).mono ?_
                rintro r w5 ⟨rfl, rfl⟩
                refine ⟨_, rfl, hK _ _ ⟨⟨⟨_, Bw.start W1⟩, rfl⟩, ?_⟩⟩
                clear hK K
                refine free_last ?_
                repeat (go_big_quiet_step (fail))
                refine wpQuiet_nil ?_
                intro K hK
                unfold Chain.mov
                go_simp
                refine hK _ _ ⟨⟨⟨_, hbA⟩, rfl⟩, ?_⟩
                clear hK K
                go_wp2
                go_meet
                case rel => exact ⟨rfl, hFIN.out⟩
              · unfold Chain.mov
                go_simp
                refine hK _ _ ⟨⟨⟨_, hbA⟩, rfl⟩, ?_⟩
                clear hK K
                refine door_more ?_
                intro K hK
                unfold Chain.mov
                go_simp
                simp only [Chain.movUpon]
                refine (l01DigitV_any _ (by omega) (u8b _) _).mono ?_
                rintro r w5 ⟨rfl, rfl⟩
                refine ⟨_, rfl, hK _ _ ⟨⟨⟨_, hbA⟩, rfl⟩, ?_⟩⟩
                clear hK K
                refine stage_last ?_
                repeat (go_big_quiet_step (fail))
                refine wpQuiet_nil ?_
                go_wp2
                go_meet
                case rel => exact ⟨rfl, hFIN.out⟩
            · unfold Chain.mov
              go_simp
              refine hK _ _ ⟨⟨⟨_, hbA⟩, rfl⟩, ?_⟩
              clear hK K
              refine door_more ?_
              intro K hK
              unfold Chain.mov
              go_simp
              simp only [Chain.movUpon]
              refine (l01DigitV_any _ (by omega) (u8b _) _).mono ?_
              rintro r w5 ⟨rfl, rfl⟩
              refine ⟨_, rfl, hK _ _ ⟨⟨⟨_, hbA⟩, rfl⟩, ?_⟩⟩
              clear hK K
              refine stage_more ?_
              repeat (go_big_quiet_step (fail))
              refine wpQuiet_nil ?_
              intro K hK
              unfold Chain.mov
              go_simp
              simp only [Chain.movUpon]
              refine (l01DigitV_any _ (by omega) (u8b _) _).mono ?_
              rintro r w5 ⟨rfl, rfl⟩
              refine ⟨_, rfl, hK _ _ ⟨⟨⟨_, hbA⟩, rfl⟩, ?_⟩⟩
              clear hK K
              refine stage_last ?_
              repeat (go_big_quiet_step (fail))
              refine wpQuiet_nil ?_
              go_wp2
              go_meet
              case rel => exact ⟨rfl, hFIN.out⟩
          · unfold Chain.mov
            go_simp
            refine hK _ _ ⟨⟨⟨_, hbA⟩, rfl⟩, ?_⟩
            clear hK K
            refine door_more ?_
            intro K hK
            unfold Chain.mov
            go_simp
            simp only [Chain.movUpon]
            refine (l01DigitV_any _ (by omega) (u8b _) _).mono ?_
            rintro r w5 ⟨rfl, rfl⟩
            refine ⟨_, rfl, hK _ _ ⟨⟨⟨_, hbA⟩, rfl⟩, ?_⟩⟩
            clear hK K
            refine stage_more ?_
            repeat (go_big_quiet_step (fail))
            refine wpQuiet_nil ?_
            intro K hK
            unfold Chain.mov
            go_simp
            simp only [Chain.movUpon]
            refine (l01DigitV_any _ (by omega) (u8b _) _).mono ?_
            rintro r w5 ⟨rfl, rfl⟩
            refine ⟨_, rfl, hK _ _ ⟨⟨⟨_, hbA⟩, rfl⟩, ?_⟩⟩
            clear hK K
            refine stage_more ?_
            repeat (go_big_quiet_step (fail))
            refine wpQuiet_nil ?_
            intro K hK
            unfold Chain.mov
            go_simp
            simp only [Chain.movUpon]
            refine (l01DigitV_any _ (by omega) (u8b _) _).mono ?_
            rintro r w5 ⟨rfl, rfl⟩
            refine ⟨_, rfl, hK _ _ ⟨⟨⟨_, hbA⟩, rfl⟩, ?_⟩⟩
            clear hK K
            refine stage_last ?_
            repeat (go_big_quiet_step (fail))
            refine wpQuiet_nil ?_
            go_wp2
            go_meet
            case rel => exact ⟨rfl, hFIN.out⟩
        · unfold Chain.mov
          go_simp
          refine hK _ _ ⟨⟨⟨_, hbA⟩, rfl⟩, ?_⟩
          clear hK K
          refine door_more ?_
          intro K hK
          unfold Chain.mov
          go_simp
          simp only [Chain.movUpon]
          refine (l01DigitV_any _ (by omega) (u8b _) _).mono ?_
          rintro r w5 ⟨rfl, rfl⟩
          refine ⟨_, rfl, hK _ _ ⟨⟨⟨_, hbA⟩, rfl⟩, ?_⟩⟩
          clear hK K
          refine stage_more ?_
          repeat (go_big_quiet_step (fail))
          refine wpQuiet_nil ?_
          intro K hK
          unfold Chain.mov
          go_simp
          simp only [Chain.movUpon]
          refine (l01DigitV_any _ (by omega) (u8b _) _).mono ?_
          rintro r w5 ⟨rfl, rfl⟩
          refine ⟨_, rfl, hK _ _ ⟨⟨⟨_, hbA⟩, rfl⟩, ?_⟩⟩
          clear hK K
          refine stage_more ?_
          repeat (go_big_quiet_step (fail))
          refine wpQuiet_nil ?_
          intro K hK
          unfold Chain.mov
          go_simp
          simp only [Chain.movUpon]
          refine (l01DigitV_any _ (by omega) (u8b _) _).mono ?_
          rintro r w5 ⟨rfl, rfl⟩
          refine ⟨_, rfl, hK _ _ ⟨⟨⟨_, hbA⟩, rfl⟩, ?_⟩⟩
          clear hK K
          refine stage_more ?_
          repeat (go_big_quiet_step (fail))
          refine wpQuiet_nil ?_
          intro K hK
          unfold Chain.mov
          go_simp
          simp only [Chain.movUpon]
          refine (l01DigitV_any _ (by omega) (u8b _) _).mono ?_
          rintro r w5 ⟨rfl, rfl⟩
          refine ⟨_, rfl, hK _ _ ⟨⟨⟨_, hbA⟩, rfl⟩, ?_⟩⟩
          clear hK K
          refine stage_last ?_
          repeat (go_big_quiet_step (fail))
          refine wpQuiet_nil ?_
          go_wp2
          go_meet
          case rel => exact ⟨rfl, hFIN.out⟩
      · unfold Chain.mov
        go_simp
        refine hK _ _ ⟨⟨⟨_, hbA⟩, rfl⟩, ?_⟩
        clear hK K
        refine door_more ?_
        intro K hK
        unfold Chain.mov
        go_simp
        simp only [Chain.movUpon]
        refine (l01DigitV_any _ (by omega) (u8b _) _).mono ?_
        rintro r w5 ⟨rfl, rfl⟩
        refine ⟨_, rfl, hK _ _ ⟨⟨⟨_, hbA⟩, rfl⟩, ?_⟩⟩
        clear hK K
        refine stage_more ?_
        repeat (go_big_quiet_step (fail))
        refine wpQuiet_nil ?_
        intro K hK
        unfold Chain.mov
        go_simp
        simp only [Chain.movUpon]
        refine (l01DigitV_any _ (by omega) (u8b _) _).mono ?_
        rintro r w5 ⟨rfl, rfl⟩
        refine ⟨_, rfl, hK _ _ ⟨⟨⟨_, hbA⟩, rfl⟩, ?_⟩⟩
        clear hK K
        refine stage_more ?_
        repeat (go_big_quiet_step (fail))
        refine wpQuiet_nil ?_
        intro K hK
        unfold Chain.mov
        go_simp
        simp only [Chain.movUpon]
        refine (l01DigitV_any _ (by omega) (u8b _) _).mono ?_
        rintro r w5 ⟨rfl, rfl⟩
        refine ⟨_, rfl, hK _ _ ⟨⟨⟨_, hbA⟩, rfl⟩, ?_⟩⟩
        clear hK K
        refine stage_more ?_
        repeat (go_big_quiet_step (fail))
        refine wpQuiet_nil ?_
        intro K hK
        unfold Chain.mov
        go_simp
        simp only [Chain.movUpon]
        refine (l01DigitV_any _ (by omega) (u8b _) _).mono ?_
        rintro r w5 ⟨rfl, rfl⟩
        refine ⟨_, rfl, hK _ _ ⟨⟨⟨_, hbA⟩, rfl⟩, ?_⟩⟩
        clear hK K
        refine stage_more ?_
        repeat (go_big_quiet_step (fail))
        refine wpQuiet_nil ?_
        intro K hK
        unfold Chain.mov
        go_simp
        simp only [Chain.movUpon]
        refine (l01DigitV_any _ (by omega) (u8b _) _).mono ?_
        rintro r w5 ⟨rfl, rfl⟩
        refine ⟨_, rfl, hK _ _ ⟨⟨⟨_, hbA⟩, rfl⟩, ?_⟩⟩
        clear hK K
        refine stage_last ?_
        repeat (go_big_quiet_step (fail))
        refine wpQuiet_nil ?_
        go_wp2
        go_meet
        case rel => exact ⟨rfl, hFIN.out⟩
    case rest =>
      obtain ⟨rfl, hkS, hbS⟩ := hcut
      have HKR := Lib.hid (HKZ.out.below hbS HKZ.out.lt)
      have HB1 := Lib.hid (HBZ.out.trans (hbS.mono HBZ.out.size))
      obtain ⟨T, hT⟩ : ∃ T, (psM t h9) = T := ⟨_, rfl⟩
      have HTT := Lib.hid hT
      rw [hT] at hkS
      clear hT hbS HBZ HKZ
      have c0 := (hkS.cell 0).trans rfl
      have c1 := (hkS.cell 1).trans rfl
      have c2 := (hkS.cell 2).trans rfl
      have c3 := (hkS.cell 3).trans rfl
      have c4 := (hkS.cell 4).trans rfl
      have HKS := Lib.hid hkS
      clear hkS
      have HST := Lib.hid (sStyleText_any T)
      unfold Sy.val at HST
      go_wp2_with fail
      refine (HST.out wc).mono ?_
      rintro e w6 ⟨rfl, hb6⟩
      have HKS6 := Lib.hid (HKS.out.below hb6 HKS.out.lt)
      have HKR6 := Lib.hid (HKR.out.below hb6 HKR.out.lt)
      have HB6 := Lib.hid (HB1.out.trans (hb6.mono HB1.out.size))
      clear c0 c1 c2 c3 c4 hb6 HB1
      have q0 := (HKR6.out.cell 0).trans rfl
      have q1 := (HKR6.out.cell 1).trans rfl
      have q2 := (HKR6.out.cell 2).trans rfl
      have q3 := (HKR6.out.cell 3).trans rfl
      have q4 := (HKR6.out.cell 4).trans rfl
      have fz := HKR6.out.frozen
      have hlt6 := HKR6.out.lt
      have fz0 := fz 0
      have fz1 := fz 1
      have fz2 := fz 2
      have fz3 := fz 3
      have fz4 := fz 4
      clear fz
      have HEND := Lib.hid (show ∀ u : Sy, Below w.heap.size w (((((w6.setCell ⟨w.heap.size, 0, none⟩ (.int .i64 u.r)).setCell ⟨w.heap.size, 1, none⟩ (.int .i64 u.q)).setCell ⟨w.heap.size, 2, none⟩ (.int .i64 u.c)).setCell ⟨w.heap.size, 3, none⟩ (.int .i64 u.h)).setCell ⟨w.heap.size, 4, none⟩ (.int .i64 u.g)) from fun u => sty_belowN w.heap.size w w6 w.heap.size u (Nat.le_refl _) HB6.out)
      have HKE := Lib.hid (fun u : Sy => sty_setN w6 w.heap.size u 26 HKR6.out)
      cases hok : T.ok
      · have HI := Lib.hid (psO_no h9 (fun h => by have h2 := h.1; rw [ps_ok, HTT.out, hok] at h2; cases h2))
        clear hok
        go_wp2
        have hke := HKE.out syZ
        have hen := HEND.out syZ
        simp only [syZ] at hke hen
        generalize (((((w6.setCell ⟨w.heap.size, 0, none⟩ (.int .i64 0)).setCell ⟨w.heap.size, 1, none⟩ (.int .i64 0)).setCell ⟨w.heap.size, 2, none⟩ (.int .i64 0)).setCell ⟨w.heap.size, 3, none⟩ (.int .i64 0)).setCell ⟨w.heap.size, 4, none⟩ (.int .i64 0)) = V at *
        have e0 := (hke.cell 0).trans rfl
        have e1 := (hke.cell 1).trans rfl
        have e2 := (hke.cell 2).trans rfl
        have e3 := (hke.cell 3).trans rfl
        have e4 := (hke.cell 4).trans rfl
        refine bodyPost_ret (v := .tuple #[.agg #[.int .i64 0, .int .i64 0, .int .i64 0, .int .i64 0, .int .i64 0], .bool false]) (by simp [results, Tryd.results8, go_sem, e0, e1, e2, e3, e4]) rfl ⟨?_, hen⟩
        rw [HI.out]
        rfl
      · cases hwr : ((stxT T).toList == t.toList)
        · have HI := Lib.hid (psO_no h9 (fun h => by have h2 := h.2; rw [ps_eq h.1, HTT.out] at h2; rw [h2, beq_self_eq_true] at hwr; cases hwr))
          clear hok
          go_wp2
          have hke := HKE.out syZ
          have hen := HEND.out syZ
          simp only [syZ] at hke hen
          generalize (((((w6.setCell ⟨w.heap.size, 0, none⟩ (.int .i64 0)).setCell ⟨w.heap.size, 1, none⟩ (.int .i64 0)).setCell ⟨w.heap.size, 2, none⟩ (.int .i64 0)).setCell ⟨w.heap.size, 3, none⟩ (.int .i64 0)).setCell ⟨w.heap.size, 4, none⟩ (.int .i64 0)) = V at *
          have e0 := (hke.cell 0).trans rfl
          have e1 := (hke.cell 1).trans rfl
          have e2 := (hke.cell 2).trans rfl
          have e3 := (hke.cell 3).trans rfl
          have e4 := (hke.cell 4).trans rfl
          refine bodyPost_ret (v := .tuple #[.agg #[.int .i64 0, .int .i64 0, .int .i64 0, .int .i64 0, .int .i64 0], .bool false]) (by simp [results, Tryd.results8, go_sem, e0, e1, e2, e3, e4]) rfl ⟨?_, hen⟩
          rw [HI.out]
          rfl
        · have HI := Lib.hid (show psO t = (T, true) by (have hka : (psA t h9).ok = true := (ps_ok t h9).trans (by rw [HTT.out]; exact hok)); (rw [psO_yes h9 hka (by rw [ps_eq hka, HTT.out]; exact ba_eq hwr), ps_eq hka, HTT.out]))
          have r0 := (HKS6.out.cell 0).trans rfl
          have r1 := (HKS6.out.cell 1).trans rfl
          have r2 := (HKS6.out.cell 2).trans rfl
          have r3 := (HKS6.out.cell 3).trans rfl
          have r4 := (HKS6.out.cell 4).trans rfl
          clear hok
          go_wp2
          have hke := HKE.out T
          have hen := HEND.out T
          generalize (((((w6.setCell ⟨w.heap.size, 0, none⟩ (.int .i64 T.r)).setCell ⟨w.heap.size, 1, none⟩ (.int .i64 T.q)).setCell ⟨w.heap.size, 2, none⟩ (.int .i64 T.c)).setCell ⟨w.heap.size, 3, none⟩ (.int .i64 T.h)).setCell ⟨w.heap.size, 4, none⟩ (.int .i64 T.g)) = V at *
          have e0 := (hke.cell 0).trans rfl
          have e1 := (hke.cell 1).trans rfl
          have e2 := (hke.cell 2).trans rfl
          have e3 := (hke.cell 3).trans rfl
          have e4 := (hke.cell 4).trans rfl
          refine bodyPost_ret (v := .tuple #[.agg #[.int .i64 T.r, .int .i64 T.q, .int .i64 T.c, .int .i64 T.h, .int .i64 T.g], .bool true]) (by simp [results, Tryd.results8, go_sem, e0, e1, e2, e3, e4]) rfl ⟨?_, hen⟩
          rw [HI.out]
          rfl
  · have hI := Lib.hid (psO_len h9)
    have HB := Lib.hid hbZ
    have hn : ((t.size : Int) == 9) = false := by simp; omega
    clear hbZ
    go_enter Tryd.func8, Tryd.ntmps8
    go_wp2
    refine bodyPost_ret (v := .tuple #[.agg #[.int .i64 0, .int .i64 0, .int .i64 0, .int .i64 0, .int .i64 0], .bool false]) (by simp [results, Tryd.results8, go_sem]) rfl ⟨?_, HB.out⟩
    rw [hI.out]
    rfl
end Go.Proofs.YtddbcifjjblkeabDoor
