/-
  Layout, BreaksOf, LinesIn of the model.
-/
import Derived.Test.YthjkgbcomjiejabGreatDoorFf50
import Derived.Test.YthjkgbcomjiejabGreatDoorFf45
namespace Go.Proofs.YthjkgbcomjiejabGreatDoor
open Go.RowKit
set_option linter.unusedVariables false

theorem clampN_self (m : Nat) : clampN (m : Int) m = m := by unfold clampN; omega

set_option maxHeartbeats 1000000 in
set_option maxRecDepth 100000 in
theorem sLayout_any (W : Int) (A : Option Addr) (l : List Tk) (m c : Nat) (w : World) (hm : l.length = m) (hmb : m ≤ 2097152) (hts : TS w A l) (hlow : ∀ b, A.map (·.block) = some b → b < w.heap.size) (hf : Fits l) :
    Calls Tryz.prog 17 #[.int .i64 W, .slice A m c] w fun e w' => e = .returned (.tuple #[.string (layB W l), .bool (okB W l)]) ∧ Below w.heap.size w w' := by
  have HM := Lib.hid hm
  have HT := Lib.hid hts
  have HF := Lib.hid hf
  have HL := Lib.hid hlow
  clear hm hts hf hlow
  go_enter Tryz.func17, Tryz.ntmps17
  go_wp2_with fail
  refine (sRun_any W m A l m c _ HM.out hmb HT.out HL.out HF.out).mono ?_
  rw [clampN_self]
  rintro e w1 ⟨hb1, ⟨hok, v, AM, cM, AW, cW, rfl, hrow, hown, hmks⟩ | ⟨hok, g, rfl⟩⟩
  · have HB1 := Lib.hid hb1
    have HOK := Lib.hid hok
    have hcv : ∀ o : Obj, (convert 54 9 (.slice AW (run W l m).1.out.length cW)).run Tryz.prog (w1.alloc o) = .ok (.string ⟨(run W l m).1.out.toArray⟩) (w1.alloc o) := fun o => conv_own (hown.alloc o)
    have e := HM.out
    subst e
    have HV := Lib.hid (show layB W l = ⟨(run W l l.length).1.out.toArray⟩ from by simp [layB, hok])
    clear hb1 hok hrow hown hmks
    go_wp2
    go_ret2
    rw [HV.out, HOK.out]
    exact ⟨rfl, HB1.out.alloc HB1.out.size _⟩
  · have HB1 := Lib.hid hb1
    have HOK := Lib.hid hok
    clear hb1 hok
    go_wp2
    go_ret2
    exact ⟨by rw [show layB W l = ByteArray.empty from by simp [layB, HOK.out], HOK.out]; rfl, HB1.out.alloc HB1.out.size _⟩

theorem tens_take (x : ByteArray) (k : Nat) (h : k < x.size) : tens (x.data.toList.take (k + 1)) = tens (x.data.toList.take k) + (if (x[k].toNat : Int) = 10 then 1 else 0) := by
  rw [take_snoc x k h, tens_app]
  congr 1
  by_cases h10 : x[k] = 10
  · rw [h10]; rfl
  · have : ¬ ((x[k].toNat : Int) = 10) := fun e => h10 (UInt8.toNat.inj (by show x[k].toNat = 10; omega))
    simp [tens, h10, this]
set_option maxHeartbeats 1000000 in
set_option maxRecDepth 100000 in
theorem sLinesIn_any (W : Int) (A : Option Addr) (l : List Tk) (m c : Nat) (w : World) (hm : l.length = m) (hmb : m ≤ 2097152) (hts : TS w A l) (hlow : ∀ b, A.map (·.block) = some b → b < w.heap.size) (hf : Fits l) :
    Calls Tryz.prog 30 #[.int .i64 W, .slice A m c] w fun e w' => e = .returned (.int .i64 (linB W l)) ∧ Below w.heap.size w w' := by
  have HM := Lib.hid hm
  have HT := Lib.hid hts
  have HF := Lib.hid hf
  have HL := Lib.hid hlow
  clear hm hts hf hlow
  go_enter Tryz.func30, Tryz.ntmps30
  go_wp2_with fail
  refine (sLayout_any W A l m c _ HM.out hmb HT.out HL.out HF.out).mono ?_
  rintro e w1 ⟨rfl, hb1⟩
  have HB1 := Lib.hid hb1
  clear hb1
  cases hok : okB W l
  · have HV := Lib.hid (show linB W l = -1 from by simp [linB, hok])
    clear hok
    go_wp2
    go_ret
    rw [HV.out]
    exact ⟨rfl, HB1.out⟩
  · obtain ⟨x, hx⟩ : ∃ x, layB W l = x := ⟨_, rfl⟩
    have hxl : x.data.toList = (run W l l.length).1.out := by rw [← hx]; simp [layB, hok]
    have hS := (okB_true hok).2.2
    have h4 := (strB_true hS).1
    have hout := (run_ok W hS l.length (Nat.le_refl _)).1.out
    have hxs : x.size ≤ 12000000 := by
      have : x.size = x.data.toList.length := Array.length_toList.symm
      rw [this, hxl]; omega
    have HV := Lib.hid (show linB W l = tens x.data.toList from by
      rw [hxl, (run_ok W hS l.length (Nat.le_refl _)).2.2.1]; simp [linB, hok])
    rw [hx]
    clear hok hx hxl hS h4 hout
    go_wp2
    go_loop [7, 8] (fun n i => ∃ k : Nat, k ≤ x.size ∧ i = .int .i64 k ∧ n = .int .i64 (tens (x.data.toList.take k)) ∧ tens (x.data.toList.take k) ≤ k) (fun _ i => x.size - (intOf i).toNat)
    case atStart => exact ⟨0, Nat.zero_le _, rfl, rfl, Nat.le_refl _⟩
    case round =>
      obtain ⟨k, hk, rfl, rfl, htn⟩ := hrel
      by_cases hlt : k < x.size
      · have HTK := Lib.hid (tens_take x k hlt)
        by_cases h10 : (x[k].toNat : Int) = 10
        · have b10 : ((x[k].toNat : Int) == 10) = true := by rw [h10]; rfl
          have HN := Lib.hid (show tens (x.data.toList.take (k + 1)) = tens (x.data.toList.take k) + 1 from by rw [HTK.out, if_pos h10])
          clear h10
          go_wp2
          go_round
          case rel => exact ⟨k + 1, by omega, by go_num, by rw [HN.out]; rfl, by rw [HN.out]; omega⟩
          case measure => simp [intOf] <;> omega
        · have b10 : ((x[k].toNat : Int) == 10) = false := by simpa using h10
          have HN := Lib.hid (show tens (x.data.toList.take (k + 1)) = tens (x.data.toList.take k) from by rw [HTK.out, if_neg h10]; rfl)
          clear h10
          go_wp2
          go_round
          case rel => exact ⟨k + 1, by omega, by go_num, by rw [HN.out], by rw [HN.out]; omega⟩
          case measure => simp [intOf] <;> omega
      · have hkn : k = x.size := by omega
        subst hkn
        go_wp2
        go_ret
        rw [HV.out]
        rw [List.take_of_length_le (by rw [Array.length_toList]; exact Nat.le_refl _)]
        exact ⟨rfl, HB1.out⟩
end Go.Proofs.YthjkgbcomjiejabGreatDoor
