/-
  Layout, BreaksOf, LinesIn of the model.
-/
import Derived.Test.YthjkgbcomjiejadGreatDoorSpn
import Derived.Test.YthjkgbcomjiejadGreatDoorLay
namespace Go.Proofs.YthjkgbcomjiejadGreatDoor
open Go.RowKit
set_option linter.unusedVariables false

theorem clampN_self (m : Nat) : clampN (m : Int) m = m := by unfold clampN; omega

set_option maxHeartbeats 1000000 in
set_option maxRecDepth 100000 in
theorem sLayout_any (W : Int) (A : Option Addr) (l : List Tk) (m c : Nat) (w : World) (hm : l.length = m) (hmb : m ≤ 2097152) (hts : TS w A l) (hlow : ∀ b, A.map (·.block) = some b → b < w.heap.size) (hf : Fits l) :
    Calls Tryz.prog 106 #[.int .i64 W, .slice A m c] w fun e w' => e = .returned (.tuple #[.string (layB W l), .bool (okB W l)]) ∧ Below w.heap.size w w' := by
  have HM := Lib.hid hm
  have HT := Lib.hid hts
  have HF := Lib.hid hf
  have HL := Lib.hid hlow
  clear hm hts hf hlow
  go_enter Tryz.func106, Tryz.ntmps106
  go_wp2_with fail
  refine (sRun_any W m A l m c _ HM.out hmb HT.out HL.out HF.out).mono ?_
  rw [clampN_self]
  rintro e w1 ⟨hb1, ⟨hok, v, AM, cM, AW, cW, rfl, hrow, hown, hmks⟩ | ⟨hok, g, rfl⟩⟩
  · have HB1 := Lib.hid hb1
    have HOK := Lib.hid hok
    have hcv : ∀ o : Obj, (convert 22 9 (.slice AW (run W l m).1.out.length cW)).run Tryz.prog (w1.alloc o) = .ok (.string ⟨(run W l m).1.out.toArray⟩) (w1.alloc o) := fun o => conv_own (hown.alloc o)
    have e := HM.out
    subst e
    have HV := Lib.hid (show layB W l = ⟨(run W l l.length).1.out.toArray⟩ from by simp [layB, hok])
    clear hb1 hok hrow hown hmks
    go_wp2
    go_ret2
    rw [HV.out, HOK.out]
    exact ⟨rfl, HB1.out.alloc HB1.out.size _⟩
  · have HB1 := Lib.hid hb1
    have HOK := Lib.hid hok
    clear hb1 hok
    go_wp2
    go_ret2
    exact ⟨by rw [show layB W l = ByteArray.empty from by simp [layB, HOK.out], HOK.out]; rfl, HB1.out.alloc HB1.out.size _⟩

theorem tens_take (x : ByteArray) (k : Nat) (h : k < x.size) : tens (x.data.toList.take (k + 1)) = tens (x.data.toList.take k) + (if (x[k].toNat : Int) = 10 then 1 else 0) := by
  rw [take_snoc x k h, tens_app]
  congr 1
  by_cases h10 : x[k] = 10
  · rw [h10]; rfl
  · have : ¬ ((x[k].toNat : Int) = 10) := fun e => h10 (UInt8.toNat.inj (by show x[k].toNat = 10; omega))
    simp [tens, h10, this]
end Go.Proofs.YthjkgbcomjiejadGreatDoor
