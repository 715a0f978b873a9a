/-
  SameMeaning on both sides.
-/
import Derived.Test.YtegjgbgnpkncbacGreatDoorKk40
import Derived.Test.YtegjgbgnpkncbacGreatDoorKk39
namespace Go.Proofs.YtegjgbgnpkncbacGreatDoor
open Go.RowKit
set_option linter.unusedVariables false

noncomputable def smg (s t : ByteArray) : Bool := decide ((prsA s).2.1 = 0) && (decide ((prsA t).2.1 = 0) && smtB (prsA s).1 (prsA t).1)
set_option maxHeartbeats 2000000 in
set_option maxRecDepth 100000 in
theorem SameMeaning_any (s t : ByteArray) (w : World) (hg : ErrV w) :
    Calls Tryz.prog 12 #[.string s, .string t] w fun e w' => e = .returned (.bool (smg s t)) ∧ Below w.heap.size w w' := by
  have hlen : (prsA s).1.length ≤ 200 := (prsA_tree s).len
  have hlen2 : (prsA t).1.length ≤ 200 := (prsA_tree t).len
  have HS1 := Lib.hid (prsA_small s)
  have HS2 := Lib.hid (prsA_small t)
  have HSM := Lib.hid (show smg s t = (decide ((prsA s).2.1 = 0) && (decide ((prsA t).2.1 = 0) && smtB (prsA s).1 (prsA t).1)) from rfl)
  obtain ⟨l, hl⟩ : ∃ l, (prsA s).1 = l := ⟨_, rfl⟩
  obtain ⟨c, hc⟩ : ∃ c, (prsA s).2.1 = c := ⟨_, rfl⟩
  obtain ⟨a, ha⟩ : ∃ a, (prsA s).2.2 = a := ⟨_, rfl⟩
  obtain ⟨m, hm⟩ : ∃ l, (prsA t).1 = l := ⟨_, rfl⟩
  obtain ⟨d, hd⟩ : ∃ c, (prsA t).2.1 = c := ⟨_, rfl⟩
  obtain ⟨b, hb⟩ : ∃ a, (prsA t).2.2 = a := ⟨_, rfl⟩
  rw [hl, hc, hm, hd] at HSM
  rw [hl] at hlen HS1
  rw [hm] at hlen2 HS2
  have HL := Lib.hid hl
  have HC := Lib.hid hc
  have HA := Lib.hid ha
  have HM := Lib.hid hm
  have HD := Lib.hid hd
  have HB := Lib.hid hb
  clear hl hc ha hm hd hb
  have HG := Lib.hid hg
  go_enter Tryz.func12, Tryz.ntmps12
  go_wp2_with fail
  refine (ParseTree_any s _ HG.out).mono ?_
  intro e w1 h1
  obtain ⟨hb1, A0, c0, rfl, hlo0, hr0⟩ := ptp_out h1 HL.out HC.out HA.out
  have HX0 := Lib.hid hr0
  have HB1 := Lib.hid hb1
  clear h1 hr0 hb1 hlo0
  go_wp2_with fail
  refine (ParseTree_any t _ (HG.out.below HB1.out)).mono ?_
  intro e w2 h2
  obtain ⟨hb2, A1, c1, rfl, hlo1, hr1⟩ := ptp_out h2 HM.out HD.out HB.out
  have HX1 := Lib.hid (HX0.out.below hb2)
  have HY1 := Lib.hid hr1
  have HB2 := Lib.hid (HB1.out.trans (hb2.mono HB1.out.size))
  clear h2 hr1 hb2 hlo1 HX0
  by_cases hc0 : c = 0
  · have hcb : (c == 0) = true := by simp [hc0]
    by_cases hd0 : d = 0
    · have hdb : (d == 0) = true := by simp [hd0]
      have HF := Lib.hid (show smg s t = smtB l m by rw [HSM.out, hc0, hd0]; simp)
      go_wp2_with fail
      refine (SameTree_any A0 A1 l m _ c0 _ c1 w2 rfl rfl (by omega) (by omega) HX1.out.is HY1.out.is (HG.out.below HB2.out)).mono ?_
      rintro e w3 ⟨rfl, hb3⟩
      have HB3 := Lib.hid (HB2.out.trans (hb3.mono HB2.out.size))
      clear hb3
      go_wp2_with fail
      go_ret
      rw [HF.out]
      exact ⟨rfl, HB3.out⟩
    · have hdb : (d == 0) = false := by simp [hd0]
      have HF := Lib.hid (show smg s t = false by rw [HSM.out]; simp [hd0])
      go_wp2_with fail
      go_ret
      rw [HF.out]
      exact ⟨rfl, HB2.out⟩
  · have hcb : (c == 0) = false := by simp [hc0]
    have HF := Lib.hid (show smg s t = false by rw [HSM.out]; simp [hc0])
    go_wp2_with fail
    go_ret
    rw [HF.out]
    exact ⟨rfl, HB2.out⟩
set_option maxHeartbeats 2000000 in
set_option maxRecDepth 100000 in
theorem sSameMeaning_any (s t : ByteArray) (w : World) (hs : s.size ≤ 1048576) (ht : t.size ≤ 1048576) :
    Calls Tryz.prog 11 #[.string s, .string t] w fun e w' => e = .returned (.bool (smg s t)) ∧ Below w.heap.size w w' := by
  have hlen : (prsA s).1.length ≤ 200 := (prsA_tree s).len
  have hlen2 : (prsA t).1.length ≤ 200 := (prsA_tree t).len
  have HS1 := Lib.hid (prsA_small s)
  have HS2 := Lib.hid (prsA_small t)
  have HSM := Lib.hid (show smg s t = (decide ((prsA s).2.1 = 0) && (decide ((prsA t).2.1 = 0) && smtB (prsA s).1 (prsA t).1)) from rfl)
  obtain ⟨l, hl⟩ : ∃ l, (prsA s).1 = l := ⟨_, rfl⟩
  obtain ⟨c, hc⟩ : ∃ c, (prsA s).2.1 = c := ⟨_, rfl⟩
  obtain ⟨a, ha⟩ : ∃ a, (prsA s).2.2 = a := ⟨_, rfl⟩
  obtain ⟨m, hm⟩ : ∃ l, (prsA t).1 = l := ⟨_, rfl⟩
  obtain ⟨d, hd⟩ : ∃ c, (prsA t).2.1 = c := ⟨_, rfl⟩
  obtain ⟨b, hb⟩ : ∃ a, (prsA t).2.2 = a := ⟨_, rfl⟩
  rw [hl, hc, hm, hd] at HSM
  rw [hl] at hlen HS1
  rw [hm] at hlen2 HS2
  have HL := Lib.hid hl
  have HC := Lib.hid hc
  have HA := Lib.hid ha
  have HM := Lib.hid hm
  have HD := Lib.hid hd
  have HB := Lib.hid hb
  clear hl hc ha hm hd hb
  skip
  go_enter Tryz.func11, Tryz.ntmps11
  go_wp2_with fail
  refine (sParseTree_any s _ hs).mono ?_
  intro e w1 h1
  obtain ⟨hb1, A0, c0, rfl, hlo0, hr0⟩ := ptp_out h1 HL.out HC.out HA.out
  have HX0 := Lib.hid hr0
  have HB1 := Lib.hid hb1
  clear h1 hr0 hb1 hlo0
  go_wp2_with fail
  refine (sParseTree_any t _ ht).mono ?_
  intro e w2 h2
  obtain ⟨hb2, A1, c1, rfl, hlo1, hr1⟩ := ptp_out h2 HM.out HD.out HB.out
  have HX1 := Lib.hid (HX0.out.below hb2)
  have HY1 := Lib.hid hr1
  have HB2 := Lib.hid (HB1.out.trans (hb2.mono HB1.out.size))
  clear h2 hr1 hb2 hlo1 HX0
  by_cases hc0 : c = 0
  · have hcb : (c == 0) = true := by simp [hc0]
    by_cases hd0 : d = 0
    · have hdb : (d == 0) = true := by simp [hd0]
      have HF := Lib.hid (show smg s t = smtB l m by rw [HSM.out, hc0, hd0]; simp)
      go_wp2_with fail
      refine (sSameTree_any A0 A1 l m _ c0 _ c1 w2 rfl rfl (by omega) (by omega) HX1.out.is HY1.out.is HS1.out HS2.out).mono ?_
      rintro e w3 ⟨rfl, hb3⟩
      have HB3 := Lib.hid (HB2.out.trans (hb3.mono HB2.out.size))
      clear hb3
      go_wp2_with fail
      go_ret
      rw [HF.out]
      exact ⟨rfl, HB3.out⟩
    · have hdb : (d == 0) = false := by simp [hd0]
      have HF := Lib.hid (show smg s t = false by rw [HSM.out]; simp [hd0])
      go_wp2_with fail
      go_ret
      rw [HF.out]
      exact ⟨rfl, HB2.out⟩
  · have hcb : (c == 0) = false := by simp [hc0]
    have HF := Lib.hid (show smg s t = false by rw [HSM.out]; simp [hc0])
    go_wp2_with fail
    go_ret
    rw [HF.out]
    exact ⟨rfl, HB2.out⟩
end Go.Proofs.YtegjgbgnpkncbacGreatDoor
