/-
  PrintTree of the model.
-/
import Derived.Test.YtegjgbgnpkncbacGreatDoorKkLpe
import Derived.Test.YtegjgbgnpkncbacGreatDoorKkLpd
import Derived.Test.YtegjgbgnpkncbacGreatDoorKk39
namespace Go.Proofs.YtegjgbgnpkncbacGreatDoor
open Go.RowKit
set_option linter.unusedVariables false

set_option maxHeartbeats 2000000 in
set_option maxRecDepth 100000 in
theorem sPrintTree_any (A : Option Addr) (l : List Nd) (n c : Nat) (w : World) (hn : l.length = n) (hm : n ≤ 2097152) (hl : NS w A l) (hs : ∀ (i : Nat) (x : Nd), l[i]? = some x → x.s.size ≤ 1048576) :
    Calls Tryz.prog 26 #[.slice A n c] w fun e w' => e = .returned (.string (prT l)) ∧ Below w.heap.size w w' := by
  subst hn
  have HL := Lib.hid hl
  go_enter Tryz.func26, Tryz.ntmps26
  go_wp2_with fail
  refine (sTreeOk_any A l _ c w rfl hm hl hs).mono ?_
  rintro e w1 ⟨rfl, hb⟩
  have HB1 := Lib.hid hb
  clear hb hl hs
  cases ht : treB l
  · have HI := Lib.hid (prT_no ht)
    clear ht
    go_wp2
    go_ret
    rw [HI.out]
    exact ⟨rfl, HB1.out⟩
  have HT := Lib.hid (treB_ok ht)
  have HI := Lib.hid (prT_yes (treB_ok ht))
  clear ht
  go_wp2_with fail
  refine (l07All_any rfl HT.out.len HT.out.upTo A c w1 (HL.out.below HB1.out)).mono ?_
  rintro e w2 ⟨v2, rfl, ho2, hb2⟩
  have HM2 := Lib.hid (show _ from (OR.of_own fx_len rfl ho2))
  obtain ⟨A2, c2, rfl⟩ := own_slice ho2
  have HX2 := Lib.hid (show XS w2 A2 (lexK l 0 l.length) from HM2.out.rs fx_len)
  have HB2 := Lib.hid (HB1.out.trans (hb2.mono HB1.out.size))
  have hbk := HT.out.bulk_le
  clear ho2 hb2 HM2
  go_wp2_with fail
  refine (sPlainLex_any A2 (lexK l 0 l.length) _ c2 w2 rfl (by omega) HX2.out hbk.1).mono ?_
  rintro e w3 ⟨rfl, hb3⟩
  have HB3 := Lib.hid (HB2.out.trans (hb3.mono HB2.out.size))
  clear hb3
  go_wp2
  go_ret
  rw [HI.out]
  exact ⟨rfl, HB3.out⟩
end Go.Proofs.YtegjgbgnpkncbacGreatDoor
