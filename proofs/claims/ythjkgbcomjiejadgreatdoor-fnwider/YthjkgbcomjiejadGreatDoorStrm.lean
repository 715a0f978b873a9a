/-
  StreamOk on both sides, and the walk of its law.
-/
import Derived.Test.YthjkgbcomjiejadGreatDoorOpn
namespace Go.Proofs.YthjkgbcomjiejadGreatDoor
open Go.RowKit

set_option maxHeartbeats 400000 in
theorem sStreamOk_any (A : Option Addr) (l : List Tk) (n c : Nat) (w : World) (hn : l.length = n) (hm : n ≤ 2097152) (hts : TS w A l) (hf : Fits l) :
    Calls Tryz.prog 20 #[.slice A n c] w fun e w' => e = .returned (.bool (strB l)) ∧ Below w.heap.size w w' := by
  have HN := Lib.hid hn
  clear hn
  go_enter Tryz.func20, Tryz.ntmps20
  go_wp2_with fail
  refine (sLevels_any _ l _ _ _ HN.out hm hts hf).mono ?_
  rintro e w1 ⟨A1, m1, c1, d1, rfl, hb, _⟩
  have HB := Lib.hid hb
  clear hb
  go_wp2
  go_ret
  exact ⟨rfl, HB.out⟩

set_option maxHeartbeats 400000 in
theorem StreamOk_any (A : Option Addr) (l : List Tk) (n c : Nat) (w : World) (hn : l.length = n) (hm : n ≤ 2097152) (hts : TS w A l) (hf : Fits l) :
    Calls Tryz.prog 12 #[.slice A n c] w fun e w' => e = .returned (.bool (strB l)) ∧ Below w.heap.size w w' := by
  have HN := Lib.hid hn
  clear hn
  go_enter Tryz.func12, Tryz.ntmps12
  go_wp2_with fail
  refine (openBlocks_any _ l _ _ _ HN.out hm hts hf).mono ?_
  rintro e w1 ⟨hb, ⟨hS, rfl, _⟩ | ⟨hS, rfl⟩⟩
  all_goals
    have HB := Lib.hid hb
    have HS := Lib.hid hS
    clear hb hS
    go_wp2
    go_ret
    rw [HS.out]
    exact ⟨rfl, HB.out⟩

end Go.Proofs.YthjkgbcomjiejadGreatDoor
