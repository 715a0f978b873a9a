/-
  The law FnSizes: what it draws, what it calls, and its own loops.
-/
import Derived.Test.YteoigpohmgjcbaaDrwo
import Derived.Test.YteoigpohmgjcbaaSzm
import Derived.Test.YteoigpohmgjcbaaWrm
import Derived.Test.YteoigpohmgjcbaaSiz
import Derived.Test.YteoigpohmgjcbaaSSiz
import Derived.Test.YteoigpohmgjcbaaWrap
import Derived.Test.YteoigpohmgjcbaaPln
namespace Go.Proofs.Yteoigpohmgjcbaa
open Go.RowKit
set_option linter.unusedVariables false

def ListPost (w : World) (e : Ending) (w' : World) : Prop :=
  ∃ A' c' l, e = .returned (.slice A' l.length c') ∧ l.length ≤ 500 ∧ (∀ b, A'.map (·.block) = some b → w.heap.size ≤ b ∧ b < w'.heap.size) ∧ TS w' A' l ∧ Fits l ∧ Below w.heap.size w w'
set_option maxHeartbeats 1000000 in
set_option maxRecDepth 100000 in
theorem DrawStreamOk_any (A : Option Addr) (n c : Nat) (w : World) (hm : n ≤ 1048576) (hb : BS w A n) (hlo : ∀ b, A.map (·.block) = some b → b < w.heap.size) :
    Calls Try.prog 43 #[.slice A n c] w (ListPost w) := by
  have HB := Lib.hid hb
  have HLO := Lib.hid hlo
  clear hb hlo
  go_enter Try.func43, Try.ntmps43
  go_wp2_with fail
  refine (l01New_any A n c w hm HB.out).mono ?_
  rintro e w1 ⟨p, hp, rfl, hc1, hb1⟩
  have HC1 := Lib.hid hc1
  have HB1 := Lib.hid hb1
  have hz := hb1.size
  have hbs : BS w1 A n := fun i hi => by
    obtain ⟨b, o, x, rfl, h1, h2, h3⟩ := HB.out i hi
    exact ⟨b, o, x, rfl, by omega, (hb1.cell (p := ⟨b, o + i, none⟩) h1).trans h2, h3⟩
  have HBS := Lib.hid hbs
  clear hc1 hb1 hbs
  go_wp2_with fail
  refine (l02DrawLoose_any p A n c w1 hm HBS.out (fun b hb => by have := HLO.out b hb; omega) (fun b hb => Nat.lt_of_lt_of_le (HLO.out b hb) hz) HC1.out).mono ?_
  rintro e w2 ⟨A', c', l, rfl, hl, hbk, hts, hsh, hc2, hg2⟩
  have HR : ListPost w (.returned (.slice A' l.length c')) w2 :=
    ⟨A', c', l, rfl, hl, fun b hb => ⟨Nat.le_trans hz (hbk b hb).1, (hbk b hb).2⟩, hts, fun i t ht => by have := hsh t (List.mem_of_getElem? ht); unfold maxLen; omega,
      HB1.out.grown hg2 hz (fun k hk => by injection hk with hk; omega)⟩
  have HRR := Lib.hid HR
  clear HR hbk hts hsh hc2 hg2
  go_wp2
  go_ret
  exact HRR.out
set_option maxHeartbeats 1000000 in
theorem DrawSizesOf_any (A : Option Addr) (n c : Nat) (w : World) (hm : n ≤ 1048576) (hb : BS w A n) (hlo : ∀ b, A.map (·.block) = some b → b < w.heap.size) :
    Calls Try.prog 24 #[.slice A n c] w (ListPost w) := by
  have HB := Lib.hid hb
  have HLO := Lib.hid hlo
  clear hb hlo
  go_enter Try.func24, Try.ntmps24
  go_wp2_with fail
  refine (DrawStreamOk_any A n c w hm HB.out HLO.out).mono ?_
  rintro e w1 ⟨A', c', l, rfl, h⟩
  have H := Lib.hid h
  clear h
  go_wp2
  go_ret
  exact ⟨A', c', l, rfl, H.out⟩
set_option maxHeartbeats 1000000 in
theorem big_any (A : Option Addr) (n c : Nat) (w : World) (hn : n ≤ maxLen) : Calls Try.prog 23 #[.slice A n c] w fun e w' => e = .returned (.bool (decide ((1048576 : Int) < n))) ∧ w = w' := by
  unfold maxLen at hn
  go_enter Try.func23, Try.ntmps23
  go_wp2
  go_ret
  exact ⟨rfl, rfl⟩
set_option maxHeartbeats 1000000 in
set_option maxRecDepth 100000 in
theorem same_any (A B : Option Addr) (xs : List Int) (c d : Nat) (w : World) (hm : xs.length ≤ 2097152) (ha : IS w A xs) (hb : IS w B xs) :
    Calls Try.prog 26 #[.slice A xs.length c, .slice B xs.length d] w fun e w' => e = .returned (.bool true) ∧ Below w.heap.size w w' := by
  have HA := Lib.hid ha
  have HB := Lib.hid hb
  clear ha hb
  go_enter Try.func26, Try.ntmps26
  go_wp2
  go_loopw [5] (fun i wr => ∃ k : Nat, k ≤ xs.length ∧ i = .int .i64 k ∧ Below w.heap.size w wr) (fun i _ => xs.length - (intOf i).toNat)
  case atStart => exact ⟨0, Nat.zero_le _, rfl, Below.refl _ _⟩
  case round =>
    obtain ⟨k, hk, rfl, hbw⟩ := hrel
    have HBW := Lib.hid hbw
    by_cases hlt : k < xs.length
    · obtain ⟨x, b, hx, rfl, hbl, cx⟩ := (HA.out.below hbw).at hlt
      obtain ⟨y, b', hy, rfl, hbl', cy⟩ := (HB.out.below hbw).at hlt
      have hxy : x = y := by rw [hx] at hy; injection hy
      subst hxy
      clear hbw hx hy
      go_wp2
      try go_region
      try go_wp2
      go_roundw
      case rel => exact ⟨k + 1, by omega, by go_num, by first | exact HBW.out | exact HBW.out.drew⟩
      case measure => simp [intOf] <;> omega
    · clear hbw
      go_wp2
      go_ret
      exact ⟨rfl, HBW.out⟩
end Go.Proofs.Yteoigpohmgjcbaa
