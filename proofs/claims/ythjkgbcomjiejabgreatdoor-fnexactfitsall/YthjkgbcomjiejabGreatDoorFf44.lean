/-
  printed, and what hands its parts on: Layout, BreaksOf, LinesIn, MarksAt of the program.
-/
import Derived.Test.YthjkgbcomjiejabGreatDoorFf36
import Derived.Test.YthjkgbcomjiejabGreatDoorFf43
namespace Go.Proofs.YthjkgbcomjiejabGreatDoor
open Go.RowKit

set_option maxHeartbeats 400000 in
theorem sStreamOk_any (A : Option Addr) (l : List Tk) (n c : Nat) (w : World) (hn : l.length = n) (hm : n ≤ 2097152) (hts : TS w A l) (hf : Fits l) :
    Calls Tryz.prog 34 #[.slice A n c] w fun e w' => e = .returned (.bool (strB l)) ∧ Below w.heap.size w w' := by
  have HN := Lib.hid hn
  clear hn
  go_enter Tryz.func34, Tryz.ntmps34
  go_wp2_with fail
  refine (sLevels_any _ l _ _ _ HN.out hm hts hf).mono ?_
  rintro e w1 ⟨A1, m1, c1, d1, rfl, hb, _⟩
  have HB := Lib.hid hb
  clear hb
  go_wp2
  go_ret
  exact ⟨rfl, HB.out⟩

set_option maxHeartbeats 400000 in
theorem StreamOk_any (A : Option Addr) (l : List Tk) (n c : Nat) (w : World) (hn : l.length = n) (hm : n ≤ 2097152) (hts : TS w A l) (hf : Fits l) :
    Calls Tryz.prog 25 #[.slice A n c] w fun e w' => e = .returned (.bool (strB l)) ∧ Below w.heap.size w w' := by
  have HN := Lib.hid hn
  clear hn
  go_enter Tryz.func25, Tryz.ntmps25
  go_wp2_with fail
  refine (openBlocks_any _ l _ _ _ HN.out hm hts hf).mono ?_
  rintro e w1 ⟨hb, ⟨hS, rfl, _⟩ | ⟨hS, rfl⟩⟩
  all_goals
    have HB := Lib.hid hb
    have HS := Lib.hid hS
    clear hb hS
    go_wp2
    go_ret
    rw [HS.out]
    exact ⟨rfl, HB.out⟩

end Go.Proofs.YthjkgbcomjiejabGreatDoor
namespace Go.Proofs.YthjkgbcomjiejabGreatDoor
open Go.RowKit
set_option linter.unusedVariables false

def NewPost (W : Int) (w : World) (e : Ending) (w' : World) : Prop :=
  ∃ p vM, e = .returned (.pointer (some ⟨p, 0, none⟩)) ∧ Below w.heap.size w w' ∧ PA w' w.heap.size p W Pr.start (.slice none 0 0) vM
set_option maxHeartbeats 1000000 in
set_option maxRecDepth 100000 in
theorem newPrinter_any (W : Int) (w : World) : Calls Tryz.prog 27 #[.int .i64 W] w (NewPost W w) := by
  go_enter Tryz.func27, Tryz.ntmps27
  go_wp2
  have h1 := BlkL.new w 110 [.int .i64 2, .int .i64 0]
  have h2 := BlkL.new (w.alloc (.cells #[.int .i64 2, .int .i64 0] 110)) 59 [.complex .f64 0 0, .int .i64 0, .slice none 0 0, .int .i64 W, .slice (some ⟨w.heap.size, 0, none⟩) 1 1]
  rw [World.size_alloc] at h2
  have h3 := World.ownsRow_lit (base := w.heap.size) (e := 110) (size := 2) w #[.int .i64 2, .int .i64 0] 1 (Nat.le_refl _) (by simp only [maxLen]; omega) rfl
  go_ret
  refine ⟨w.heap.size + 1, .slice (some ⟨w.heap.size, 0, none⟩) 1 1, rfl, ((Below.refl _ _).alloc (Nat.le_refl _) _).alloc (by simp) _, ?_⟩
  exact ⟨by omega, h2, World.ownsRow_nil _ _ _ _, h3.alloc _, by decide, by decide, by decide, by decide, by decide⟩

theorem PM.mono {w : World} {B B' p : Nat} {tp tm : TypeId} {cs : List Value} {vW vM : Value} {out : List UInt8} {ms : List (Nat × Nat)} (h : PM w B p tp tm cs vW vM out ms) (hB : B' ≤ B) : PM w B' p tp tm cs vW vM out ms :=
  ⟨Nat.le_trans hB h.base, h.blk, Joins.ownsRow_le h.own hB, Joins.ownsRow_le h.mks hB, h.n1, h.n2, h.n3, h.n4, h.n5⟩
def clampN (k : Int) (m : Nat) : Nat := (min (max k 0) m).toNat
/-- a width, and a stream. -/
def okB (W : Int) (l : List Tk) : Bool := inB W 1 200 && strB l
theorem okB_true {W : Int} {l : List Tk} (h : okB W l = true) : 1 ≤ W ∧ W ≤ 200 ∧ strB l = true := by
  unfold okB at h
  rw [Bool.and_eq_true] at h
  have := inB_true.1 h.1
  exact ⟨this.1, this.2, h.2⟩
def PrdPost (W : Int) (w : World) (l : List Tk) (n : Nat) (e : Ending) (w' : World) : Prop :=
  Below w.heap.size w w' ∧ ((okB W l = true ∧ ∃ p v vW vM, e = .returned (.tuple #[.pointer (some ⟨p, 0, none⟩), v, .bool true]) ∧ w'.ownsRow w.heap.size 3 1 v (run W l n).2.length (nums (run W l n).2) ∧ PA w' w.heap.size p W (run W l n).1 vW vM) ∨
    (okB W l = false ∧ e = .returned (.tuple #[.pointer none, .slice none 0 0, .bool false])))

set_option maxHeartbeats 1000000 in
set_option maxRecDepth 100000 in
theorem printed_any (W : Int) (A : Option Addr) (l : List Tk) (m n c : Nat) (w : World) (hm : l.length = m) (hmb : m ≤ 2097152) (hn : n ≤ m) (hmc : m ≤ c) (hts : TS w A l) (hlow : ∀ b, A.map (·.block) = some b → b < w.heap.size) (hf : Fits l) :
    Calls Tryz.prog 36 #[.int .i64 W, .slice A m c, .int .i64 n] w (PrdPost W w l n) := by
  have HM := Lib.hid hm
  have HT := Lib.hid hts
  have HF := Lib.hid hf
  clear hm hts hf
  cases hw : inB W 1 200
  · have HO := Lib.hid (show okB W l = false from by simp [okB, hw])
    go_enter Tryz.func36, Tryz.ntmps36
    go_wp2_with fail
    refine (within_any W 1 200 w).mono ?_
    rintro e w1 ⟨rfl, rfl⟩
    rw [hw]
    go_wp2
    refine bodyPost_ret (v := .tuple #[.pointer none, .slice none 0 0, .bool false]) (by simp [results, Tryz.results36, go_sem]) rfl ?_
    exact ⟨Below.refl _ _, .inr ⟨HO.out, rfl⟩⟩
  · cases hS : strB l
    · have HO := Lib.hid (show okB W l = false from by simp [okB, hS])
      have HSS := Lib.hid hS
      clear hS
      go_enter Tryz.func36, Tryz.ntmps36
      go_wp2_with fail
      refine (within_any W 1 200 w).mono ?_
      rintro e w1 ⟨rfl, rfl⟩
      rw [hw]
      go_wp2_with fail
      refine (StreamOk_any _ l _ _ _ HM.out hmb HT.out HF.out).mono ?_
      rintro e w1 ⟨rfl, hb1⟩
      rw [HSS.out]
      have HB1 := Lib.hid hb1
      clear hb1
      go_wp2
      refine bodyPost_ret (v := .tuple #[.pointer none, .slice none 0 0, .bool false]) (by simp [results, Tryz.results36, go_sem]) rfl ?_
      exact ⟨HB1.out, .inr ⟨HO.out, rfl⟩⟩
    · have HO := Lib.hid (show okB W l = true from by simp [okB, hS, hw])
      have hWb := inB_true.1 hw
      have HSS := Lib.hid hS
      clear hS
      go_enter Tryz.func36, Tryz.ntmps36
      go_wp2_with fail
      refine (within_any W 1 200 w).mono ?_
      rintro e w1 ⟨rfl, rfl⟩
      rw [hw]
      go_wp2_with fail
      refine (StreamOk_any _ l _ _ _ HM.out hmb HT.out HF.out).mono ?_
      rintro e w1 ⟨rfl, hb1⟩
      rw [HSS.out]
      have HB1 := Lib.hid hb1
      have HT1 := Lib.hid (HT.out.below hb1)
      have hz1 := hb1.size
      clear hb1
      go_wp2_with fail
      refine (newPrinter_any W w1).mono ?_
      rintro e w2 ⟨p, vM, rfl, hb2, hpa⟩
      have HB2 := Lib.hid hb2
      have HP2 := Lib.hid hpa
      have HT2 := Lib.hid (HT1.out.below hb2)
      have hz2 := hb2.size
      clear hb2 hpa
      have HSZ := Lib.hid (show ∀ V, Bw w2 V → Calls Tryz.prog 26 #[.slice A m c] V (IntsOut V (szsB l)) from
        fun V hV => SizesOf_out A l m c V HM.out hmb (HT2.out.below hV) HF.out)
      have HPT := Lib.hid (show ∀ (V : World) (A2 : Option Addr) (c2 : Nat), Bw w2 V → (∀ b, A2.map (·.block) = some b → w2.heap.size ≤ b) → IntRow V A2 (szsB l) → Calls Tryz.prog 28 #[.pointer (some ⟨p, 0, none⟩), .slice A n c, .slice A2 (szsB l).length c2] V (AllPost w1.heap.size p W V l n) from
        fun V A2 c2 hV h1 h2 => putAll_out (PM.below HP2.out hV) (Nat.le_trans hz2 hV.size) HSS.out (by rw [HM.out]; exact hn) (by omega) (by omega) (HT2.out.below hV) (fun b hb => Nat.lt_of_lt_of_le (hlow b hb) hz1) h2 (fun b hb => Nat.le_trans hz2 (h1 b hb)))
      go_wp2_with fail
      go_region_with (first
        | ((with_reducible refine (HSZ.out _ ?_).mono ?_); exact Bw.start _; rintro e w3 ⟨hb3, A2, c2, rfl, hlo, hnn, hrow⟩; have HB3 := Lib.hid (show Bw w2 w3 from Bw.keep w2 _ _ (Bw.start w2) hb3); have HL3 := Lib.hid (show ∀ b, A2.map (·.block) = some b → w2.heap.size ≤ b from hlo); have HR3 := Lib.hid hrow; clear hb3 hlo hnn hrow)
        | ((with_reducible refine (HPT.out _ _ _ ?_ ?_ ?_).mono ?_); exact HB3.out; exact HL3.out; exact HR3.out; rintro e w4 ⟨v4, rfl, hb4, ho4, vW4, vM4, hp4⟩; have HB4 := Lib.hid (show Below w.heap.size w w4 from HB1.out.trans ((HB2.out.trans ((Below.mono HB3.out hz2).trans hb4)).mono hz1)); have HO4 := Lib.hid ho4; have HP4 := Lib.hid hp4; clear hb4 ho4 hp4))
      all_goals
        go_wp2
        refine bodyPost_ret (v := .tuple #[.pointer (some ⟨p, 0, none⟩), v4, .bool true]) (by simp [results, Tryz.results36, go_sem]) rfl ?_
        exact ⟨HB4.out, .inl ⟨HO.out, p, v4, vW4, vM4, rfl, Joins.ownsRow_le HO4.out hz1, PM.mono HP4.out hz1⟩⟩
end Go.Proofs.YthjkgbcomjiejabGreatDoor
