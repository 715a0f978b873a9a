/-
  The laws' helpers over slices of tokens: their size, their copy, their comparison.
-/
import Derived.Test.YtegjgbgnpkncbacGreatDoorRows
import Derived.Test.YtegjgbgnpkncbacGreatDoorKk01
import Derived.WalkKit
import Derived.WalkSpells
import Derived.WalkLawsBesides
import Derived.Lib.Hide
import Derived.Laws.RangeAny
import Derived.LoopTactic
import Derived.Below
import Derived.Deep.RegionHeld3
import Derived.Deep.RegionWith
import Derived.Test.YtegjgbgnpkncbacGreatDoorKk02
import Derived.Deep.QuietTactic
import Derived.BigQuiet
import Derived.Laws.MakeOwn
namespace Go.Proofs.YtegjgbgnpkncbacGreatDoor
open Go.RowKit
set_option linter.unusedVariables false

set_option maxHeartbeats 400000 in
theorem l01In_any (x lo hi : Int) (w : World) :
    Calls Tryz.prog 57 #[.int .i64 x, .int .i64 lo, .int .i64 hi] w fun e w' => e = .returned (.bool (inB x lo hi)) ∧ w = w' := by
  by_cases h1 : lo ≤ x <;> by_cases h2 : x ≤ hi
  all_goals
    go_enter Tryz.func57, Tryz.ntmps57
    go_wp2
    go_ret
    simp [inB, h1, h2]

set_option maxHeartbeats 400000 in
theorem within_any (x lo hi : Int) (w : World) :
    Calls Tryz.prog 76 #[.int .i64 x, .int .i64 lo, .int .i64 hi] w fun e w' => e = .returned (.bool (inB x lo hi)) ∧ w = w' := by
  by_cases h1 : lo ≤ x <;> by_cases h2 : x ≤ hi
  all_goals
    go_enter Tryz.func76, Tryz.ntmps76
    go_wp2
    go_ret
    simp [inB, h1, h2]

theorem width_pos (s : ByteArray) (pos : Nat) (h : pos < s.size) : 1 ≤ (Utf8.decode s pos).2 := by
  by_cases ha : (s[pos]'h).toNat < 128
  · rw [decode_ascii s pos h ha]
    exact Nat.le_refl _
  · exact (decode_high s pos h (by omega)).2
theorem iter_below (w : World) (s : ByteArray) (p : Nat) : Below w.heap.size w (w.iter s p) := (Below.refl _ _).alloc (Nat.le_refl _) _

set_option maxHeartbeats 400000 in
theorem firstUnprintable_any (s : ByteArray) (w : World) :
    Calls Tryz.prog 79 #[.string s] w fun e w' => e = .returned (.int .i64 (fbI s)) ∧ Below w.heap.size w w' := by
  go_enter Tryz.func79, Tryz.ntmps79
  go_wp2
  go_loopw [] (fun w' => ∃ pos : Nat, w' = w.iter s pos ∧ pos ≤ s.size ∧ prN s pos = true) (fun w' => s.size - w'.iterPos w.heap.size)
  case atStart => exact ⟨0, rfl, Nat.zero_le _, prN_zero s⟩
  case round =>
    obtain ⟨pos, rfl, hle, hp⟩ := hrel
    have HP := Lib.hid hp
    clear hp
    by_cases hlt : pos < s.size
    · by_cases hb : (s[pos].toNat : Int) < 32 ∨ 126 < (s[pos].toNat : Int)
      · have HF := Lib.hid (fbI_at hlt HP.out hb)
        have hnx : ∀ ty, (Instr.next (.pointer (some ⟨w.heap.size, 0, none⟩)) true ty).run Tryz.prog (w.iter s pos) = _ := fun ty => run_next_any w s pos ty hlt
        have hr : ((Utf8.decode s pos).1 : Int) < 32 ∨ 126 < ((Utf8.decode s pos).1 : Int) := by
          by_cases ha : s[pos].toNat < 128
          · rw [decode_ascii s pos hlt ha]; exact hb
          · have := (decode_high s pos hlt (by omega)).1; right; omega
        clear hb
        generalize (Utf8.decode s pos).1 = r at *
        generalize (Utf8.decode s pos).2 = wd at *
        rcases hr with hr | hr
        · go_wp2
          go_ret
          rw [HF.out]
          exact ⟨rfl, iter_below _ _ _⟩
        · have hr2 : ¬ (r : Int) < 32 := by omega
          go_wp2
          go_ret
          rw [HF.out]
          exact ⟨rfl, iter_below _ _ _⟩
      · have hb' : 32 ≤ (s[pos].toNat : Int) ∧ (s[pos].toNat : Int) ≤ 126 := by omega
        have HS := Lib.hid (prN_step s pos hlt HP.out hb'.1 hb'.2)
        have hnx : ∀ ty, (Instr.next (.pointer (some ⟨w.heap.size, 0, none⟩)) true ty).run Tryz.prog (w.iter s pos) = _ := fun ty => run_next_ascii w s pos ty hlt (by omega)
        obtain ⟨h1, h2⟩ := hb'
        clear hb
        generalize s[pos].toNat = r at *
        have h1' : ¬ (r : Int) < 32 := by omega
        have h2' : ¬ 126 < (r : Int) := by omega
        go_wp2
        go_roundw
        case rel => exact ⟨pos + 1, rfl, by omega, HS.out⟩
        case measure => simp; omega
    · have hnx : ∀ ty, (Instr.next (.pointer (some ⟨w.heap.size, 0, none⟩)) true ty).run Tryz.prog (w.iter s pos) = _ := fun ty => run_next_end w s pos ty hlt
      have hk : pos = s.size := by omega
      have HF := Lib.hid (fbI_none (s := s) (hk ▸ HP.out))
      clear hk
      go_wp2
      go_ret
      rw [HF.out]
      exact ⟨rfl, iter_below _ _ _⟩

end Go.Proofs.YtegjgbgnpkncbacGreatDoor
namespace Go.Proofs.YtegjgbgnpkncbacGreatDoor
open Go.RowKit

def TokAt (w : World) (k : Int) (s : ByteArray) (d o : Int) (w' : World) : Prop :=
  w'.cell? ⟨w.heap.size, 0, none⟩ = some (.int .i64 k) ∧ w'.cell? ⟨w.heap.size, 1, none⟩ = some (.string s) ∧ w'.cell? ⟨w.heap.size, 2, none⟩ = some (.int .i64 d) ∧ w'.cell? ⟨w.heap.size, 3, none⟩ = some (.int .i64 o) ∧ Below w.heap.size w w' ∧ w.heap.size < w'.heap.size
theorem TokAt.start {w w1 : World} {k : Int} {s : ByteArray} {d o : Int} {t : TypeId} (hb : Below (w.alloc (.cells #[.int .i64 k, .string s, .int .i64 d, .int .i64 o] t)).heap.size (w.alloc (.cells #[.int .i64 k, .string s, .int .i64 d, .int .i64 o] t)) w1) : TokAt w k s d o w1 := by
  have hz : w.heap.size < (w.alloc (.cells #[.int .i64 k, .string s, .int .i64 d, .int .i64 o] t)).heap.size := by simp
  refine ⟨?_, ?_, ?_, ?_, ?_, ?_⟩
  · rw [hb.cell (p := ⟨w.heap.size, 0, none⟩) hz]; simp
  · rw [hb.cell (p := ⟨w.heap.size, 1, none⟩) hz]; simp
  · rw [hb.cell (p := ⟨w.heap.size, 2, none⟩) hz]; simp
  · rw [hb.cell (p := ⟨w.heap.size, 3, none⟩) hz]; simp
  · exact ((Below.refl _ _).alloc (Nat.le_refl _) _).trans (hb.mono (by simp))
  · exact Nat.lt_of_lt_of_le hz hb.size
theorem TokAt.go {w W w2 : World} {k : Int} {s : ByteArray} {d o : Int} (h : TokAt w k s d o W) (hb : Below W.heap.size W w2) : TokAt w k s d o w2 := by
  obtain ⟨h0, h1, h2, h3, h4, h5⟩ := h
  refine ⟨?_, ?_, ?_, ?_, ?_, ?_⟩
  · rw [hb.cell (p := ⟨w.heap.size, 0, none⟩) h5]; exact h0
  · rw [hb.cell (p := ⟨w.heap.size, 1, none⟩) h5]; exact h1
  · rw [hb.cell (p := ⟨w.heap.size, 2, none⟩) h5]; exact h2
  · rw [hb.cell (p := ⟨w.heap.size, 3, none⟩) h5]; exact h3
  · exact h4.trans (hb.mono (by omega))
  · exact Nat.lt_of_lt_of_le h5 hb.size
/-- The i-th method's name of an interface type, as the program has it. -/
def ifNameOf (t : Option TypeDesc) (i : Nat) : String := match t with
  | some (.interface ms) => (ms.toList.map Prod.fst).getD i "none"
  | _ => "none"
end Go.Proofs.YtegjgbgnpkncbacGreatDoor
namespace Go.Proofs.YtegjgbgnpkncbacGreatDoor
open Go.RowKit

theorem tokB_cases {k : Int} {s : ByteArray} {d o : Int} (h : tokB k s d o = true) :
    (k = 0 ∧ d = 0 ∧ o = 0 ∧ txtB s = true) ∨ (k = 1 ∧ s = ByteArray.empty ∧ inB d 0 9 = true ∧ inB o (-9) 9 = true) ∨
    (k = 2 ∧ s = ByteArray.empty ∧ (d = 0 ∨ d = 1) ∧ inB o 0 9 = true) ∨ (k = 3 ∧ s = ByteArray.empty ∧ d = 0 ∧ o = 0) ∨
    (k = 4 ∧ s = ByteArray.empty ∧ d = 0 ∧ inB o (-9) 9 = true) := by
  unfold tokB at h
  split at h
  · rename_i hk
    simp at h
    exact .inl ⟨hk, h.2.1, h.2.2, h.1⟩
  · split at h
    · simp at h
    · rename_i hs
      have he : s = ByteArray.empty := size_zero.1 (by omega)
      split at h
      · rename_i hk
        simp at h
        exact .inr (.inl ⟨hk, he, h.1, h.2⟩)
      · split at h
        · rename_i hk
          simp at h
          have h1 := inB_true.1 h.1
          exact .inr (.inr (.inl ⟨hk, he, by omega, h.2⟩))
        · split at h
          · rename_i hk
            simp at h
            exact .inr (.inr (.inr (.inl ⟨hk, he, h.1, h.2⟩)))
          · split at h
            · rename_i hk
              simp at h
              exact .inr (.inr (.inr (.inr ⟨hk, he, h.1, h.2⟩)))
            · simp at h

theorem toList_beq_false {a b : ByteArray} (h : a ≠ b) : (a.toList == b.toList) = false := by
  rw [toList_eq, toList_eq, beq_eq_false_iff_ne]
  intro hh
  apply h
  obtain ⟨⟨x⟩⟩ := a
  obtain ⟨⟨y⟩⟩ := b
  simp at hh
  subst hh
  rfl

theorem empty_ne {s : ByteArray} (h : s.size ≠ 0) : ByteArray.empty ≠ s := fun e => h (by rw [← e]; rfl)

/-- shapeOf is true, with some shape, just where the token is right. -/
def ShapeOut (b : Bool) (w : World) (e : Ending) (w' : World) : Prop := ∃ v : Value, e = .returned (.tuple #[v, .bool b]) ∧ Below w.heap.size w w'
end Go.Proofs.YtegjgbgnpkncbacGreatDoor
namespace Go.Proofs.YtegjgbgnpkncbacGreatDoor
open Go.RowKit

/-- what is left when n more are counted. -/
def szV (left : Int) (n : Nat) : Int := if left < (n : Int) then -1 else left - n
def widB (k : Int) (s : ByteArray) (d o : Int) : Int := if tokB k s d o = true then (if k = 0 then s.size else if k = 1 then d else 0) else -1
def brkB (k : Int) (s : ByteArray) (d o : Int) : Bool := tokB k s d o && (decide (k = 1) || decide (k = 4))

end Go.Proofs.YtegjgbgnpkncbacGreatDoor
namespace Go.Proofs.YtegjgbgnpkncbacGreatDoor
open Go.RowKit

/-- The token and true, or the zero value and false. -/
def madeV (k : Int) (s : ByteArray) (d o : Int) : Value := if tokB k s d o = true then .agg #[.int .i64 k, .string s, .int .i64 d, .int .i64 o] else .agg #[.int .i64 0, .string ByteArray.empty, .int .i64 0, .int .i64 0]
theorem madeV_yes {k : Int} {s : ByteArray} {d o : Int} (h : tokB k s d o = true) : madeV k s d o = .agg #[.int .i64 k, .string s, .int .i64 d, .int .i64 o] := if_pos h
theorem madeV_no {k : Int} {s : ByteArray} {d o : Int} (h : tokB k s d o = false) : madeV k s d o = .agg #[.int .i64 0, .string ByteArray.empty, .int .i64 0, .int .i64 0] := if_neg (by simp [h])

theorem below4 {B b : Nat} {a w : World} {v0 v1 v2 v3 : Value} (h : Below B a w) (hb : B ≤ b) :
    Below B a ((((w.setCell ⟨b, 0, none⟩ v0).setCell ⟨b, 1, none⟩ v1).setCell ⟨b, 2, none⟩ v2).setCell ⟨b, 3, none⟩ v3) :=
  (((h.setCell hb _).setCell hb _).setCell hb _).setCell hb _

theorem bcell {W w1 : World} (hb : Below W.heap.size W w1) : (∀ b o, b < W.heap.size → w1.cell? ⟨b, o, none⟩ = W.cell? ⟨b, o, none⟩) ∧ (∀ b o, b < W.heap.size → w1.frozen? ⟨b, o, none⟩ = W.frozen? ⟨b, o, none⟩) :=
  ⟨fun b o h => hb.cell (p := ⟨b, o, none⟩) h, fun b o h => hb.frozen (p := ⟨b, o, none⟩) h⟩

end Go.Proofs.YtegjgbgnpkncbacGreatDoor
namespace Go.Proofs.YtegjgbgnpkncbacGreatDoor
open Go.RowKit

def szB (left : Int) (l : List Tk) : Int := if left < (bulk l : Int) then -1 else left - bulk l

def zeroTk : Tk := ⟨0, ByteArray.empty, 0, 0⟩
theorem flat_rep (n : Nat) : flat (List.replicate n zeroTk) = (madeCells #[.int .i64 0, .string ByteArray.empty, .int .i64 0, .int .i64 0] (n * 4)).toList := by
  apply List.ext_getElem?
  intro j
  by_cases hj : j < n * 4
  · have hr : (madeCells #[.int .i64 0, .string ByteArray.empty, .int .i64 0, .int .i64 0] (n * 4)).toList[j]? = some (#[Value.int .i64 0, .string ByteArray.empty, .int .i64 0, .int .i64 0][j % 4]!) := by
      rw [Array.getElem?_toList]
      simp [madeCells, hj]
    rw [hr]
    have ht : (List.replicate n zeroTk)[j / 4]? = some zeroTk := by rw [List.getElem?_replicate]; rw [if_pos (by omega)]
    have f := flat_at ht
    have e : j = j / 4 * 4 + j % 4 := by omega
    have hm : j % 4 < 4 := by omega
    generalize j / 4 = q at *
    generalize j % 4 = m at *
    subst e
    match m, hm with
    | 0, _ => exact f.1
    | 1, _ => exact f.2.1
    | 2, _ => exact f.2.2.1
    | 3, _ => exact f.2.2.2
  · rw [List.getElem?_eq_none (by rw [flat_length]; simp; omega), List.getElem?_eq_none (by simp [size_madeCells]; omega)]

theorem infoInt : (Tryz.prog.info? 3).map (fun i => (i.zero, i.size, i.bytes)) = some (some (.int .i64 0), 1, 8) := by kernel_rfl

theorem mkInts (n : Nat) (hn : n ≤ 2097152) (w : World) : (Instr.makeSlice 34 (.int .i64 n) (.int .i64 n)).run Tryz.prog w =
    .ok (.slice (some ⟨w.heap.size, 0, none⟩) n n) (w.alloc (.cells (nums (List.replicate n 0)).toArray 3)) := by
  obtain ⟨i, hi, hz, hs, hb⟩ := info_parts infoInt
  have h := run_make (P := Tryz.prog) w 34 3 i _ Tryz.underlying34 hi hz .i64 .i64 n n (by omega) (by omega) (by rw [hb]; omega) (by omega)
  rw [h, hs]
  have e : (madeCells (Value.int .i64 0).cells (n * 1)).toList = nums (List.replicate n 0) := by
    rw [Nat.mul_one, show (Value.int .i64 0).cells = #[.int .i64 0] from rfl, toList_madeCells_one]; simp [nums]
  rw [← e]
  simp

def fillTo (l : List Tk) (n k : Nat) : List Tk := l.take k ++ List.replicate (n - k) zeroTk
theorem fillTo_length {l : List Tk} {n k : Nat} (hl : l.length = n) (hk : k ≤ n) : (fillTo l n k).length = n := by simp [fillTo]; omega
theorem fillTo_set {l : List Tk} {n k : Nat} {t : Tk} (hl : l.length = n) (hk : k < n) (ht : l[k]? = some t) : (fillTo l n k).set k t = fillTo l n (k + 1) := by
  unfold fillTo
  have e : n - k = (n - (k + 1)) + 1 := by omega
  have hlen : (l.take k).length = k := by simp; omega
  rw [List.set_append_right _ _ (by omega), hlen, e, List.replicate_succ, Nat.sub_self, List.set_cons_zero, List.take_add_one, ht]
  simp
theorem fillTo_all {l : List Tk} {n : Nat} (hl : l.length = n) : fillTo l n n = l := by
  subst hl; simp [fillTo]

def Eight (w0 : World) (a p b q : Nat) (t : Tk) (w : World) : Prop :=
  w.cell? ⟨a, p, none⟩ = some (.int .i64 t.k) ∧ w.cell? ⟨a, p + 1, none⟩ = some (.string t.s) ∧ w.cell? ⟨a, p + 2, none⟩ = some (.int .i64 t.d) ∧ w.cell? ⟨a, p + 3, none⟩ = some (.int .i64 t.o) ∧
  w.cell? ⟨b, q, none⟩ = some (.int .i64 t.k) ∧ w.cell? ⟨b, q + 1, none⟩ = some (.string t.s) ∧ w.cell? ⟨b, q + 2, none⟩ = some (.int .i64 t.d) ∧ w.cell? ⟨b, q + 3, none⟩ = some (.int .i64 t.o) ∧
  Below w0.heap.size w0 w
theorem Eight.go {w0 w w' : World} {a p b q : Nat} {t : Tk} (ha : a < w.heap.size) (hb : b < w.heap.size) (h : Eight w0 a p b q t w) (hw : Below w.heap.size w w') : Eight w0 a p b q t w' := by
  obtain ⟨h0, h1, h2, h3, h4, h5, h6, h7, h8⟩ := h
  exact ⟨(hw.cell (p := ⟨a, _, none⟩) ha).trans h0, (hw.cell (p := ⟨a, _, none⟩) ha).trans h1, (hw.cell (p := ⟨a, _, none⟩) ha).trans h2, (hw.cell (p := ⟨a, _, none⟩) ha).trans h3, (hw.cell (p := ⟨b, _, none⟩) hb).trans h4, (hw.cell (p := ⟨b, _, none⟩) hb).trans h5, (hw.cell (p := ⟨b, _, none⟩) hb).trans h6, (hw.cell (p := ⟨b, _, none⟩) hb).trans h7, h8.trans (hw.mono h8.size)⟩

end Go.Proofs.YtegjgbgnpkncbacGreatDoor
