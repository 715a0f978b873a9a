/-
  The implementation's shapes: what their methods answer, and what shapeOf makes of a token.
-/
import Derived.WalkKit
import Derived.Test.YthjkgbcomjiejaaGreatDoorRows
import Derived.WalkSpells
import Derived.WalkLawsBesides
import Derived.Lib.Hide
import Derived.Laws.RangeAny
import Derived.LoopTactic
import Derived.Below
import Derived.Deep.RegionHeld3
import Derived.Deep.RegionWith
namespace Go.Proofs.YthjkgbcomjiejaaGreatDoor
open Go.RowKit

/-- low to high, both within. -/
def inB (x lo hi : Int) : Bool := decide (lo ≤ x) && decide (x ≤ hi)
theorem inB_true {x lo hi : Int} : inB x lo hi = true ↔ lo ≤ x ∧ x ≤ hi := by simp [inB]
theorem inB_false {x lo hi : Int} : inB x lo hi = false ↔ x < lo ∨ hi < x := by
  rw [← Bool.not_eq_true, inB_true]; omega

/-- the first k bytes are all of 32 .. 126. -/
def prN (s : ByteArray) (k : Nat) : Bool := (s.data.toList.take k).all fun c => decide (32 ≤ (c.toNat : Int)) && decide ((c.toNat : Int) ≤ 126)
theorem prN_zero (s : ByteArray) : prN s 0 = true := by simp [prN]
theorem take_snoc (s : ByteArray) (k : Nat) (h : k < s.size) : s.data.toList.take (k + 1) = s.data.toList.take k ++ [s[k]] := by
  rw [List.take_succ_eq_append_getElem (by simpa using h)]; rfl
theorem prN_succ (s : ByteArray) (k : Nat) (h : k < s.size) : prN s (k + 1) = (prN s k && (decide (32 ≤ (s[k].toNat : Int)) && decide ((s[k].toNat : Int) ≤ 126))) := by
  simp only [prN, take_snoc s k h, List.all_append, List.all_cons, List.all_nil, Bool.and_true]
theorem prN_step (s : ByteArray) (k : Nat) (h : k < s.size) (hp : prN s k = true) (h1 : 32 ≤ (s[k].toNat : Int)) (h2 : (s[k].toNat : Int) ≤ 126) : prN s (k + 1) = true := by
  rw [prN_succ s k h, hp]; simp; omega
theorem prN_bad (s : ByteArray) (k : Nat) (h : k < s.size) (hb : (s[k].toNat : Int) < 32 ∨ 126 < (s[k].toNat : Int)) : prN s s.size = false := by
  have : ¬ (prN s s.size = true) := by
    intro ht
    simp only [prN, List.all_eq_true] at ht
    have hm : s[k] ∈ s.data.toList.take s.size := by
      rw [List.take_of_length_le (by simp)]
      exact List.getElem_mem (l := s.data.toList) (by simpa using h)
    have := ht _ hm
    simp at this
    omega
  simpa using this

/-- what a Text must be. -/
def txtB (s : ByteArray) : Bool :=
  if h : 1 ≤ s.size ∧ s.size ≤ 40 then !((s[0].toNat : Int) == 32) && (!((s[s.size - 1].toNat : Int) == 32) && prN s s.size) else false

/-- TokenOk of Kind k, Text s, Width d, Off o. -/
def tokB (k : Int) (s : ByteArray) (d o : Int) : Bool :=
  if k = 0 then txtB s && (decide (d = 0) && decide (o = 0))
  else if s.size ≠ 0 then false
  else if k = 1 then inB d 0 9 && inB o (-9) 9
  else if k = 2 then inB d 0 1 && inB o 0 9
  else if k = 3 then decide (d = 0) && decide (o = 0)
  else if k = 4 then decide (d = 0) && inB o (-9) 9
  else false

theorem size_zero {s : ByteArray} : s.size = 0 ↔ s = ByteArray.empty := by
  constructor
  · intro h
    obtain ⟨⟨l⟩⟩ := s
    have : l = [] := by simpa [ByteArray.size] using h
    subst this; rfl
  · intro h; subst h; rfl

theorem toList_eq (s : ByteArray) : s.toList = s.data.toList := ByteArray.toList_eq s
theorem ne_isEmpty {s : ByteArray} (h : s.size ≠ 0) : (!s.toList.isEmpty) = true := by
  rw [toList_eq]
  obtain ⟨⟨l⟩⟩ := s
  cases l
  · exact absurd rfl h
  · rfl

/-- a byte of 32 .. 126. -/
def okC (c : UInt8) : Bool := decide (32 ≤ (c.toNat : Int)) && decide ((c.toNat : Int) ≤ 126)
/-- the place of the first byte that is none of 32 .. 126; -1 when there is none. -/
def fbI (s : ByteArray) : Int := if prN s s.size then -1 else ((s.data.toList.takeWhile okC).length : Int)
theorem fbI_none {s : ByteArray} (h : prN s s.size = true) : fbI s = -1 := by rw [fbI, if_pos h]
theorem takeWhile_len {l : List UInt8} {p : UInt8 → Bool} {k : Nat} (hk : k < l.length) (ha : (l.take k).all p = true) (hb : p l[k] = false) : (l.takeWhile p).length = k := by
  have e : l = l.take k ++ l[k] :: l.drop (k + 1) := by rw [← List.drop_eq_getElem_cons hk, List.take_append_drop]
  have h2 : (l.take k ++ l[k] :: l.drop (k + 1)).takeWhile p = l.take k := by
    rw [List.takeWhile_append_of_pos (by simpa [List.all_eq_true] using ha), List.takeWhile_cons_of_neg (by simp [hb]), List.append_nil]
  rw [← e] at h2
  rw [h2]; simp; omega
theorem fbI_at {s : ByteArray} {k : Nat} (hk : k < s.size) (hp : prN s k = true) (hb : (s[k].toNat : Int) < 32 ∨ 126 < (s[k].toNat : Int)) : fbI s = k := by
  rw [fbI, prN_bad s k hk hb, if_neg (by simp), takeWhile_len (p := okC) (k := k) (by simpa using hk) hp]
  show okC s[k] = false
  simp [okC]; omega
theorem fbI_neg (s : ByteArray) : decide (fbI s < 0) = prN s s.size := by
  unfold fbI; split
  · rename_i h; simp [h]
  · rename_i h; simp at h; simp [h]

end Go.Proofs.YthjkgbcomjiejaaGreatDoor
namespace Go.Proofs.YthjkgbcomjiejaaGreatDoor
open Go.RowKit
set_option linter.unusedVariables false

set_option maxHeartbeats 400000 in
theorem l01In_any (x lo hi : Int) (w : World) :
    Calls Tryz.prog 36 #[.int .i64 x, .int .i64 lo, .int .i64 hi] w fun e w' => e = .returned (.bool (inB x lo hi)) ∧ w = w' := by
  by_cases h1 : lo ≤ x <;> by_cases h2 : x ≤ hi
  all_goals
    go_enter Tryz.func36, Tryz.ntmps36
    go_wp2
    go_ret
    simp [inB, h1, h2]

set_option maxHeartbeats 400000 in
theorem within_any (x lo hi : Int) (w : World) :
    Calls Tryz.prog 35 #[.int .i64 x, .int .i64 lo, .int .i64 hi] w fun e w' => e = .returned (.bool (inB x lo hi)) ∧ w = w' := by
  by_cases h1 : lo ≤ x <;> by_cases h2 : x ≤ hi
  all_goals
    go_enter Tryz.func35, Tryz.ntmps35
    go_wp2
    go_ret
    simp [inB, h1, h2]

theorem width_pos (s : ByteArray) (pos : Nat) (h : pos < s.size) : 1 ≤ (Utf8.decode s pos).2 := by
  by_cases ha : (s[pos]'h).toNat < 128
  · rw [decode_ascii s pos h ha]
    exact Nat.le_refl _
  · exact (decode_high s pos h (by omega)).2
theorem iter_below (w : World) (s : ByteArray) (p : Nat) : Below w.heap.size w (w.iter s p) := (Below.refl _ _).alloc (Nat.le_refl _) _

set_option maxHeartbeats 400000 in
theorem firstUnprintable_any (s : ByteArray) (w : World) :
    Calls Tryz.prog 106 #[.string s] w fun e w' => e = .returned (.int .i64 (fbI s)) ∧ Below w.heap.size w w' := by
  go_enter Tryz.func106, Tryz.ntmps106
  go_wp2
  go_loopw [] (fun w' => ∃ pos : Nat, w' = w.iter s pos ∧ pos ≤ s.size ∧ prN s pos = true) (fun w' => s.size - w'.iterPos w.heap.size)
  case atStart => exact ⟨0, rfl, Nat.zero_le _, prN_zero s⟩
  case round =>
    obtain ⟨pos, rfl, hle, hp⟩ := hrel
    have HP := Lib.hid hp
    clear hp
    by_cases hlt : pos < s.size
    · by_cases hb : (s[pos].toNat : Int) < 32 ∨ 126 < (s[pos].toNat : Int)
      · have HF := Lib.hid (fbI_at hlt HP.out hb)
        have hnx : ∀ ty, (Instr.next (.pointer (some ⟨w.heap.size, 0, none⟩)) true ty).run Tryz.prog (w.iter s pos) = _ := fun ty => run_next_any w s pos ty hlt
        have hr : ((Utf8.decode s pos).1 : Int) < 32 ∨ 126 < ((Utf8.decode s pos).1 : Int) := by
          by_cases ha : s[pos].toNat < 128
          · rw [decode_ascii s pos hlt ha]; exact hb
          · have := (decode_high s pos hlt (by omega)).1; right; omega
        clear hb
        generalize (Utf8.decode s pos).1 = r at *
        generalize (Utf8.decode s pos).2 = wd at *
        rcases hr with hr | hr
        · go_wp2
          go_ret
          rw [HF.out]
          exact ⟨rfl, iter_below _ _ _⟩
        · have hr2 : ¬ (r : Int) < 32 := by omega
          go_wp2
          go_ret
          rw [HF.out]
          exact ⟨rfl, iter_below _ _ _⟩
      · have hb' : 32 ≤ (s[pos].toNat : Int) ∧ (s[pos].toNat : Int) ≤ 126 := by omega
        have HS := Lib.hid (prN_step s pos hlt HP.out hb'.1 hb'.2)
        have hnx : ∀ ty, (Instr.next (.pointer (some ⟨w.heap.size, 0, none⟩)) true ty).run Tryz.prog (w.iter s pos) = _ := fun ty => run_next_ascii w s pos ty hlt (by omega)
        obtain ⟨h1, h2⟩ := hb'
        clear hb
        generalize s[pos].toNat = r at *
        have h1' : ¬ (r : Int) < 32 := by omega
        have h2' : ¬ 126 < (r : Int) := by omega
        go_wp2
        go_roundw
        case rel => exact ⟨pos + 1, rfl, by omega, HS.out⟩
        case measure => simp; omega
    · have hnx : ∀ ty, (Instr.next (.pointer (some ⟨w.heap.size, 0, none⟩)) true ty).run Tryz.prog (w.iter s pos) = _ := fun ty => run_next_end w s pos ty hlt
      have hk : pos = s.size := by omega
      have HF := Lib.hid (fbI_none (s := s) (hk ▸ HP.out))
      clear hk
      go_wp2
      go_ret
      rw [HF.out]
      exact ⟨rfl, iter_below _ _ _⟩

end Go.Proofs.YthjkgbcomjiejaaGreatDoor
namespace Go.Proofs.YthjkgbcomjiejaaGreatDoor
open Go.RowKit

def TokAt (w : World) (k : Int) (s : ByteArray) (d o : Int) (w' : World) : Prop :=
  w'.cell? ⟨w.heap.size, 0, none⟩ = some (.int .i64 k) ∧ w'.cell? ⟨w.heap.size, 1, none⟩ = some (.string s) ∧ w'.cell? ⟨w.heap.size, 2, none⟩ = some (.int .i64 d) ∧ w'.cell? ⟨w.heap.size, 3, none⟩ = some (.int .i64 o) ∧ Below w.heap.size w w' ∧ w.heap.size < w'.heap.size
theorem TokAt.start {w w1 : World} {k : Int} {s : ByteArray} {d o : Int} {t : TypeId} (hb : Below (w.alloc (.cells #[.int .i64 k, .string s, .int .i64 d, .int .i64 o] t)).heap.size (w.alloc (.cells #[.int .i64 k, .string s, .int .i64 d, .int .i64 o] t)) w1) : TokAt w k s d o w1 := by
  have hz : w.heap.size < (w.alloc (.cells #[.int .i64 k, .string s, .int .i64 d, .int .i64 o] t)).heap.size := by simp
  refine ⟨?_, ?_, ?_, ?_, ?_, ?_⟩
  · rw [hb.cell (p := ⟨w.heap.size, 0, none⟩) hz]; simp
  · rw [hb.cell (p := ⟨w.heap.size, 1, none⟩) hz]; simp
  · rw [hb.cell (p := ⟨w.heap.size, 2, none⟩) hz]; simp
  · rw [hb.cell (p := ⟨w.heap.size, 3, none⟩) hz]; simp
  · exact ((Below.refl _ _).alloc (Nat.le_refl _) _).trans (hb.mono (by simp))
  · exact Nat.lt_of_lt_of_le hz hb.size
theorem TokAt.go {w W w2 : World} {k : Int} {s : ByteArray} {d o : Int} (h : TokAt w k s d o W) (hb : Below W.heap.size W w2) : TokAt w k s d o w2 := by
  obtain ⟨h0, h1, h2, h3, h4, h5⟩ := h
  refine ⟨?_, ?_, ?_, ?_, ?_, ?_⟩
  · rw [hb.cell (p := ⟨w.heap.size, 0, none⟩) h5]; exact h0
  · rw [hb.cell (p := ⟨w.heap.size, 1, none⟩) h5]; exact h1
  · rw [hb.cell (p := ⟨w.heap.size, 2, none⟩) h5]; exact h2
  · rw [hb.cell (p := ⟨w.heap.size, 3, none⟩) h5]; exact h3
  · exact h4.trans (hb.mono (by omega))
  · exact Nat.lt_of_lt_of_le h5 hb.size
/-- The i-th method's name of an interface type, as the program has it. -/
def ifNameOf (t : Option TypeDesc) (i : Nat) : String := match t with
  | some (.interface ms) => (ms.toList.map Prod.fst).getD i "none"
  | _ => "none"
end Go.Proofs.YthjkgbcomjiejaaGreatDoor
