/-
  WidthOf and IsBreak on both sides; the helpers of the laws over tokens (sizes, copies, comparison); the walks of FnExactTokenOk, FnExactWidthOf and FnExactIsBreak.
-/
import Derived.Test.YthjkgbcomjiejadGreatDoorImpl
namespace Go.Proofs.YthjkgbcomjiejadGreatDoor
open Go.RowKit

/-- what is left when n more are counted. -/
def szV (left : Int) (n : Nat) : Int := if left < (n : Int) then -1 else left - n
def widB (k : Int) (s : ByteArray) (d o : Int) : Int := if tokB k s d o = true then (if k = 0 then s.size else if k = 1 then d else 0) else -1
def brkB (k : Int) (s : ByteArray) (d o : Int) : Bool := tokB k s d o && (decide (k = 1) || decide (k = 4))

set_option maxHeartbeats 400000 in
theorem sWidthOf_any (k : Int) (s : ByteArray) (d o : Int) (w : World) (hs : s.size ≤ maxLen) :
    Calls Tryz.prog 196 #[.agg #[.int .i64 k, .string s, .int .i64 d, .int .i64 o]] w fun e w' => e = .returned (.int .i64 (widB k s d o)) ∧ Below w.heap.size w w' := by
  cases ht : tokB k s d o
  · have hW := Lib.hid (show widB k s d o = -1 from by simp [widB, ht])
    have hx := Lib.hid ht
    clear ht
    go_enter Tryz.func196, Tryz.ntmps196
    go_wp2_with fail
    refine (sTokenOk_any _ _ _ _ _ hs).mono ?_
    rintro e w1 ⟨rfl, hb⟩
    rw [hx.out]
    obtain ⟨c0, c1, c2, c3, c4, c5⟩ := TokAt.start hb
    clear hb
    go_wp2
    go_ret
    rw [hW.out]
    exact ⟨rfl, c4⟩
  · have hx := Lib.hid ht
    by_cases k0 : k = 0
    · subst k0
      have hW := Lib.hid (show widB 0 s d o = s.size from by simp [widB, ht])
      clear ht
      go_enter Tryz.func196, Tryz.ntmps196
      go_wp2_with fail
      refine (sTokenOk_any _ _ _ _ _ hs).mono ?_
      rintro e w1 ⟨rfl, hb⟩
      rw [hx.out]
      obtain ⟨c0, c1, c2, c3, c4, c5⟩ := TokAt.start hb
      clear hb
      go_wp2
      go_ret
      rw [hW.out]
      exact ⟨rfl, c4⟩
    · have k0' : (k == 0) = false := by simpa using k0
      by_cases k1 : k = 1
      · subst k1
        have hW := Lib.hid (show widB 1 s d o = d from by simp [widB, ht])
        clear ht k0
        go_enter Tryz.func196, Tryz.ntmps196
        go_wp2_with fail
        refine (sTokenOk_any _ _ _ _ _ hs).mono ?_
        rintro e w1 ⟨rfl, hb⟩
        rw [hx.out]
        obtain ⟨c0, c1, c2, c3, c4, c5⟩ := TokAt.start hb
        clear hb
        go_wp2
        go_ret
        rw [hW.out]
        exact ⟨rfl, c4⟩
      · have k1' : (k == 1) = false := by simpa using k1
        have hW := Lib.hid (show widB k s d o = 0 from by simp [widB, ht, k0, k1])
        clear ht k0 k1
        go_enter Tryz.func196, Tryz.ntmps196
        go_wp2_with fail
        refine (sTokenOk_any _ _ _ _ _ hs).mono ?_
        rintro e w1 ⟨rfl, hb⟩
        rw [hx.out]
        obtain ⟨c0, c1, c2, c3, c4, c5⟩ := TokAt.start hb
        clear hb
        go_wp2
        go_ret
        rw [hW.out]
        exact ⟨rfl, c4⟩

set_option maxHeartbeats 400000 in
theorem width_0 (s : ByteArray) (w : World) :
    Calls Tryz.prog 258 #[.agg #[.string s]] w fun e w' => e = .returned (.int .i64 s.size) ∧ Below w.heap.size w w' := by
  go_enter Tryz.func258, Tryz.ntmps258
  go_wp2
  go_ret
  exact ⟨rfl, (Below.refl _ _).alloc (Nat.le_refl _) _⟩
set_option maxHeartbeats 400000 in
set_option maxRecDepth 100000 in
theorem WidthOf_0 (s : ByteArray) (w : World) (hs : s.size ≤ maxLen) (ht : txtB s = true) :
    Calls Tryz.prog 100 #[.agg #[.int .i64 0, .string s, .int .i64 0, .int .i64 0]] w fun e w' => e = .returned (.int .i64 s.size) ∧ Below w.heap.size w w' := by
  have HT := Lib.hid ht
  clear ht
  have hm : ∀ w : World, (method 411 241 (.agg #[.string s]) (ifNameOf (Tryz.prog.underlying 162) 2)).run Tryz.prog w = .ok (258, .agg #[.string s]) w := fun _ => by kernel_rfl
  simp only [ifNameOf, Tryz.underlying162, List.map_cons, List.getD_cons_zero, List.getD_cons_succ] at hm
  go_enter Tryz.func100, Tryz.ntmps100
  go_wp2_with fail
  refine (shapeOf_0 _ _ hs HT.out).mono ?_
  rintro e w1 ⟨rfl, hb⟩
  obtain ⟨c0, c1, c2, c3, c4, c5⟩ := TokAt.start hb
  clear hb
  go_wp2_with (go_at_call 258; refine (width_0 _ _).mono ?_; rintro e w2 ⟨rfl, hb2⟩)
  go_ret
  exact ⟨rfl, c4.trans (hb2.mono (Nat.le_of_lt c5))⟩
set_option maxHeartbeats 400000 in
set_option maxRecDepth 100000 in
theorem IsBreak_0 (s : ByteArray) (w : World) (hs : s.size ≤ maxLen) (ht : txtB s = true) :
    Calls Tryz.prog 132 #[.agg #[.int .i64 0, .string s, .int .i64 0, .int .i64 0]] w fun e w' => e = .returned (.bool false) ∧ Below w.heap.size w w' := by
  have HT := Lib.hid ht
  clear ht
  have ha1 : ∀ w : World, (Instr.typeAssert (.iface 241 (.agg #[.string s])) 162 203 true).run Tryz.prog w = .ok (.tuple #[.agg #[.int .i64 0, .int .i64 0], .bool false]) w := fun _ => by kernel_rfl
  have ha2 : ∀ w : World, (Instr.typeAssert (.iface 241 (.agg #[.string s])) 162 205 true).run Tryz.prog w = .ok (.tuple #[.agg #[.int .i64 0], .bool false]) w := fun _ => by kernel_rfl
  go_enter Tryz.func132, Tryz.ntmps132
  go_wp2_with fail
  refine (shapeOf_0 _ _ hs HT.out).mono ?_
  rintro e w1 ⟨rfl, hb⟩
  obtain ⟨c0, c1, c2, c3, c4, c5⟩ := TokAt.start hb
  clear hb
  go_wp2
  go_ret
  exact ⟨rfl, c4⟩
set_option maxHeartbeats 400000 in
theorem width_1 (d o : Int) (w : World) :
    Calls Tryz.prog 247 #[.agg #[.int .i64 d, .int .i64 o]] w fun e w' => e = .returned (.int .i64 d) ∧ Below w.heap.size w w' := by
  go_enter Tryz.func247, Tryz.ntmps247
  go_wp2
  go_ret
  exact ⟨rfl, (Below.refl _ _).alloc (Nat.le_refl _) _⟩
set_option maxHeartbeats 400000 in
set_option maxRecDepth 100000 in
theorem WidthOf_1 (d o : Int) (w : World) (h1 : inB d 0 9 = true) (h2 : inB o (-9) 9 = true) :
    Calls Tryz.prog 100 #[.agg #[.int .i64 1, .string ByteArray.empty, .int .i64 d, .int .i64 o]] w fun e w' => e = .returned (.int .i64 d) ∧ Below w.heap.size w w' := by
  have H1 := Lib.hid h1
  clear h1
  have H2 := Lib.hid h2
  clear h2
  have hm : ∀ w : World, (method 411 203 (.agg #[.int .i64 d, .int .i64 o]) (ifNameOf (Tryz.prog.underlying 162) 2)).run Tryz.prog w = .ok (247, .agg #[.int .i64 d, .int .i64 o]) w := fun _ => by kernel_rfl
  simp only [ifNameOf, Tryz.underlying162, List.map_cons, List.getD_cons_zero, List.getD_cons_succ] at hm
  go_enter Tryz.func100, Tryz.ntmps100
  go_wp2_with fail
  refine (shapeOf_1 _ _ _ H1.out H2.out).mono ?_
  rintro e w1 ⟨rfl, hb⟩
  obtain ⟨c0, c1, c2, c3, c4, c5⟩ := TokAt.start hb
  clear hb
  go_wp2_with (go_at_call 247; refine (width_1 _ _ _).mono ?_; rintro e w2 ⟨rfl, hb2⟩)
  go_ret
  exact ⟨rfl, c4.trans (hb2.mono (Nat.le_of_lt c5))⟩
set_option maxHeartbeats 400000 in
set_option maxRecDepth 100000 in
theorem IsBreak_1 (d o : Int) (w : World) (h1 : inB d 0 9 = true) (h2 : inB o (-9) 9 = true) :
    Calls Tryz.prog 132 #[.agg #[.int .i64 1, .string ByteArray.empty, .int .i64 d, .int .i64 o]] w fun e w' => e = .returned (.bool true) ∧ Below w.heap.size w w' := by
  have H1 := Lib.hid h1
  clear h1
  have H2 := Lib.hid h2
  clear h2
  have ha1 : ∀ w : World, (Instr.typeAssert (.iface 203 (.agg #[.int .i64 d, .int .i64 o])) 162 203 true).run Tryz.prog w = .ok (.tuple #[.agg #[.int .i64 d, .int .i64 o], .bool true]) w := fun _ => by kernel_rfl
  have ha2 : ∀ w : World, (Instr.typeAssert (.iface 203 (.agg #[.int .i64 d, .int .i64 o])) 162 205 true).run Tryz.prog w = .ok (.tuple #[.agg #[.int .i64 0], .bool false]) w := fun _ => by kernel_rfl
  go_enter Tryz.func132, Tryz.ntmps132
  go_wp2_with fail
  refine (shapeOf_1 _ _ _ H1.out H2.out).mono ?_
  rintro e w1 ⟨rfl, hb⟩
  obtain ⟨c0, c1, c2, c3, c4, c5⟩ := TokAt.start hb
  clear hb
  go_wp2
  go_ret
  exact ⟨rfl, c4⟩
set_option maxHeartbeats 400000 in
theorem width_2 (b : Bool) (o : Int) (w : World) :
    Calls Tryz.prog 263 #[.agg #[.bool b, .int .i64 o]] w fun e w' => e = .returned (.int .i64 0) ∧ Below w.heap.size w w' := by
  go_enter Tryz.func263, Tryz.ntmps263
  go_wp2
  go_ret
  exact ⟨rfl, (Below.refl _ _).alloc (Nat.le_refl _) _⟩
set_option maxHeartbeats 400000 in
set_option maxRecDepth 100000 in
theorem WidthOf_2F (o : Int) (w : World) (h2 : inB o 0 9 = true) :
    Calls Tryz.prog 100 #[.agg #[.int .i64 2, .string ByteArray.empty, .int .i64 0, .int .i64 o]] w fun e w' => e = .returned (.int .i64 0) ∧ Below w.heap.size w w' := by
  have H2 := Lib.hid h2
  clear h2
  have hm : ∀ w : World, (method 411 243 (.agg #[.bool false, .int .i64 o]) (ifNameOf (Tryz.prog.underlying 162) 2)).run Tryz.prog w = .ok (263, .agg #[.bool false, .int .i64 o]) w := fun _ => by kernel_rfl
  simp only [ifNameOf, Tryz.underlying162, List.map_cons, List.getD_cons_zero, List.getD_cons_succ] at hm
  go_enter Tryz.func100, Tryz.ntmps100
  go_wp2_with fail
  refine (shapeOf_2F _ _ H2.out).mono ?_
  rintro e w1 ⟨rfl, hb⟩
  obtain ⟨c0, c1, c2, c3, c4, c5⟩ := TokAt.start hb
  clear hb
  go_wp2_with (go_at_call 263; refine (width_2 _ _ _).mono ?_; rintro e w2 ⟨rfl, hb2⟩)
  go_ret
  exact ⟨rfl, c4.trans (hb2.mono (Nat.le_of_lt c5))⟩
set_option maxHeartbeats 400000 in
set_option maxRecDepth 100000 in
theorem IsBreak_2F (o : Int) (w : World) (h2 : inB o 0 9 = true) :
    Calls Tryz.prog 132 #[.agg #[.int .i64 2, .string ByteArray.empty, .int .i64 0, .int .i64 o]] w fun e w' => e = .returned (.bool false) ∧ Below w.heap.size w w' := by
  have H2 := Lib.hid h2
  clear h2
  have ha1 : ∀ w : World, (Instr.typeAssert (.iface 243 (.agg #[.bool false, .int .i64 o])) 162 203 true).run Tryz.prog w = .ok (.tuple #[.agg #[.int .i64 0, .int .i64 0], .bool false]) w := fun _ => by kernel_rfl
  have ha2 : ∀ w : World, (Instr.typeAssert (.iface 243 (.agg #[.bool false, .int .i64 o])) 162 205 true).run Tryz.prog w = .ok (.tuple #[.agg #[.int .i64 0], .bool false]) w := fun _ => by kernel_rfl
  go_enter Tryz.func132, Tryz.ntmps132
  go_wp2_with fail
  refine (shapeOf_2F _ _ H2.out).mono ?_
  rintro e w1 ⟨rfl, hb⟩
  obtain ⟨c0, c1, c2, c3, c4, c5⟩ := TokAt.start hb
  clear hb
  go_wp2
  go_ret
  exact ⟨rfl, c4⟩
set_option maxHeartbeats 400000 in
set_option maxRecDepth 100000 in
theorem WidthOf_2T (o : Int) (w : World) (h2 : inB o 0 9 = true) :
    Calls Tryz.prog 100 #[.agg #[.int .i64 2, .string ByteArray.empty, .int .i64 1, .int .i64 o]] w fun e w' => e = .returned (.int .i64 0) ∧ Below w.heap.size w w' := by
  have H2 := Lib.hid h2
  clear h2
  have hm : ∀ w : World, (method 411 243 (.agg #[.bool true, .int .i64 o]) (ifNameOf (Tryz.prog.underlying 162) 2)).run Tryz.prog w = .ok (263, .agg #[.bool true, .int .i64 o]) w := fun _ => by kernel_rfl
  simp only [ifNameOf, Tryz.underlying162, List.map_cons, List.getD_cons_zero, List.getD_cons_succ] at hm
  go_enter Tryz.func100, Tryz.ntmps100
  go_wp2_with fail
  refine (shapeOf_2T _ _ H2.out).mono ?_
  rintro e w1 ⟨rfl, hb⟩
  obtain ⟨c0, c1, c2, c3, c4, c5⟩ := TokAt.start hb
  clear hb
  go_wp2_with (go_at_call 263; refine (width_2 _ _ _).mono ?_; rintro e w2 ⟨rfl, hb2⟩)
  go_ret
  exact ⟨rfl, c4.trans (hb2.mono (Nat.le_of_lt c5))⟩
set_option maxHeartbeats 400000 in
set_option maxRecDepth 100000 in
theorem IsBreak_2T (o : Int) (w : World) (h2 : inB o 0 9 = true) :
    Calls Tryz.prog 132 #[.agg #[.int .i64 2, .string ByteArray.empty, .int .i64 1, .int .i64 o]] w fun e w' => e = .returned (.bool false) ∧ Below w.heap.size w w' := by
  have H2 := Lib.hid h2
  clear h2
  have ha1 : ∀ w : World, (Instr.typeAssert (.iface 243 (.agg #[.bool true, .int .i64 o])) 162 203 true).run Tryz.prog w = .ok (.tuple #[.agg #[.int .i64 0, .int .i64 0], .bool false]) w := fun _ => by kernel_rfl
  have ha2 : ∀ w : World, (Instr.typeAssert (.iface 243 (.agg #[.bool true, .int .i64 o])) 162 205 true).run Tryz.prog w = .ok (.tuple #[.agg #[.int .i64 0], .bool false]) w := fun _ => by kernel_rfl
  go_enter Tryz.func132, Tryz.ntmps132
  go_wp2_with fail
  refine (shapeOf_2T _ _ H2.out).mono ?_
  rintro e w1 ⟨rfl, hb⟩
  obtain ⟨c0, c1, c2, c3, c4, c5⟩ := TokAt.start hb
  clear hb
  go_wp2
  go_ret
  exact ⟨rfl, c4⟩
set_option maxHeartbeats 400000 in
theorem width_3  (w : World) :
    Calls Tryz.prog 267 #[.agg #[]] w fun e w' => e = .returned (.int .i64 0) ∧ Below w.heap.size w w' := by
  go_enter Tryz.func267, Tryz.ntmps267
  go_wp2
  go_ret
  exact ⟨rfl, (Below.refl _ _).alloc (Nat.le_refl _) _⟩
set_option maxHeartbeats 400000 in
set_option maxRecDepth 100000 in
theorem WidthOf_3  (w : World)  :
    Calls Tryz.prog 100 #[.agg #[.int .i64 3, .string ByteArray.empty, .int .i64 0, .int .i64 0]] w fun e w' => e = .returned (.int .i64 0) ∧ Below w.heap.size w w' := by
  have hm : ∀ w : World, (method 411 245 (.agg #[]) (ifNameOf (Tryz.prog.underlying 162) 2)).run Tryz.prog w = .ok (267, .agg #[]) w := fun _ => by kernel_rfl
  simp only [ifNameOf, Tryz.underlying162, List.map_cons, List.getD_cons_zero, List.getD_cons_succ] at hm
  go_enter Tryz.func100, Tryz.ntmps100
  go_wp2_with fail
  refine (shapeOf_3 _).mono ?_
  rintro e w1 ⟨rfl, hb⟩
  obtain ⟨c0, c1, c2, c3, c4, c5⟩ := TokAt.start hb
  clear hb
  go_wp2_with (go_at_call 267; refine (width_3  _).mono ?_; rintro e w2 ⟨rfl, hb2⟩)
  go_ret
  exact ⟨rfl, c4.trans (hb2.mono (Nat.le_of_lt c5))⟩
set_option maxHeartbeats 400000 in
set_option maxRecDepth 100000 in
theorem IsBreak_3  (w : World)  :
    Calls Tryz.prog 132 #[.agg #[.int .i64 3, .string ByteArray.empty, .int .i64 0, .int .i64 0]] w fun e w' => e = .returned (.bool false) ∧ Below w.heap.size w w' := by
  have ha1 : ∀ w : World, (Instr.typeAssert (.iface 245 (.agg #[])) 162 203 true).run Tryz.prog w = .ok (.tuple #[.agg #[.int .i64 0, .int .i64 0], .bool false]) w := fun _ => by kernel_rfl
  have ha2 : ∀ w : World, (Instr.typeAssert (.iface 245 (.agg #[])) 162 205 true).run Tryz.prog w = .ok (.tuple #[.agg #[.int .i64 0], .bool false]) w := fun _ => by kernel_rfl
  go_enter Tryz.func132, Tryz.ntmps132
  go_wp2_with fail
  refine (shapeOf_3 _).mono ?_
  rintro e w1 ⟨rfl, hb⟩
  obtain ⟨c0, c1, c2, c3, c4, c5⟩ := TokAt.start hb
  clear hb
  go_wp2
  go_ret
  exact ⟨rfl, c4⟩
set_option maxHeartbeats 400000 in
theorem width_4 (o : Int) (w : World) :
    Calls Tryz.prog 251 #[.agg #[.int .i64 o]] w fun e w' => e = .returned (.int .i64 0) ∧ Below w.heap.size w w' := by
  go_enter Tryz.func251, Tryz.ntmps251
  go_wp2
  go_ret
  exact ⟨rfl, (Below.refl _ _).alloc (Nat.le_refl _) _⟩
set_option maxHeartbeats 400000 in
set_option maxRecDepth 100000 in
theorem WidthOf_4 (o : Int) (w : World) (h2 : inB o (-9) 9 = true) :
    Calls Tryz.prog 100 #[.agg #[.int .i64 4, .string ByteArray.empty, .int .i64 0, .int .i64 o]] w fun e w' => e = .returned (.int .i64 0) ∧ Below w.heap.size w w' := by
  have H2 := Lib.hid h2
  clear h2
  have hm : ∀ w : World, (method 411 205 (.agg #[.int .i64 o]) (ifNameOf (Tryz.prog.underlying 162) 2)).run Tryz.prog w = .ok (251, .agg #[.int .i64 o]) w := fun _ => by kernel_rfl
  simp only [ifNameOf, Tryz.underlying162, List.map_cons, List.getD_cons_zero, List.getD_cons_succ] at hm
  go_enter Tryz.func100, Tryz.ntmps100
  go_wp2_with fail
  refine (shapeOf_4 _ _ H2.out).mono ?_
  rintro e w1 ⟨rfl, hb⟩
  obtain ⟨c0, c1, c2, c3, c4, c5⟩ := TokAt.start hb
  clear hb
  go_wp2_with (go_at_call 251; refine (width_4 _ _).mono ?_; rintro e w2 ⟨rfl, hb2⟩)
  go_ret
  exact ⟨rfl, c4.trans (hb2.mono (Nat.le_of_lt c5))⟩
set_option maxHeartbeats 400000 in
set_option maxRecDepth 100000 in
theorem IsBreak_4 (o : Int) (w : World) (h2 : inB o (-9) 9 = true) :
    Calls Tryz.prog 132 #[.agg #[.int .i64 4, .string ByteArray.empty, .int .i64 0, .int .i64 o]] w fun e w' => e = .returned (.bool true) ∧ Below w.heap.size w w' := by
  have H2 := Lib.hid h2
  clear h2
  have ha1 : ∀ w : World, (Instr.typeAssert (.iface 205 (.agg #[.int .i64 o])) 162 203 true).run Tryz.prog w = .ok (.tuple #[.agg #[.int .i64 0, .int .i64 0], .bool false]) w := fun _ => by kernel_rfl
  have ha2 : ∀ w : World, (Instr.typeAssert (.iface 205 (.agg #[.int .i64 o])) 162 205 true).run Tryz.prog w = .ok (.tuple #[.agg #[.int .i64 o], .bool true]) w := fun _ => by kernel_rfl
  go_enter Tryz.func132, Tryz.ntmps132
  go_wp2_with fail
  refine (shapeOf_4 _ _ H2.out).mono ?_
  rintro e w1 ⟨rfl, hb⟩
  obtain ⟨c0, c1, c2, c3, c4, c5⟩ := TokAt.start hb
  clear hb
  go_wp2
  go_ret
  exact ⟨rfl, c4⟩
set_option maxHeartbeats 400000 in
theorem WidthOf_any (k : Int) (s : ByteArray) (d o : Int) (w : World) (hs : s.size ≤ maxLen) :
    Calls Tryz.prog 100 #[.agg #[.int .i64 k, .string s, .int .i64 d, .int .i64 o]] w fun e w' => e = .returned (.int .i64 (widB k s d o)) ∧ Below w.heap.size w w' := by
  cases ht : tokB k s d o
  · have hW := Lib.hid (show widB k s d o = -1 from by simp [widB, ht])
    have hx := Lib.hid ht
    clear ht
    go_enter Tryz.func100, Tryz.ntmps100
    go_wp2_with fail
    refine (shapeOf_no _ _ _ _ _ hs hx.out).mono ?_
    rintro e w1 ⟨rfl, hb⟩
    obtain ⟨c0, c1, c2, c3, c4, c5⟩ := TokAt.start hb
    clear hb
    go_wp2
    go_ret
    rw [hW.out]
    exact ⟨rfl, c4⟩
  · have hW : widB k s d o = if k = 0 then (s.size : Int) else if k = 1 then d else 0 := by simp [widB, ht]
    rw [hW]
    rcases tokB_cases ht with ⟨rfl, rfl, rfl, hx⟩ | ⟨rfl, rfl, h1, h2⟩ | ⟨rfl, rfl, rfl | rfl, h2⟩ | ⟨rfl, rfl, rfl, rfl⟩ | ⟨rfl, rfl, rfl, h2⟩
    · exact WidthOf_0 s w hs hx
    · exact WidthOf_1 d o w h1 h2
    · exact WidthOf_2F o w h2
    · exact WidthOf_2T o w h2
    · exact WidthOf_3 w
    · exact WidthOf_4 o w h2
set_option maxHeartbeats 400000 in
theorem IsBreak_any (k : Int) (s : ByteArray) (d o : Int) (w : World) (hs : s.size ≤ maxLen) :
    Calls Tryz.prog 132 #[.agg #[.int .i64 k, .string s, .int .i64 d, .int .i64 o]] w fun e w' => e = .returned (.bool (brkB k s d o)) ∧ Below w.heap.size w w' := by
  cases ht : tokB k s d o
  · have hW := Lib.hid (show brkB k s d o = false from by simp [brkB, ht])
    have hx := Lib.hid ht
    clear ht
    go_enter Tryz.func132, Tryz.ntmps132
    go_wp2_with fail
    refine (shapeOf_no _ _ _ _ _ hs hx.out).mono ?_
    rintro e w1 ⟨rfl, hb⟩
    obtain ⟨c0, c1, c2, c3, c4, c5⟩ := TokAt.start hb
    clear hb
    go_wp2
    go_ret
    rw [hW.out]
    exact ⟨rfl, c4⟩
  · have hW : brkB k s d o = (decide (k = 1) || decide (k = 4)) := by simp [brkB, ht]
    rw [hW]
    rcases tokB_cases ht with ⟨rfl, rfl, rfl, hx⟩ | ⟨rfl, rfl, h1, h2⟩ | ⟨rfl, rfl, rfl | rfl, h2⟩ | ⟨rfl, rfl, rfl, rfl⟩ | ⟨rfl, rfl, rfl, h2⟩
    · exact IsBreak_0 s w hs hx
    · exact IsBreak_1 d o w h1 h2
    · exact IsBreak_2F o w h2
    · exact IsBreak_2T o w h2
    · exact IsBreak_3 w
    · exact IsBreak_4 o w h2
set_option maxHeartbeats 400000 in
theorem sIsBreak_any (k : Int) (s : ByteArray) (d o : Int) (w : World) (hs : s.size ≤ maxLen) :
    Calls Tryz.prog 197 #[.agg #[.int .i64 k, .string s, .int .i64 d, .int .i64 o]] w fun e w' => e = .returned (.bool (brkB k s d o)) ∧ Below w.heap.size w w' := by
  cases ht : tokB k s d o
  · have hW := Lib.hid (show brkB k s d o = false from by simp [brkB, ht])
    have hx := Lib.hid ht
    clear ht
    go_enter Tryz.func197, Tryz.ntmps197
    go_wp2_with fail
    refine (sTokenOk_any _ _ _ _ _ hs).mono ?_
    rintro e w1 ⟨rfl, hb⟩
    rw [hx.out]
    obtain ⟨c0, c1, c2, c3, c4, c5⟩ := TokAt.start hb
    clear hb
    go_wp2
    go_ret
    rw [hW.out]
    exact ⟨rfl, c4⟩
  · have hx := Lib.hid ht
    by_cases k1 : (k == 1) = true
    · have hW := Lib.hid (show brkB k s d o = true from by simp at k1; simp only [brkB, ht]; simp [k1])
      clear ht
      go_enter Tryz.func197, Tryz.ntmps197
      go_wp2_with fail
      refine (sTokenOk_any _ _ _ _ _ hs).mono ?_
      rintro e w1 ⟨rfl, hb⟩
      rw [hx.out]
      obtain ⟨c0, c1, c2, c3, c4, c5⟩ := TokAt.start hb
      clear hb
      go_wp2
      go_ret
      rw [hW.out]
      exact ⟨rfl, c4⟩
    · have k1' : (k == 1) = false := by simpa using k1
      have hW := Lib.hid (show brkB k s d o = (k == 4) from by simp at k1; simp [brkB, ht, k1]; rfl)
      clear ht k1
      go_enter Tryz.func197, Tryz.ntmps197
      go_wp2_with fail
      refine (sTokenOk_any _ _ _ _ _ hs).mono ?_
      rintro e w1 ⟨rfl, hb⟩
      rw [hx.out]
      obtain ⟨c0, c1, c2, c3, c4, c5⟩ := TokAt.start hb
      clear hb
      go_wp2
      go_ret
      rw [hW.out]
      exact ⟨rfl, c4⟩
end Go.Proofs.YthjkgbcomjiejadGreatDoor
