/-
  WidthOf and IsBreak on both sides; the helpers of the laws over tokens (sizes, copies, comparison); the walks of FnExactTokenOk, FnExactWidthOf and FnExactIsBreak.
-/
import Derived.Test.YtlcplgfjicifeaaGreatDoorQt03
namespace Go.Proofs.YtlcplgfjicifeaaGreatDoor
open Go.RowKit

theorem tokB_cases {k : Int} {s : ByteArray} {d o : Int} (h : tokB k s d o = true) :
    (k = 0 ∧ d = 0 ∧ o = 0 ∧ txtB s = true) ∨ (k = 1 ∧ s = ByteArray.empty ∧ inB d 0 9 = true ∧ inB o (-9) 9 = true) ∨
    (k = 2 ∧ s = ByteArray.empty ∧ (d = 0 ∨ d = 1) ∧ inB o 0 9 = true) ∨ (k = 3 ∧ s = ByteArray.empty ∧ d = 0 ∧ o = 0) ∨
    (k = 4 ∧ s = ByteArray.empty ∧ d = 0 ∧ inB o (-9) 9 = true) := by
  unfold tokB at h
  split at h
  · rename_i hk
    simp at h
    exact .inl ⟨hk, h.2.1, h.2.2, h.1⟩
  · split at h
    · simp at h
    · rename_i hs
      have he : s = ByteArray.empty := size_zero.1 (by omega)
      split at h
      · rename_i hk
        simp at h
        exact .inr (.inl ⟨hk, he, h.1, h.2⟩)
      · split at h
        · rename_i hk
          simp at h
          have h1 := inB_true.1 h.1
          exact .inr (.inr (.inl ⟨hk, he, by omega, h.2⟩))
        · split at h
          · rename_i hk
            simp at h
            exact .inr (.inr (.inr (.inl ⟨hk, he, h.1, h.2⟩)))
          · split at h
            · rename_i hk
              simp at h
              exact .inr (.inr (.inr (.inr ⟨hk, he, h.1, h.2⟩)))
            · simp at h

theorem toList_beq_false {a b : ByteArray} (h : a ≠ b) : (a.toList == b.toList) = false := by
  rw [toList_eq, toList_eq, beq_eq_false_iff_ne]
  intro hh
  apply h
  obtain ⟨⟨x⟩⟩ := a
  obtain ⟨⟨y⟩⟩ := b
  simp at hh
  subst hh
  rfl

theorem empty_ne {s : ByteArray} (h : s.size ≠ 0) : ByteArray.empty ≠ s := fun e => h (by rw [← e]; rfl)

theorem shapeOf_0 (s : ByteArray) (w : World) (hs : s.size ≤ maxLen) (ht : txtB s = true) :
    Calls Tryz.prog 189 #[.agg #[.int .i64 0, .string s, .int .i64 0, .int .i64 0]] w fun e w' => e = .returned (.tuple #[.iface 312 (.agg #[.string s]), .bool true]) ∧ Below w.heap.size w w' :=
  shapeOf_yes _ _ _ _ 0 s 0 0 w (Lib.hid (kindShape_0 s 0 0)) (ht ▸ text_is s hs)
theorem shapeOf_1 (d o : Int) (w : World) (h1 : inB d 0 9 = true) (h2 : inB o (-9) 9 = true) :
    Calls Tryz.prog 189 #[.agg #[.int .i64 1, .string ByteArray.empty, .int .i64 d, .int .i64 o]] w fun e w' => e = .returned (.tuple #[.iface 304 (.agg #[.int .i64 d, .int .i64 o]), .bool true]) ∧ Below w.heap.size w w' :=
  shapeOf_yes _ _ _ _ 1 _ d o w (Lib.hid (kindShape_1 _ d o)) (by have := blank_is d o; rwa [h1, h2] at this)
theorem shapeOf_2F (o : Int) (w : World) (h2 : inB o 0 9 = true) :
    Calls Tryz.prog 189 #[.agg #[.int .i64 2, .string ByteArray.empty, .int .i64 0, .int .i64 o]] w fun e w' => e = .returned (.tuple #[.iface 314 (.agg #[.bool false, .int .i64 o]), .bool true]) ∧ Below w.heap.size w w' :=
  shapeOf_yes _ _ _ _ 2 _ 0 o w (Lib.hid (kindShape_2 _ 0 o)) (h2 ▸ beginF_is o)
theorem shapeOf_2T (o : Int) (w : World) (h2 : inB o 0 9 = true) :
    Calls Tryz.prog 189 #[.agg #[.int .i64 2, .string ByteArray.empty, .int .i64 1, .int .i64 o]] w fun e w' => e = .returned (.tuple #[.iface 314 (.agg #[.bool true, .int .i64 o]), .bool true]) ∧ Below w.heap.size w w' :=
  shapeOf_yes _ _ _ _ 2 _ 1 o w (Lib.hid (kindShape_2 _ 1 o)) (h2 ▸ beginT_is o)
theorem shapeOf_3 (w : World) :
    Calls Tryz.prog 189 #[.agg #[.int .i64 3, .string ByteArray.empty, .int .i64 0, .int .i64 0]] w fun e w' => e = .returned (.tuple #[.iface 315 (.agg #[]), .bool true]) ∧ Below w.heap.size w w' :=
  shapeOf_yes _ _ _ _ 3 _ 0 0 w (Lib.hid (kindShape_3 _ 0 0)) end_is
theorem shapeOf_4 (o : Int) (w : World) (h2 : inB o (-9) 9 = true) :
    Calls Tryz.prog 189 #[.agg #[.int .i64 4, .string ByteArray.empty, .int .i64 0, .int .i64 o]] w fun e w' => e = .returned (.tuple #[.iface 306 (.agg #[.int .i64 o]), .bool true]) ∧ Below w.heap.size w w' :=
  shapeOf_yes _ _ _ _ 4 _ 0 o w (Lib.hid (kindShape_4 _ 0 o)) (h2 ▸ line_is o)

theorem shapeOf_no (k : Int) (s : ByteArray) (d o : Int) (w : World) (hs : s.size ≤ maxLen) (h : tokB k s d o = false) :
    Calls Tryz.prog 189 #[.agg #[.int .i64 k, .string s, .int .i64 d, .int .i64 o]] w fun e w' => e = .returned (.tuple #[.nilIface, .bool false]) ∧ Below w.heap.size w w' := by
  by_cases k0 : k = 0
  · subst k0
    by_cases hd : d = 0
    · subst hd
      by_cases ho : o = 0
      · subst ho
        have ht : txtB s = false := by simpa [tokB] using h
        exact shapeOf_nofit _ _ _ _ 0 s 0 0 w (Lib.hid (kindShape_0 s 0 0)) (ht ▸ text_is s hs)
      · exact shapeOf_neqO _ _ _ _ _ 0 s 0 o 0 w (by simpa using Ne.symm ho) (Lib.hid (kindShape_0 s 0 o)) (text_is s hs)
    · exact shapeOf_neqD _ _ _ _ _ 0 s d o 0 0 w (by simpa using Ne.symm hd) (Lib.hid (kindShape_0 s d o)) (text_is s hs)
  · by_cases k1 : k = 1
    · subst k1
      by_cases h0 : s.size = 0
      · have he := size_zero.1 h0
        subst he
        have hf : (inB d 0 9 && inB o (-9) 9) = false := by simpa [tokB] using h
        exact shapeOf_nofit _ _ _ _ 1 _ d o w (Lib.hid (kindShape_1 _ d o)) (hf ▸ blank_is d o)
      · exact shapeOf_neqS _ _ _ _ _ 1 s d o _ d o w (toList_beq_false (empty_ne h0)) (Lib.hid (kindShape_1 s d o)) (blank_is d o)
    · by_cases k2 : k = 2
      · subst k2
        by_cases h0 : s.size = 0
        · have he := size_zero.1 h0
          subst he
          by_cases d1 : d = 1
          · subst d1
            have hf : inB o 0 9 = false := by simpa [tokB, inB] using h
            exact shapeOf_nofit _ _ _ _ 2 _ 1 o w (Lib.hid (kindShape_2 _ 1 o)) (hf ▸ beginT_is o)
          · have d1' : (d == 1) = false := by simpa using d1
            have hK := kindShape_2 ByteArray.empty d o
            rw [d1'] at hK
            by_cases d0 : d = 0
            · subst d0
              have hf : inB o 0 9 = false := by simpa [tokB, inB] using h
              exact shapeOf_nofit _ _ _ _ 2 _ 0 o w (Lib.hid hK) (hf ▸ beginF_is o)
            · exact shapeOf_neqD _ _ _ _ _ 2 _ d o 0 o w (by simpa using Ne.symm d0) (Lib.hid hK) (beginF_is o)
        · have hK := kindShape_2 s d o
          cases d1 : (d == 1)
          · rw [d1] at hK
            exact shapeOf_neqS _ _ _ _ _ 2 s d o _ 0 o w (toList_beq_false (empty_ne h0)) (Lib.hid hK) (beginF_is o)
          · rw [d1] at hK
            exact shapeOf_neqS _ _ _ _ _ 2 s d o _ 1 o w (toList_beq_false (empty_ne h0)) (Lib.hid hK) (beginT_is o)
      · by_cases k3 : k = 3
        · subst k3
          by_cases h0 : s.size = 0
          · have he := size_zero.1 h0
            subst he
            by_cases d0 : d = 0
            · subst d0
              have ho : o ≠ 0 := by simpa [tokB] using h
              exact shapeOf_neqO _ _ _ _ _ 3 _ 0 o 0 w (by simpa using Ne.symm ho) (Lib.hid (kindShape_3 _ 0 o)) end_is
            · exact shapeOf_neqD _ _ _ _ _ 3 _ d o 0 0 w (by simpa using Ne.symm d0) (Lib.hid (kindShape_3 _ d o)) end_is
          · exact shapeOf_neqS _ _ _ _ _ 3 s d o _ 0 0 w (toList_beq_false (empty_ne h0)) (Lib.hid (kindShape_3 s d o)) end_is
        · by_cases k4 : k = 4
          · subst k4
            by_cases h0 : s.size = 0
            · have he := size_zero.1 h0
              subst he
              by_cases d0 : d = 0
              · subst d0
                have hf : inB o (-9) 9 = false := by simpa [tokB] using h
                exact shapeOf_nofit _ _ _ _ 4 _ 0 o w (Lib.hid (kindShape_4 _ 0 o)) (hf ▸ line_is o)
              · exact shapeOf_neqD _ _ _ _ _ 4 _ d o 0 o w (by simpa using Ne.symm d0) (Lib.hid (kindShape_4 _ d o)) (line_is o)
            · exact shapeOf_neqS _ _ _ _ _ 4 s d o _ 0 o w (toList_beq_false (empty_ne h0)) (Lib.hid (kindShape_4 s d o)) (line_is o)
          · exact shapeOf_none k s d o w (Lib.hid fun w => kindShape_x k s d o w (by simpa using k0) (by simpa using k1) (by simpa using k2) (by simpa using k3) (by simpa using k4))

/-- shapeOf is true, with some shape, just where the token is right. -/
def ShapeOut (b : Bool) (w : World) (e : Ending) (w' : World) : Prop := ∃ v : Value, e = .returned (.tuple #[v, .bool b]) ∧ Below w.heap.size w w'
theorem shapeOf_any (k : Int) (s : ByteArray) (d o : Int) (w : World) (hs : s.size ≤ maxLen) :
    Calls Tryz.prog 189 #[.agg #[.int .i64 k, .string s, .int .i64 d, .int .i64 o]] w (ShapeOut (tokB k s d o) w) := by
  cases h : tokB k s d o
  · exact (shapeOf_no k s d o w hs h).mono fun _ _ ⟨he, hb⟩ => ⟨_, he, hb⟩
  · rcases tokB_cases h with ⟨rfl, rfl, rfl, ht⟩ | ⟨rfl, rfl, h1, h2⟩ | ⟨rfl, rfl, rfl | rfl, h2⟩ | ⟨rfl, rfl, rfl, rfl⟩ | ⟨rfl, rfl, rfl, h2⟩
    · exact (shapeOf_0 s w hs ht).mono fun _ _ ⟨he, hb⟩ => ⟨_, he, hb⟩
    · exact (shapeOf_1 d o w h1 h2).mono fun _ _ ⟨he, hb⟩ => ⟨_, he, hb⟩
    · exact (shapeOf_2F o w h2).mono fun _ _ ⟨he, hb⟩ => ⟨_, he, hb⟩
    · exact (shapeOf_2T o w h2).mono fun _ _ ⟨he, hb⟩ => ⟨_, he, hb⟩
    · exact (shapeOf_3 w).mono fun _ _ ⟨he, hb⟩ => ⟨_, he, hb⟩
    · exact (shapeOf_4 o w h2).mono fun _ _ ⟨he, hb⟩ => ⟨_, he, hb⟩

set_option maxHeartbeats 400000 in
theorem TokenOk_any (k : Int) (s : ByteArray) (d o : Int) (w : World) (hs : s.size ≤ maxLen) :
    Calls Tryz.prog 149 #[.agg #[.int .i64 k, .string s, .int .i64 d, .int .i64 o]] w fun e w' => e = .returned (.bool (tokB k s d o)) ∧ Below w.heap.size w w' := by
  go_enter Tryz.func149, Tryz.ntmps149
  go_wp2_with (go_at_call 189; refine (shapeOf_any _ _ _ _ _ hs).mono ?_; rintro e w1 ⟨v, rfl, hb⟩)
  go_ret
  exact ⟨rfl, ((Below.refl _ _).alloc (Nat.le_refl _) _).trans (hb.mono (by simp))⟩
end Go.Proofs.YtlcplgfjicifeaaGreatDoor
namespace Go.Proofs.YtlcplgfjicifeaaGreatDoor
open Go.RowKit

/-- what is left when n more are counted. -/
def szV (left : Int) (n : Nat) : Int := if left < (n : Int) then -1 else left - n
def widB (k : Int) (s : ByteArray) (d o : Int) : Int := if tokB k s d o = true then (if k = 0 then s.size else if k = 1 then d else 0) else -1
def brkB (k : Int) (s : ByteArray) (d o : Int) : Bool := tokB k s d o && (decide (k = 1) || decide (k = 4))

set_option maxHeartbeats 400000 in
theorem szToken_any (k : Int) (s : ByteArray) (d o left : Int) (w : World) (hs : s.size ≤ maxLen) (h0 : 0 ≤ left) (h1 : left ≤ 1048576) :
    Calls Tryz.prog 116 #[.agg #[.int .i64 k, .string s, .int .i64 d, .int .i64 o], .int .i64 left] w fun e w' => e = .returned (.int .i64 (szV left s.size)) ∧ Below w.heap.size w w' := by
  unfold maxLen at hs
  by_cases h : left < (s.size : Int)
  · have hI := Lib.hid (show szV left s.size = -1 from if_pos h)
    go_enter Tryz.func116, Tryz.ntmps116
    go_wp2
    go_ret
    rw [hI.out]
    exact ⟨rfl, (Below.refl _ _).alloc (Nat.le_refl _) _⟩
  · have hI := Lib.hid (show szV left s.size = left - s.size from if_neg h)
    go_enter Tryz.func116, Tryz.ntmps116
    go_wp2
    go_ret
    rw [hI.out]
    exact ⟨rfl, (Below.refl _ _).alloc (Nat.le_refl _) _⟩

set_option maxHeartbeats 400000 in
theorem toToken_any (k : Int) (s : ByteArray) (d o : Int) (w : World) :
    Calls Tryz.prog 120 #[.agg #[.int .i64 k, .string s, .int .i64 d, .int .i64 o]] w fun e w' => e = .returned (.agg #[.int .i64 k, .string s, .int .i64 d, .int .i64 o]) ∧ Below w.heap.size w w' := by
  go_enter Tryz.func120, Tryz.ntmps120
  go_wp2
  refine bodyPost_ret (v := .agg #[.int .i64 k, .string s, .int .i64 d, .int .i64 o]) (by simp [results, Tryz.results120, go_sem]) rfl ⟨rfl, ?_⟩
  exact (((Below.refl _ _).alloc (Nat.le_refl _) _).alloc (by simp) _).alloc (by simp; omega) _

set_option maxHeartbeats 400000 in
theorem sWidthOf_any (k : Int) (s : ByteArray) (d o : Int) (w : World) (hs : s.size ≤ maxLen) :
    Calls Tryz.prog 242 #[.agg #[.int .i64 k, .string s, .int .i64 d, .int .i64 o]] w fun e w' => e = .returned (.int .i64 (widB k s d o)) ∧ Below w.heap.size w w' := by
  cases ht : tokB k s d o
  · have hW := Lib.hid (show widB k s d o = -1 from by simp [widB, ht])
    have hx := Lib.hid ht
    clear ht
    go_enter Tryz.func242, Tryz.ntmps242
    go_wp2_with fail
    refine (sTokenOk_any _ _ _ _ _ hs).mono ?_
    rintro e w1 ⟨rfl, hb⟩
    rw [hx.out]
    obtain ⟨c0, c1, c2, c3, c4, c5⟩ := TokAt.start hb
    clear hb
    go_wp2
    go_ret
    rw [hW.out]
    exact ⟨rfl, c4⟩
  · have hx := Lib.hid ht
    by_cases k0 : k = 0
    · subst k0
      have hW := Lib.hid (show widB 0 s d o = s.size from by simp [widB, ht])
      clear ht
      go_enter Tryz.func242, Tryz.ntmps242
      go_wp2_with fail
      refine (sTokenOk_any _ _ _ _ _ hs).mono ?_
      rintro e w1 ⟨rfl, hb⟩
      rw [hx.out]
      obtain ⟨c0, c1, c2, c3, c4, c5⟩ := TokAt.start hb
      clear hb
      go_wp2
      go_ret
      rw [hW.out]
      exact ⟨rfl, c4⟩
    · have k0' : (k == 0) = false := by simpa using k0
      by_cases k1 : k = 1
      · subst k1
        have hW := Lib.hid (show widB 1 s d o = d from by simp [widB, ht])
        clear ht k0
        go_enter Tryz.func242, Tryz.ntmps242
        go_wp2_with fail
        refine (sTokenOk_any _ _ _ _ _ hs).mono ?_
        rintro e w1 ⟨rfl, hb⟩
        rw [hx.out]
        obtain ⟨c0, c1, c2, c3, c4, c5⟩ := TokAt.start hb
        clear hb
        go_wp2
        go_ret
        rw [hW.out]
        exact ⟨rfl, c4⟩
      · have k1' : (k == 1) = false := by simpa using k1
        have hW := Lib.hid (show widB k s d o = 0 from by simp [widB, ht, k0, k1])
        clear ht k0 k1
        go_enter Tryz.func242, Tryz.ntmps242
        go_wp2_with fail
        refine (sTokenOk_any _ _ _ _ _ hs).mono ?_
        rintro e w1 ⟨rfl, hb⟩
        rw [hx.out]
        obtain ⟨c0, c1, c2, c3, c4, c5⟩ := TokAt.start hb
        clear hb
        go_wp2
        go_ret
        rw [hW.out]
        exact ⟨rfl, c4⟩

set_option maxHeartbeats 400000 in
theorem width_0 (s : ByteArray) (w : World) :
    Calls Tryz.prog 358 #[.agg #[.string s]] w fun e w' => e = .returned (.int .i64 s.size) ∧ Below w.heap.size w w' := by
  go_enter Tryz.func358, Tryz.ntmps358
  go_wp2
  go_ret
  exact ⟨rfl, (Below.refl _ _).alloc (Nat.le_refl _) _⟩
set_option maxHeartbeats 400000 in
set_option maxRecDepth 100000 in
theorem WidthOf_0 (s : ByteArray) (w : World) (hs : s.size ≤ maxLen) (ht : txtB s = true) :
    Calls Tryz.prog 176 #[.agg #[.int .i64 0, .string s, .int .i64 0, .int .i64 0]] w fun e w' => e = .returned (.int .i64 s.size) ∧ Below w.heap.size w w' := by
  have HT := Lib.hid ht
  clear ht
  have hm : ∀ w : World, (method 506 312 (.agg #[.string s]) (ifNameOf (Tryz.prog.underlying 228) 2)).run Tryz.prog w = .ok (358, .agg #[.string s]) w := fun _ => by kernel_rfl
  simp only [ifNameOf, Tryz.underlying228, List.map_cons, List.getD_cons_zero, List.getD_cons_succ] at hm
  go_enter Tryz.func176, Tryz.ntmps176
  go_wp2_with fail
  refine (shapeOf_0 _ _ hs HT.out).mono ?_
  rintro e w1 ⟨rfl, hb⟩
  obtain ⟨c0, c1, c2, c3, c4, c5⟩ := TokAt.start hb
  clear hb
  go_wp2_with (go_at_call 358; refine (width_0 _ _).mono ?_; rintro e w2 ⟨rfl, hb2⟩)
  go_ret
  exact ⟨rfl, c4.trans (hb2.mono (Nat.le_of_lt c5))⟩
set_option maxHeartbeats 400000 in
set_option maxRecDepth 100000 in
theorem IsBreak_0 (s : ByteArray) (w : World) (hs : s.size ≤ maxLen) (ht : txtB s = true) :
    Calls Tryz.prog 216 #[.agg #[.int .i64 0, .string s, .int .i64 0, .int .i64 0]] w fun e w' => e = .returned (.bool false) ∧ Below w.heap.size w w' := by
  have HT := Lib.hid ht
  clear ht
  have ha1 : ∀ w : World, (Instr.typeAssert (.iface 312 (.agg #[.string s])) 228 304 true).run Tryz.prog w = .ok (.tuple #[.agg #[.int .i64 0, .int .i64 0], .bool false]) w := fun _ => by kernel_rfl
  have ha2 : ∀ w : World, (Instr.typeAssert (.iface 312 (.agg #[.string s])) 228 306 true).run Tryz.prog w = .ok (.tuple #[.agg #[.int .i64 0], .bool false]) w := fun _ => by kernel_rfl
  go_enter Tryz.func216, Tryz.ntmps216
  go_wp2_with fail
  refine (shapeOf_0 _ _ hs HT.out).mono ?_
  rintro e w1 ⟨rfl, hb⟩
  obtain ⟨c0, c1, c2, c3, c4, c5⟩ := TokAt.start hb
  clear hb
  go_wp2
  go_ret
  exact ⟨rfl, c4⟩
set_option maxHeartbeats 400000 in
theorem width_1 (d o : Int) (w : World) :
    Calls Tryz.prog 350 #[.agg #[.int .i64 d, .int .i64 o]] w fun e w' => e = .returned (.int .i64 d) ∧ Below w.heap.size w w' := by
  go_enter Tryz.func350, Tryz.ntmps350
  go_wp2
  go_ret
  exact ⟨rfl, (Below.refl _ _).alloc (Nat.le_refl _) _⟩
set_option maxHeartbeats 400000 in
set_option maxRecDepth 100000 in
theorem WidthOf_1 (d o : Int) (w : World) (h1 : inB d 0 9 = true) (h2 : inB o (-9) 9 = true) :
    Calls Tryz.prog 176 #[.agg #[.int .i64 1, .string ByteArray.empty, .int .i64 d, .int .i64 o]] w fun e w' => e = .returned (.int .i64 d) ∧ Below w.heap.size w w' := by
  have H1 := Lib.hid h1
  clear h1
  have H2 := Lib.hid h2
  clear h2
  have hm : ∀ w : World, (method 506 304 (.agg #[.int .i64 d, .int .i64 o]) (ifNameOf (Tryz.prog.underlying 228) 2)).run Tryz.prog w = .ok (350, .agg #[.int .i64 d, .int .i64 o]) w := fun _ => by kernel_rfl
  simp only [ifNameOf, Tryz.underlying228, List.map_cons, List.getD_cons_zero, List.getD_cons_succ] at hm
  go_enter Tryz.func176, Tryz.ntmps176
  go_wp2_with fail
  refine (shapeOf_1 _ _ _ H1.out H2.out).mono ?_
  rintro e w1 ⟨rfl, hb⟩
  obtain ⟨c0, c1, c2, c3, c4, c5⟩ := TokAt.start hb
  clear hb
  go_wp2_with (go_at_call 350; refine (width_1 _ _ _).mono ?_; rintro e w2 ⟨rfl, hb2⟩)
  go_ret
  exact ⟨rfl, c4.trans (hb2.mono (Nat.le_of_lt c5))⟩
set_option maxHeartbeats 400000 in
set_option maxRecDepth 100000 in
theorem IsBreak_1 (d o : Int) (w : World) (h1 : inB d 0 9 = true) (h2 : inB o (-9) 9 = true) :
    Calls Tryz.prog 216 #[.agg #[.int .i64 1, .string ByteArray.empty, .int .i64 d, .int .i64 o]] w fun e w' => e = .returned (.bool true) ∧ Below w.heap.size w w' := by
  have H1 := Lib.hid h1
  clear h1
  have H2 := Lib.hid h2
  clear h2
  have ha1 : ∀ w : World, (Instr.typeAssert (.iface 304 (.agg #[.int .i64 d, .int .i64 o])) 228 304 true).run Tryz.prog w = .ok (.tuple #[.agg #[.int .i64 d, .int .i64 o], .bool true]) w := fun _ => by kernel_rfl
  have ha2 : ∀ w : World, (Instr.typeAssert (.iface 304 (.agg #[.int .i64 d, .int .i64 o])) 228 306 true).run Tryz.prog w = .ok (.tuple #[.agg #[.int .i64 0], .bool false]) w := fun _ => by kernel_rfl
  go_enter Tryz.func216, Tryz.ntmps216
  go_wp2_with fail
  refine (shapeOf_1 _ _ _ H1.out H2.out).mono ?_
  rintro e w1 ⟨rfl, hb⟩
  obtain ⟨c0, c1, c2, c3, c4, c5⟩ := TokAt.start hb
  clear hb
  go_wp2
  go_ret
  exact ⟨rfl, c4⟩
set_option maxHeartbeats 400000 in
theorem width_2 (b : Bool) (o : Int) (w : World) :
    Calls Tryz.prog 363 #[.agg #[.bool b, .int .i64 o]] w fun e w' => e = .returned (.int .i64 0) ∧ Below w.heap.size w w' := by
  go_enter Tryz.func363, Tryz.ntmps363
  go_wp2
  go_ret
  exact ⟨rfl, (Below.refl _ _).alloc (Nat.le_refl _) _⟩
set_option maxHeartbeats 400000 in
set_option maxRecDepth 100000 in
theorem WidthOf_2F (o : Int) (w : World) (h2 : inB o 0 9 = true) :
    Calls Tryz.prog 176 #[.agg #[.int .i64 2, .string ByteArray.empty, .int .i64 0, .int .i64 o]] w fun e w' => e = .returned (.int .i64 0) ∧ Below w.heap.size w w' := by
  have H2 := Lib.hid h2
  clear h2
  have hm : ∀ w : World, (method 506 314 (.agg #[.bool false, .int .i64 o]) (ifNameOf (Tryz.prog.underlying 228) 2)).run Tryz.prog w = .ok (363, .agg #[.bool false, .int .i64 o]) w := fun _ => by kernel_rfl
  simp only [ifNameOf, Tryz.underlying228, List.map_cons, List.getD_cons_zero, List.getD_cons_succ] at hm
  go_enter Tryz.func176, Tryz.ntmps176
  go_wp2_with fail
  refine (shapeOf_2F _ _ H2.out).mono ?_
  rintro e w1 ⟨rfl, hb⟩
  obtain ⟨c0, c1, c2, c3, c4, c5⟩ := TokAt.start hb
  clear hb
  go_wp2_with (go_at_call 363; refine (width_2 _ _ _).mono ?_; rintro e w2 ⟨rfl, hb2⟩)
  go_ret
  exact ⟨rfl, c4.trans (hb2.mono (Nat.le_of_lt c5))⟩
set_option maxHeartbeats 400000 in
set_option maxRecDepth 100000 in
theorem IsBreak_2F (o : Int) (w : World) (h2 : inB o 0 9 = true) :
    Calls Tryz.prog 216 #[.agg #[.int .i64 2, .string ByteArray.empty, .int .i64 0, .int .i64 o]] w fun e w' => e = .returned (.bool false) ∧ Below w.heap.size w w' := by
  have H2 := Lib.hid h2
  clear h2
  have ha1 : ∀ w : World, (Instr.typeAssert (.iface 314 (.agg #[.bool false, .int .i64 o])) 228 304 true).run Tryz.prog w = .ok (.tuple #[.agg #[.int .i64 0, .int .i64 0], .bool false]) w := fun _ => by kernel_rfl
  have ha2 : ∀ w : World, (Instr.typeAssert (.iface 314 (.agg #[.bool false, .int .i64 o])) 228 306 true).run Tryz.prog w = .ok (.tuple #[.agg #[.int .i64 0], .bool false]) w := fun _ => by kernel_rfl
  go_enter Tryz.func216, Tryz.ntmps216
  go_wp2_with fail
  refine (shapeOf_2F _ _ H2.out).mono ?_
  rintro e w1 ⟨rfl, hb⟩
  obtain ⟨c0, c1, c2, c3, c4, c5⟩ := TokAt.start hb
  clear hb
  go_wp2
  go_ret
  exact ⟨rfl, c4⟩
set_option maxHeartbeats 400000 in
set_option maxRecDepth 100000 in
theorem WidthOf_2T (o : Int) (w : World) (h2 : inB o 0 9 = true) :
    Calls Tryz.prog 176 #[.agg #[.int .i64 2, .string ByteArray.empty, .int .i64 1, .int .i64 o]] w fun e w' => e = .returned (.int .i64 0) ∧ Below w.heap.size w w' := by
  have H2 := Lib.hid h2
  clear h2
  have hm : ∀ w : World, (method 506 314 (.agg #[.bool true, .int .i64 o]) (ifNameOf (Tryz.prog.underlying 228) 2)).run Tryz.prog w = .ok (363, .agg #[.bool true, .int .i64 o]) w := fun _ => by kernel_rfl
  simp only [ifNameOf, Tryz.underlying228, List.map_cons, List.getD_cons_zero, List.getD_cons_succ] at hm
  go_enter Tryz.func176, Tryz.ntmps176
  go_wp2_with fail
  refine (shapeOf_2T _ _ H2.out).mono ?_
  rintro e w1 ⟨rfl, hb⟩
  obtain ⟨c0, c1, c2, c3, c4, c5⟩ := TokAt.start hb
  clear hb
  go_wp2_with (go_at_call 363; refine (width_2 _ _ _).mono ?_; rintro e w2 ⟨rfl, hb2⟩)
  go_ret
  exact ⟨rfl, c4.trans (hb2.mono (Nat.le_of_lt c5))⟩
set_option maxHeartbeats 400000 in
set_option maxRecDepth 100000 in
theorem IsBreak_2T (o : Int) (w : World) (h2 : inB o 0 9 = true) :
    Calls Tryz.prog 216 #[.agg #[.int .i64 2, .string ByteArray.empty, .int .i64 1, .int .i64 o]] w fun e w' => e = .returned (.bool false) ∧ Below w.heap.size w w' := by
  have H2 := Lib.hid h2
  clear h2
  have ha1 : ∀ w : World, (Instr.typeAssert (.iface 314 (.agg #[.bool true, .int .i64 o])) 228 304 true).run Tryz.prog w = .ok (.tuple #[.agg #[.int .i64 0, .int .i64 0], .bool false]) w := fun _ => by kernel_rfl
  have ha2 : ∀ w : World, (Instr.typeAssert (.iface 314 (.agg #[.bool true, .int .i64 o])) 228 306 true).run Tryz.prog w = .ok (.tuple #[.agg #[.int .i64 0], .bool false]) w := fun _ => by kernel_rfl
  go_enter Tryz.func216, Tryz.ntmps216
  go_wp2_with fail
  refine (shapeOf_2T _ _ H2.out).mono ?_
  rintro e w1 ⟨rfl, hb⟩
  obtain ⟨c0, c1, c2, c3, c4, c5⟩ := TokAt.start hb
  clear hb
  go_wp2
  go_ret
  exact ⟨rfl, c4⟩
set_option maxHeartbeats 400000 in
theorem width_3  (w : World) :
    Calls Tryz.prog 367 #[.agg #[]] w fun e w' => e = .returned (.int .i64 0) ∧ Below w.heap.size w w' := by
  go_enter Tryz.func367, Tryz.ntmps367
  go_wp2
  go_ret
  exact ⟨rfl, (Below.refl _ _).alloc (Nat.le_refl _) _⟩
set_option maxHeartbeats 400000 in
set_option maxRecDepth 100000 in
theorem WidthOf_3  (w : World)  :
    Calls Tryz.prog 176 #[.agg #[.int .i64 3, .string ByteArray.empty, .int .i64 0, .int .i64 0]] w fun e w' => e = .returned (.int .i64 0) ∧ Below w.heap.size w w' := by
  have hm : ∀ w : World, (method 506 315 (.agg #[]) (ifNameOf (Tryz.prog.underlying 228) 2)).run Tryz.prog w = .ok (367, .agg #[]) w := fun _ => by kernel_rfl
  simp only [ifNameOf, Tryz.underlying228, List.map_cons, List.getD_cons_zero, List.getD_cons_succ] at hm
  go_enter Tryz.func176, Tryz.ntmps176
  go_wp2_with fail
  refine (shapeOf_3 _).mono ?_
  rintro e w1 ⟨rfl, hb⟩
  obtain ⟨c0, c1, c2, c3, c4, c5⟩ := TokAt.start hb
  clear hb
  go_wp2_with (go_at_call 367; refine (width_3  _).mono ?_; rintro e w2 ⟨rfl, hb2⟩)
  go_ret
  exact ⟨rfl, c4.trans (hb2.mono (Nat.le_of_lt c5))⟩
set_option maxHeartbeats 400000 in
set_option maxRecDepth 100000 in
theorem IsBreak_3  (w : World)  :
    Calls Tryz.prog 216 #[.agg #[.int .i64 3, .string ByteArray.empty, .int .i64 0, .int .i64 0]] w fun e w' => e = .returned (.bool false) ∧ Below w.heap.size w w' := by
  have ha1 : ∀ w : World, (Instr.typeAssert (.iface 315 (.agg #[])) 228 304 true).run Tryz.prog w = .ok (.tuple #[.agg #[.int .i64 0, .int .i64 0], .bool false]) w := fun _ => by kernel_rfl
  have ha2 : ∀ w : World, (Instr.typeAssert (.iface 315 (.agg #[])) 228 306 true).run Tryz.prog w = .ok (.tuple #[.agg #[.int .i64 0], .bool false]) w := fun _ => by kernel_rfl
  go_enter Tryz.func216, Tryz.ntmps216
  go_wp2_with fail
  refine (shapeOf_3 _).mono ?_
  rintro e w1 ⟨rfl, hb⟩
  obtain ⟨c0, c1, c2, c3, c4, c5⟩ := TokAt.start hb
  clear hb
  go_wp2
  go_ret
  exact ⟨rfl, c4⟩
set_option maxHeartbeats 400000 in
theorem width_4 (o : Int) (w : World) :
    Calls Tryz.prog 354 #[.agg #[.int .i64 o]] w fun e w' => e = .returned (.int .i64 0) ∧ Below w.heap.size w w' := by
  go_enter Tryz.func354, Tryz.ntmps354
  go_wp2
  go_ret
  exact ⟨rfl, (Below.refl _ _).alloc (Nat.le_refl _) _⟩
set_option maxHeartbeats 400000 in
set_option maxRecDepth 100000 in
theorem WidthOf_4 (o : Int) (w : World) (h2 : inB o (-9) 9 = true) :
    Calls Tryz.prog 176 #[.agg #[.int .i64 4, .string ByteArray.empty, .int .i64 0, .int .i64 o]] w fun e w' => e = .returned (.int .i64 0) ∧ Below w.heap.size w w' := by
  have H2 := Lib.hid h2
  clear h2
  have hm : ∀ w : World, (method 506 306 (.agg #[.int .i64 o]) (ifNameOf (Tryz.prog.underlying 228) 2)).run Tryz.prog w = .ok (354, .agg #[.int .i64 o]) w := fun _ => by kernel_rfl
  simp only [ifNameOf, Tryz.underlying228, List.map_cons, List.getD_cons_zero, List.getD_cons_succ] at hm
  go_enter Tryz.func176, Tryz.ntmps176
  go_wp2_with fail
  refine (shapeOf_4 _ _ H2.out).mono ?_
  rintro e w1 ⟨rfl, hb⟩
  obtain ⟨c0, c1, c2, c3, c4, c5⟩ := TokAt.start hb
  clear hb
  go_wp2_with (go_at_call 354; refine (width_4 _ _).mono ?_; rintro e w2 ⟨rfl, hb2⟩)
  go_ret
  exact ⟨rfl, c4.trans (hb2.mono (Nat.le_of_lt c5))⟩
set_option maxHeartbeats 400000 in
set_option maxRecDepth 100000 in
theorem IsBreak_4 (o : Int) (w : World) (h2 : inB o (-9) 9 = true) :
    Calls Tryz.prog 216 #[.agg #[.int .i64 4, .string ByteArray.empty, .int .i64 0, .int .i64 o]] w fun e w' => e = .returned (.bool true) ∧ Below w.heap.size w w' := by
  have H2 := Lib.hid h2
  clear h2
  have ha1 : ∀ w : World, (Instr.typeAssert (.iface 306 (.agg #[.int .i64 o])) 228 304 true).run Tryz.prog w = .ok (.tuple #[.agg #[.int .i64 0, .int .i64 0], .bool false]) w := fun _ => by kernel_rfl
  have ha2 : ∀ w : World, (Instr.typeAssert (.iface 306 (.agg #[.int .i64 o])) 228 306 true).run Tryz.prog w = .ok (.tuple #[.agg #[.int .i64 o], .bool true]) w := fun _ => by kernel_rfl
  go_enter Tryz.func216, Tryz.ntmps216
  go_wp2_with fail
  refine (shapeOf_4 _ _ H2.out).mono ?_
  rintro e w1 ⟨rfl, hb⟩
  obtain ⟨c0, c1, c2, c3, c4, c5⟩ := TokAt.start hb
  clear hb
  go_wp2
  go_ret
  exact ⟨rfl, c4⟩
set_option maxHeartbeats 400000 in
theorem WidthOf_any (k : Int) (s : ByteArray) (d o : Int) (w : World) (hs : s.size ≤ maxLen) :
    Calls Tryz.prog 176 #[.agg #[.int .i64 k, .string s, .int .i64 d, .int .i64 o]] w fun e w' => e = .returned (.int .i64 (widB k s d o)) ∧ Below w.heap.size w w' := by
  cases ht : tokB k s d o
  · have hW := Lib.hid (show widB k s d o = -1 from by simp [widB, ht])
    have hx := Lib.hid ht
    clear ht
    go_enter Tryz.func176, Tryz.ntmps176
    go_wp2_with fail
    refine (shapeOf_no _ _ _ _ _ hs hx.out).mono ?_
    rintro e w1 ⟨rfl, hb⟩
    obtain ⟨c0, c1, c2, c3, c4, c5⟩ := TokAt.start hb
    clear hb
    go_wp2
    go_ret
    rw [hW.out]
    exact ⟨rfl, c4⟩
  · have hW : widB k s d o = if k = 0 then (s.size : Int) else if k = 1 then d else 0 := by simp [widB, ht]
    rw [hW]
    rcases tokB_cases ht with ⟨rfl, rfl, rfl, hx⟩ | ⟨rfl, rfl, h1, h2⟩ | ⟨rfl, rfl, rfl | rfl, h2⟩ | ⟨rfl, rfl, rfl, rfl⟩ | ⟨rfl, rfl, rfl, h2⟩
    · exact WidthOf_0 s w hs hx
    · exact WidthOf_1 d o w h1 h2
    · exact WidthOf_2F o w h2
    · exact WidthOf_2T o w h2
    · exact WidthOf_3 w
    · exact WidthOf_4 o w h2
set_option maxHeartbeats 400000 in
theorem IsBreak_any (k : Int) (s : ByteArray) (d o : Int) (w : World) (hs : s.size ≤ maxLen) :
    Calls Tryz.prog 216 #[.agg #[.int .i64 k, .string s, .int .i64 d, .int .i64 o]] w fun e w' => e = .returned (.bool (brkB k s d o)) ∧ Below w.heap.size w w' := by
  cases ht : tokB k s d o
  · have hW := Lib.hid (show brkB k s d o = false from by simp [brkB, ht])
    have hx := Lib.hid ht
    clear ht
    go_enter Tryz.func216, Tryz.ntmps216
    go_wp2_with fail
    refine (shapeOf_no _ _ _ _ _ hs hx.out).mono ?_
    rintro e w1 ⟨rfl, hb⟩
    obtain ⟨c0, c1, c2, c3, c4, c5⟩ := TokAt.start hb
    clear hb
    go_wp2
    go_ret
    rw [hW.out]
    exact ⟨rfl, c4⟩
  · have hW : brkB k s d o = (decide (k = 1) || decide (k = 4)) := by simp [brkB, ht]
    rw [hW]
    rcases tokB_cases ht with ⟨rfl, rfl, rfl, hx⟩ | ⟨rfl, rfl, h1, h2⟩ | ⟨rfl, rfl, rfl | rfl, h2⟩ | ⟨rfl, rfl, rfl, rfl⟩ | ⟨rfl, rfl, rfl, h2⟩
    · exact IsBreak_0 s w hs hx
    · exact IsBreak_1 d o w h1 h2
    · exact IsBreak_2F o w h2
    · exact IsBreak_2T o w h2
    · exact IsBreak_3 w
    · exact IsBreak_4 o w h2
set_option maxHeartbeats 400000 in
theorem sIsBreak_any (k : Int) (s : ByteArray) (d o : Int) (w : World) (hs : s.size ≤ maxLen) :
    Calls Tryz.prog 243 #[.agg #[.int .i64 k, .string s, .int .i64 d, .int .i64 o]] w fun e w' => e = .returned (.bool (brkB k s d o)) ∧ Below w.heap.size w w' := by
  cases ht : tokB k s d o
  · have hW := Lib.hid (show brkB k s d o = false from by simp [brkB, ht])
    have hx := Lib.hid ht
    clear ht
    go_enter Tryz.func243, Tryz.ntmps243
    go_wp2_with fail
    refine (sTokenOk_any _ _ _ _ _ hs).mono ?_
    rintro e w1 ⟨rfl, hb⟩
    rw [hx.out]
    obtain ⟨c0, c1, c2, c3, c4, c5⟩ := TokAt.start hb
    clear hb
    go_wp2
    go_ret
    rw [hW.out]
    exact ⟨rfl, c4⟩
  · have hx := Lib.hid ht
    by_cases k1 : (k == 1) = true
    · have hW := Lib.hid (show brkB k s d o = true from by simp at k1; simp only [brkB, ht]; simp [k1])
      clear ht
      go_enter Tryz.func243, Tryz.ntmps243
      go_wp2_with fail
      refine (sTokenOk_any _ _ _ _ _ hs).mono ?_
      rintro e w1 ⟨rfl, hb⟩
      rw [hx.out]
      obtain ⟨c0, c1, c2, c3, c4, c5⟩ := TokAt.start hb
      clear hb
      go_wp2
      go_ret
      rw [hW.out]
      exact ⟨rfl, c4⟩
    · have k1' : (k == 1) = false := by simpa using k1
      have hW := Lib.hid (show brkB k s d o = (k == 4) from by simp at k1; simp [brkB, ht, k1]; rfl)
      clear ht k1
      go_enter Tryz.func243, Tryz.ntmps243
      go_wp2_with fail
      refine (sTokenOk_any _ _ _ _ _ hs).mono ?_
      rintro e w1 ⟨rfl, hb⟩
      rw [hx.out]
      obtain ⟨c0, c1, c2, c3, c4, c5⟩ := TokAt.start hb
      clear hb
      go_wp2
      go_ret
      rw [hW.out]
      exact ⟨rfl, c4⟩
end Go.Proofs.YtlcplgfjicifeaaGreatDoor
