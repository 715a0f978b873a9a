/-
  What shapeOf, TokenOk, WidthOf and IsBreak of the implementation answer.
-/
import Derived.Test.YthjkgbcomjiejadGreatDoorShape
namespace Go.Proofs.YthjkgbcomjiejadGreatDoor
open Go.RowKit

theorem tokB_cases {k : Int} {s : ByteArray} {d o : Int} (h : tokB k s d o = true) :
    (k = 0 ∧ d = 0 ∧ o = 0 ∧ txtB s = true) ∨ (k = 1 ∧ s = ByteArray.empty ∧ inB d 0 9 = true ∧ inB o (-9) 9 = true) ∨
    (k = 2 ∧ s = ByteArray.empty ∧ (d = 0 ∨ d = 1) ∧ inB o 0 9 = true) ∨ (k = 3 ∧ s = ByteArray.empty ∧ d = 0 ∧ o = 0) ∨
    (k = 4 ∧ s = ByteArray.empty ∧ d = 0 ∧ inB o (-9) 9 = true) := by
  unfold tokB at h
  split at h
  · rename_i hk
    simp at h
    exact .inl ⟨hk, h.2.1, h.2.2, h.1⟩
  · split at h
    · simp at h
    · rename_i hs
      have he : s = ByteArray.empty := size_zero.1 (by omega)
      split at h
      · rename_i hk
        simp at h
        exact .inr (.inl ⟨hk, he, h.1, h.2⟩)
      · split at h
        · rename_i hk
          simp at h
          have h1 := inB_true.1 h.1
          exact .inr (.inr (.inl ⟨hk, he, by omega, h.2⟩))
        · split at h
          · rename_i hk
            simp at h
            exact .inr (.inr (.inr (.inl ⟨hk, he, h.1, h.2⟩)))
          · split at h
            · rename_i hk
              simp at h
              exact .inr (.inr (.inr (.inr ⟨hk, he, h.1, h.2⟩)))
            · simp at h

theorem toList_beq_false {a b : ByteArray} (h : a ≠ b) : (a.toList == b.toList) = false := by
  rw [toList_eq, toList_eq, beq_eq_false_iff_ne]
  intro hh
  apply h
  obtain ⟨⟨x⟩⟩ := a
  obtain ⟨⟨y⟩⟩ := b
  simp at hh
  subst hh
  rfl

theorem empty_ne {s : ByteArray} (h : s.size ≠ 0) : ByteArray.empty ≠ s := fun e => h (by rw [← e]; rfl)

theorem shapeOf_0 (s : ByteArray) (w : World) (hs : s.size ≤ maxLen) (ht : txtB s = true) :
    Calls Tryz.prog 128 #[.agg #[.int .i64 0, .string s, .int .i64 0, .int .i64 0]] w fun e w' => e = .returned (.tuple #[.iface 241 (.agg #[.string s]), .bool true]) ∧ Below w.heap.size w w' :=
  shapeOf_yes _ _ _ _ 0 s 0 0 w (Lib.hid (kindShape_0 s 0 0)) (ht ▸ text_is s hs)
theorem shapeOf_1 (d o : Int) (w : World) (h1 : inB d 0 9 = true) (h2 : inB o (-9) 9 = true) :
    Calls Tryz.prog 128 #[.agg #[.int .i64 1, .string ByteArray.empty, .int .i64 d, .int .i64 o]] w fun e w' => e = .returned (.tuple #[.iface 203 (.agg #[.int .i64 d, .int .i64 o]), .bool true]) ∧ Below w.heap.size w w' :=
  shapeOf_yes _ _ _ _ 1 _ d o w (Lib.hid (kindShape_1 _ d o)) (by have := blank_is d o; rwa [h1, h2] at this)
theorem shapeOf_2F (o : Int) (w : World) (h2 : inB o 0 9 = true) :
    Calls Tryz.prog 128 #[.agg #[.int .i64 2, .string ByteArray.empty, .int .i64 0, .int .i64 o]] w fun e w' => e = .returned (.tuple #[.iface 243 (.agg #[.bool false, .int .i64 o]), .bool true]) ∧ Below w.heap.size w w' :=
  shapeOf_yes _ _ _ _ 2 _ 0 o w (Lib.hid (kindShape_2 _ 0 o)) (h2 ▸ beginF_is o)
theorem shapeOf_2T (o : Int) (w : World) (h2 : inB o 0 9 = true) :
    Calls Tryz.prog 128 #[.agg #[.int .i64 2, .string ByteArray.empty, .int .i64 1, .int .i64 o]] w fun e w' => e = .returned (.tuple #[.iface 243 (.agg #[.bool true, .int .i64 o]), .bool true]) ∧ Below w.heap.size w w' :=
  shapeOf_yes _ _ _ _ 2 _ 1 o w (Lib.hid (kindShape_2 _ 1 o)) (h2 ▸ beginT_is o)
theorem shapeOf_3 (w : World) :
    Calls Tryz.prog 128 #[.agg #[.int .i64 3, .string ByteArray.empty, .int .i64 0, .int .i64 0]] w fun e w' => e = .returned (.tuple #[.iface 245 (.agg #[]), .bool true]) ∧ Below w.heap.size w w' :=
  shapeOf_yes _ _ _ _ 3 _ 0 0 w (Lib.hid (kindShape_3 _ 0 0)) end_is
theorem shapeOf_4 (o : Int) (w : World) (h2 : inB o (-9) 9 = true) :
    Calls Tryz.prog 128 #[.agg #[.int .i64 4, .string ByteArray.empty, .int .i64 0, .int .i64 o]] w fun e w' => e = .returned (.tuple #[.iface 205 (.agg #[.int .i64 o]), .bool true]) ∧ Below w.heap.size w w' :=
  shapeOf_yes _ _ _ _ 4 _ 0 o w (Lib.hid (kindShape_4 _ 0 o)) (h2 ▸ line_is o)

theorem shapeOf_no (k : Int) (s : ByteArray) (d o : Int) (w : World) (hs : s.size ≤ maxLen) (h : tokB k s d o = false) :
    Calls Tryz.prog 128 #[.agg #[.int .i64 k, .string s, .int .i64 d, .int .i64 o]] w fun e w' => e = .returned (.tuple #[.nilIface, .bool false]) ∧ Below w.heap.size w w' := by
  by_cases k0 : k = 0
  · subst k0
    by_cases hd : d = 0
    · subst hd
      by_cases ho : o = 0
      · subst ho
        have ht : txtB s = false := by simpa [tokB] using h
        exact shapeOf_nofit _ _ _ _ 0 s 0 0 w (Lib.hid (kindShape_0 s 0 0)) (ht ▸ text_is s hs)
      · exact shapeOf_neqO _ _ _ _ _ 0 s 0 o 0 w (by simpa using Ne.symm ho) (Lib.hid (kindShape_0 s 0 o)) (text_is s hs)
    · exact shapeOf_neqD _ _ _ _ _ 0 s d o 0 0 w (by simpa using Ne.symm hd) (Lib.hid (kindShape_0 s d o)) (text_is s hs)
  · by_cases k1 : k = 1
    · subst k1
      by_cases h0 : s.size = 0
      · have he := size_zero.1 h0
        subst he
        have hf : (inB d 0 9 && inB o (-9) 9) = false := by simpa [tokB] using h
        exact shapeOf_nofit _ _ _ _ 1 _ d o w (Lib.hid (kindShape_1 _ d o)) (hf ▸ blank_is d o)
      · exact shapeOf_neqS _ _ _ _ _ 1 s d o _ d o w (toList_beq_false (empty_ne h0)) (Lib.hid (kindShape_1 s d o)) (blank_is d o)
    · by_cases k2 : k = 2
      · subst k2
        by_cases h0 : s.size = 0
        · have he := size_zero.1 h0
          subst he
          by_cases d1 : d = 1
          · subst d1
            have hf : inB o 0 9 = false := by simpa [tokB, inB] using h
            exact shapeOf_nofit _ _ _ _ 2 _ 1 o w (Lib.hid (kindShape_2 _ 1 o)) (hf ▸ beginT_is o)
          · have d1' : (d == 1) = false := by simpa using d1
            have hK := kindShape_2 ByteArray.empty d o
            rw [d1'] at hK
            by_cases d0 : d = 0
            · subst d0
              have hf : inB o 0 9 = false := by simpa [tokB, inB] using h
              exact shapeOf_nofit _ _ _ _ 2 _ 0 o w (Lib.hid hK) (hf ▸ beginF_is o)
            · exact shapeOf_neqD _ _ _ _ _ 2 _ d o 0 o w (by simpa using Ne.symm d0) (Lib.hid hK) (beginF_is o)
        · have hK := kindShape_2 s d o
          cases d1 : (d == 1)
          · rw [d1] at hK
            exact shapeOf_neqS _ _ _ _ _ 2 s d o _ 0 o w (toList_beq_false (empty_ne h0)) (Lib.hid hK) (beginF_is o)
          · rw [d1] at hK
            exact shapeOf_neqS _ _ _ _ _ 2 s d o _ 1 o w (toList_beq_false (empty_ne h0)) (Lib.hid hK) (beginT_is o)
      · by_cases k3 : k = 3
        · subst k3
          by_cases h0 : s.size = 0
          · have he := size_zero.1 h0
            subst he
            by_cases d0 : d = 0
            · subst d0
              have ho : o ≠ 0 := by simpa [tokB] using h
              exact shapeOf_neqO _ _ _ _ _ 3 _ 0 o 0 w (by simpa using Ne.symm ho) (Lib.hid (kindShape_3 _ 0 o)) end_is
            · exact shapeOf_neqD _ _ _ _ _ 3 _ d o 0 0 w (by simpa using Ne.symm d0) (Lib.hid (kindShape_3 _ d o)) end_is
          · exact shapeOf_neqS _ _ _ _ _ 3 s d o _ 0 0 w (toList_beq_false (empty_ne h0)) (Lib.hid (kindShape_3 s d o)) end_is
        · by_cases k4 : k = 4
          · subst k4
            by_cases h0 : s.size = 0
            · have he := size_zero.1 h0
              subst he
              by_cases d0 : d = 0
              · subst d0
                have hf : inB o (-9) 9 = false := by simpa [tokB] using h
                exact shapeOf_nofit _ _ _ _ 4 _ 0 o w (Lib.hid (kindShape_4 _ 0 o)) (hf ▸ line_is o)
              · exact shapeOf_neqD _ _ _ _ _ 4 _ d o 0 o w (by simpa using Ne.symm d0) (Lib.hid (kindShape_4 _ d o)) (line_is o)
            · exact shapeOf_neqS _ _ _ _ _ 4 s d o _ 0 o w (toList_beq_false (empty_ne h0)) (Lib.hid (kindShape_4 s d o)) (line_is o)
          · exact shapeOf_none k s d o w (Lib.hid fun w => kindShape_x k s d o w (by simpa using k0) (by simpa using k1) (by simpa using k2) (by simpa using k3) (by simpa using k4))

/-- shapeOf is true, with some shape, just where the token is right. -/
def ShapeOut (b : Bool) (w : World) (e : Ending) (w' : World) : Prop := ∃ v : Value, e = .returned (.tuple #[v, .bool b]) ∧ Below w.heap.size w w'
theorem shapeOf_any (k : Int) (s : ByteArray) (d o : Int) (w : World) (hs : s.size ≤ maxLen) :
    Calls Tryz.prog 128 #[.agg #[.int .i64 k, .string s, .int .i64 d, .int .i64 o]] w (ShapeOut (tokB k s d o) w) := by
  cases h : tokB k s d o
  · exact (shapeOf_no k s d o w hs h).mono fun _ _ ⟨he, hb⟩ => ⟨_, he, hb⟩
  · rcases tokB_cases h with ⟨rfl, rfl, rfl, ht⟩ | ⟨rfl, rfl, h1, h2⟩ | ⟨rfl, rfl, rfl | rfl, h2⟩ | ⟨rfl, rfl, rfl, rfl⟩ | ⟨rfl, rfl, rfl, h2⟩
    · exact (shapeOf_0 s w hs ht).mono fun _ _ ⟨he, hb⟩ => ⟨_, he, hb⟩
    · exact (shapeOf_1 d o w h1 h2).mono fun _ _ ⟨he, hb⟩ => ⟨_, he, hb⟩
    · exact (shapeOf_2F o w h2).mono fun _ _ ⟨he, hb⟩ => ⟨_, he, hb⟩
    · exact (shapeOf_2T o w h2).mono fun _ _ ⟨he, hb⟩ => ⟨_, he, hb⟩
    · exact (shapeOf_3 w).mono fun _ _ ⟨he, hb⟩ => ⟨_, he, hb⟩
    · exact (shapeOf_4 o w h2).mono fun _ _ ⟨he, hb⟩ => ⟨_, he, hb⟩

set_option maxHeartbeats 400000 in
theorem TokenOk_any (k : Int) (s : ByteArray) (d o : Int) (w : World) (hs : s.size ≤ maxLen) :
    Calls Tryz.prog 89 #[.agg #[.int .i64 k, .string s, .int .i64 d, .int .i64 o]] w fun e w' => e = .returned (.bool (tokB k s d o)) ∧ Below w.heap.size w w' := by
  go_enter Tryz.func89, Tryz.ntmps89
  go_wp2_with (go_at_call 128; refine (shapeOf_any _ _ _ _ _ hs).mono ?_; rintro e w1 ⟨v, rfl, hb⟩)
  go_ret
  exact ⟨rfl, ((Below.refl _ _).alloc (Nat.le_refl _) _).trans (hb.mono (by simp))⟩
end Go.Proofs.YthjkgbcomjiejadGreatDoor
