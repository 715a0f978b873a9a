/-
  Txt, Blank, Begin and Line on both sides, and the walks of their laws.
-/
import Derived.Test.YtmebcgifmjlbfaaLaw2
namespace Go.Proofs.Ytmebcgifmjlbfaa
open Go.RowKit

theorem emptyLe : ByteArray.empty.size ≤ maxLen := Nat.zero_le _

set_option maxHeartbeats 400000 in
theorem sTxt_yes (s : ByteArray) (w : World) (hs : s.size ≤ maxLen) (ht : tokB 0 s 0 0 = true) :
    Calls Try.prog 26 #[.string s] w fun e w' => e = .returned (.tuple #[.agg #[.int .i64 0, .string s, .int .i64 0, .int .i64 0], .bool true]) ∧ Below w.heap.size w w' := by
  have hx := Lib.hid ht
  clear ht
  go_enter Try.func26, Try.ntmps26
  go_wp2_with fail
  refine (sMade_yes _ _ _ _ _ hs hx.out).mono ?_
  rintro e w1 ⟨rfl, hb⟩
  obtain ⟨hc, hf⟩ := bcell hb
  have hz : w.heap.size < w1.heap.size := by have := hb.size; simp at this; omega
  go_wp2
  refine bodyPost_ret (v := .tuple #[.agg #[.int .i64 0, .string s, .int .i64 0, .int .i64 0], .bool true]) (by simp [results, Try.results26, go_sem, hc]) rfl ⟨rfl, ?_⟩
  exact below4 (((Below.refl _ _).alloc (Nat.le_refl _) _).trans (hb.mono (by simp))) (Nat.le_refl _)
set_option maxHeartbeats 400000 in
theorem Txt_yes (s : ByteArray) (w : World) (hs : s.size ≤ maxLen) (ht : tokB 0 s 0 0 = true) :
    Calls Try.prog 27 #[.string s] w fun e w' => e = .returned (.tuple #[.agg #[.int .i64 0, .string s, .int .i64 0, .int .i64 0], .bool true]) ∧ Below w.heap.size w w' := by
  have hx := Lib.hid ht
  clear ht
  go_enter Try.func27, Try.ntmps27
  go_wp2_with fail
  refine (mk0_yes _ _ _ hs hx.out).mono ?_
  rintro e w1 ⟨rfl, hb⟩
  obtain ⟨hc, hf⟩ := bcell hb
  have hz : w.heap.size < w1.heap.size := by have := hb.size; simp at this; omega
  go_wp2
  refine bodyPost_ret (v := .tuple #[.agg #[.int .i64 0, .string s, .int .i64 0, .int .i64 0], .bool true]) (by simp [results, Try.results27, go_sem, hc]) rfl ⟨rfl, ?_⟩
  exact below4 (((Below.refl _ _).alloc (Nat.le_refl _) _).trans (hb.mono (by simp))) (Nat.le_refl _)
set_option maxHeartbeats 400000 in
theorem sTxt_no (s : ByteArray) (w : World) (hs : s.size ≤ maxLen) (ht : tokB 0 s 0 0 = false) :
    Calls Try.prog 26 #[.string s] w fun e w' => e = .returned (.tuple #[.agg #[.int .i64 0, .string ByteArray.empty, .int .i64 0, .int .i64 0], .bool false]) ∧ Below w.heap.size w w' := by
  have hx := Lib.hid ht
  clear ht
  go_enter Try.func26, Try.ntmps26
  go_wp2_with fail
  refine (sMade_no _ _ _ _ _ hs hx.out).mono ?_
  rintro e w1 ⟨rfl, hb⟩
  obtain ⟨hc, hf⟩ := bcell hb
  have hz : w.heap.size < w1.heap.size := by have := hb.size; simp at this; omega
  go_wp2
  refine bodyPost_ret (v := .tuple #[.agg #[.int .i64 0, .string ByteArray.empty, .int .i64 0, .int .i64 0], .bool false]) (by simp [results, Try.results26, go_sem, hc]) rfl ⟨rfl, ?_⟩
  exact below4 (((Below.refl _ _).alloc (Nat.le_refl _) _).trans (hb.mono (by simp))) (Nat.le_refl _)
set_option maxHeartbeats 400000 in
theorem Txt_no (s : ByteArray) (w : World) (hs : s.size ≤ maxLen) (ht : tokB 0 s 0 0 = false) :
    Calls Try.prog 27 #[.string s] w fun e w' => e = .returned (.tuple #[.agg #[.int .i64 0, .string ByteArray.empty, .int .i64 0, .int .i64 0], .bool false]) ∧ Below w.heap.size w w' := by
  have hx := Lib.hid ht
  clear ht
  go_enter Try.func27, Try.ntmps27
  go_wp2_with fail
  refine (mk0_no _ _ _ hs hx.out).mono ?_
  rintro e w1 ⟨rfl, hb⟩
  obtain ⟨hc, hf⟩ := bcell hb
  have hz : w.heap.size < w1.heap.size := by have := hb.size; simp at this; omega
  go_wp2
  refine bodyPost_ret (v := .tuple #[.agg #[.int .i64 0, .string ByteArray.empty, .int .i64 0, .int .i64 0], .bool false]) (by simp [results, Try.results27, go_sem, hc]) rfl ⟨rfl, ?_⟩
  exact below4 (((Below.refl _ _).alloc (Nat.le_refl _) _).trans (hb.mono (by simp))) (Nat.le_refl _)
set_option maxHeartbeats 400000 in
theorem sBlank_yes (d o : Int) (w : World) (ht : tokB 1 ByteArray.empty d o = true) :
    Calls Try.prog 28 #[.int .i64 d, .int .i64 o] w fun e w' => e = .returned (.tuple #[.agg #[.int .i64 1, .string ByteArray.empty, .int .i64 d, .int .i64 o], .bool true]) ∧ Below w.heap.size w w' := by
  have hx := Lib.hid ht
  clear ht
  go_enter Try.func28, Try.ntmps28
  go_wp2_with fail
  refine (sMade_yes _ _ _ _ _ emptyLe hx.out).mono ?_
  rintro e w1 ⟨rfl, hb⟩
  obtain ⟨hc, hf⟩ := bcell hb
  have hz : w.heap.size < w1.heap.size := by have := hb.size; simp at this; omega
  go_wp2
  refine bodyPost_ret (v := .tuple #[.agg #[.int .i64 1, .string ByteArray.empty, .int .i64 d, .int .i64 o], .bool true]) (by simp [results, Try.results28, go_sem, hc]) rfl ⟨rfl, ?_⟩
  exact below4 (((Below.refl _ _).alloc (Nat.le_refl _) _).trans (hb.mono (by simp))) (Nat.le_refl _)
set_option maxHeartbeats 400000 in
theorem Blank_yes (d o : Int) (w : World) (ht : tokB 1 ByteArray.empty d o = true) :
    Calls Try.prog 29 #[.int .i64 d, .int .i64 o] w fun e w' => e = .returned (.tuple #[.agg #[.int .i64 1, .string ByteArray.empty, .int .i64 d, .int .i64 o], .bool true]) ∧ Below w.heap.size w w' := by
  have hx := Lib.hid ht
  clear ht
  go_enter Try.func29, Try.ntmps29
  go_wp2_with fail
  refine (mk2_yes _ _ _ _ _ _ _ _ emptyLe hx.out (by simp) (by simp) (by simp)).mono ?_
  rintro e w1 ⟨rfl, hb⟩
  obtain ⟨hc, hf⟩ := bcell hb
  have hz : w.heap.size < w1.heap.size := by have := hb.size; simp at this; omega
  have hl2 : w.heap.size < w.heap.size + 1 + 1 := by omega
  go_wp2
  refine bodyPost_ret (v := .tuple #[.agg #[.int .i64 1, .string ByteArray.empty, .int .i64 d, .int .i64 o], .bool true]) (by simp [results, Try.results29, go_sem, hc, hl2]) rfl ⟨rfl, ?_⟩
  exact below4 ((((Below.refl _ _).alloc (Nat.le_refl _) _).alloc (by simp) _).trans (hb.mono (by simp; omega))) (Nat.le_refl _)
set_option maxHeartbeats 400000 in
theorem sBlank_no (d o : Int) (w : World) (ht : tokB 1 ByteArray.empty d o = false) :
    Calls Try.prog 28 #[.int .i64 d, .int .i64 o] w fun e w' => e = .returned (.tuple #[.agg #[.int .i64 0, .string ByteArray.empty, .int .i64 0, .int .i64 0], .bool false]) ∧ Below w.heap.size w w' := by
  have hx := Lib.hid ht
  clear ht
  go_enter Try.func28, Try.ntmps28
  go_wp2_with fail
  refine (sMade_no _ _ _ _ _ emptyLe hx.out).mono ?_
  rintro e w1 ⟨rfl, hb⟩
  obtain ⟨hc, hf⟩ := bcell hb
  have hz : w.heap.size < w1.heap.size := by have := hb.size; simp at this; omega
  go_wp2
  refine bodyPost_ret (v := .tuple #[.agg #[.int .i64 0, .string ByteArray.empty, .int .i64 0, .int .i64 0], .bool false]) (by simp [results, Try.results28, go_sem, hc]) rfl ⟨rfl, ?_⟩
  exact below4 (((Below.refl _ _).alloc (Nat.le_refl _) _).trans (hb.mono (by simp))) (Nat.le_refl _)
set_option maxHeartbeats 400000 in
theorem Blank_no (d o : Int) (w : World) (ht : tokB 1 ByteArray.empty d o = false) :
    Calls Try.prog 29 #[.int .i64 d, .int .i64 o] w fun e w' => e = .returned (.tuple #[.agg #[.int .i64 0, .string ByteArray.empty, .int .i64 0, .int .i64 0], .bool false]) ∧ Below w.heap.size w w' := by
  have hx := Lib.hid ht
  clear ht
  go_enter Try.func29, Try.ntmps29
  go_wp2_with fail
  refine (mk2_no _ _ _ _ _ _ _ _ emptyLe hx.out (by simp) (by simp) (by simp)).mono ?_
  rintro e w1 ⟨rfl, hb⟩
  obtain ⟨hc, hf⟩ := bcell hb
  have hz : w.heap.size < w1.heap.size := by have := hb.size; simp at this; omega
  have hl2 : w.heap.size < w.heap.size + 1 + 1 := by omega
  go_wp2
  refine bodyPost_ret (v := .tuple #[.agg #[.int .i64 0, .string ByteArray.empty, .int .i64 0, .int .i64 0], .bool false]) (by simp [results, Try.results29, go_sem, hc, hl2]) rfl ⟨rfl, ?_⟩
  exact below4 ((((Below.refl _ _).alloc (Nat.le_refl _) _).alloc (by simp) _).trans (hb.mono (by simp; omega))) (Nat.le_refl _)
set_option maxHeartbeats 400000 in
theorem sBeginT_yes (o : Int) (w : World) (ht : tokB 2 ByteArray.empty 1 o = true) :
    Calls Try.prog 30 #[.bool true, .int .i64 o] w fun e w' => e = .returned (.tuple #[.agg #[.int .i64 2, .string ByteArray.empty, .int .i64 1, .int .i64 o], .bool true]) ∧ Below w.heap.size w w' := by
  have hx := Lib.hid ht
  clear ht
  go_enter Try.func30, Try.ntmps30
  go_wp2_with fail
  refine (sMade_yes _ _ _ _ _ emptyLe hx.out).mono ?_
  rintro e w1 ⟨rfl, hb⟩
  obtain ⟨hc, hf⟩ := bcell hb
  have hz : w.heap.size < w1.heap.size := by have := hb.size; simp at this; omega
  have hl2 : w.heap.size < w.heap.size + 1 + 1 := by omega
  go_wp2
  refine bodyPost_ret (v := .tuple #[.agg #[.int .i64 2, .string ByteArray.empty, .int .i64 1, .int .i64 o], .bool true]) (by simp [results, Try.results30, go_sem, hc, hl2]) rfl ⟨rfl, ?_⟩
  exact below4 ((((Below.refl _ _).alloc (Nat.le_refl _) _).alloc (by simp) _).trans (hb.mono (by simp; omega))) (Nat.le_refl _)
set_option maxHeartbeats 400000 in
theorem BeginT_yes (o : Int) (w : World) (ht : tokB 2 ByteArray.empty 1 o = true) :
    Calls Try.prog 31 #[.bool true, .int .i64 o] w fun e w' => e = .returned (.tuple #[.agg #[.int .i64 2, .string ByteArray.empty, .int .i64 1, .int .i64 o], .bool true]) ∧ Below w.heap.size w w' := by
  have hx := Lib.hid ht
  clear ht
  go_enter Try.func31, Try.ntmps31
  go_wp2_with fail
  refine (mk2_yes _ _ _ _ _ _ _ _ emptyLe hx.out (by simp) (by simp) (by simp)).mono ?_
  rintro e w1 ⟨rfl, hb⟩
  obtain ⟨hc, hf⟩ := bcell hb
  have hz : w.heap.size < w1.heap.size := by have := hb.size; simp at this; omega
  have hl2 : w.heap.size < w.heap.size + 1 + 1 := by omega
  go_wp2
  refine bodyPost_ret (v := .tuple #[.agg #[.int .i64 2, .string ByteArray.empty, .int .i64 1, .int .i64 o], .bool true]) (by simp [results, Try.results31, go_sem, hc, hl2]) rfl ⟨rfl, ?_⟩
  exact below4 ((((Below.refl _ _).alloc (Nat.le_refl _) _).alloc (by simp) _).trans (hb.mono (by simp; omega))) (Nat.le_refl _)
set_option maxHeartbeats 400000 in
theorem sBeginT_no (o : Int) (w : World) (ht : tokB 2 ByteArray.empty 1 o = false) :
    Calls Try.prog 30 #[.bool true, .int .i64 o] w fun e w' => e = .returned (.tuple #[.agg #[.int .i64 0, .string ByteArray.empty, .int .i64 0, .int .i64 0], .bool false]) ∧ Below w.heap.size w w' := by
  have hx := Lib.hid ht
  clear ht
  go_enter Try.func30, Try.ntmps30
  go_wp2_with fail
  refine (sMade_no _ _ _ _ _ emptyLe hx.out).mono ?_
  rintro e w1 ⟨rfl, hb⟩
  obtain ⟨hc, hf⟩ := bcell hb
  have hz : w.heap.size < w1.heap.size := by have := hb.size; simp at this; omega
  have hl2 : w.heap.size < w.heap.size + 1 + 1 := by omega
  go_wp2
  refine bodyPost_ret (v := .tuple #[.agg #[.int .i64 0, .string ByteArray.empty, .int .i64 0, .int .i64 0], .bool false]) (by simp [results, Try.results30, go_sem, hc, hl2]) rfl ⟨rfl, ?_⟩
  exact below4 ((((Below.refl _ _).alloc (Nat.le_refl _) _).alloc (by simp) _).trans (hb.mono (by simp; omega))) (Nat.le_refl _)
set_option maxHeartbeats 400000 in
theorem BeginT_no (o : Int) (w : World) (ht : tokB 2 ByteArray.empty 1 o = false) :
    Calls Try.prog 31 #[.bool true, .int .i64 o] w fun e w' => e = .returned (.tuple #[.agg #[.int .i64 0, .string ByteArray.empty, .int .i64 0, .int .i64 0], .bool false]) ∧ Below w.heap.size w w' := by
  have hx := Lib.hid ht
  clear ht
  go_enter Try.func31, Try.ntmps31
  go_wp2_with fail
  refine (mk2_no _ _ _ _ _ _ _ _ emptyLe hx.out (by simp) (by simp) (by simp)).mono ?_
  rintro e w1 ⟨rfl, hb⟩
  obtain ⟨hc, hf⟩ := bcell hb
  have hz : w.heap.size < w1.heap.size := by have := hb.size; simp at this; omega
  have hl2 : w.heap.size < w.heap.size + 1 + 1 := by omega
  go_wp2
  refine bodyPost_ret (v := .tuple #[.agg #[.int .i64 0, .string ByteArray.empty, .int .i64 0, .int .i64 0], .bool false]) (by simp [results, Try.results31, go_sem, hc, hl2]) rfl ⟨rfl, ?_⟩
  exact below4 ((((Below.refl _ _).alloc (Nat.le_refl _) _).alloc (by simp) _).trans (hb.mono (by simp; omega))) (Nat.le_refl _)
set_option maxHeartbeats 400000 in
theorem sBeginF_yes (o : Int) (w : World) (ht : tokB 2 ByteArray.empty 0 o = true) :
    Calls Try.prog 30 #[.bool false, .int .i64 o] w fun e w' => e = .returned (.tuple #[.agg #[.int .i64 2, .string ByteArray.empty, .int .i64 0, .int .i64 o], .bool true]) ∧ Below w.heap.size w w' := by
  have hx := Lib.hid ht
  clear ht
  go_enter Try.func30, Try.ntmps30
  go_wp2_with fail
  refine (sMade_yes _ _ _ _ _ emptyLe hx.out).mono ?_
  rintro e w1 ⟨rfl, hb⟩
  obtain ⟨hc, hf⟩ := bcell hb
  have hz : w.heap.size < w1.heap.size := by have := hb.size; simp at this; omega
  have hl2 : w.heap.size < w.heap.size + 1 + 1 := by omega
  go_wp2
  refine bodyPost_ret (v := .tuple #[.agg #[.int .i64 2, .string ByteArray.empty, .int .i64 0, .int .i64 o], .bool true]) (by simp [results, Try.results30, go_sem, hc, hl2]) rfl ⟨rfl, ?_⟩
  exact below4 ((((Below.refl _ _).alloc (Nat.le_refl _) _).alloc (by simp) _).trans (hb.mono (by simp; omega))) (Nat.le_refl _)
set_option maxHeartbeats 400000 in
theorem BeginF_yes (o : Int) (w : World) (ht : tokB 2 ByteArray.empty 0 o = true) :
    Calls Try.prog 31 #[.bool false, .int .i64 o] w fun e w' => e = .returned (.tuple #[.agg #[.int .i64 2, .string ByteArray.empty, .int .i64 0, .int .i64 o], .bool true]) ∧ Below w.heap.size w w' := by
  have hx := Lib.hid ht
  clear ht
  go_enter Try.func31, Try.ntmps31
  go_wp2_with fail
  refine (mk2_yes _ _ _ _ _ _ _ _ emptyLe hx.out (by simp) (by simp) (by simp)).mono ?_
  rintro e w1 ⟨rfl, hb⟩
  obtain ⟨hc, hf⟩ := bcell hb
  have hz : w.heap.size < w1.heap.size := by have := hb.size; simp at this; omega
  have hl2 : w.heap.size < w.heap.size + 1 + 1 := by omega
  go_wp2
  refine bodyPost_ret (v := .tuple #[.agg #[.int .i64 2, .string ByteArray.empty, .int .i64 0, .int .i64 o], .bool true]) (by simp [results, Try.results31, go_sem, hc, hl2]) rfl ⟨rfl, ?_⟩
  exact below4 ((((Below.refl _ _).alloc (Nat.le_refl _) _).alloc (by simp) _).trans (hb.mono (by simp; omega))) (Nat.le_refl _)
set_option maxHeartbeats 400000 in
theorem sBeginF_no (o : Int) (w : World) (ht : tokB 2 ByteArray.empty 0 o = false) :
    Calls Try.prog 30 #[.bool false, .int .i64 o] w fun e w' => e = .returned (.tuple #[.agg #[.int .i64 0, .string ByteArray.empty, .int .i64 0, .int .i64 0], .bool false]) ∧ Below w.heap.size w w' := by
  have hx := Lib.hid ht
  clear ht
  go_enter Try.func30, Try.ntmps30
  go_wp2_with fail
  refine (sMade_no _ _ _ _ _ emptyLe hx.out).mono ?_
  rintro e w1 ⟨rfl, hb⟩
  obtain ⟨hc, hf⟩ := bcell hb
  have hz : w.heap.size < w1.heap.size := by have := hb.size; simp at this; omega
  have hl2 : w.heap.size < w.heap.size + 1 + 1 := by omega
  go_wp2
  refine bodyPost_ret (v := .tuple #[.agg #[.int .i64 0, .string ByteArray.empty, .int .i64 0, .int .i64 0], .bool false]) (by simp [results, Try.results30, go_sem, hc, hl2]) rfl ⟨rfl, ?_⟩
  exact below4 ((((Below.refl _ _).alloc (Nat.le_refl _) _).alloc (by simp) _).trans (hb.mono (by simp; omega))) (Nat.le_refl _)
set_option maxHeartbeats 400000 in
theorem BeginF_no (o : Int) (w : World) (ht : tokB 2 ByteArray.empty 0 o = false) :
    Calls Try.prog 31 #[.bool false, .int .i64 o] w fun e w' => e = .returned (.tuple #[.agg #[.int .i64 0, .string ByteArray.empty, .int .i64 0, .int .i64 0], .bool false]) ∧ Below w.heap.size w w' := by
  have hx := Lib.hid ht
  clear ht
  go_enter Try.func31, Try.ntmps31
  go_wp2_with fail
  refine (mk2_no _ _ _ _ _ _ _ _ emptyLe hx.out (by simp) (by simp) (by simp)).mono ?_
  rintro e w1 ⟨rfl, hb⟩
  obtain ⟨hc, hf⟩ := bcell hb
  have hz : w.heap.size < w1.heap.size := by have := hb.size; simp at this; omega
  have hl2 : w.heap.size < w.heap.size + 1 + 1 := by omega
  go_wp2
  refine bodyPost_ret (v := .tuple #[.agg #[.int .i64 0, .string ByteArray.empty, .int .i64 0, .int .i64 0], .bool false]) (by simp [results, Try.results31, go_sem, hc, hl2]) rfl ⟨rfl, ?_⟩
  exact below4 ((((Below.refl _ _).alloc (Nat.le_refl _) _).alloc (by simp) _).trans (hb.mono (by simp; omega))) (Nat.le_refl _)
set_option maxHeartbeats 400000 in
theorem sLine_yes (o : Int) (w : World) (ht : tokB 4 ByteArray.empty 0 o = true) :
    Calls Try.prog 32 #[.int .i64 o] w fun e w' => e = .returned (.tuple #[.agg #[.int .i64 4, .string ByteArray.empty, .int .i64 0, .int .i64 o], .bool true]) ∧ Below w.heap.size w w' := by
  have hx := Lib.hid ht
  clear ht
  go_enter Try.func32, Try.ntmps32
  go_wp2_with fail
  refine (sMade_yes _ _ _ _ _ emptyLe hx.out).mono ?_
  rintro e w1 ⟨rfl, hb⟩
  obtain ⟨hc, hf⟩ := bcell hb
  have hz : w.heap.size < w1.heap.size := by have := hb.size; simp at this; omega
  go_wp2
  refine bodyPost_ret (v := .tuple #[.agg #[.int .i64 4, .string ByteArray.empty, .int .i64 0, .int .i64 o], .bool true]) (by simp [results, Try.results32, go_sem, hc]) rfl ⟨rfl, ?_⟩
  exact below4 (((Below.refl _ _).alloc (Nat.le_refl _) _).trans (hb.mono (by simp))) (Nat.le_refl _)
set_option maxHeartbeats 400000 in
theorem Line_yes (o : Int) (w : World) (ht : tokB 4 ByteArray.empty 0 o = true) :
    Calls Try.prog 33 #[.int .i64 o] w fun e w' => e = .returned (.tuple #[.agg #[.int .i64 4, .string ByteArray.empty, .int .i64 0, .int .i64 o], .bool true]) ∧ Below w.heap.size w w' := by
  have hx := Lib.hid ht
  clear ht
  go_enter Try.func33, Try.ntmps33
  go_wp2_with fail
  refine (mk1_yes _ _ _ _ _ _ _ emptyLe hx.out (by simp) (by simp)).mono ?_
  rintro e w1 ⟨rfl, hb⟩
  obtain ⟨hc, hf⟩ := bcell hb
  have hz : w.heap.size < w1.heap.size := by have := hb.size; simp at this; omega
  have hl2 : w.heap.size < w.heap.size + 1 + 1 := by omega
  go_wp2
  refine bodyPost_ret (v := .tuple #[.agg #[.int .i64 4, .string ByteArray.empty, .int .i64 0, .int .i64 o], .bool true]) (by simp [results, Try.results33, go_sem, hc, hl2]) rfl ⟨rfl, ?_⟩
  exact below4 ((((Below.refl _ _).alloc (Nat.le_refl _) _).alloc (by simp) _).trans (hb.mono (by simp; omega))) (Nat.le_refl _)
set_option maxHeartbeats 400000 in
theorem sLine_no (o : Int) (w : World) (ht : tokB 4 ByteArray.empty 0 o = false) :
    Calls Try.prog 32 #[.int .i64 o] w fun e w' => e = .returned (.tuple #[.agg #[.int .i64 0, .string ByteArray.empty, .int .i64 0, .int .i64 0], .bool false]) ∧ Below w.heap.size w w' := by
  have hx := Lib.hid ht
  clear ht
  go_enter Try.func32, Try.ntmps32
  go_wp2_with fail
  refine (sMade_no _ _ _ _ _ emptyLe hx.out).mono ?_
  rintro e w1 ⟨rfl, hb⟩
  obtain ⟨hc, hf⟩ := bcell hb
  have hz : w.heap.size < w1.heap.size := by have := hb.size; simp at this; omega
  go_wp2
  refine bodyPost_ret (v := .tuple #[.agg #[.int .i64 0, .string ByteArray.empty, .int .i64 0, .int .i64 0], .bool false]) (by simp [results, Try.results32, go_sem, hc]) rfl ⟨rfl, ?_⟩
  exact below4 (((Below.refl _ _).alloc (Nat.le_refl _) _).trans (hb.mono (by simp))) (Nat.le_refl _)
set_option maxHeartbeats 400000 in
theorem Line_no (o : Int) (w : World) (ht : tokB 4 ByteArray.empty 0 o = false) :
    Calls Try.prog 33 #[.int .i64 o] w fun e w' => e = .returned (.tuple #[.agg #[.int .i64 0, .string ByteArray.empty, .int .i64 0, .int .i64 0], .bool false]) ∧ Below w.heap.size w w' := by
  have hx := Lib.hid ht
  clear ht
  go_enter Try.func33, Try.ntmps33
  go_wp2_with fail
  refine (mk1_no _ _ _ _ _ _ _ emptyLe hx.out (by simp) (by simp)).mono ?_
  rintro e w1 ⟨rfl, hb⟩
  obtain ⟨hc, hf⟩ := bcell hb
  have hz : w.heap.size < w1.heap.size := by have := hb.size; simp at this; omega
  have hl2 : w.heap.size < w.heap.size + 1 + 1 := by omega
  go_wp2
  refine bodyPost_ret (v := .tuple #[.agg #[.int .i64 0, .string ByteArray.empty, .int .i64 0, .int .i64 0], .bool false]) (by simp [results, Try.results33, go_sem, hc, hl2]) rfl ⟨rfl, ?_⟩
  exact below4 ((((Below.refl _ _).alloc (Nat.le_refl _) _).alloc (by simp) _).trans (hb.mono (by simp; omega))) (Nat.le_refl _)
set_option maxHeartbeats 400000 in
theorem lawTxt_yes (s : ByteArray) (w : World) (hs : s.size ≤ maxLen) (hsm : s.size ≤ 1048576) (ht : tokB 0 s 0 0 = true) :
    Calls Try.prog 8 #[.string s] w fun e w' => e = .returned (.bool true) ∧ Below w.heap.size w w' := by
  have hx := Lib.hid ht
  clear ht
  go_enter Try.func8, Try.ntmps8
  go_wp2_with fail
  refine (sTxt_yes _ _ hs hx.out).mono ?_
  rintro e w1 ⟨rfl, hb1⟩
  go_wp2_with fail
  refine (Txt_yes _ _ hs hx.out).mono ?_
  rintro e w2 ⟨rfl, hb2⟩
  obtain ⟨hc, _⟩ := bcell hb2
  have hz2 : w1.heap.size < w2.heap.size := by have := hb2.size; simp at this; omega
  go_wp2_with fail
  refine (eqToken_same _ _ _ _ _).mono ?_
  rintro e w3 ⟨rfl, hb3⟩
  go_wp2
  go_ret
  have h1 := hb1.size
  have b1 : Below w.heap.size w w2 := (hb1.alloc h1 _).trans (hb2.mono (by simp; omega))
  exact ⟨rfl, (b1.alloc b1.size _).trans (hb3.mono (by have := b1.size; simp; omega))⟩
set_option maxHeartbeats 400000 in
theorem lawTxt_no (s : ByteArray) (w : World) (hs : s.size ≤ maxLen) (hsm : s.size ≤ 1048576) (ht : tokB 0 s 0 0 = false) :
    Calls Try.prog 8 #[.string s] w fun e w' => e = .returned (.bool true) ∧ Below w.heap.size w w' := by
  have hx := Lib.hid ht
  clear ht
  go_enter Try.func8, Try.ntmps8
  go_wp2_with fail
  refine (sTxt_no _ _ hs hx.out).mono ?_
  rintro e w1 ⟨rfl, hb1⟩
  go_wp2_with fail
  refine (Txt_no _ _ hs hx.out).mono ?_
  rintro e w2 ⟨rfl, hb2⟩
  obtain ⟨hc, _⟩ := bcell hb2
  have hz2 : w1.heap.size < w2.heap.size := by have := hb2.size; simp at this; omega
  go_wp2_with fail
  refine (eqToken_same _ _ _ _ _).mono ?_
  rintro e w3 ⟨rfl, hb3⟩
  go_wp2
  go_ret
  have h1 := hb1.size
  have b1 : Below w.heap.size w w2 := (hb1.alloc h1 _).trans (hb2.mono (by simp; omega))
  exact ⟨rfl, (b1.alloc b1.size _).trans (hb3.mono (by have := b1.size; simp; omega))⟩
set_option maxHeartbeats 400000 in
theorem lawBlank_yes (d o : Int) (w : World) (ht : tokB 1 ByteArray.empty d o = true) :
    Calls Try.prog 9 #[.int .i64 d, .int .i64 o] w fun e w' => e = .returned (.bool true) ∧ Below w.heap.size w w' := by
  have hx := Lib.hid ht
  clear ht
  go_enter Try.func9, Try.ntmps9
  go_wp2_with fail
  refine (sBlank_yes _ _ _ hx.out).mono ?_
  rintro e w1 ⟨rfl, hb1⟩
  go_wp2_with fail
  refine (Blank_yes _ _ _ hx.out).mono ?_
  rintro e w2 ⟨rfl, hb2⟩
  obtain ⟨hc, _⟩ := bcell hb2
  have hz2 : w1.heap.size < w2.heap.size := by have := hb2.size; simp at this; omega
  go_wp2_with fail
  refine (eqToken_same _ _ _ _ _).mono ?_
  rintro e w3 ⟨rfl, hb3⟩
  go_wp2
  go_ret
  have h1 := hb1.size
  have b1 : Below w.heap.size w w2 := (hb1.alloc h1 _).trans (hb2.mono (by simp; omega))
  exact ⟨rfl, (b1.alloc b1.size _).trans (hb3.mono (by have := b1.size; simp; omega))⟩
set_option maxHeartbeats 400000 in
theorem lawBlank_no (d o : Int) (w : World) (ht : tokB 1 ByteArray.empty d o = false) :
    Calls Try.prog 9 #[.int .i64 d, .int .i64 o] w fun e w' => e = .returned (.bool true) ∧ Below w.heap.size w w' := by
  have hx := Lib.hid ht
  clear ht
  go_enter Try.func9, Try.ntmps9
  go_wp2_with fail
  refine (sBlank_no _ _ _ hx.out).mono ?_
  rintro e w1 ⟨rfl, hb1⟩
  go_wp2_with fail
  refine (Blank_no _ _ _ hx.out).mono ?_
  rintro e w2 ⟨rfl, hb2⟩
  obtain ⟨hc, _⟩ := bcell hb2
  have hz2 : w1.heap.size < w2.heap.size := by have := hb2.size; simp at this; omega
  go_wp2_with fail
  refine (eqToken_same _ _ _ _ _).mono ?_
  rintro e w3 ⟨rfl, hb3⟩
  go_wp2
  go_ret
  have h1 := hb1.size
  have b1 : Below w.heap.size w w2 := (hb1.alloc h1 _).trans (hb2.mono (by simp; omega))
  exact ⟨rfl, (b1.alloc b1.size _).trans (hb3.mono (by have := b1.size; simp; omega))⟩
set_option maxHeartbeats 400000 in
theorem lawBeginT_yes (o : Int) (w : World) (ht : tokB 2 ByteArray.empty 1 o = true) :
    Calls Try.prog 10 #[.bool true, .int .i64 o] w fun e w' => e = .returned (.bool true) ∧ Below w.heap.size w w' := by
  have hx := Lib.hid ht
  clear ht
  go_enter Try.func10, Try.ntmps10
  go_wp2_with fail
  refine (sBeginT_yes _ _ hx.out).mono ?_
  rintro e w1 ⟨rfl, hb1⟩
  go_wp2_with fail
  refine (BeginT_yes _ _ hx.out).mono ?_
  rintro e w2 ⟨rfl, hb2⟩
  obtain ⟨hc, _⟩ := bcell hb2
  have hz2 : w1.heap.size < w2.heap.size := by have := hb2.size; simp at this; omega
  go_wp2_with fail
  refine (eqToken_same _ _ _ _ _).mono ?_
  rintro e w3 ⟨rfl, hb3⟩
  go_wp2
  go_ret
  have h1 := hb1.size
  have b1 : Below w.heap.size w w2 := (hb1.alloc h1 _).trans (hb2.mono (by simp; omega))
  exact ⟨rfl, (b1.alloc b1.size _).trans (hb3.mono (by have := b1.size; simp; omega))⟩
set_option maxHeartbeats 400000 in
theorem lawBeginT_no (o : Int) (w : World) (ht : tokB 2 ByteArray.empty 1 o = false) :
    Calls Try.prog 10 #[.bool true, .int .i64 o] w fun e w' => e = .returned (.bool true) ∧ Below w.heap.size w w' := by
  have hx := Lib.hid ht
  clear ht
  go_enter Try.func10, Try.ntmps10
  go_wp2_with fail
  refine (sBeginT_no _ _ hx.out).mono ?_
  rintro e w1 ⟨rfl, hb1⟩
  go_wp2_with fail
  refine (BeginT_no _ _ hx.out).mono ?_
  rintro e w2 ⟨rfl, hb2⟩
  obtain ⟨hc, _⟩ := bcell hb2
  have hz2 : w1.heap.size < w2.heap.size := by have := hb2.size; simp at this; omega
  go_wp2_with fail
  refine (eqToken_same _ _ _ _ _).mono ?_
  rintro e w3 ⟨rfl, hb3⟩
  go_wp2
  go_ret
  have h1 := hb1.size
  have b1 : Below w.heap.size w w2 := (hb1.alloc h1 _).trans (hb2.mono (by simp; omega))
  exact ⟨rfl, (b1.alloc b1.size _).trans (hb3.mono (by have := b1.size; simp; omega))⟩
set_option maxHeartbeats 400000 in
theorem lawBeginF_yes (o : Int) (w : World) (ht : tokB 2 ByteArray.empty 0 o = true) :
    Calls Try.prog 10 #[.bool false, .int .i64 o] w fun e w' => e = .returned (.bool true) ∧ Below w.heap.size w w' := by
  have hx := Lib.hid ht
  clear ht
  go_enter Try.func10, Try.ntmps10
  go_wp2_with fail
  refine (sBeginF_yes _ _ hx.out).mono ?_
  rintro e w1 ⟨rfl, hb1⟩
  go_wp2_with fail
  refine (BeginF_yes _ _ hx.out).mono ?_
  rintro e w2 ⟨rfl, hb2⟩
  obtain ⟨hc, _⟩ := bcell hb2
  have hz2 : w1.heap.size < w2.heap.size := by have := hb2.size; simp at this; omega
  go_wp2_with fail
  refine (eqToken_same _ _ _ _ _).mono ?_
  rintro e w3 ⟨rfl, hb3⟩
  go_wp2
  go_ret
  have h1 := hb1.size
  have b1 : Below w.heap.size w w2 := (hb1.alloc h1 _).trans (hb2.mono (by simp; omega))
  exact ⟨rfl, (b1.alloc b1.size _).trans (hb3.mono (by have := b1.size; simp; omega))⟩
set_option maxHeartbeats 400000 in
theorem lawBeginF_no (o : Int) (w : World) (ht : tokB 2 ByteArray.empty 0 o = false) :
    Calls Try.prog 10 #[.bool false, .int .i64 o] w fun e w' => e = .returned (.bool true) ∧ Below w.heap.size w w' := by
  have hx := Lib.hid ht
  clear ht
  go_enter Try.func10, Try.ntmps10
  go_wp2_with fail
  refine (sBeginF_no _ _ hx.out).mono ?_
  rintro e w1 ⟨rfl, hb1⟩
  go_wp2_with fail
  refine (BeginF_no _ _ hx.out).mono ?_
  rintro e w2 ⟨rfl, hb2⟩
  obtain ⟨hc, _⟩ := bcell hb2
  have hz2 : w1.heap.size < w2.heap.size := by have := hb2.size; simp at this; omega
  go_wp2_with fail
  refine (eqToken_same _ _ _ _ _).mono ?_
  rintro e w3 ⟨rfl, hb3⟩
  go_wp2
  go_ret
  have h1 := hb1.size
  have b1 : Below w.heap.size w w2 := (hb1.alloc h1 _).trans (hb2.mono (by simp; omega))
  exact ⟨rfl, (b1.alloc b1.size _).trans (hb3.mono (by have := b1.size; simp; omega))⟩
set_option maxHeartbeats 400000 in
theorem lawLine_yes (o : Int) (w : World) (ht : tokB 4 ByteArray.empty 0 o = true) :
    Calls Try.prog 11 #[.int .i64 o] w fun e w' => e = .returned (.bool true) ∧ Below w.heap.size w w' := by
  have hx := Lib.hid ht
  clear ht
  go_enter Try.func11, Try.ntmps11
  go_wp2_with fail
  refine (sLine_yes _ _ hx.out).mono ?_
  rintro e w1 ⟨rfl, hb1⟩
  go_wp2_with fail
  refine (Line_yes _ _ hx.out).mono ?_
  rintro e w2 ⟨rfl, hb2⟩
  obtain ⟨hc, _⟩ := bcell hb2
  have hz2 : w1.heap.size < w2.heap.size := by have := hb2.size; simp at this; omega
  go_wp2_with fail
  refine (eqToken_same _ _ _ _ _).mono ?_
  rintro e w3 ⟨rfl, hb3⟩
  go_wp2
  go_ret
  have h1 := hb1.size
  have b1 : Below w.heap.size w w2 := (hb1.alloc h1 _).trans (hb2.mono (by simp; omega))
  exact ⟨rfl, (b1.alloc b1.size _).trans (hb3.mono (by have := b1.size; simp; omega))⟩
set_option maxHeartbeats 400000 in
theorem lawLine_no (o : Int) (w : World) (ht : tokB 4 ByteArray.empty 0 o = false) :
    Calls Try.prog 11 #[.int .i64 o] w fun e w' => e = .returned (.bool true) ∧ Below w.heap.size w w' := by
  have hx := Lib.hid ht
  clear ht
  go_enter Try.func11, Try.ntmps11
  go_wp2_with fail
  refine (sLine_no _ _ hx.out).mono ?_
  rintro e w1 ⟨rfl, hb1⟩
  go_wp2_with fail
  refine (Line_no _ _ hx.out).mono ?_
  rintro e w2 ⟨rfl, hb2⟩
  obtain ⟨hc, _⟩ := bcell hb2
  have hz2 : w1.heap.size < w2.heap.size := by have := hb2.size; simp at this; omega
  go_wp2_with fail
  refine (eqToken_same _ _ _ _ _).mono ?_
  rintro e w3 ⟨rfl, hb3⟩
  go_wp2
  go_ret
  have h1 := hb1.size
  have b1 : Below w.heap.size w w2 := (hb1.alloc h1 _).trans (hb2.mono (by simp; omega))
  exact ⟨rfl, (b1.alloc b1.size _).trans (hb3.mono (by have := b1.size; simp; omega))⟩
set_option maxHeartbeats 400000 in
theorem lawTxt_big (s : ByteArray) (w : World) (hs : s.size ≤ maxLen) (hbig : 1048576 < s.size) :
    Calls Try.prog 8 #[.string s] w fun e w' => e = .returned (.bool true) ∧ Below w.heap.size w w' := by
  unfold maxLen at hs
  go_enter Try.func8, Try.ntmps8
  go_wp2
  go_ret
  exact ⟨rfl, Below.refl _ _⟩
theorem lawTxt (s : ByteArray) (w : World) (hs : s.size ≤ maxLen) :
    Calls Try.prog 8 #[.string s] w fun e w' => e = .returned (.bool true) ∧ Below w.heap.size w w' := by
  by_cases h : 1048576 < s.size
  · exact lawTxt_big s w hs h
  · cases ht : tokB 0 s 0 0
    · exact lawTxt_no s w hs (by omega) ht
    · exact lawTxt_yes s w hs (by omega) ht
theorem lawBlank (d o : Int) (w : World) :
    Calls Try.prog 9 #[.int .i64 d, .int .i64 o] w fun e w' => e = .returned (.bool true) ∧ Below w.heap.size w w' := by
  cases ht : tokB 1 ByteArray.empty d o
  · exact lawBlank_no d o w ht
  · exact lawBlank_yes d o w ht
theorem lawBegin (b : Bool) (o : Int) (w : World) :
    Calls Try.prog 10 #[.bool b, .int .i64 o] w fun e w' => e = .returned (.bool true) ∧ Below w.heap.size w w' := by
  cases b
  · cases ht : tokB 2 ByteArray.empty 0 o
    · exact lawBeginF_no o w ht
    · exact lawBeginF_yes o w ht
  · cases ht : tokB 2 ByteArray.empty 1 o
    · exact lawBeginT_no o w ht
    · exact lawBeginT_yes o w ht
theorem lawLine (o : Int) (w : World) :
    Calls Try.prog 11 #[.int .i64 o] w fun e w' => e = .returned (.bool true) ∧ Below w.heap.size w w' := by
  cases ht : tokB 4 ByteArray.empty 0 o
  · exact lawLine_no o w ht
  · exact lawLine_yes o w ht
end Go.Proofs.Ytmebcgifmjlbfaa
