/-
  Txt, Blank, Begin and Line on both sides, and the walks of their laws.
-/
import Derived.Test.YteoigpohmgjcbaaLaw2
namespace Go.Proofs.Yteoigpohmgjcbaa
open Go.RowKit

theorem emptyLe : ByteArray.empty.size ≤ maxLen := Nat.zero_le _

set_option maxHeartbeats 400000 in
theorem BeginT_yes (o : Int) (w : World) (ht : tokB 2 ByteArray.empty 1 o = true) :
    Calls Try.prog 55 #[.bool true, .int .i64 o] w fun e w' => e = .returned (.tuple #[.agg #[.int .i64 2, .string ByteArray.empty, .int .i64 1, .int .i64 o], .bool true]) ∧ Below w.heap.size w w' := by
  have hx := Lib.hid ht
  clear ht
  go_enter Try.func55, Try.ntmps55
  go_wp2_with fail
  refine (mk2_yes _ _ _ _ _ _ _ _ emptyLe hx.out (by simp) (by simp) (by simp)).mono ?_
  rintro e w1 ⟨rfl, hb⟩
  obtain ⟨hc, hf⟩ := bcell hb
  have hz : w.heap.size < w1.heap.size := by have := hb.size; simp at this; omega
  have hl2 : w.heap.size < w.heap.size + 1 + 1 := by omega
  go_wp2
  refine bodyPost_ret (v := .tuple #[.agg #[.int .i64 2, .string ByteArray.empty, .int .i64 1, .int .i64 o], .bool true]) (by simp [results, Try.results55, go_sem, hc, hl2]) rfl ⟨rfl, ?_⟩
  exact below4 ((((Below.refl _ _).alloc (Nat.le_refl _) _).alloc (by simp) _).trans (hb.mono (by simp; omega))) (Nat.le_refl _)
set_option maxHeartbeats 400000 in
theorem BeginT_no (o : Int) (w : World) (ht : tokB 2 ByteArray.empty 1 o = false) :
    Calls Try.prog 55 #[.bool true, .int .i64 o] w fun e w' => e = .returned (.tuple #[.agg #[.int .i64 0, .string ByteArray.empty, .int .i64 0, .int .i64 0], .bool false]) ∧ Below w.heap.size w w' := by
  have hx := Lib.hid ht
  clear ht
  go_enter Try.func55, Try.ntmps55
  go_wp2_with fail
  refine (mk2_no _ _ _ _ _ _ _ _ emptyLe hx.out (by simp) (by simp) (by simp)).mono ?_
  rintro e w1 ⟨rfl, hb⟩
  obtain ⟨hc, hf⟩ := bcell hb
  have hz : w.heap.size < w1.heap.size := by have := hb.size; simp at this; omega
  have hl2 : w.heap.size < w.heap.size + 1 + 1 := by omega
  go_wp2
  refine bodyPost_ret (v := .tuple #[.agg #[.int .i64 0, .string ByteArray.empty, .int .i64 0, .int .i64 0], .bool false]) (by simp [results, Try.results55, go_sem, hc, hl2]) rfl ⟨rfl, ?_⟩
  exact below4 ((((Below.refl _ _).alloc (Nat.le_refl _) _).alloc (by simp) _).trans (hb.mono (by simp; omega))) (Nat.le_refl _)
set_option maxHeartbeats 400000 in
theorem BeginF_yes (o : Int) (w : World) (ht : tokB 2 ByteArray.empty 0 o = true) :
    Calls Try.prog 55 #[.bool false, .int .i64 o] w fun e w' => e = .returned (.tuple #[.agg #[.int .i64 2, .string ByteArray.empty, .int .i64 0, .int .i64 o], .bool true]) ∧ Below w.heap.size w w' := by
  have hx := Lib.hid ht
  clear ht
  go_enter Try.func55, Try.ntmps55
  go_wp2_with fail
  refine (mk2_yes _ _ _ _ _ _ _ _ emptyLe hx.out (by simp) (by simp) (by simp)).mono ?_
  rintro e w1 ⟨rfl, hb⟩
  obtain ⟨hc, hf⟩ := bcell hb
  have hz : w.heap.size < w1.heap.size := by have := hb.size; simp at this; omega
  have hl2 : w.heap.size < w.heap.size + 1 + 1 := by omega
  go_wp2
  refine bodyPost_ret (v := .tuple #[.agg #[.int .i64 2, .string ByteArray.empty, .int .i64 0, .int .i64 o], .bool true]) (by simp [results, Try.results55, go_sem, hc, hl2]) rfl ⟨rfl, ?_⟩
  exact below4 ((((Below.refl _ _).alloc (Nat.le_refl _) _).alloc (by simp) _).trans (hb.mono (by simp; omega))) (Nat.le_refl _)
set_option maxHeartbeats 400000 in
theorem BeginF_no (o : Int) (w : World) (ht : tokB 2 ByteArray.empty 0 o = false) :
    Calls Try.prog 55 #[.bool false, .int .i64 o] w fun e w' => e = .returned (.tuple #[.agg #[.int .i64 0, .string ByteArray.empty, .int .i64 0, .int .i64 0], .bool false]) ∧ Below w.heap.size w w' := by
  have hx := Lib.hid ht
  clear ht
  go_enter Try.func55, Try.ntmps55
  go_wp2_with fail
  refine (mk2_no _ _ _ _ _ _ _ _ emptyLe hx.out (by simp) (by simp) (by simp)).mono ?_
  rintro e w1 ⟨rfl, hb⟩
  obtain ⟨hc, hf⟩ := bcell hb
  have hz : w.heap.size < w1.heap.size := by have := hb.size; simp at this; omega
  have hl2 : w.heap.size < w.heap.size + 1 + 1 := by omega
  go_wp2
  refine bodyPost_ret (v := .tuple #[.agg #[.int .i64 0, .string ByteArray.empty, .int .i64 0, .int .i64 0], .bool false]) (by simp [results, Try.results55, go_sem, hc, hl2]) rfl ⟨rfl, ?_⟩
  exact below4 ((((Below.refl _ _).alloc (Nat.le_refl _) _).alloc (by simp) _).trans (hb.mono (by simp; omega))) (Nat.le_refl _)
end Go.Proofs.Yteoigpohmgjcbaa
