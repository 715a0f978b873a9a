/-
  Made tokens on both sides: l01Made, makeToken, Txt, Blank, Begin, Line; eqToken; the walks of their laws.
-/
import Derived.Test.YteoigpohmgjcbaaLaw1
namespace Go.Proofs.Yteoigpohmgjcbaa
open Go.RowKit

/-- The token and true, or the zero value and false. -/
def madeV (k : Int) (s : ByteArray) (d o : Int) : Value := if tokB k s d o = true then .agg #[.int .i64 k, .string s, .int .i64 d, .int .i64 o] else .agg #[.int .i64 0, .string ByteArray.empty, .int .i64 0, .int .i64 0]
theorem madeV_yes {k : Int} {s : ByteArray} {d o : Int} (h : tokB k s d o = true) : madeV k s d o = .agg #[.int .i64 k, .string s, .int .i64 d, .int .i64 o] := if_pos h
theorem madeV_no {k : Int} {s : ByteArray} {d o : Int} (h : tokB k s d o = false) : madeV k s d o = .agg #[.int .i64 0, .string ByteArray.empty, .int .i64 0, .int .i64 0] := if_neg (by simp [h])

set_option maxHeartbeats 400000 in
theorem eqToken_same (k : Int) (s : ByteArray) (d o : Int) (w : World) :
    Calls Try.prog 40 #[.agg #[.int .i64 k, .string s, .int .i64 d, .int .i64 o], .agg #[.int .i64 k, .string s, .int .i64 d, .int .i64 o]] w fun e w' => e = .returned (.bool true) ∧ Below w.heap.size w w' := by
  go_enter Try.func40, Try.ntmps40
  go_wp2
  go_ret
  exact ⟨rfl, ((Below.refl _ _).alloc (Nat.le_refl _) _).alloc (by simp) _⟩

theorem below4 {B b : Nat} {a w : World} {v0 v1 v2 v3 : Value} (h : Below B a w) (hb : B ≤ b) :
    Below B a ((((w.setCell ⟨b, 0, none⟩ v0).setCell ⟨b, 1, none⟩ v1).setCell ⟨b, 2, none⟩ v2).setCell ⟨b, 3, none⟩ v3) :=
  (((h.setCell hb _).setCell hb _).setCell hb _).setCell hb _

theorem bcell {W w1 : World} (hb : Below W.heap.size W w1) : (∀ b o, b < W.heap.size → w1.cell? ⟨b, o, none⟩ = W.cell? ⟨b, o, none⟩) ∧ (∀ b o, b < W.heap.size → w1.frozen? ⟨b, o, none⟩ = W.frozen? ⟨b, o, none⟩) :=
  ⟨fun b o h => hb.cell (p := ⟨b, o, none⟩) h, fun b o h => hb.frozen (p := ⟨b, o, none⟩) h⟩

set_option maxHeartbeats 400000 in
theorem mk0_yes (k : Int) (s : ByteArray)  (w : World) (hs : s.size ≤ maxLen) (ht : tokB k s 0 0 = true) :
    Calls Try.prog 75 #[.int .i64 k, .string s, .slice none 0 0] w fun e w' => e = .returned (.tuple #[.agg #[.int .i64 k, .string s, .int .i64 0, .int .i64 0], .bool true]) ∧ Below w.heap.size w w' := by
  have hx := Lib.hid ht
  clear ht
  go_enter Try.func75, Try.ntmps75
  go_wp2_with fail
  skip
  skip
  refine (TokenOk_any _ _ _ _ _ hs).mono ?_
  rintro e w1 ⟨rfl, hb⟩
  rw [hx.out]
  obtain ⟨hc, hf⟩ := bcell hb
  have hz : w.heap.size + 1 < w1.heap.size := by have := hb.size; simp at this; omega
  have hl2 : w.heap.size < w.heap.size + 1 + 1 := by omega
  go_wp2
  refine bodyPost_ret (v := .tuple #[.agg #[.int .i64 k, .string s, .int .i64 0, .int .i64 0], .bool true]) (by simp [results, Try.results75, go_sem, hc, hl2]) rfl ⟨rfl, ?_⟩
  exact below4 ((((Below.refl _ _).alloc (Nat.le_refl _) _).alloc (by simp) _).trans (hb.mono (by simp; omega))) (by omega)
set_option maxHeartbeats 400000 in
theorem mk0_no (k : Int) (s : ByteArray)  (w : World) (hs : s.size ≤ maxLen) (ht : tokB k s 0 0 = false) :
    Calls Try.prog 75 #[.int .i64 k, .string s, .slice none 0 0] w fun e w' => e = .returned (.tuple #[.agg #[.int .i64 0, .string ByteArray.empty, .int .i64 0, .int .i64 0], .bool false]) ∧ Below w.heap.size w w' := by
  have hx := Lib.hid ht
  clear ht
  go_enter Try.func75, Try.ntmps75
  go_wp2_with fail
  skip
  skip
  refine (TokenOk_any _ _ _ _ _ hs).mono ?_
  rintro e w1 ⟨rfl, hb⟩
  rw [hx.out]
  obtain ⟨hc, hf⟩ := bcell hb
  have hz : w.heap.size + 1 < w1.heap.size := by have := hb.size; simp at this; omega
  have hl2 : w.heap.size < w.heap.size + 1 + 1 := by omega
  go_wp2
  refine bodyPost_ret (v := .tuple #[.agg #[.int .i64 0, .string ByteArray.empty, .int .i64 0, .int .i64 0], .bool false]) (by simp [results, Try.results75, go_sem, hc, hl2]; rfl) rfl ⟨rfl, ?_⟩
  exact below4 ((((Below.refl _ _).alloc (Nat.le_refl _) _).alloc (by simp) _).trans (hb.mono (by simp; omega))) (by omega)
set_option maxHeartbeats 400000 in
theorem mk1_yes (k : Int) (s : ByteArray) (o : Int) (b off cap : Nat) (w : World) (hs : s.size ≤ maxLen) (ht : tokB k s 0 o = true) (hlt : b < w.heap.size) (hcell : w.cell? ⟨b, off, none⟩ = some (.int .i64 o)) :
    Calls Try.prog 75 #[.int .i64 k, .string s, .slice (some ⟨b, off, none⟩) 1 cap] w fun e w' => e = .returned (.tuple #[.agg #[.int .i64 k, .string s, .int .i64 0, .int .i64 o], .bool true]) ∧ Below w.heap.size w w' := by
  have hx := Lib.hid ht
  clear ht
  go_enter Try.func75, Try.ntmps75
  go_wp2_with fail
  skip
  skip
  refine (TokenOk_any _ _ _ _ _ hs).mono ?_
  rintro e w1 ⟨rfl, hb⟩
  rw [hx.out]
  obtain ⟨hc, hf⟩ := bcell hb
  have hz : w.heap.size + 1 < w1.heap.size := by have := hb.size; simp at this; omega
  have hl2 : w.heap.size < w.heap.size + 1 + 1 := by omega
  go_wp2
  refine bodyPost_ret (v := .tuple #[.agg #[.int .i64 k, .string s, .int .i64 0, .int .i64 o], .bool true]) (by simp [results, Try.results75, go_sem, hc, hl2]) rfl ⟨rfl, ?_⟩
  exact below4 ((((Below.refl _ _).alloc (Nat.le_refl _) _).alloc (by simp) _).trans (hb.mono (by simp; omega))) (by omega)
set_option maxHeartbeats 400000 in
theorem mk1_no (k : Int) (s : ByteArray) (o : Int) (b off cap : Nat) (w : World) (hs : s.size ≤ maxLen) (ht : tokB k s 0 o = false) (hlt : b < w.heap.size) (hcell : w.cell? ⟨b, off, none⟩ = some (.int .i64 o)) :
    Calls Try.prog 75 #[.int .i64 k, .string s, .slice (some ⟨b, off, none⟩) 1 cap] w fun e w' => e = .returned (.tuple #[.agg #[.int .i64 0, .string ByteArray.empty, .int .i64 0, .int .i64 0], .bool false]) ∧ Below w.heap.size w w' := by
  have hx := Lib.hid ht
  clear ht
  go_enter Try.func75, Try.ntmps75
  go_wp2_with fail
  skip
  skip
  refine (TokenOk_any _ _ _ _ _ hs).mono ?_
  rintro e w1 ⟨rfl, hb⟩
  rw [hx.out]
  obtain ⟨hc, hf⟩ := bcell hb
  have hz : w.heap.size + 1 < w1.heap.size := by have := hb.size; simp at this; omega
  have hl2 : w.heap.size < w.heap.size + 1 + 1 := by omega
  go_wp2
  refine bodyPost_ret (v := .tuple #[.agg #[.int .i64 0, .string ByteArray.empty, .int .i64 0, .int .i64 0], .bool false]) (by simp [results, Try.results75, go_sem, hc, hl2]; rfl) rfl ⟨rfl, ?_⟩
  exact below4 ((((Below.refl _ _).alloc (Nat.le_refl _) _).alloc (by simp) _).trans (hb.mono (by simp; omega))) (by omega)
set_option maxHeartbeats 400000 in
theorem mk2_yes (k : Int) (s : ByteArray) (d o : Int) (b off cap : Nat) (w : World) (hs : s.size ≤ maxLen) (ht : tokB k s d o = true) (hlt : b < w.heap.size) (hcell : w.cell? ⟨b, off, none⟩ = some (.int .i64 d)) (hcell2 : w.cell? ⟨b, off + 1, none⟩ = some (.int .i64 o)) :
    Calls Try.prog 75 #[.int .i64 k, .string s, .slice (some ⟨b, off, none⟩) 2 cap] w fun e w' => e = .returned (.tuple #[.agg #[.int .i64 k, .string s, .int .i64 d, .int .i64 o], .bool true]) ∧ Below w.heap.size w w' := by
  have hx := Lib.hid ht
  clear ht
  go_enter Try.func75, Try.ntmps75
  go_wp2_with fail
  go_region
  go_wp2_with fail
  refine (TokenOk_any _ _ _ _ _ hs).mono ?_
  rintro e w1 ⟨rfl, hb⟩
  rw [hx.out]
  obtain ⟨hc, hf⟩ := bcell hb
  have hz : w.heap.size + 1 < w1.heap.size := by have := hb.size; simp at this; omega
  have hl2 : w.heap.size < w.heap.size + 1 + 1 := by omega
  go_wp2
  refine bodyPost_ret (v := .tuple #[.agg #[.int .i64 k, .string s, .int .i64 d, .int .i64 o], .bool true]) (by simp [results, Try.results75, go_sem, hc, hl2]) rfl ⟨rfl, ?_⟩
  exact below4 (((((Below.refl _ _).alloc (Nat.le_refl _) _).alloc (by simp) _).drew).trans (hb.mono (by simp; omega))) (by omega)
set_option maxHeartbeats 400000 in
theorem mk2_no (k : Int) (s : ByteArray) (d o : Int) (b off cap : Nat) (w : World) (hs : s.size ≤ maxLen) (ht : tokB k s d o = false) (hlt : b < w.heap.size) (hcell : w.cell? ⟨b, off, none⟩ = some (.int .i64 d)) (hcell2 : w.cell? ⟨b, off + 1, none⟩ = some (.int .i64 o)) :
    Calls Try.prog 75 #[.int .i64 k, .string s, .slice (some ⟨b, off, none⟩) 2 cap] w fun e w' => e = .returned (.tuple #[.agg #[.int .i64 0, .string ByteArray.empty, .int .i64 0, .int .i64 0], .bool false]) ∧ Below w.heap.size w w' := by
  have hx := Lib.hid ht
  clear ht
  go_enter Try.func75, Try.ntmps75
  go_wp2_with fail
  go_region
  go_wp2_with fail
  refine (TokenOk_any _ _ _ _ _ hs).mono ?_
  rintro e w1 ⟨rfl, hb⟩
  rw [hx.out]
  obtain ⟨hc, hf⟩ := bcell hb
  have hz : w.heap.size + 1 < w1.heap.size := by have := hb.size; simp at this; omega
  have hl2 : w.heap.size < w.heap.size + 1 + 1 := by omega
  go_wp2
  refine bodyPost_ret (v := .tuple #[.agg #[.int .i64 0, .string ByteArray.empty, .int .i64 0, .int .i64 0], .bool false]) (by simp [results, Try.results75, go_sem, hc, hl2]; rfl) rfl ⟨rfl, ?_⟩
  exact below4 (((((Below.refl _ _).alloc (Nat.le_refl _) _).alloc (by simp) _).drew).trans (hb.mono (by simp; omega))) (by omega)
end Go.Proofs.Yteoigpohmgjcbaa
