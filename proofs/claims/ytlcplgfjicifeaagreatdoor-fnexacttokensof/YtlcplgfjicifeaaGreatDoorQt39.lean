/-
  The model's small functions about tokens of a tree.
-/
import Derived.Test.YtlcplgfjicifeaaGreatDoorQt36
import Derived.Test.YtlcplgfjicifeaaGreatDoorQt37
import Derived.Test.YtlcplgfjicifeaaGreatDoorQt38
namespace Go.Proofs.YtlcplgfjicifeaaGreatDoor
open Go.RowKit
set_option linter.unusedVariables false

set_option maxHeartbeats 400000 in
theorem l08Of_any (s : Sy) (k : Int) (w : World) : Calls Tryz.prog 129 #[s.val, .int .i64 k] w (fun e w' => e = .returned (.int .i64 (s.of k)) ∧ Below w.heap.size w w') := by
  have hb := (Below.refl w.heap.size w).alloc (Nat.le_refl _) (.cells #[.int .i64 s.r, .int .i64 s.q, .int .i64 s.c, .int .i64 s.h, .int .i64 s.g] 29)
  unfold Sy.val Sy.of
  go_enter Tryz.func129, Tryz.ntmps129
  by_cases h3 : k = 3
  · subst h3
    go_wp2
    go_ret
    exact ⟨rfl, hb⟩
  · by_cases h4 : k = 4
    · subst h4
      go_wp2
      go_ret
      exact ⟨rfl, hb⟩
    · rw [if_neg h3, if_neg h4]
      have e3 : (k == 3) = false := by simpa using h3
      have e4 : (k == 4) = false := by simpa using h4
      go_wp2
      go_ret
      exact ⟨rfl, hb⟩
theorem l08Txt_any (t : ByteArray) (w : World) :
    Calls Tryz.prog 128 #[.string t] w fun e w' => e = .returned (.agg #[.int .i64 0, .string t, .int .i64 0, .int .i64 0]) ∧ Below w.heap.size w w' := by
  have hb := (Below.refl w.heap.size w).alloc (Nat.le_refl _) (.cells #[.int .i64 0, .string t, .int .i64 0, .int .i64 0] 48)
  go_enter Tryz.func128, Tryz.ntmps128
  go_wp2
  refine bodyPost_ret (v := .agg #[.int .i64 0, .string t, .int .i64 0, .int .i64 0]) (by simp [results, Tryz.results128, go_sem]) rfl ⟨rfl, ?_⟩
  exact hb
set_option maxHeartbeats 2000000 in
set_option maxRecDepth 100000 in
theorem l08Join_any (A B : Option Addr) (a b : List Tk) (n c m d : Nat) (w : World) (hn : a.length = n) (hm : b.length = m) (hn2 : n ≤ 100000) (hm2 : m ≤ 100000) (ha : TS w A a) (hb : TS w B b) :
    Calls Tryz.prog 64 #[.slice A n c, .slice B m d] w (TkO w (a ++ b)) := by
  obtain ⟨i0, hi0, hz0, hz1, hz2⟩ := info_parts infoTk
  have HM := Lib.hid hm
  have HB0 := Lib.hid hb
  have HC := Lib.hid (sCopy_any A a n c w hn (by omega) ha)
  have HN := Lib.hid hn
  clear hm hb ha hn
  go_enter Tryz.func64, Tryz.ntmps64
  go_wp2_with fail
  refine HC.out.mono ?_
  rintro e w1 ⟨v1, rfl, ho1, hb1⟩
  rw [HN.out] at ho1
  have HO1 := Lib.hid ho1
  have HB1 := Lib.hid hb1
  clear ho1 hb1 HC
  go_wp2
  go_loopw [5, 6] (fun v i wr => ∃ k : Nat, k ≤ m ∧ i = .int .i64 k ∧ wr.ownsRow w.heap.size 48 4 v (n + k) (flat (a ++ b.take k)) ∧ Below w.heap.size w wr) (fun _ i _ => m - (intOf i).toNat)
  case atStart => exact ⟨0, Nat.zero_le _, rfl, by simpa using HO1.out, HB1.out⟩
  case round =>
    obtain ⟨k, hk, rfl, hown, hbw⟩ := hrel
    have HO := Lib.hid hown
    have HB := Lib.hid hbw
    have hz := hbw.size
    have hTB := HB0.out.below hbw
    clear hown hbw
    by_cases hkl : k < m
    · obtain ⟨t, g, o, ht, rfl, hbl, _⟩ := hTB.at (k := k) (by have := HM.out; omega)
      obtain ⟨hbl', c0, c1, c2, c3⟩ := hTB.get ht
      have HT := Lib.hid (show flat (a ++ b.take k) ++ [Value.int .i64 t.k, .string t.s, .int .i64 t.d, .int .i64 t.o] = flat (a ++ b.take (k + 1)) from by rw [List.take_add_one, ht, ← List.append_assoc, flat_append (a ++ b.take k)]; rfl)
      clear ht hTB
      go_wp2_with (at_builtin; refine wpList_append_own _ rfl _ _ 26 rfl w.heap.size 48 i0 (.agg #[.int .i64 0, .string ByteArray.empty, .int .i64 0, .int .i64 0]) 4 40 Tryz.underlying26 hi0 hz0 hz1 hz2 rfl (by decide) _ _ _ rfl (HO.out.alloc _) ⟨wr.heap.size, 0, none⟩ 1 1 [.int .i64 t.k, .string t.s, .int .i64 t.d, .int .i64 t.o] rfl rfl (cell_four_new _ _ _ _ _ _) (by simp [Value.oneCell']) (by simp only [maxLen]; omega) (by omega) (by simp; omega) ?_; intro v' w3 hown3 hgrow3 _; have HB3 := Lib.hid (app_below HB.out HO.out hgrow3); have HO3 := Lib.hid hown3; clear hown3 hgrow3)
      go_roundw
      case rel => exact ⟨k + 1, by omega, by go_num, HT.out ▸ HO3.out, HB3.out⟩
      case measure => simp [intOf]; omega
    · have hkn : k = m := by omega
      have HKN := Lib.hid hkn
      clear hkn hTB
      go_wp2
      go_ret
      have e1 := HKN.out
      have e2 := HM.out
      have e3 := HN.out
      subst e1 e2 e3
      have h := HO.out
      rw [List.take_of_length_le (Nat.le_refl _), ← fl_flat] at h
      exact ⟨_, rfl, own_n (by simp) h, HB.out⟩
/-- what the model lays behind a child of a block. -/
def ptM (s : Sy) (k ky n : Int) (key : Bool) : Tk := if ky = 2 then tL else if k = 5 ∧ key = true then tK 1 else if k = 3 ∧ s.r % 2 = 0 ∧ n ≤ s.h then tK 2 else tK 0
set_option maxHeartbeats 2000000 in
theorem l08Part_any (s : Sy) (hr : 0 ≤ s.r ∧ s.r ≤ 3) (k kd ky n : Int) (t : ByteArray) (key : Bool) (w : World) : Calls Tryz.prog 130 #[s.val, .int .i64 k, .agg #[.int .i64 kd, .int .i64 ky, .string t], .int .i64 n, .bool key] w (fun e w' => e = .returned (tkV (ptM s k ky n key)) ∧ Below w.heap.size w w') := by
  unfold Sy.val
  go_enter Tryz.func130, Tryz.ntmps130
  by_cases h2 : ky = 2
  · have e : ptM s k ky n key = tL := if_pos h2
    rw [e]
    clear e
    subst h2
    go_wp2
    refine bodyPost_ret (v := .agg #[.int .i64 4, .string ByteArray.empty, .int .i64 0, .int .i64 0]) (by simp [results, Tryz.results130, go_sem] <;> rfl) rfl ⟨rfl, (((Below.refl w.heap.size w).alloc (Nat.le_refl _) _).alloc (by simp) _).alloc (by simp; omega) _⟩
  have e2 : (ky == 2) = false := by simpa using h2
  by_cases h5 : k = 5 ∧ key = true
  · have e : ptM s k ky n key = tK 1 := by unfold ptM; rw [if_neg h2, if_pos h5]
    rw [e]
    obtain ⟨rfl, rfl⟩ := h5
    clear e
    go_wp2
    refine bodyPost_ret (v := .agg #[.int .i64 1, .string ByteArray.empty, .int .i64 1, .int .i64 1]) (by simp [results, Tryz.results130, go_sem] <;> rfl) rfl ⟨rfl, (((Below.refl w.heap.size w).alloc (Nat.le_refl _) _).alloc (by simp) _).alloc (by simp; omega) _⟩
  have e5 : ((k == 5) && key) = false := by
    cases key
    · simp
    · simp at h5; simp [h5]
  by_cases h3 : k = 3 ∧ s.r % 2 = 0 ∧ n ≤ s.h
  · have e : ptM s k ky n key = tK 2 := by unfold ptM; rw [if_neg h2, if_neg h5, if_pos h3]
    rw [e]
    obtain ⟨rfl, h6, h7⟩ := h3
    clear e e5 h5
    go_wp2
    refine bodyPost_ret (v := .agg #[.int .i64 1, .string ByteArray.empty, .int .i64 1, .int .i64 2]) (by simp [results, Tryz.results130, go_sem] <;> rfl) rfl ⟨rfl, (((Below.refl w.heap.size w).alloc (Nat.le_refl _) _).alloc (by simp) _).alloc (by simp; omega) _⟩
  have e : ptM s k ky n key = tK 0 := by unfold ptM; rw [if_neg h2, if_neg h5, if_neg h3]
  rw [e]
  clear e
  by_cases k5 : k = 5
  · have hkf : key = false := by
      cases key
      · rfl
      · exact absurd ⟨k5, rfl⟩ h5
    subst k5 hkf
    clear e5 h5 h3
    go_wp2
    refine bodyPost_ret (v := .agg #[.int .i64 1, .string ByteArray.empty, .int .i64 1, .int .i64 0]) (by simp [results, Tryz.results130, go_sem] <;> rfl) rfl ⟨rfl, (((Below.refl w.heap.size w).alloc (Nat.le_refl _) _).alloc (by simp) _).alloc (by simp; omega) _⟩
  have k5b : (k == 5) = false := by simpa using k5
  clear e5 h5
  by_cases k3 : k = 3
  · subst k3
    by_cases hr0 : s.r % 2 = 0
    · have hnh : ¬ n ≤ s.h := fun h => h3 ⟨rfl, hr0, h⟩
      clear h3
      go_wp2
      refine bodyPost_ret (v := .agg #[.int .i64 1, .string ByteArray.empty, .int .i64 1, .int .i64 0]) (by simp [results, Tryz.results130, go_sem] <;> rfl) rfl ⟨rfl, (((Below.refl w.heap.size w).alloc (Nat.le_refl _) _).alloc (by simp) _).alloc (by simp; omega) _⟩
    · have hr1 : s.r % 2 = 1 := by omega
      clear h3
      go_wp2
      refine bodyPost_ret (v := .agg #[.int .i64 1, .string ByteArray.empty, .int .i64 1, .int .i64 0]) (by simp [results, Tryz.results130, go_sem] <;> rfl) rfl ⟨rfl, (((Below.refl w.heap.size w).alloc (Nat.le_refl _) _).alloc (by simp) _).alloc (by simp; omega) _⟩
  have k3b : (k == 3) = false := by simpa using k3
  clear h3
  go_wp2
  refine bodyPost_ret (v := .agg #[.int .i64 1, .string ByteArray.empty, .int .i64 1, .int .i64 0]) (by simp [results, Tryz.results130, go_sem] <;> rfl) rfl ⟨rfl, (((Below.refl w.heap.size w).alloc (Nat.le_refl _) _).alloc (by simp) _).alloc (by simp; omega) _⟩
end Go.Proofs.YtlcplgfjicifeaaGreatDoor
