/-
  The ring: its memory in plain words, and its small methods (how many it holds, places, what stands there).
-/
import Derived.Test.YtkpkchlbljlbnaaInts
import Derived.Laws.LoneSync
import Derived.Deep.RegionWith
import Derived.Deep.RegionLaw
import Derived.IntWalk
namespace Go.Proofs.Ytkpkchlbljlbnaa
open Go.RowKit
set_option linter.unusedVariables false

/-- the cells of a ring: its slots, zeros behind them, how many slots, its head, its count. -/
def rgC (s : List Int) (h q : Nat) : List Value := nums s ++ (nums (List.replicate (64 - s.length) 0) ++ [.int .i64 s.length, .int .i64 h, .int .i64 q])
theorem nums_length (s : List Int) : (nums s).length = s.length := by simp [nums]
theorem rgC_slot {s : List Int} {h q i : Nat} {x : Int} (hx : s[i]? = some x) : (rgC s h q)[i]? = some (.int .i64 x) := by
  have hi : i < s.length := (List.getElem?_eq_some_iff.1 hx).1
  unfold rgC
  rw [List.getElem?_append_left (by rw [nums_length]; exact hi)]
  exact nums_at hx
theorem rgC_tail {s : List Int} {h q : Nat} (h4 : s.length ≤ 64) (j : Nat) : (rgC s h q)[64 + j]? = [Value.int .i64 s.length, .int .i64 h, .int .i64 q][j]? := by
  unfold rgC
  rw [List.getElem?_append_right (by rw [nums_length]; omega), List.getElem?_append_right (by simp [nums]; omega)]
  congr 1
  simp [nums]
  omega
theorem rgC_length {s : List Int} {h q : Nat} (h4 : s.length ≤ 64) : (rgC s h q).length = 67 := by simp [rgC, nums]; omega
theorem rgC_set {s : List Int} {h q i : Nat} (hi : i < s.length) (x : Int) : (rgC s h q).set i (.int .i64 x) = rgC (s.set i x) h q := by
  unfold rgC
  rw [List.set_append_left _ _ (by rw [nums_length]; exact hi)]
  simp [nums]
theorem rgC_setTail {s : List Int} {h q : Nat} (h4 : s.length ≤ 64) (j : Nat) (v : Value) : (rgC s h q).set (64 + j) v = nums s ++ (nums (List.replicate (64 - s.length) 0) ++ ([Value.int .i64 s.length, .int .i64 h, .int .i64 q].set j v)) := by
  unfold rgC
  rw [List.set_append_right _ _ (by rw [nums_length]; omega), List.set_append_right _ _ (by simp [nums]; omega)]
  congr 3
  simp [nums]
  omega
theorem rgC_setH {s : List Int} {h q : Nat} (h4 : s.length ≤ 64) (x : Nat) : (rgC s h q).set 65 (.int .i64 x) = rgC s x q := rgC_setTail h4 1 _
theorem rgC_setQ {s : List Int} {h q : Nat} (h4 : s.length ≤ 64) (x : Nat) : (rgC s h q).set 66 (.int .i64 x) = rgC s h x := rgC_setTail h4 2 _

/-- head and count are within the slots. -/
structure RgB (s : List Int) (h q : Nat) : Prop where
  n1 : 1 ≤ s.length
  n2 : s.length ≤ 64
  h1 : h < s.length
  q1 : q ≤ s.length
def RgM (w : World) (b : Nat) (s : List Int) (h q : Nat) : Prop := BlkL w b 86 (rgC s h q)
theorem RgM.slot {w : World} {b : Nat} {s : List Int} {h q i : Nat} {x : Int} (H : RgM w b s h q) (hx : s[i]? = some x) : w.cell? ⟨b, i, none⟩ = some (.int .i64 x) := (BlkL.cell H i).trans (rgC_slot hx)
theorem RgM.size {w : World} {b : Nat} {s : List Int} {h q : Nat} (H : RgM w b s h q) (h4 : s.length ≤ 64) : w.cell? ⟨b, 64, none⟩ = some (.int .i64 s.length) := (BlkL.cell H 64).trans (rgC_tail h4 0)
theorem RgM.head {w : World} {b : Nat} {s : List Int} {h q : Nat} (H : RgM w b s h q) (h4 : s.length ≤ 64) : w.cell? ⟨b, 65, none⟩ = some (.int .i64 h) := (BlkL.cell H 65).trans (rgC_tail h4 1)
theorem RgM.count {w : World} {b : Nat} {s : List Int} {h q : Nat} (H : RgM w b s h q) (h4 : s.length ≤ 64) : w.cell? ⟨b, 66, none⟩ = some (.int .i64 q) := (BlkL.cell H 66).trans (rgC_tail h4 2)
theorem RgM.fr {w : World} {b : Nat} {s : List Int} {h q : Nat} (H : RgM w b s h q) (i : Nat) : w.frozen? ⟨b, i, none⟩ = false := BlkL.frozen H i
theorem RgM.put {w : World} {b : Nat} {s : List Int} {h q i : Nat} (H : RgM w b s h q) (hi : i < s.length) (x : Int) : RgM (w.setCell ⟨b, i, none⟩ (.int .i64 x)) b (s.set i x) h q := by
  have := BlkL.set H i (.int .i64 x)
  rw [rgC_set hi] at this
  exact this
theorem RgM.putH {w : World} {b : Nat} {s : List Int} {h q : Nat} (H : RgM w b s h q) (h4 : s.length ≤ 64) (x : Nat) : RgM (w.setCell ⟨b, 65, none⟩ (.int .i64 x)) b s x q := by
  have := BlkL.set H 65 (.int .i64 x)
  rw [rgC_setH h4] at this
  exact this
theorem RgM.putQ {w : World} {b : Nat} {s : List Int} {h q : Nat} (H : RgM w b s h q) (h4 : s.length ≤ 64) (x : Nat) : RgM (w.setCell ⟨b, 66, none⟩ (.int .i64 x)) b s h x := by
  have := BlkL.set H 66 (.int .i64 x)
  rw [rgC_setQ h4] at this
  exact this
theorem RgM.drew {w : World} {b : Nat} {s : List Int} {h q : Nat} (H : RgM w b s h q) : RgM w.drew b s h q := H
theorem RgM.below {B : Nat} {w w' : World} {b : Nat} {s : List Int} {h q : Nat} (H : RgM w b s h q) (hb : Below B w w') (hg : b < B) : RgM w' b s h q := BlkL.below H hb hg
theorem RgM.lt {w : World} {b : Nat} {s : List Int} {h q : Nat} (H : RgM w b s h q) : b < w.heap.size := BlkL.lt H

/-- the place k behind the head. -/
def plc (n h k : Nat) : Nat := (h + k) % n
theorem plc_lt {n : Nat} (h k : Nat) (hn : 1 ≤ n) : plc n h k < n := Nat.mod_lt _ (by omega)

set_option maxHeartbeats 400000 in
theorem aLoad_any (b o : Nat) (x : Int) (w : World) (hc : w.cell? ⟨b, o, none⟩ = some (.int .i64 x)) :
    Calls Try.prog 70 #[.pointer (some ⟨b, o, none⟩)] w fun e w' => e = .returned (.int .i64 x) ∧ w = w' := by
  have hl := run_call_load (P := Try.prog) Try.func77 (by kernel_rfl) (by kernel_rfl) (by kernel_rfl) .i64 (by kernel_rfl) hc
  go_enter Try.func70, Try.ntmps70
  go_wp2
  go_ret
  exact ⟨rfl, rfl⟩
set_option maxHeartbeats 400000 in
theorem aStore_any (b o : Nat) (y : Int) (u : Value) (w : World) (hc : w.cell? ⟨b, o, none⟩ = some u) (hf : w.frozen? ⟨b, o, none⟩ = false) :
    Calls Try.prog 74 #[.pointer (some ⟨b, o, none⟩), .int .i64 y] w fun e w' => e = .returned (.tuple #[]) ∧ w' = w.setCell ⟨b, o, none⟩ (.int .i64 y) := by
  have hl := run_call_store (P := Try.prog) Try.func79 (by kernel_rfl) (by kernel_rfl) (by kernel_rfl) (by kernel_rfl) (k := .i64) (y := y) hc hf
  go_enter Try.func74, Try.ntmps74
  go_wp2
  go_end0
  exact ⟨rfl, rfl⟩
set_option maxHeartbeats 400000 in
theorem aAdd_any (b o : Nat) (x y s : Int) (w : World) (hc : w.cell? ⟨b, o, none⟩ = some (.int .i64 x)) (hf : w.frozen? ⟨b, o, none⟩ = false) (hs : IntKind.i64.wrap (x + y) = s) :
    Calls Try.prog 73 #[.pointer (some ⟨b, o, none⟩), .int .i64 y] w fun e w' => e = .returned (.int .i64 s) ∧ w' = w.setCell ⟨b, o, none⟩ (.int .i64 s) := by
  have hl := run_call_add (P := Try.prog) Try.func78 (by kernel_rfl) (by kernel_rfl) (by kernel_rfl) .i64 (by kernel_rfl) (y := y) (s := s) hc hf (by rw [← hs]; rfl)
  clear hs
  go_enter Try.func73, Try.ntmps73
  go_wp2
  go_ret
  exact ⟨rfl, rfl⟩

set_option maxHeartbeats 400000 in
theorem held_any (b : Nat) (s : List Int) (h q : Nat) (w : World) (h4 : s.length ≤ 64) (H : RgM w b s h q) :
    Calls Try.prog 52 #[.pointer (some ⟨b, 0, none⟩)] w fun e w' => e = .returned (.int .i64 q) ∧ w = w' := by
  have hc := H.count h4
  clear H
  go_enter Try.func52, Try.ntmps52
  go_wp2_with ((with_reducible refine (aLoad_any _ _ _ _ hc).mono ?_); rintro e w' ⟨rfl, rfl⟩)
  go_ret
  exact ⟨rfl, rfl⟩

theorem quiet_same {P : Program} {f : FuncId} {args : Array Value} {w : World} {n : Nat} {v : Value} (h : Calls P f args (w.drewN n) fun e w' => e = .returned v ∧ w.drewN n = w') : Calls P f args (w.drewN n) fun e w'' => e = .returned v ∧ ∃ m, w'' = w.drewN m :=
  h.mono fun _ _ ⟨he, hm⟩ => ⟨he, n, hm.symm⟩

set_option maxHeartbeats 400000 in
theorem place_any (b : Nat) (s : List Int) (h q k : Nat) (w : World) (hk : k ≤ 64) (B : RgB s h q) (H : RgM w b s h q) :
    Calls Try.prog 69 #[.pointer (some ⟨b, 0, none⟩), .int .i64 k] w fun e w' => e = .returned (.int .i64 (plc s.length h k : Nat)) ∧ ∃ m, w' = w.drewN m := by
  obtain ⟨n1, n2, h1, q1⟩ := B
  have hc := H.head n2
  have hs := H.size n2
  clear H
  generalize s.length = n at *
  have HP := Lib.hid (show ((plc n h k : Nat) : Int) = ((h : Int) + k) % n from by unfold plc; simp)
  have x1 : IntKind.i64.wrap ((h : Int) + k) = h + k := IntWalk.i64_in _ (by omega)
  have x2 : IntKind.i64.wrap (((h : Int) + k).tmod n) = ((h : Int) + k) % n := by
    rw [Int.tmod_eq_emod_of_nonneg (by omega)]
    exact IntWalk.i64_in _ (by have := Int.emod_lt_of_pos ((h : Int) + k) (show (0 : Int) < n by omega); have := Int.emod_nonneg ((h : Int) + k) (show (n : Int) ≠ 0 by omega); omega)
  have x3 : ((n : Int) == 0) = false := by simp; omega
  go_enter Try.func69, Try.ntmps69
  go_wp2
  go_quiet ((exact quiet_same (aLoad_any _ _ _ _ hc)))
  go_wp2
  go_ret
  rw [HP.out]
  exact ⟨rfl, _, rfl⟩

set_option maxHeartbeats 400000 in
theorem at_any (b : Nat) (s : List Int) (h q k : Nat) (x : Int) (w : World) (hk : k ≤ 64) (B : RgB s h q) (H : RgM w b s h q) (hx : s[plc s.length h k]? = some x) :
    Calls Try.prog 53 #[.pointer (some ⟨b, 0, none⟩), .int .i64 k] w fun e w' => e = .returned (.int .i64 x) ∧ ∃ m, w' = w.drewN m := by
  have HB := Lib.hid B
  have HM := Lib.hid H
  have hc := H.slot hx
  have hl := plc_lt h k B.n1
  have h2 := B.n2
  clear B H hx
  have hp : ∀ m, Calls Try.prog 69 #[.pointer (some ⟨b, 0, none⟩), .int .i64 k] (w.drewN m) fun e w' => e = .returned (.int .i64 (plc s.length h k : Nat)) ∧ ∃ j, w' = (w.drewN m).drewN j := fun m => place_any b s h q k (w.drewN m) hk HB.out HM.out
  have HP := Lib.hid hp
  clear hp
  generalize plc s.length h k = p at *
  have x1 : (p : Int) < 64 := by omega
  go_enter Try.func53, Try.ntmps53
  go_wp2
  go_quiet ((exact Calls.quiet_of (HP.out _)))
  go_wp2
  go_ret
  exact ⟨rfl, _, rfl⟩
end Go.Proofs.Ytkpkchlbljlbnaa
