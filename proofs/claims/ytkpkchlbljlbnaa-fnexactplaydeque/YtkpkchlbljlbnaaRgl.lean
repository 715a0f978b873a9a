/-
  The ring: whether the rest is zero; what it holds, as a list.
-/
import Derived.Test.YtkpkchlbljlbnaaArr
import Derived.Laws.CopyOwn
namespace Go.Proofs.Ytkpkchlbljlbnaa
open Go.RowKit
set_option linter.unusedVariables false

theorem rgC_pad {s : List Int} {h q : Nat} (h4 : s.length ≤ 64) {j : Nat} {v : Value} (hv : (nums (pad s))[j]? = some v) : (rgC s h q)[j]? = some v := by
  have e : rgC s h q = nums (pad s) ++ [.int .i64 s.length, .int .i64 h, .int .i64 q] := by simp [rgC, pad, nums]
  have hj : j < (nums (pad s)).length := (List.getElem?_eq_some_iff.1 hv).1
  rw [e, List.getElem?_append_left hj]
  exact hv
theorem one_nums (xs : List Int) : (nums xs).toArray.all (·.oneCell') = true := by
  rw [Array.all_eq_true_iff_forall_mem]
  intro v hv
  simp only [List.mem_toArray, nums, List.mem_map] at hv
  obtain ⟨x, _, rfl⟩ := hv
  rfl
theorem blk_setRow {w : World} {g : Nat} {t : TypeId} {cs cs' : List Value} (h : BlkL w g t cs) : BlkL (w.setRow g cs'.toArray) g t cs' := setRow_heap w g _ _ t _ h
theorem RgM.grown {w w' : World} {b : Nat} {s : List Int} {h q : Nat} {row : Option Nat} (H : RgM w b s h q) (hg : w.grownBy w' row) (hne : some b ≠ row) : RgM w' b s h q := BlkL.grown H hg hne

set_option maxHeartbeats 1000000 in
set_option maxRecDepth 100000 in
theorem rest_any (b : Nat) (s : List Int) (h q : Nat) (w : World) (B : RgB s h q) (H : RgM w b s h q) :
    Calls Try.prog 76 #[.pointer (some ⟨b, 0, none⟩)] w fun e w' => e = .returned (.bool (restB s h q)) ∧ Below w.heap.size w w' := by
  have n1 := B.n1
  have n2 := B.n2
  have q1 := B.q1
  have hl := pad_length n2
  have HB := Lib.hid B
  have HM := Lib.hid H
  have HL := Lib.hid hl
  have hbl := H.lt
  have HR := Lib.hid (rest_eq B)
  clear B H hl
  go_enter Try.func76, Try.ntmps76
  go_wp2_with (first
    | (refine wpList_run (o := ⟨some 9, _, _, _, _, _⟩) rfl (.agg (nums (pad s)).toArray) w (exec_load 79 (.tmp 8) rfl ⟨b, 0, none⟩ rfl _ (run_loadVar_pre w b 79 _ (.array 64 3) (fun j v hv => (BlkL.cell HM.out j).trans (rgC_pad n2 hv)) under64 rfl (by rw [nums_length, HL.out]; exact info64))) ?_)
    | (refine wpList_run (o := ⟨some 4, _, _, _, _, _⟩) rfl _ _ (exec_alloc 79 rfl _ (alloc64 w)) ?_)
    | (refine wpList_skip (o := ⟨none, _, _, _, _, _⟩) rfl _ (exec_store 79 (.tmp 4) (.tmp 9) rfl ⟨w.heap.size, 0, none⟩ rfl _ rfl (run_storeVar_row _ _ 79 79 _ _ (BlkL.new w 79 (nums noughts)) (by simp only [List.size_toArray, nums_length, HL.out]; exact info64) (by simp only [List.size_toArray, nums_length, HL.out, noughts_length]) (one_nums _))) ?_))
  have HK1 := Lib.hid (blk_setRow (cs' := nums (pad s)) (BlkL.new w 79 (nums noughts)))
  have HB1 := Lib.hid (below_setRow ((Below.refl w.heap.size w).alloc (Nat.le_refl _) (.cells (nums noughts).toArray 79)) (Nat.le_refl w.heap.size) (nums (pad s)).toArray)
  generalize ((w.alloc (.cells (nums noughts).toArray 79)).setRow w.heap.size (nums (pad s)).toArray) = w1 at *
  refine (held_any b s h q _ n2 (HM.out.below HB1.out hbl)).mono ?_
  rintro e w' ⟨rfl, rfl⟩
  have hb1 := HB1.out
  go_wp2_with fail
  go_loopw [12] (fun i wr => ∃ k : Nat, k ≤ q ∧ i = .int .i64 k ∧ BlkL wr w.heap.size 79 (nums (zTo (pad s) s.length h k)) ∧ Below w.heap.size w wr) (fun i _ => q - (intOf i).toNat)
  case atStart => exact ⟨0, Nat.zero_le _, rfl, HK1.out, HB1.out⟩
  case round =>
    obtain ⟨k, hk, rfl, hblk, hbw⟩ := hrel
    clear HK1 HB1 hb1
    have hlen : (zTo (pad s) s.length h k).length = 64 := (zTo_length _ _ _ _).trans HL.out
    by_cases hlt : k < q
    · have HM2 := HM.out.below hbw hbl
      have HK := Lib.hid hblk
      have HBW := Lib.hid hbw
      have hpl := plc_lt h k n1
      clear hblk hbw
      go_wp2_with fail
      refine (place_any b s h q k _ (by omega) HB.out HM2).mono ?_
      rintro e w2 ⟨rfl, m, rfl⟩
      have HK2 := Lib.hid (HK.out.drewN m)
      have HBW2 := Lib.hid (below_drewN HBW.out m)
      have hcell : ∃ u, (wr.drewN m).cell? ⟨w.heap.size, plc s.length h k, none⟩ = some u := HK2.out.some_ (by rw [nums_length, hlen]; omega)
      obtain ⟨u, hu⟩ := hcell
      have hf := HK2.out.frozen (plc s.length h k)
      have x1 : ((plc s.length h k : Nat) : Int) < 64 := by omega
      have HLEN := Lib.hid hlen
      clear HK HBW hlen HM2
      generalize wr.drewN m = w3 at *
      go_wp2
      go_roundw
      case rel =>
        have h1 := HK2.out.set (plc s.length h k) (.int .i64 0)
        have e1 : (nums (zTo (pad s) s.length h k)).set (plc s.length h k) (.int .i64 0) = nums (zTo (pad s) s.length h (k + 1)) := by simp [nums, zTo]
        rw [e1] at h1
        exact ⟨k + 1, by omega, by go_num, h1, HBW2.out.setCell (p := ⟨w.heap.size, _, none⟩) (Nat.le_refl _) _⟩
      case measure => simp [intOf]; omega
    · obtain rfl : k = q := by omega
      have HK := Lib.hid hblk
      have HBW := Lib.hid hbw
      have HLEN := Lib.hid hlen
      clear hblk hbw hlen
      go_wp2_with (first
        | (refine wpList_run (o := ⟨some 21, _, _, _, _, _⟩) rfl (.agg (nums (zTo (pad s) s.length h k)).toArray) wr (exec_load 79 (.tmp 4) rfl ⟨w.heap.size, 0, none⟩ rfl _ (run_loadVar_pre wr w.heap.size 79 _ (.array 64 3) (fun j v hv => (BlkL.cell HK.out j).trans hv) under64 rfl (by rw [nums_length, HLEN.out]; exact info64))) ?_)
        | (refine wpList_run (o := ⟨some 22, _, _, _, _, _⟩) rfl _ _ (exec_build 79 #[] rfl #[] rfl _ (build64 wr)) ?_)
        | (refine wpList_run (o := ⟨some 23, _, _, _, _, _⟩) rfl _ _ (exec_eql 79 79 (.tmp 21) (.tmp 22) rfl _ _ rfl rfl guard64 _ (run_eql_ints wr 79 3 64 under64 Try.underlying3 sizeInt _ _ HLEN.out noughts_length)) ?_))
      go_ret
      rw [HR.out]
      exact ⟨rfl, HBW.out⟩

/-- what stands there, the first ahead. -/
def lstN (s : List Int) (h k : Nat) : List Int := (List.range k).map fun j => s.getD (plc s.length h j) 0
theorem lstN_length (s : List Int) (h k : Nat) : (lstN s h k).length = k := by simp [lstN]
theorem lstN_succ (s : List Int) (h k : Nat) : lstN s h (k + 1) = lstN s h k ++ [s.getD (plc s.length h k) 0] := by simp [lstN, List.range_succ]
/-- the first k of n, noughts behind them. -/
def lstTo (s : List Int) (h n k : Nat) : List Int := lstN s h k ++ List.replicate (n - k) 0
theorem lstTo_length {s : List Int} {h n k : Nat} (hk : k ≤ n) : (lstTo s h n k).length = n := by simp [lstTo, lstN_length]; omega
theorem lstTo_set {s : List Int} {h n k : Nat} (hk : k < n) : (lstTo s h n k).set k (s.getD (plc s.length h k) 0) = lstTo s h n (k + 1) := by
  unfold lstTo
  have e : n - k = (n - (k + 1)) + 1 := by omega
  rw [List.set_append_right _ _ (by rw [lstN_length]; omega), lstN_length, e, List.replicate_succ, Nat.sub_self, List.set_cons_zero, lstN_succ]
  simp
theorem lstTo_all (s : List Int) (h n : Nat) : lstTo s h n n = lstN s h n := by simp [lstTo]

set_option maxHeartbeats 1000000 in
theorem list_any (b : Nat) (s : List Int) (h q : Nat) (w : World) (B : RgB s h q) (H : RgM w b s h q) :
    Calls Try.prog 54 #[.pointer (some ⟨b, 0, none⟩)] w (IntsOut w (lstN s h q)) := by
  have n1 := B.n1
  have n2 := B.n2
  have q1 := B.q1
  have HB := Lib.hid B
  have HM := Lib.hid H
  have hbl := H.lt
  clear B H
  have hmk := mkInts q (by omega) w
  go_enter Try.func54, Try.ntmps54
  go_wp2_with fail
  refine (held_any b s h q _ n2 HM.out).mono ?_
  rintro e w' ⟨rfl, rfl⟩
  go_wp2_with fail
  have HK1 := Lib.hid (BlkL.new w 3 (nums (List.replicate q 0)))
  have HB1 := Lib.hid ((Below.refl w.heap.size w).alloc (Nat.le_refl _) (.cells (nums (List.replicate q 0)).toArray 3))
  go_loopw [10] (fun i wr => ∃ k : Nat, k ≤ q ∧ i = .int .i64 k ∧ BlkL wr w.heap.size 3 (nums (lstTo s h q k)) ∧ Below w.heap.size w wr) (fun i _ => q - (intOf i).toNat)
  case atStart => exact ⟨0, Nat.zero_le _, rfl, by simpa [lstTo, lstN] using HK1.out, HB1.out⟩
  case round =>
    obtain ⟨k, hk, rfl, hblk, hbw⟩ := hrel
    clear HK1 HB1 hmk
    have hlen := lstTo_length (s := s) (h := h) hk
    by_cases hlt : k < q
    · have HM2 := HM.out.below hbw hbl
      have HK := Lib.hid hblk
      have HBW := Lib.hid hbw
      have hpl := plc_lt h k n1
      have hx : s[plc s.length h k]? = some (s.getD (plc s.length h k) 0) := by rw [List.getD_eq_getElem?_getD, List.getElem?_eq_getElem hpl]; rfl
      have HS := Lib.hid (lstTo_set (s := s) (h := h) hlt)
      generalize s.getD (plc s.length h k) 0 = x at *
      have HX := Lib.hid hx
      clear hblk hbw hx
      go_wp2_with fail
      refine (at_any b s h q k _ _ (by omega) HB.out HM2 HX.out).mono ?_
      rintro e w2 ⟨rfl, m, rfl⟩
      have HK2 := Lib.hid (HK.out.drewN m)
      have HBW2 := Lib.hid (below_drewN HBW.out m)
      have hcell : ∃ u, (wr.drewN m).cell? ⟨w.heap.size, k, none⟩ = some u := HK2.out.some_ (by rw [nums_length, hlen]; omega)
      obtain ⟨u, hu⟩ := hcell
      have hf := HK2.out.frozen k
      have HLEN := Lib.hid hlen
      clear HK HBW hlen HM2
      generalize wr.drewN m = w3 at *
      go_wp2
      go_roundw
      case rel =>
        have h1 := HK2.out.set k (.int .i64 x)
        have e1 : (nums (lstTo s h q k)).set k (.int .i64 x) = nums (lstTo s h q (k + 1)) := by rw [← HS.out]; simp [nums]
        rw [e1] at h1
        exact ⟨k + 1, by omega, by go_num, h1, HBW2.out.setCell (p := ⟨w.heap.size, _, none⟩) (Nat.le_refl _) _⟩
      case measure => simp [intOf]; omega
    · obtain rfl : k = q := by omega
      rw [lstTo_all] at hblk
      have HK := Lib.hid hblk
      have HBW := Lib.hid hbw
      clear hblk hbw hlen
      go_wp2
      go_ret
      exact ⟨HBW.out, some ⟨w.heap.size, 0, none⟩, k, by rw [lstN_length]; rfl, fun b hb => by simp at hb; omega, fun h => (by cases h), .inr ⟨_, [], rfl, by simpa using HK.out⟩⟩
end Go.Proofs.Ytkpkchlbljlbnaa
