/-
  The model's TrailOk.
-/
import Derived.Test.YtegjgbgnpkncbaaDoorLnf
namespace Go.Proofs.YtegjgbgnpkncbaaDoor
open Go.RowKit
set_option linter.unusedVariables false

set_option maxHeartbeats 2000000 in
set_option maxRecDepth 100000 in
theorem sTrailOk_any (s : ByteArray) (w : World) (hs : s.size ≤ 1048576) :
    Calls Tryd.prog 15 #[.string s] w fun e w' => e = .returned (.bool (trB (lns s))) ∧ Below w.heap.size w w' := by
  have hlen := lns_len s
  go_enter Tryd.func15, Tryd.ntmps15
  go_wp2_with fail
  refine (l10Lines_any s _ hs).mono ?_
  rintro e w1 ⟨A, c, rfl, hsw, hlo, hb⟩
  have HB := Lib.hid hb
  have HSZ := Lib.hid (fun x (hx : x ∈ lns s) => lns_size hx)
  have HL := Lib.hid hsw
  clear hb hlo hsw
  obtain ⟨l, hl⟩ : ∃ l, lns s = l := ⟨_, rfl⟩
  have HLN := Lib.hid hl
  rw [hl] at HL HSZ hlen ⊢
  clear hl
  obtain ⟨n, hn⟩ : ∃ n, l.length = n := ⟨_, rfl⟩
  rw [hn] at hlen ⊢
  have HN := Lib.hid hn
  clear hn
  go_wp2_with fail
  go_loopw [4] (fun iv wr => ∃ i : Nat, i ≤ n ∧ iv = .int .i64 i ∧ trN l i = true ∧ Below w1.heap.size w1 wr) (fun iv _ => n - (intOf iv).toNat)
  case atStart => exact ⟨0, Nat.zero_le _, rfl, rfl, Below.refl _ _⟩
  case round =>
    obtain ⟨i, hi, rfl, htr, hb⟩ := hrel
    have HT := Lib.hid htr
    have HC := Lib.hid hb
    clear htr hb
    by_cases hil : i < n
    · obtain ⟨x, b, o, hx, rfl, hbl, c0⟩ := (HL.out.below HC.out).at (k := i) (by have := HN.out; omega)
      have hxs := HSZ.out x (List.mem_of_getElem? hx)
      have r0 := Bw.rd c0
      clear c0
      by_cases h0 : x.size = 0
      · have HG := Lib.hid (trN_yes hx (eB_empty h0) HT.out)
        have hgt : decide (0 < x.size) = false := decide_eq_false (by omega)
        clear hx h0
        go_wp2_with fail
        refine wp_region_class (Bw wr) (by kernel_rfl) (by kernel_rfl) (Bw.start wr) (fun hne => ?_)
        repeat (go_big_quiet_step (fail))
        refine wpQuiet_nil ?_
        rintro w5 ⟨y, rfl⟩
        have HC5 := Lib.hid (HC.out.trans (Below.mono y.ok HC.out.size))
        generalize y.W = w5 at *
        clear r0 hne
        go_wp2_with fail
        go_roundw
        case rel => exact ⟨i + 1, by omega, by go_num, HG.out, HC5.out⟩
        case measure => simp [intOf]; omega
      · obtain ⟨m, hm⟩ : ∃ m, x.size = m + 1 := ⟨x.size - 1, by omega⟩
        have hgt : decide (0 < x.size) = true := decide_eq_true (by omega)
        have hms : (x.size : Int) - 1 = (m : Int) := by omega
        have HE := Lib.hid (eB_last hm)
        have hml : m < x.size := by omega
        have hix : ∀ V : World, (Instr.index 9 (.string x) (.int .i64 (m : Int))).run Tryd.prog V = .ok (.int .u8 ((x[m]'hml).toNat : Int)) V := by
          intro V
          simp [go_sem, hml]
        clear h0
        by_cases h32 : (x[m]'hml).toNat = 32
        · have HF := Lib.hid (trB_no hx (by rw [HE.out]; simp [h32]))
          have hb : (((x[m]'hml).toNat : Int) == 32) = true := by simp; omega
          clear hx h32
          go_wp2_with fail
          refine wp_region_class (Bw wr) (by kernel_rfl) (by kernel_rfl) (Bw.start wr) (fun hne => ?_)
          repeat (go_big_quiet_step (fail))
          refine wpQuiet_nil ?_
          rintro w5 ⟨y, rfl⟩
          have HC5 := Lib.hid (HC.out.trans (Below.mono y.ok HC.out.size))
          generalize y.W = w5 at *
          clear r0 hne
          go_wp2_with fail
          go_ret
          exact ⟨by rw [HLN.out, HF.out]; rfl, HB.out.trans (HC5.out.mono HB.out.size)⟩
        · have HG := Lib.hid (trN_yes hx (by rw [HE.out]; simpa using h32) HT.out)
          have hb : (((x[m]'hml).toNat : Int) == 32) = false := by simp; omega
          clear hx h32
          go_wp2_with fail
          refine wp_region_class (Bw wr) (by kernel_rfl) (by kernel_rfl) (Bw.start wr) (fun hne => ?_)
          repeat (go_big_quiet_step (fail))
          refine wpQuiet_nil ?_
          rintro w5 ⟨y, rfl⟩
          have HC5 := Lib.hid (HC.out.trans (Below.mono y.ok HC.out.size))
          generalize y.W = w5 at *
          clear r0 hne
          go_wp2_with fail
          go_roundw
          case rel => exact ⟨i + 1, by omega, by go_num, HG.out, HC5.out⟩
          case measure => simp [intOf]; omega
    · obtain rfl : i = n := by omega
      have e := trN_all l HN.out
      rw [HT.out] at e
      have HE := Lib.hid e
      clear e
      go_wp2_with fail
      go_ret
      exact ⟨by rw [HLN.out, ← HE.out]; rfl, HB.out.trans (HC.out.mono HB.out.size)⟩
end Go.Proofs.YtegjgbgnpkncbaaDoor
