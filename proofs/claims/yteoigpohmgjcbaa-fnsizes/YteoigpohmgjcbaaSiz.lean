/-
  SizeAt of the program.
-/
import Derived.Test.YteoigpohmgjcbaaSizs
import Derived.Test.YteoigpohmgjcbaaSSiz
namespace Go.Proofs.Yteoigpohmgjcbaa
open Go.RowKit
set_option linter.unusedVariables false

theorem sizB_in {l : List Tk} {k : Nat} {x : Int} (h : (szsB l)[k]? = some x) : sizB l (k : Int) = x := by
  unfold sizB
  rw [if_pos (by omega), show ((k : Int)).toNat = k by omega, h]; rfl
theorem sizB_out {l : List Tk} {kk : Int} (h : kk < 0 ∨ ((szsB l).length : Int) ≤ kk) : sizB l kk = -1 := by
  unfold sizB
  by_cases h0 : 0 ≤ kk
  · rw [if_pos h0, List.getElem?_eq_none (by omega)]; rfl
  · rw [if_neg h0]
set_option maxHeartbeats 1000000 in
set_option maxRecDepth 100000 in
theorem SizeAt_any (A : Option Addr) (l : List Tk) (n c : Nat) (kk : Int) (w : World) (hn : l.length = n) (hm : n ≤ 2097152) (hts : TS w A l) (hf : Fits l) (hk0 : (Lit.int .i64 kk).wf = true) :
    Calls Try.prog 34 #[.slice A n c, .int .i64 kk] w fun e w' => e = .returned (.int .i64 (sizB l kk)) ∧ Below w.heap.size w w' := by
  have HN := Lib.hid hn
  clear hn hk0
  go_enter Try.func34, Try.ntmps34
  go_wp2_with fail
  refine (SizesOf_out _ l _ _ _ HN.out hm hts hf).mono ?_
  rintro e w1 ⟨hb, A0, c0, rfl, hlo, hc, hr⟩
  have h4 := szsB_le l
  have hIS := hr.is
  have HB := Lib.hid hb
  have OUT := Lib.hid (fun h => sizB_out (l := l) (kk := kk) h)
  have IN := Lib.hid (fun (k : Nat) (x : Int) h => sizB_in (l := l) (k := k) (x := x) h)
  clear hb hr hlo hc hts hf HN
  generalize szsB l = xs at *
  obtain ⟨m, hlen⟩ : ∃ m, xs.length = m := ⟨_, rfl⟩
  rw [hlen]
  have HL := Lib.hid hlen
  have h4' : m ≤ 400 := by omega
  clear hlen h4
  by_cases hin : 0 ≤ kk ∧ kk ≤ (m : Int) - 1
  · have HI := Lib.hid (inB_true.2 hin)
    obtain ⟨hin0, hin1⟩ := hin
    obtain ⟨k, rfl⟩ := Int.eq_ofNat_of_zero_le hin0
    have hkl : k < m := by omega
    obtain ⟨x, b, hx, rfl, hbl, cx⟩ := hIS.at (k := k) (by have := HL.out; omega)
    have HV := Lib.hid (IN.out k x hx)
    clear hx hIS
    go_wp2_with (first | (go_at_call 51; refine (within_any _ _ _ _).mono ?_; rintro e w' ⟨rfl, rfl⟩; rw [HI.out]) | fail)
    go_ret
    rw [HV.out]
    exact ⟨rfl, HB.out⟩
  · have HI := Lib.hid (show inB kk 0 ((m : Int) - 1) = false from inB_false.2 (by omega))
    have HV := Lib.hid (OUT.out (by have := HL.out; omega))
    clear hin
    go_wp2_with (first | (go_at_call 51; refine (within_any _ _ _ _).mono ?_; rintro e w' ⟨rfl, rfl⟩; rw [HI.out]) | fail)
    go_ret
    rw [HV.out]
    exact ⟨rfl, HB.out⟩
end Go.Proofs.Yteoigpohmgjcbaa
