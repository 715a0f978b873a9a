/-
  MatchOf on both sides.
-/
import Derived.Test.YtegjgbgnpkncbabLvls
import Derived.Test.YtegjgbgnpkncbabFnd
import Derived.Deep.QuietTactic
import Derived.BigQuiet
namespace Go.Proofs.Ytegjgbgnpkncbab
open Go.RowKit
set_option linter.unusedVariables false

theorem levs_at (l : List Tk) {i : Nat} (hi : i < l.length) : (levs l)[i]? = some (levI l i) := by
  simp [levs, List.getElem?_range hi]
theorem below_drewNm {B : Nat} {a w : World} (h : Below B a w) (n : Nat) : Below B a (w.drewN n) := ⟨h.os, h.tape, h.output, h.size, h.block⟩

set_option maxHeartbeats 400000 in
theorem again_0 (A : Option Addr) (n c : Nat) (k : Int) (w : World) :
    Calls Try.prog 42 #[.slice A n c, .int .i64 k, .int .i64 0] w fun e w' => e = .returned (.int .i64 (-1)) ∧ Below w.heap.size w w' := by
  go_enter Try.func42, Try.ntmps42
  go_wp2
  go_ret
  exact ⟨rfl, Below.refl _ _⟩

set_option maxHeartbeats 1000000 in
set_option maxRecDepth 100000 in
theorem again_up (g : Nat) (l : List Tk) (n c k : Nat) (w : World) (hn : l.length = n) (hm : n ≤ 400) (hk : k < n) (hi : IS w (some ⟨g, 0, none⟩) (levs l)) :
    Calls Try.prog 42 #[.slice (some ⟨g, 0, none⟩) n c, .int .i64 k, .int .i64 1] w fun e w' => e = .returned (.int .i64 (fwdF l (levI l k) (n - (k + 1)) (k + 1))) ∧ Below w.heap.size w w' := by
  have HN := Lib.hid hn
  clear hn
  go_enter Try.func42, Try.ntmps42
  go_wp2
  go_loopw [7] (fun a wr => ∃ i : Nat, i ≤ n ∧ a = .int .i64 i ∧ fwdF l (levI l k) (n - (k + 1)) (k + 1) = fwdF l (levI l k) (n - i) i ∧ Below w.heap.size w wr) (fun a _ => n - (intOf a).toNat)
  case atStart => exact ⟨k + 1, by omega, by go_num, rfl, Below.refl _ _⟩
  case round =>
    obtain ⟨i, hin, rfl, hf, hbw⟩ := hrel
    have HF := Lib.hid hf
    have hbw' := hi.below hbw
    have HB := Lib.hid hbw
    clear hf hbw
    by_cases hlt : i < n
    · have HI := Lib.hid (show inB (i : Int) 0 ((n : Int) - 1) = true from inB_true.2 (by omega))
      obtain ⟨hgl, c0⟩ := hbw'.get (levs_at l (i := i) (by have := HN.out; omega))
      obtain ⟨_, c1⟩ := hbw'.get (levs_at l (i := k) (by have := HN.out; omega))
      by_cases he : levI l i = levI l k
      · have hb : (levI l i == levI l k) = true := by simpa using he
        have HE := Lib.hid (fwdF_yes hlt he)
        clear he
        go_wp2_with (go_at_call 73; refine (within_any _ _ _ _).mono ?_; rintro e w' ⟨rfl, rfl⟩; rw [HI.out])
        go_quiet (fail)
        go_wp2
        go_ret
        rw [HF.out, HE.out]
        exact ⟨rfl, below_drewNm HB.out _⟩
      · have hb : (levI l i == levI l k) = false := by simpa using he
        have HE := Lib.hid (fwdF_no hlt he)
        clear he
        go_wp2_with (go_at_call 73; refine (within_any _ _ _ _).mono ?_; rintro e w' ⟨rfl, rfl⟩; rw [HI.out])
        go_quiet (fail)
        go_wp2
        go_roundw
        case rel => exact ⟨i + 1, by omega, by go_num, by rw [HF.out, HE.out], below_drewNm HB.out _⟩
        case measure => simp [intOf] <;> omega
    · have HI := Lib.hid (show inB (i : Int) 0 ((n : Int) - 1) = false from inB_false.2 (by omega))
      have hin' : i = n := by omega
      have HE := Lib.hid hin'
      clear hin'
      go_wp2_with (go_at_call 73; refine (within_any _ _ _ _).mono ?_; rintro e w' ⟨rfl, rfl⟩; rw [HI.out])
      go_ret
      have e := HE.out
      subst e
      rw [HF.out, fwdF_end]
      exact ⟨rfl, HB.out⟩

set_option maxHeartbeats 1000000 in
set_option maxRecDepth 100000 in
theorem again_down (g : Nat) (l : List Tk) (n c k : Nat) (w : World) (hn : l.length = n) (hm : n ≤ 400) (hk : k < n) (hi : IS w (some ⟨g, 0, none⟩) (levs l)) :
    Calls Try.prog 42 #[.slice (some ⟨g, 0, none⟩) n c, .int .i64 k, .int .i64 (-1)] w fun e w' => e = .returned (.int .i64 (bwdF l (levI l k) k)) ∧ Below w.heap.size w w' := by
  have HN := Lib.hid hn
  clear hn
  go_enter Try.func42, Try.ntmps42
  go_wp2
  go_loopw [7] (fun a wr => ∃ i : Nat, i ≤ k ∧ a = .int .i64 ((i : Int) - 1) ∧ bwdF l (levI l k) k = bwdF l (levI l k) i ∧ Below w.heap.size w wr) (fun a _ => (intOf a + 1).toNat)
  case atStart => exact ⟨k, by omega, by go_num, rfl, Below.refl _ _⟩
  case round =>
    obtain ⟨i', hin, rfl, hf, hbw⟩ := hrel
    have hbw' := hi.below hbw
    have HB := Lib.hid hbw
    clear hbw
    cases i' with
    | succ i =>
      have HF := Lib.hid hf
      clear hf
      rw [show ((i + 1 : Nat) : Int) - 1 = (i : Int) from by omega]
      have HI := Lib.hid (show inB (i : Int) 0 ((n : Int) - 1) = true from inB_true.2 (by omega))
      obtain ⟨hgl, c0⟩ := hbw'.get (levs_at l (i := i) (by have := HN.out; omega))
      obtain ⟨_, c1⟩ := hbw'.get (levs_at l (i := k) (by have := HN.out; omega))
      by_cases he : levI l i = levI l k
      · have hb : (levI l i == levI l k) = true := by simpa using he
        have HE := Lib.hid (bwdF_yes he)
        clear he
        go_wp2_with (go_at_call 73; refine (within_any _ _ _ _).mono ?_; rintro e w' ⟨rfl, rfl⟩; rw [HI.out])
        go_quiet (fail)
        go_wp2
        go_ret
        rw [HF.out, HE.out]
        exact ⟨rfl, below_drewNm HB.out _⟩
      · have hb : (levI l i == levI l k) = false := by simpa using he
        have HE := Lib.hid (bwdF_no he)
        clear he
        go_wp2_with (go_at_call 73; refine (within_any _ _ _ _).mono ?_; rintro e w' ⟨rfl, rfl⟩; rw [HI.out])
        go_quiet (fail)
        go_wp2
        go_roundw
        case rel => exact ⟨i, by omega, by go_num, by rw [HF.out, HE.out], below_drewNm HB.out _⟩
        case measure => simp [intOf] <;> omega
    | zero =>
      have HF := Lib.hid (show bwdF l (levI l k) k = -1 from hf)
      clear hf
      rw [show ((0 : Nat) : Int) - 1 = -1 from by omega]
      have HI := Lib.hid (show inB (-1 : Int) 0 ((n : Int) - 1) = false from inB_false.2 (by omega))
      go_wp2_with (go_at_call 73; refine (within_any _ _ _ _).mono ?_; rintro e w' ⟨rfl, rfl⟩; rw [HI.out])
      go_ret
      rw [HF.out]
      exact ⟨rfl, HB.out⟩

set_option maxHeartbeats 2000000 in
set_option maxRecDepth 100000 in
theorem sMatchOf_any (A : Option Addr) (l : List Tk) (n c : Nat) (kk : Int) (w : World) (hn : l.length = n) (hm : n ≤ 2097152) (hts : TS w A l) (hf : Fits l) (hk0 : (Lit.int .i64 kk).wf = true) :
    Calls Try.prog 39 #[.slice A n c, .int .i64 kk] w fun e w' => e = .returned (.int .i64 (matB l kk)) ∧ Below w.heap.size w w' := by
  have HN := Lib.hid hn
  clear hn hk0
  go_enter Try.func39, Try.ntmps39
  go_wp2_with fail
  refine (sLevels_any _ l _ _ _ HN.out hm hts hf).mono ?_
  rintro e w1 ⟨A1, m1, c1, d1, rfl, hb, hr⟩
  have HB := Lib.hid hb
  have HR := Lib.hid hr
  have ht1 := hts.below hb
  clear hb hr
  cases hS : strB l
  · have HM := Lib.hid (matB_no (l := l) (kk := kk) (.inl hS))
    clear hS
    go_wp2
    go_ret
    rw [HM.out]
    exact ⟨rfl, HB.out⟩
  · have HS := Lib.hid hS
    have h4 := (strB_true hS).1
    obtain ⟨_, e2, ho⟩ := HR.out hS
    subst e2
    have hI1 : IS w1 A1 (levs l) := IS.of_own ho
    have e := HN.out
    subst e
    clear hS HR ho HN
    by_cases hin : 0 ≤ kk ∧ kk ≤ (l.length : Int) - 1
    · have HI := Lib.hid (inB_true.2 hin)
      obtain ⟨hin0, hin1⟩ := hin
      obtain ⟨k, rfl⟩ := Int.eq_ofNat_of_zero_le hin0
      have hkl : k < l.length := by omega
      obtain ⟨t, b, o, ht, rfl, hbl, _⟩ := ht1.at (k := k) hkl
      obtain ⟨_, c0, c1, c2, c3⟩ := ht1.get ht
      obtain ⟨g, rfl, hgl, d0⟩ := hI1 k _ (levs_at l hkl)
      have HM := Lib.hid (matB_yes HS.out ht)
      have HT := Lib.hid ht
      clear ht
      rcases t.opn_cases with ⟨hk2, hop⟩ | ⟨hk3, hop⟩ | ⟨hk2, hk3, hop⟩
      · have b2 : (t.k == 2) = true := by rw [hk2]; rfl
        have b3 : (t.k == 3) = false := by rw [hk2]; rfl
        have HV := Lib.hid (show matI l k t = fwdF l (levI l k) (l.length - (k + 1)) (k + 1) from if_pos hk2)
        have HK2 := Lib.hid hk2
        clear hk2 hop
        go_wp2_with (go_at_call 70; refine (l01In_any _ _ _ _).mono ?_; rintro e w' ⟨rfl, rfl⟩; rw [HI.out])
        go_loopw [8] (fun a wr => ∃ i : Nat, k < i ∧ i ≤ l.length ∧ a = .int .i64 i ∧ fwdF l (levI l k) (l.length - (k + 1)) (k + 1) = fwdF l (levI l k) (l.length - i) i ∧ (∀ j, k < j → j < i → levI l j ≠ levI l k) ∧ Below w1.heap.size w1 wr) (fun a _ => l.length - (intOf a).toNat)
        case atStart => exact ⟨k + 1, by omega, by omega, by go_num, rfl, fun j a b => absurd a (by omega), Below.refl _ _⟩
        case round =>
          obtain ⟨i, hki, hil, rfl, hfw, hno, hbw⟩ := hrel
          have HF := Lib.hid hfw
          have HNO := Lib.hid hno
          have HBW := Lib.hid hbw
          have ht2 := ht1.below hbw
          have hI2 := hI1.below hbw
          clear hfw hno hbw c0 c1 c2 c3 d0
          by_cases hlt : i < l.length
          · obtain ⟨u, hu⟩ : ∃ u, l[i]? = some u := ⟨_, List.getElem?_eq_getElem hlt⟩
            obtain ⟨_, c0, c1, c2, c3⟩ := ht2.get hu
            obtain ⟨_, d0⟩ := hI2.get (levs_at l hlt)
            obtain ⟨_, d1⟩ := hI2.get (levs_at l hkl)
            by_cases he : levI l i = levI l k
            · have u3 : (u.k == 3) = true := by rw [fwd_kind HT.out HK2.out hki HNO.out hu he]; rfl
              have hb : (levI l i == levI l k) = true := by simpa using he
              have HE := Lib.hid (fwdF_yes hlt he)
              clear he hu
              go_wp2
              go_quiet (fail)
              go_wp2
              go_ret
              rw [HM.out, HV.out, HF.out, HE.out]
              exact ⟨rfl, below_drewNm (HB.out.trans (HBW.out.mono HB.out.size)) _⟩
            · have hb : (levI l i == levI l k) = false := by simpa using he
              have HE := Lib.hid (fwdF_no hlt he)
              have HNO2 := Lib.hid (show ∀ j, k < j → j < i + 1 → levI l j ≠ levI l k from fun j a b => if e : j = i then e ▸ he else HNO.out j a (by omega))
              clear he hu
              cases u3 : (u.k == 3)
              · go_wp2
                go_quiet (fail)
                go_wp2
                go_roundw
                case rel => exact ⟨i + 1, by omega, by omega, by go_num, by rw [HF.out, HE.out], HNO2.out, below_drewNm HBW.out _⟩
                case measure => simp [intOf] <;> omega
              · go_wp2
                go_quiet (fail)
                go_wp2
                go_roundw
                case rel => exact ⟨i + 1, by omega, by omega, by go_num, by rw [HF.out, HE.out], HNO2.out, below_drewNm HBW.out _⟩
                case measure => simp [intOf] <;> omega
          · have hin' : i = l.length := by omega
            have HE := Lib.hid (show fwdF l (levI l k) (l.length - i) i = -1 from by rw [hin', fwdF_end])
            clear hin'
            obtain ⟨_, c0, c1, c2, c3⟩ := ht2.get HT.out
            go_wp2
            go_ret
            rw [HM.out, HV.out, HF.out, HE.out]
            exact ⟨rfl, HB.out.trans (HBW.out.mono HB.out.size)⟩
      · have b2 : (t.k == 2) = false := by rw [hk3]; rfl
        have b3 : (t.k == 3) = true := by rw [hk3]; rfl
        have HV := Lib.hid (show matI l k t = bwdF l (levI l k) k from by unfold matI; rw [if_neg (by omega), if_pos hk3])
        have HK3 := Lib.hid hk3
        clear hk3 hop
        go_wp2_with (go_at_call 70; refine (l01In_any _ _ _ _).mono ?_; rintro e w' ⟨rfl, rfl⟩; rw [HI.out])
        go_loopw [9] (fun a wr => ∃ i : Nat, i ≤ k ∧ a = .int .i64 ((i : Int) - 1) ∧ bwdF l (levI l k) k = bwdF l (levI l k) i ∧ (∀ j, i ≤ j → j < k → levI l j ≠ levI l k) ∧ Below w1.heap.size w1 wr) (fun a _ => (intOf a + 1).toNat)
        case atStart => exact ⟨k, Nat.le_refl _, by go_num, rfl, fun j a b => absurd a (by omega), Below.refl _ _⟩
        case round =>
          obtain ⟨i', hik, rfl, hfw, hno, hbw⟩ := hrel
          have HNO := Lib.hid hno
          have HBW := Lib.hid hbw
          have ht2 := ht1.below hbw
          have hI2 := hI1.below hbw
          clear hno hbw c0 c1 c2 c3 d0
          cases i' with
          | succ i =>
            have HF := Lib.hid hfw
            clear hfw
            rw [show ((i + 1 : Nat) : Int) - 1 = (i : Int) from by omega]
            have hlt : i < l.length := by omega
            obtain ⟨u, hu⟩ : ∃ u, l[i]? = some u := ⟨_, List.getElem?_eq_getElem hlt⟩
            obtain ⟨_, c0, c1, c2, c3⟩ := ht2.get hu
            obtain ⟨_, d0⟩ := hI2.get (levs_at l hlt)
            obtain ⟨_, d1⟩ := hI2.get (levs_at l hkl)
            by_cases he : levI l i = levI l k
            · have u2 : (u.k == 2) = true := by rw [bwd_kind HT.out HK3.out (by omega) (fun j a b => HNO.out j (by omega) b) hu he]; rfl
              have hb : (levI l i == levI l k) = true := by simpa using he
              have HE := Lib.hid (bwdF_yes he)
              clear he hu
              go_wp2
              go_quiet (fail)
              go_wp2
              go_ret
              rw [HM.out, HV.out, HF.out, HE.out]
              exact ⟨rfl, below_drewNm (HB.out.trans (HBW.out.mono HB.out.size)) _⟩
            · have hb : (levI l i == levI l k) = false := by simpa using he
              have HE := Lib.hid (bwdF_no he)
              have HNO2 := Lib.hid (show ∀ j, i ≤ j → j < k → levI l j ≠ levI l k from fun j a b => if e : j = i then e ▸ he else HNO.out j (by omega) b)
              clear he hu
              cases u2 : (u.k == 2)
              · go_wp2
                go_quiet (fail)
                go_wp2
                go_roundw
                case rel => exact ⟨i, by omega, by go_num, by rw [HF.out, HE.out], HNO2.out, below_drewNm HBW.out _⟩
                case measure => simp [intOf] <;> omega
              · go_wp2
                go_quiet (fail)
                go_wp2
                go_roundw
                case rel => exact ⟨i, by omega, by go_num, by rw [HF.out, HE.out], HNO2.out, below_drewNm HBW.out _⟩
                case measure => simp [intOf] <;> omega
          | zero =>
            have HE := Lib.hid (show bwdF l (levI l k) k = -1 from hfw)
            clear hfw
            rw [show ((0 : Nat) : Int) - 1 = -1 from by omega]
            go_wp2
            go_ret
            rw [HM.out, HV.out, HE.out]
            exact ⟨rfl, HB.out.trans (HBW.out.mono HB.out.size)⟩
      · have b2 : (t.k == 2) = false := beq_eq_false_iff_ne.2 hk2
        have b3 : (t.k == 3) = false := beq_eq_false_iff_ne.2 hk3
        have HV := Lib.hid (show matI l k t = -1 from by unfold matI; rw [if_neg hk2, if_neg hk3])
        clear hk2 hk3 hop
        go_wp2_with (go_at_call 70; refine (l01In_any _ _ _ _).mono ?_; rintro e w' ⟨rfl, rfl⟩; rw [HI.out])
        go_ret
        rw [HM.out, HV.out]
        exact ⟨rfl, HB.out⟩
    · have HI := Lib.hid (show inB kk 0 ((l.length : Int) - 1) = false from inB_false.2 (by omega))
      have HM := Lib.hid (matB_no (l := l) (kk := kk) (.inr (by omega)))
      clear hin
      go_wp2_with (go_at_call 70; refine (l01In_any _ _ _ _).mono ?_; rintro e w' ⟨rfl, rfl⟩; rw [HI.out])
      go_ret
      rw [HM.out]
      exact ⟨rfl, HB.out⟩
end Go.Proofs.Ytegjgbgnpkncbab
