/-
  FitsAll and NarrowestOf on both sides.
-/
import Derived.Test.YthjkgbcomjiejadGreatDoorEtr
import Derived.Test.YthjkgbcomjiejadGreatDoorTrq
import Derived.Test.YthjkgbcomjiejadGreatDoorSly
import Derived.Test.YthjkgbcomjiejadGreatDoorPln
namespace Go.Proofs.YthjkgbcomjiejadGreatDoor
open Go.RowKit
set_option linter.unusedVariables false

/-- the whole stream on one line but for what must break, without blanks at the ends of lines. -/
def trmB (l : List Tk) : ByteArray := ⟨(cuB (plnB l).data.toList).toArray⟩
/-- whether all fits. -/
def fitB (W : Int) (l : List Tk) : Bool := okB W l && ((layB W l).toList == (trmB l).toList)
theorem fitB_no {W : Int} {l : List Tk} (h : okB W l = false) : fitB W l = false := by simp [fitB, h]
theorem fitB_yes {W : Int} {l : List Tk} (h : okB W l = true) : fitB W l = ((layB W l).toList == (trmB l).toList) := by simp [fitB, h]
theorem plnB_size {l : List Tk} (h : strB l = true) : (plnB l).size ≤ 16000 := by
  obtain ⟨h4, hok, _⟩ := strB_true h
  have key : ∀ k, k ≤ l.length → (plN l k).length ≤ 40 * k := by
    intro k
    induction k with
    | zero => intro _; simp [plN_zero]
    | succ k ih =>
      intro hk
      have ht := List.getElem?_eq_getElem (show k < l.length by omega)
      have h1 := (okN_at hok (by omega) ht).1
      have h2 := Tk.pl_le h1
      rw [plN_succ ht, List.length_append]
      have := ih (by omega)
      omega
  have := key l.length (Nat.le_refl _)
  unfold plnB
  rw [if_pos h]
  show (plN l l.length).toArray.size ≤ 16000
  simp only [List.size_toArray]
  omega
set_option maxHeartbeats 1000000 in
set_option maxRecDepth 100000 in
theorem FitsAll_any (W : Int) (A : Option Addr) (l : List Tk) (m c : Nat) (w : World) (hm : l.length = m) (hmb : m ≤ 2097152) (hmc : m ≤ c) (hts : TS w A l) (hlow : ∀ b, A.map (·.block) = some b → b < w.heap.size) (hf : Fits l) :
    Calls Tryz.prog 24 #[.int .i64 W, .slice A m c] w fun e w' => e = .returned (.bool (fitB W l)) ∧ Below w.heap.size w w' := by
  have HM := Lib.hid hm
  have HT := Lib.hid hts
  have HF := Lib.hid hf
  have HL := Lib.hid hlow
  clear hm hts hf hlow
  go_enter Tryz.func24, Tryz.ntmps24
  go_wp2_with fail
  refine (Layout_any W A l m c _ HM.out hmb hmc HT.out HL.out HF.out).mono ?_
  rintro e w1 ⟨rfl, hb1⟩
  have HB1 := Lib.hid hb1
  have ht1 := HT.out.below hb1
  clear hb1
  cases hok : okB W l
  · have HV := Lib.hid (fitB_no hok)
    clear hok
    go_wp2
    go_ret
    rw [HV.out]
    exact ⟨rfl, HB1.out⟩
  · have HV := Lib.hid (fitB_yes hok)
    have hsz := plnB_size (okB_true hok).2.2
    clear hok
    have HD := Lib.hid (show trmB l = ⟨(cuB (plnB l).data.toList).toArray⟩ from rfl)
    obtain ⟨x, hx⟩ : ∃ x, layB W l = x := ⟨_, rfl⟩
    rw [hx] at HV ⊢
    clear hx
    go_wp2_with fail
    refine (PlainOf_any A l m c _ HM.out hmb ht1 HF.out).mono ?_
    rintro e w2 ⟨rfl, hb2⟩
    have HB2 := Lib.hid (HB1.out.trans (hb2.mono HB1.out.size))
    clear hb2
    obtain ⟨p, hp⟩ : ∃ p, plnB l = p := ⟨_, rfl⟩
    rw [hp] at HD hsz ⊢
    clear hp
    go_wp2_with fail
    refine (endsTrimmed_any p _ (by omega)).mono ?_
    rintro e w3 ⟨rfl, hb3⟩
    have HB3 := Lib.hid (HB2.out.trans (hb3.mono HB2.out.size))
    clear hb3
    rw [← HD.out]
    obtain ⟨y, hy⟩ : ∃ y, trmB l = y := ⟨_, rfl⟩
    rw [hy] at HV ⊢
    clear hy HD
    go_wp2
    go_ret
    rw [HV.out]
    exact ⟨rfl, HB3.out⟩
set_option maxHeartbeats 1000000 in
set_option maxRecDepth 100000 in
theorem sFitsAll_any (W : Int) (A : Option Addr) (l : List Tk) (m c : Nat) (w : World) (hm : l.length = m) (hmb : m ≤ 2097152) (hts : TS w A l) (hlow : ∀ b, A.map (·.block) = some b → b < w.heap.size) (hf : Fits l) :
    Calls Tryz.prog 57 #[.int .i64 W, .slice A m c] w fun e w' => e = .returned (.bool (fitB W l)) ∧ Below w.heap.size w w' := by
  have HM := Lib.hid hm
  have HT := Lib.hid hts
  have HF := Lib.hid hf
  have HL := Lib.hid hlow
  clear hm hts hf hlow
  go_enter Tryz.func57, Tryz.ntmps57
  go_wp2_with fail
  refine (sLayout_any W A l m c _ HM.out hmb HT.out HL.out HF.out).mono ?_
  rintro e w1 ⟨rfl, hb1⟩
  have HB1 := Lib.hid hb1
  have ht1 := HT.out.below hb1
  clear hb1
  cases hok : okB W l
  · have HV := Lib.hid (fitB_no hok)
    clear hok
    go_wp2
    go_ret
    rw [HV.out]
    exact ⟨rfl, HB1.out⟩
  · have HV := Lib.hid (fitB_yes hok)
    have hsz := plnB_size (okB_true hok).2.2
    clear hok
    have HD := Lib.hid (show trmB l = ⟨(cuB (plnB l).data.toList).toArray⟩ from rfl)
    obtain ⟨x, hx⟩ : ∃ x, layB W l = x := ⟨_, rfl⟩
    rw [hx] at HV ⊢
    clear hx
    go_wp2_with fail
    refine (sPlainOf_any A l m c _ HM.out hmb ht1 HF.out).mono ?_
    rintro e w2 ⟨rfl, hb2⟩
    have HB2 := Lib.hid (HB1.out.trans (hb2.mono HB1.out.size))
    clear hb2
    obtain ⟨p, hp⟩ : ∃ p, plnB l = p := ⟨_, rfl⟩
    rw [hp] at HD hsz ⊢
    clear hp
    go_wp2_with fail
    refine (l03Trim_any p _ (by omega)).mono ?_
    rintro e w3 ⟨rfl, hb3⟩
    have HB3 := Lib.hid (HB2.out.trans (hb3.mono HB2.out.size))
    clear hb3
    rw [← HD.out]
    obtain ⟨y, hy⟩ : ∃ y, trmB l = y := ⟨_, rfl⟩
    rw [hy] at HV ⊢
    clear hy HD
    go_wp2
    go_ret
    rw [HV.out]
    exact ⟨rfl, HB3.out⟩
/-- the first of n widths from k on in which all fits; -1 where there is none. -/
def narG (l : List Tk) : Nat → Nat → Int
  | 0, _ => -1
  | n + 1, k => if fitB k l = true then k else narG l n (k + 1)
theorem narG_yes {l : List Tk} {n k : Nat} (h : fitB k l = true) : narG l (n + 1) k = k := if_pos h
theorem narG_no {l : List Tk} {n k : Nat} (h : fitB k l = false) : narG l (n + 1) k = narG l n (k + 1) := if_neg (by rw [h]; decide)
def narB (l : List Tk) : Int := narG l 200 1
theorem narG_none {l : List Tk} (h : strB l = false) : ∀ n k, narG l n k = -1
  | 0, _ => rfl
  | n + 1, k => by rw [narG_no (fitB_no (by simp [okB, h]))]; exact narG_none h n (k + 1)
theorem narG_bd (l : List Tk) : ∀ n k, -1 ≤ narG l n k ∧ narG l n k < k + n
  | 0, _ => by simp [narG]; omega
  | n + 1, k => by
    have ih := narG_bd l n (k + 1)
    unfold narG
    split <;> omega
set_option maxHeartbeats 1000000 in
set_option maxRecDepth 100000 in
theorem sNarrowestOf_any (A : Option Addr) (l : List Tk) (m c : Nat) (w : World) (hm : l.length = m) (hmb : m ≤ 2097152) (hts : TS w A l) (hlow : ∀ b, A.map (·.block) = some b → b < w.heap.size) (hf : Fits l) :
    Calls Tryz.prog 19 #[.slice A m c] w fun e w' => e = .returned (.int .i64 (narB l)) ∧ Below w.heap.size w w' := by
  have HM := Lib.hid hm
  have HT := Lib.hid hts
  have HF := Lib.hid hf
  have HL := Lib.hid hlow
  clear hm hts hf hlow
  go_enter Tryz.func19, Tryz.ntmps19
  go_wp2_with fail
  go_loopw [3] (fun iv wr => ∃ k n : Nat, k + n = 201 ∧ iv = .int .i64 k ∧ narG l n k = narB l ∧ Below w.heap.size w wr) (fun iv _ => 201 - (intOf iv).toNat)
  case atStart => exact ⟨1, 200, rfl, rfl, rfl, Below.refl _ _⟩
  case round =>
    obtain ⟨k, n, hkn, rfl, hnar, hb⟩ := hrel
    have HB := Lib.hid hb
    have HN := Lib.hid hnar
    have ht1 := HT.out.below hb
    have hl1 : ∀ b, A.map (·.block) = some b → b < wr.heap.size := fun b h => Nat.lt_of_lt_of_le (HL.out b h) hb.size
    have HL1 := Lib.hid hl1
    clear hb hnar hl1
    cases n with
    | zero =>
      obtain rfl : k = 201 := by omega
      go_wp2
      go_ret
      rw [← HN.out]
      exact ⟨rfl, HB.out⟩
    | succ n =>
      have hk : k ≤ 200 := by omega
      go_wp2_with fail
      refine (sFitsAll_any k A l m c _ HM.out hmb ht1 HL1.out HF.out).mono ?_
      rintro e w2 ⟨rfl, hb2⟩
      have HB2 := Lib.hid (HB.out.trans (hb2.mono HB.out.size))
      clear hb2
      cases hfb : fitB k l
      · have HG := Lib.hid (narG_no (n := n) hfb)
        clear hfb
        go_wp2
        go_roundw
        case rel => exact ⟨k + 1, n, by omega, by go_num, by rw [← HG.out]; exact HN.out, HB2.out⟩
        case measure => simp [intOf]; omega
      · have HG := Lib.hid (narG_yes (n := n) hfb)
        clear hfb
        go_wp2
        go_ret
        rw [← HN.out, HG.out]
        exact ⟨rfl, HB2.out⟩
set_option maxHeartbeats 2000000 in
set_option maxRecDepth 100000 in
theorem NarrowestOf_any (A : Option Addr) (l : List Tk) (m c : Nat) (w : World) (hm : l.length = m) (hmb : m ≤ 2097152) (hmc : m ≤ c) (hts : TS w A l) (hlow : ∀ b, A.map (·.block) = some b → b < w.heap.size) (hf : Fits l) :
    Calls Tryz.prog 18 #[.slice A m c] w fun e w' => e = .returned (.int .i64 (narB l)) ∧ Below w.heap.size w w' := by
  have HM := Lib.hid hm
  have HT := Lib.hid hts
  have HF := Lib.hid hf
  have HL := Lib.hid hlow
  clear hm hts hf hlow
  go_enter Tryz.func18, Tryz.ntmps18
  go_wp2_with fail
  refine (StreamOk_any _ l _ _ _ HM.out hmb HT.out HF.out).mono ?_
  rintro e w1 ⟨rfl, hb1⟩
  have HB1 := Lib.hid hb1
  have HT1 := Lib.hid (HT.out.below hb1)
  have hz1 := hb1.size
  clear hb1
  cases hS : strB l
  · have HV := Lib.hid (show narB l = -1 from narG_none hS 200 1)
    clear hS
    go_wp2
    go_ret
    rw [HV.out]
    exact ⟨rfl, HB1.out⟩
  · have HSS := Lib.hid hS
    have hsz := plnB_size hS
    clear hS
    go_wp2_with fail
    refine (SizesOf_out A l m c _ HM.out hmb HT1.out HF.out).mono ?_
    rintro e w2 ⟨hb2, A2, c2, rfl, hlo2, hnn2, hrow2⟩
    have HB2 := Lib.hid (HB1.out.trans (hb2.mono HB1.out.size))
    have HT2 := Lib.hid (HT1.out.below hb2)
    have HR2 := Lib.hid hrow2
    have HLO := Lib.hid (show ∀ b, A2.map (·.block) = some b → w.heap.size ≤ b from fun b hb => Nat.le_trans hz1 (hlo2 b hb))
    clear hb2 hrow2 hlo2 hnn2
    have HD := Lib.hid (show trmB l = ⟨(cuB (plnB l).data.toList).toArray⟩ from rfl)
    go_wp2_with fail
    refine (PlainOf_any A l m c _ HM.out hmb HT2.out HF.out).mono ?_
    rintro e w3 ⟨rfl, hb3⟩
    have HB3 := Lib.hid (HB2.out.trans (hb3.mono HB2.out.size))
    have HR3 := Lib.hid (HR2.out.below hb3)
    clear hb3 HR2 HT2
    obtain ⟨p, hp⟩ : ∃ p, plnB l = p := ⟨_, rfl⟩
    rw [hp] at HD hsz ⊢
    clear hp
    go_wp2_with fail
    refine (endsTrimmed_any p _ (by omega)).mono ?_
    rintro e w4 ⟨rfl, hb4⟩
    have HB4 := Lib.hid (HB3.out.trans (hb4.mono HB3.out.size))
    have HR4 := Lib.hid (HR3.out.below hb4)
    clear hb4 HR3
    rw [← HD.out]
    clear HD
    obtain ⟨y, hy⟩ : ∃ y, trmB l = y := ⟨_, rfl⟩
    have HY := Lib.hid hy
    rw [hy]
    clear hy
    go_wp2_with fail
    go_loopw [5] (fun iv wr => ∃ k n : Nat, 1 ≤ k ∧ k + n = 201 ∧ iv = .int .i64 k ∧ narG l n k = narB l ∧ Below w.heap.size w wr ∧ IntRow wr A2 (szsB l)) (fun iv _ => 201 - (intOf iv).toNat)
    case atStart => exact ⟨1, 200, Nat.le_refl _, rfl, rfl, rfl, HB4.out, HR4.out⟩
    case round =>
      obtain ⟨k, n, hk1, hkn, rfl, hnar, hb, hrw⟩ := hrel
      have HB := Lib.hid hb
      have HN := Lib.hid hnar
      have HR := Lib.hid hrw
      have hzr := hb.size
      clear hb hnar hrw
      cases n with
      | zero =>
        obtain rfl : k = 201 := by omega
        go_wp2
        go_ret
        rw [← HN.out]
        exact ⟨rfl, HB.out⟩
      | succ n =>
        have hk : k ≤ 200 := by omega
        have hok : okB (k : Int) l = true := by
          unfold okB
          rw [HSS.out, inB_true.2 ⟨by omega, by omega⟩]
          rfl
        have HFI := Lib.hid (fitB_yes hok)
        have HLB := Lib.hid (show layB (k : Int) l = ⟨(run (k : Int) l l.length).1.out.toArray⟩ from by simp [layB, hok])
        clear hok
        go_wp2_with fail
        refine (newPrinter_any k wr).mono ?_
        rintro e w5 ⟨p, vM, rfl, hb5, hpa⟩
        have hpa' := PM.mono hpa hzr
        have HB5 := Lib.hid (HB.out.trans (hb5.mono hzr))
        have HPT := Lib.hid (putAll_row (n := l.length) (c := c) (cs := c2) hpa' (Nat.le_trans hzr hb5.size) HSS.out (Nat.le_refl _) (by omega) (by omega) ((HT.out.below HB.out).below hb5) HL.out (HR.out.below hb5) HLO.out)
        clear hb5 hpa hpa'
        have e := HM.out
        subst e
        go_wp2_with fail
        refine HPT.out.mono ?_
        rintro e w6 ⟨⟨v, rfl, hb6, _, vW, vM2, hpa⟩, hr6⟩
        obtain ⟨d0, d1, d2, d3, d4, hp⟩ := hpa.cells
        have hcv := conv_own hpa.own
        have HR6 := Lib.hid hr6
        have HB6 := Lib.hid (HB5.out.trans hb6)
        rw [← HLB.out] at hcv
        rw [HY.out] at HFI
        obtain ⟨z, hz⟩ : ∃ z, layB (k : Int) l = z := ⟨_, rfl⟩
        rw [hz] at hcv HFI
        clear HPT hpa hr6 hb6 hz HLB
        cases hfb : fitB k l
        · have HG := Lib.hid (narG_no (n := n) hfb)
          have hq : (z.toList == y.toList) = false := by rw [← HFI.out]; exact hfb
          clear hfb HFI
          go_wp2
          go_roundw
          case rel => exact ⟨k + 1, n, by omega, by omega, by go_num, by rw [← HG.out]; exact HN.out, HB6.out, HR6.out⟩
          case measure => simp [intOf]; omega
        · have HG := Lib.hid (narG_yes (n := n) hfb)
          have hq : (z.toList == y.toList) = true := by rw [← HFI.out]; exact hfb
          clear hfb HFI
          go_wp2
          go_ret
          rw [← HN.out, HG.out]
          exact ⟨rfl, HB6.out⟩
end Go.Proofs.YthjkgbcomjiejadGreatDoor
