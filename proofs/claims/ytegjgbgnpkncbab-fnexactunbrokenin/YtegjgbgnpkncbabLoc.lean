/-
  UnbrokenIn on both sides.
-/
import Derived.Test.YtegjgbgnpkncbabLob
namespace Go.Proofs.Ytegjgbgnpkncbab
open Go.RowKit
set_option linter.unusedVariables false

/-- does token k count: a blank of that line that does not break. -/
def ubB (l : List Tk) (bs : List Bool) (line : Int) (k : Nat) : Bool :=
  match l[k]?, bs[k]? with
  | some t, some b => ((cuN bs (k + 1) : Int) == line) && ((t.k == 1) && !b)
  | _, _ => false
def ubN (l : List Tk) (bs : List Bool) (line : Int) : Nat → Nat
  | 0 => 0
  | k + 1 => ubN l bs line k + (if ubB l bs line k = true then 1 else 0)
theorem ubN_le (l : List Tk) (bs : List Bool) (line : Int) : ∀ k, ubN l bs line k ≤ k
  | 0 => Nat.le_refl _
  | k + 1 => by
    have := ubN_le l bs line k
    simp only [ubN]
    split <;> omega
theorem ubN_yes {l : List Tk} {bs : List Bool} {line : Int} {k : Nat} (h : ubB l bs line k = true) : ubN l bs line (k + 1) = ubN l bs line k + 1 := by simp only [ubN, if_pos h]
theorem ubN_no {l : List Tk} {bs : List Bool} {line : Int} {k : Nat} (h : ubB l bs line k = false) : ubN l bs line (k + 1) = ubN l bs line k := by simp [ubN, h]
theorem ubB_eq {l : List Tk} {bs : List Bool} {line : Int} {k : Nat} {t : Tk} {b : Bool} (h1 : l[k]? = some t) (h2 : bs[k]? = some b) : ubB l bs line k = (((cuN bs (k + 1) : Int) == line) && ((t.k == 1) && !b)) := by
  unfold ubB
  rw [h1, h2]
def unI (W : Int) (l : List Tk) (line : Int) : Int := if okB W l = true then (ubN l (flN (brkL W l) l.length) line l.length : Int) else -1
set_option maxHeartbeats 2000000 in
set_option maxRecDepth 100000 in
theorem UnbrokenIn_any (W : Int) (A : Option Addr) (l : List Tk) (m c : Nat) (line : Int) (w : World) (hm : l.length = m) (hmb : m ≤ 2097152) (hmc : m ≤ c) (hts : TS w A l) (hlow : ∀ b, A.map (·.block) = some b → b < w.heap.size) (hf : Fits l) :
    Calls Try.prog 18 #[.int .i64 W, .slice A m c, .int .i64 line] w fun e w' => e = .returned (.int .i64 (unI W l line)) ∧ Below w.heap.size w w' := by
  have HM := Lib.hid hm
  have HT := Lib.hid hts
  have HF := Lib.hid hf
  have HL := Lib.hid hlow
  clear hm hts hf hlow
  go_enter Try.func18, Try.ntmps18
  go_wp2_with fail
  refine (breaking_any W A l m c _ HM.out hmb hmc HT.out HL.out HF.out).mono ?_
  rintro e w1 ⟨hb1, ⟨hok, g, rfl, hg, hk⟩ | ⟨hok, rfl⟩⟩
  · have HB1 := Lib.hid hb1
    have HE := Lib.hid (show unI W l line = (ubN l (flN (brkL W l) l.length) line l.length : Int) from if_pos hok)
    have HRS := Lib.hid (show RS fb 1 w1 (some ⟨g, 0, none⟩) (flN (brkL W l) l.length) from RS.of_blk fb_len hk)
    have HFL := Lib.hid (flN_len (brkL W l) m)
    rw [HM.out] at HRS HE ⊢
    clear hb1 hok hk
    obtain ⟨bs, hbs⟩ : ∃ bs, flN (brkL W l) m = bs := ⟨_, rfl⟩
    rw [hbs] at HRS HE HFL
    clear hbs
    go_wp2_with fail
    refine (countUp_any _ bs _ _ _ HFL.out (by omega) HRS.out).mono ?_
    rintro e w2 ⟨hb2, A2, c2, rfl, hlo, hnil, hrow⟩
    have HB2 := Lib.hid (HB1.out.trans (hb2.mono HB1.out.size))
    have HR2 := Lib.hid hrow.is
    have HS2 := Lib.hid (HRS.out.below hb2)
    have HT2 := Lib.hid (HT.out.below HB2.out)
    rw [cuL_len, HFL.out]
    clear hb2 hlo hnil hrow HRS
    go_wp2_with fail
    go_loopw [9, 23] (fun v iv wr => ∃ k : Nat, k ≤ m ∧ iv = .int .i64 k ∧ v = .int .i64 (ubN l bs line k) ∧ w2 = wr) (fun _ iv _ => m - (intOf iv).toNat)
    case atStart => exact ⟨0, Nat.zero_le _, rfl, rfl, rfl⟩
    case round =>
      obtain ⟨k, hk, rfl, rfl, rfl⟩ := hrel
      have hul := ubN_le l bs line k
      by_cases hkl : k < m
      · obtain ⟨t, b, o, ht, rfl, hbl, c0, c1, c2', c3⟩ := HT2.out.at (k := k) (by have := HM.out; omega)
        obtain ⟨x, b', o', hx, hA', hbl', d0⟩ := HS2.out.at (k := k) (by have := HFL.out; omega)
        injection hA' with hA'
        injection hA' with e1 e2
        subst e1 e2
        have d1 : w2.cell? ⟨g, 0 + k, none⟩ = some (.bool x) := by have := d0 0 (by decide); simpa [fb] using this
        rw [Nat.zero_add] at d1
        obtain ⟨g2, rfl, hg2, r0⟩ := HR2.out k _ (cuL_at bs (k := k) (by have := HFL.out; omega))
        have HU := Lib.hid (ubB_eq (line := line) ht hx)
        clear ht hx d0
        cases h1 : ((cuN bs (k + 1) : Int) == line) <;> cases h2 : (t.k == 1) <;> cases x
        case true.true.false =>
          have HG := Lib.hid (ubN_yes (show ubB l bs line k = true by rw [HU.out, h1, h2]; rfl))
          go_wp2_with fail
          go_roundw
          case rel => exact ⟨k + 1, by omega, by go_num, by rw [HG.out]; go_num, trivial⟩
          case measure => simp [intOf]; omega
        all_goals
          have HG := Lib.hid (ubN_no (show ubB l bs line k = false by rw [HU.out, h1, h2]; rfl))
          go_wp2_with fail
          go_roundw
          case rel => exact ⟨k + 1, by omega, by go_num, by rw [HG.out], trivial⟩
          case measure => simp [intOf]; omega
      · obtain rfl : k = m := by omega
        go_wp2_with fail
        go_ret
        rw [HE.out]
        exact ⟨rfl, HB2.out⟩
  · have HB1 := Lib.hid hb1
    have HE := Lib.hid (show unI W l line = -1 from by unfold unI; rw [if_neg (by rw [hok]; decide)])
    clear hb1 hok
    go_wp2_with fail
    go_ret
    rw [HE.out]
    exact ⟨rfl, HB1.out⟩
set_option maxHeartbeats 2000000 in
set_option maxRecDepth 100000 in
theorem sUnbrokenIn_any (W : Int) (A : Option Addr) (l : List Tk) (m c : Nat) (line : Int) (w : World) (hm : l.length = m) (hmb : m ≤ 2097152) (hts : TS w A l) (hlow : ∀ b, A.map (·.block) = some b → b < w.heap.size) (hf : Fits l) :
    Calls Try.prog 17 #[.int .i64 W, .slice A m c, .int .i64 line] w fun e w' => e = .returned (.int .i64 (unI W l line)) ∧ Below w.heap.size w w' := by
  have HM := Lib.hid hm
  have HT := Lib.hid hts
  have HF := Lib.hid hf
  have HL := Lib.hid hlow
  clear hm hts hf hlow
  go_enter Try.func17, Try.ntmps17
  go_wp2_with fail
  refine (sLayout_any W A l m c _ HM.out hmb HT.out HL.out HF.out).mono ?_
  rintro e w1 ⟨rfl, hb1⟩
  have HB1 := Lib.hid hb1
  clear hb1
  cases hok : okB W l
  · have HE := Lib.hid (show unI W l line = -1 from by unfold unI; rw [if_neg (by rw [hok]; decide)])
    clear hok
    go_wp2_with fail
    go_ret
    rw [HE.out]
    exact ⟨rfl, HB1.out⟩
  have HE := Lib.hid (show unI W l line = (ubN l (flN (brkL W l) l.length) line l.length : Int) from if_pos hok)
  have HLN := Lib.hid (show lnoL W l = cuL (flN (brkL W l) l.length) from if_pos hok)
  clear hok
  rw [HM.out] at HE HLN
  have hbl := brkL_le W l
  go_wp2_with fail
  refine (sLineOfTokens_any W A l m c _ HM.out hmb (HT.out.below HB1.out) (fun b hb => Nat.lt_of_lt_of_le (HL.out b hb) HB1.out.size) HF.out).mono ?_
  rw [HLN.out]
  rintro e w2 ⟨hb2, A2, c2, rfl, hlo2, hnil2, hrow2⟩
  have HB2 := Lib.hid (HB1.out.trans (hb2.mono HB1.out.size))
  have HR2 := Lib.hid hrow2.is
  rw [cuL_len, flN_len]
  clear hb2 hrow2 hlo2 hnil2
  go_wp2_with fail
  refine (sBreaksOf_out W A l m c _ HM.out hmb (HT.out.below HB2.out) (fun b hb => Nat.lt_of_lt_of_le (HL.out b hb) HB2.out.size) HF.out).mono ?_
  rintro e w3 ⟨hb3, A3, c3, rfl, hlo3, hnil3, hrow3⟩
  have HB3 := Lib.hid (HB2.out.trans (hb3.mono HB2.out.size))
  have HR3 := Lib.hid hrow3.is
  have HQ3 := Lib.hid (HR2.out.below hb3)
  have HT3 := Lib.hid (HT.out.below HB3.out)
  have HFL := Lib.hid (flN_len (brkL W l) m)
  clear hb3 hrow3 hlo3 hnil3 HR2
  obtain ⟨ps, hps⟩ : ∃ ps, brkL W l = ps := ⟨_, rfl⟩
  rw [hps] at HR3 HE HQ3 HFL hbl ⊢
  clear hps HLN
  obtain ⟨bs, hbs⟩ : ∃ bs, flN ps m = bs := ⟨_, rfl⟩
  have HAT := Lib.hid (show ∀ k, k < m → bs[k]? = some (ps.contains (k : Int)) from fun k hk => by rw [← hbs]; exact flN_at ps hk)
  rw [hbs] at HE HFL HQ3
  clear hbs
  go_wp2_with fail
  go_loopw [11, 12] (fun v iv wr => ∃ k : Nat, k ≤ m ∧ iv = .int .i64 k ∧ v = .int .i64 (ubN l bs line k) ∧ w3 = wr) (fun _ iv _ => m - (intOf iv).toNat)
  case atStart => exact ⟨0, Nat.zero_le _, rfl, rfl, rfl⟩
  case round =>
    obtain ⟨k, hk, rfl, rfl, rfl⟩ := hrel
    have hul := ubN_le l bs line k
    by_cases hkl : k < m
    · obtain ⟨t, b, o, ht, rfl, hbl', c0, c1, c2', c3'⟩ := HT3.out.at (k := k) (by have := HM.out; omega)
      obtain ⟨g2, rfl, hg2, r0⟩ := HQ3.out k _ (cuL_at bs (k := k) (by have := HFL.out; omega))
      have HU := Lib.hid (ubB_eq (line := line) ht (HAT.out k hkl))
      clear ht
      cases h2 : (t.k == 1)
      · have HG := Lib.hid (ubN_no (show ubB l bs line k = false by rw [HU.out, h2]; simp))
        go_wp2_with fail
        go_roundw
        case rel => exact ⟨k + 1, by omega, by go_num, by rw [HG.out], trivial⟩
        case measure => simp [intOf]; omega
      cases h1 : ((cuN bs (k + 1) : Int) == line)
      · have HG := Lib.hid (ubN_no (show ubB l bs line k = false by rw [HU.out, h1]; simp))
        go_wp2_with fail
        go_roundw
        case rel => exact ⟨k + 1, by omega, by go_num, by rw [HG.out], trivial⟩
        case measure => simp [intOf]; omega
      go_wp2_with fail
      refine (l01Has_any A3 ps _ c3 _ _ rfl (by omega) HR3.out).mono ?_
      rintro e w4 ⟨rfl, rfl⟩
      cases hct : ps.contains (k : Int)
      · have HG := Lib.hid (ubN_yes (show ubB l bs line k = true by rw [HU.out, h1, h2, hct]; rfl))
        clear hct
        go_wp2_with fail
        go_roundw
        case rel => exact ⟨k + 1, by omega, by go_num, by rw [HG.out]; go_num, trivial⟩
        case measure => simp [intOf]; omega
      · have HG := Lib.hid (ubN_no (show ubB l bs line k = false by rw [HU.out, h1, h2, hct]; rfl))
        clear hct
        go_wp2_with fail
        go_roundw
        case rel => exact ⟨k + 1, by omega, by go_num, by rw [HG.out], trivial⟩
        case measure => simp [intOf]; omega
    · obtain rfl : k = m := by omega
      go_wp2_with fail
      go_ret
      rw [HE.out]
      exact ⟨rfl, HB3.out⟩
end Go.Proofs.Ytegjgbgnpkncbab
