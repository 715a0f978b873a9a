/-
  TightKept on both sides.
-/
import Derived.Test.YtegjgbgnpkncbabLoe
namespace Go.Proofs.Ytegjgbgnpkncbab
open Go.RowKit
set_option linter.unusedVariables false

theorem endN_le {l : List Tk} {k : Nat} (hk : k < l.length) : endN l k ≤ l.length := by
  unfold endN endI
  rcases fwdF_cases l (levI l k) (l.length - (k + 1)) (k + 1) with ⟨j, h1, _, h3, _⟩ | ⟨h1, _⟩
  · rw [h1]; omega
  · rw [h1]; omega
theorem tgN_small (l : List Tk) (bs : List Bool) : ∀ k, k ≤ l.length → ∀ x ∈ tgN l bs k, x.length ≤ l.length
  | 0, _, x, h => by simp [tgN] at h
  | k + 1, hk, x, h => by
    simp only [tgN] at h
    rcases List.mem_append.1 h with h | h
    · exact tgN_small l bs k (by omega) x h
    · split at h
      · simp at h
        subst h
        have h1 := ownN_le l bs k (endN l k - (k + 1))
        have h2 := endN_le (l := l) (k := k) (by omega)
        omega
      · simp at h
theorem tgN_mono {l : List Tk} {bs : List Bool} {i : Nat} : ∀ {j : Nat}, i ≤ j → ∀ x ∈ tgN l bs i, x ∈ tgN l bs j := by
  intro j hij
  induction hij with
  | refl => exact fun x hx => hx
  | step _ ih => exact fun x hx => by simp only [tgN]; exact List.mem_append.2 (.inl (ih x hx))
theorem tgN_bad {l : List Tk} {bs : List Bool} {k m : Nat} {x : List Bool} (hkm : k + 1 ≤ m) (h : tgN l bs (k + 1) = tgN l bs k ++ [x]) (hx : cons x = false) : (tgN l bs m).all cons = false := by
  refine List.all_eq_false.2 ⟨x, tgN_mono hkm x (by rw [h]; simp), by rw [hx]; simp⟩
set_option maxHeartbeats 2000000 in
set_option maxRecDepth 100000 in
theorem TightKept_any (W : Int) (A : Option Addr) (l : List Tk) (m c : Nat) (w : World) (hm : l.length = m) (hmb : m ≤ 2097152) (hmc : m ≤ c) (hts : TS w A l) (hlow : ∀ b, A.map (·.block) = some b → b < w.heap.size) (hf : Fits l) :
    Calls Try.prog 22 #[.int .i64 W, .slice A m c] w fun e w' => e = .returned (.bool (tkB W l)) ∧ Below w.heap.size w w' := by
  have HM := Lib.hid hm
  have HT := Lib.hid hts
  have HF := Lib.hid hf
  have HL := Lib.hid hlow
  clear hm hts hf hlow
  go_enter Try.func22, Try.ntmps22
  go_wp2_with fail
  refine (breaking_any W A l m c _ HM.out hmb hmc HT.out HL.out HF.out).mono ?_
  rintro e w1 ⟨hb1, ⟨hok, g, rfl, hg, hk⟩ | ⟨hok, rfl⟩⟩
  · have HB1 := Lib.hid hb1
    have HE := Lib.hid (show tkB W l = (tgN l (flN (brkL W l) l.length) l.length).all cons from by unfold tkB; rw [hok]; rfl)
    have HST := Lib.hid (okB_true hok).2.2
    have h400 := (strB_true (okB_true hok).2.2).1
    have HRS := Lib.hid (show RS fb 1 w1 (some ⟨g, 0, none⟩) (flN (brkL W l) l.length) from RS.of_blk fb_len hk)
    have HFL := Lib.hid (flN_len (brkL W l) m)
    rw [HM.out] at HRS HE h400 ⊢
    clear hb1 hok hk
    obtain ⟨bs, hbs⟩ : ∃ bs, flN (brkL W l) m = bs := ⟨_, rfl⟩
    rw [hbs] at HRS HE HFL
    clear hbs
    go_wp2_with fail
    refine (tightBreaks_any A l m c g bs _ HM.out h400 HST.out (HT.out.below HB1.out) HF.out HFL.out HRS.out).mono ?_
    rintro e w2 ⟨A2, c2, vs, row, rfl, hrs, hlb, hb2⟩
    have HB2 := Lib.hid (HB1.out.trans (hb2.mono HB1.out.size))
    have hvl : vs.length ≤ m := by rw [hlb.1]; exact tgN_le _ _ _
    have HR2 := Lib.hid hrs
    have HL2 := Lib.hid hlb
    have HSM := Lib.hid (show ∀ x ∈ tgN l bs m, x.length ≤ 2097152 from fun x hx => by have := tgN_small l bs m (by have := HM.out; omega) x hx; have := HM.out; omega)
    clear hb2 hrs hlb
    go_wp2_with fail
    refine (allAlike_any A2 vs (tgN l bs m) _ c2 row _ rfl (by omega) HR2.out HL2.out HSM.out).mono ?_
    rintro e w3 ⟨rfl, rfl⟩
    rw [← HE.out]
    go_wp2_with fail
    go_ret
    exact ⟨rfl, HB2.out⟩
  · have HB1 := Lib.hid hb1
    have HE := Lib.hid (show tkB W l = false from by unfold tkB; rw [hok]; rfl)
    clear hb1 hok
    go_wp2_with fail
    go_ret
    rw [HE.out]
    exact ⟨rfl, HB1.out⟩
set_option maxHeartbeats 4000000 in
set_option maxRecDepth 100000 in
theorem sTightKept_any (W : Int) (A : Option Addr) (l : List Tk) (m c : Nat) (w : World) (hm : l.length = m) (hmb : m ≤ 2097152) (hts : TS w A l) (hlow : ∀ b, A.map (·.block) = some b → b < w.heap.size) (hf : Fits l) :
    Calls Try.prog 21 #[.int .i64 W, .slice A m c] w fun e w' => e = .returned (.bool (tkB W l)) ∧ Below w.heap.size w w' := by
  have HM := Lib.hid hm
  have HT := Lib.hid hts
  have HF := Lib.hid hf
  have HL := Lib.hid hlow
  clear hm hts hf hlow
  go_enter Try.func21, Try.ntmps21
  go_wp2_with fail
  refine (sLevels_any A l m c _ HM.out hmb HT.out HF.out).mono ?_
  rintro e w0 ⟨A1, m1, c1, d1, rfl, hb0, hlev⟩
  have HB0 := Lib.hid hb0
  have HLV := Lib.hid hlev
  clear hb0 hlev
  go_wp2_with fail
  refine (sLayout_any W A l m c _ HM.out hmb (HT.out.below HB0.out) (fun b hb => Nat.lt_of_lt_of_le (HL.out b hb) HB0.out.size) HF.out).mono ?_
  rintro e w1 ⟨rfl, hb1⟩
  have HB1 := Lib.hid (HB0.out.trans (hb1.mono HB0.out.size))
  have HB01 := Lib.hid hb1
  clear hb1
  cases hok : okB W l
  · have HE := Lib.hid (show tkB W l = false from by unfold tkB; rw [hok]; rfl)
    clear hok
    go_wp2_with fail
    go_ret
    rw [HE.out]
    exact ⟨rfl, HB1.out⟩
  have HE := Lib.hid (show tkB W l = (tgN l (flN (brkL W l) l.length) l.length).all cons from by unfold tkB; rw [hok]; rfl)
  have HST := Lib.hid (okB_true hok).2.2
  have h400 := (strB_true (okB_true hok).2.2).1
  have HMAT := Lib.hid (show ∀ (k : Nat) (t : Tk), l[k]? = some t → t.k = 2 → matB l (k : Int) = endI l k from fun k t ht h2 => by rw [matB_yes (okB_true hok).2.2 ht]; unfold matI; rw [if_pos h2]; rfl)
  obtain ⟨_, rfl, hown1⟩ := HLV.out (okB_true hok).2.2
  have HV1 := Lib.hid (show IS w1 A1 (levs l) from (row_of_own hown1).1.is.below HB01.out)
  clear hok hown1 HLV
  rw [HM.out] at HE h400 ⊢
  have hbl := brkL_le W l
  go_wp2_with fail
  refine (sBreaksOf_out W A l m c _ HM.out hmb (HT.out.below HB1.out) (fun b hb => Nat.lt_of_lt_of_le (HL.out b hb) HB1.out.size) HF.out).mono ?_
  rintro e w2 ⟨hb2, A2, c2, rfl, hlo2, hnil2, hrow2⟩
  have HB2 := Lib.hid (HB1.out.trans (hb2.mono HB1.out.size))
  have HR2 := Lib.hid hrow2.is
  have HV2 := Lib.hid (HV1.out.below hb2)
  have HT2 := Lib.hid (HT.out.below HB2.out)
  have HFL := Lib.hid (flN_len (brkL W l) m)
  clear hb2 hrow2 hlo2 hnil2 HV1
  obtain ⟨ps, hps⟩ : ∃ ps, brkL W l = ps := ⟨_, rfl⟩
  rw [hps] at HR2 HE HFL hbl ⊢
  clear hps
  obtain ⟨bs, hbs⟩ : ∃ bs, flN ps m = bs := ⟨_, rfl⟩
  have HAT := Lib.hid (show ∀ k, k < m → bs[k]? = some (ps.contains (k : Int)) from fun k hk => by rw [← hbs]; exact flN_at ps hk)
  rw [hbs] at HE HFL
  clear hbs
  go_wp2_with fail
  go_loopw [11] (fun iv wr => ∃ k : Nat, k ≤ m ∧ iv = .int .i64 k ∧ (tgN l bs k).all cons = true ∧ Below w2.heap.size w2 wr) (fun iv _ => m - (intOf iv).toNat)
  case atStart => exact ⟨0, Nat.zero_le _, rfl, rfl, Below.refl _ _⟩
  case round =>
    obtain ⟨k, hk, rfl, hall, hb⟩ := hrel
    have HA := Lib.hid hall
    have HB := Lib.hid hb
    clear hall hb
    by_cases hkl : k < m
    · obtain ⟨t, b, o, ht, rfl, hbl', c0, c1', c2', c3'⟩ := (HT2.out.below HB.out).at (k := k) (by have := HM.out; omega)
      have HTT := Lib.hid ht
      have HIT := Lib.hid (isT_eq ht)
      clear ht
      cases h2 : (t.k == 2)
      · have h2n : (t.k != 2) = true := by simp [bne, h2]
        have HG := Lib.hid (tgN_no (bs := bs) (show isT l k = false by rw [HIT.out, h2]; rfl))
        go_wp2_with fail
        go_roundw
        case rel => exact ⟨k + 1, by omega, by go_num, by rw [HG.out]; exact HA.out, HB.out⟩
        case measure => simp [intOf]; omega
      cases h1 : (t.d == 1)
      · have h2n : (t.k != 2) = false := by simp [bne, h2]
        have h1n : (t.d != 1) = true := by simp [bne, h1]
        have HG := Lib.hid (tgN_no (bs := bs) (show isT l k = false by rw [HIT.out, h2, h1]; rfl))
        go_wp2_with fail
        go_roundw
        case rel => exact ⟨k + 1, by omega, by go_num, by rw [HG.out]; exact HA.out, HB.out⟩
        case measure => simp [intOf]; omega
      have h2n : (t.k != 2) = false := by simp [bne, h2]
      have h1n : (t.d != 1) = false := by simp [bne, h1]
      have HG := Lib.hid (tgN_yes (bs := bs) (show isT l k = true by rw [HIT.out, h2, h1]; rfl))
      have hk2' : t.k = 2 := by simpa using h2
      have HE2 := Lib.hid (HMAT.out k t HTT.out hk2')
      obtain ⟨e, he, hke, hel⟩ := endI_at HST.out HTT.out hk2'
      have HEE := Lib.hid (show endN l k = e by unfold endN; rw [he]; simp)
      have hlk := lev_bd HST.out (k := k) (by have := HM.out; omega)
      rw [HM.out] at hel
      rw [he] at HE2
      have hkwf : (Lit.int .i64 (k : Int)).wf = true := by simp [Lit.wf, IntKind.min, IntKind.max, IntKind.signed, IntKind.bits]; omega
      have HWF := Lib.hid hkwf
      clear he hk2' hkwf
      go_wp2_with fail
      clear c0 c1' c2' c3'
      go_loopw [12, 13, 14] (fun yv nv av wv => ∃ f : Nat, k + 1 + f ≤ e ∧ av = .int .i64 ((k + 1 + f : Nat) : Int) ∧ yv = .int .i64 ((ownN l bs k f).count true : Nat) ∧ nv = .int .i64 ((ownN l bs k f).count false : Nat) ∧ Below wr.heap.size wr wv) (fun _ _ av _ => e - (intOf av).toNat)
      case atStart => exact ⟨0, by omega, by go_num, rfl, rfl, Below.refl _ _⟩
      case round =>
        obtain ⟨f, hfe, rfl, rfl, rfl, hbv⟩ := hrel
        have HC := Lib.hid (HB.out.trans (hbv.mono HB.out.size))
        have HD := Lib.hid hbv
        have hol := ownN_le l bs k f
        have hct1 : (ownN l bs k f).count true ≤ (ownN l bs k f).length := List.count_le_length
        have hct2 : (ownN l bs k f).count false ≤ (ownN l bs k f).length := List.count_le_length
        clear hbv
        obtain ⟨a, ha⟩ : ∃ a, k + 1 + f = a := ⟨_, rfl⟩
        have HAA := Lib.hid ha
        rw [ha] at hfe ⊢
        go_wp2_with fail
        refine (sMatchOf_any _ l m c (k : Int) _ HM.out hmb (HT2.out.below HC.out) HF.out HWF.out).mono ?_
        rw [HE2.out]
        rintro e' w4 ⟨rfl, hb4⟩
        have HD4 := Lib.hid (HD.out.trans (hb4.mono HD.out.size))
        have HC4 := Lib.hid (HB.out.trans (HD4.out.mono HB.out.size))
        clear hb4 HC HD
        by_cases hae : a < e
        · obtain ⟨g1, rfl, hgl2, v0⟩ := (HV2.out.below HC4.out) a _ (levs_at l (i := a) (by have := HM.out; omega))
          obtain ⟨_, v1⟩ := (HV2.out.below HC4.out).get (levs_at l (i := k) (by have := HM.out; omega))
          obtain ⟨ta, b9, o9, hta, hA9, hbl9, c0, c1', c2', c3'⟩ := (HT2.out.below HC4.out).at (k := a) (by have := HM.out; omega)
          injection hA9 with hA9
          injection hA9 with q1 q2
          subst q1 q2
          have hfa := HF.out a ta hta
          have HOB := Lib.hid (show ownB l k a = ((levI l a == levI l k + 1) && brkB ta.k ta.s ta.d ta.o) by unfold ownB; rw [hta])
          have r0 := Bw.rd v0
          have r1 := Bw.rd v1
          have t0 := Bw.rd c0
          have t1 := Bw.rd c1'
          have t2 := Bw.rd c2'
          have t3 := Bw.rd c3'
          clear v0 v1 c0 c1' c2' c3' hta
          cases hbr : brkB ta.k ta.s ta.d ta.o
          · have HIB := Lib.hid (show ∀ V : World, Calls Try.prog 44 #[.agg #[.int .i64 ta.k, .string ta.s, .int .i64 ta.d, .int .i64 ta.o]] V fun e w' => e = .returned (.bool false) ∧ Below V.heap.size V w' from fun V => by have := sIsBreak_any ta.k ta.s ta.d ta.o V hfa; rw [hbr] at this; exact this)
            have HN := Lib.hid (ownN_no (bs := bs) (l := l) (k := k) (f := f) (by rw [HAA.out, HOB.out, hbr, Bool.and_false]))
            clear hbr
            go_wp2_with fail
            refine wp_region_class (Bw w4) (by kernel_rfl) (by kernel_rfl) (Bw.start w4) (fun hne => ?_)
            repeat (go_big_quiet_step (fail))
            refine wpQuiet_step (fun K hK => ?_)
            go_simp
            refine ⟨.bool false, fun y => calls_class y (Bw.keep w4) (HIB.out y.W), hK _ ?_⟩
            clear hK K
            repeat (go_big_quiet_step (fail))
            refine wpQuiet_nil ?_
            rintro w6 ⟨y, rfl⟩
            have HC6 := Lib.hid (HC4.out.trans (Below.mono y.ok HC4.out.size))
            have HD6 := Lib.hid (HD4.out.trans (Below.mono y.ok HD4.out.size))
            generalize y.W = w6 at *
            clear r0 r1 t0 t1 t2 t3 hne
            go_wp2_with fail
            go_roundw
            case rel => exact ⟨f + 1, by omega, by rw [show k + 1 + (f + 1) = a + 1 by omega]; go_num, by rw [HN.out], by rw [HN.out], HD6.out⟩
            case measure => simp [intOf]; omega
          · have HIB := Lib.hid (show ∀ V : World, Calls Try.prog 44 #[.agg #[.int .i64 ta.k, .string ta.s, .int .i64 ta.d, .int .i64 ta.o]] V fun e w' => e = .returned (.bool true) ∧ Below V.heap.size V w' from fun V => by have := sIsBreak_any ta.k ta.s ta.d ta.o V hfa; rw [hbr] at this; exact this)
            cases hlv : (levI l a == levI l k + 1)
            · have hln : (levI l a != levI l k + 1) = true := by simp [bne, hlv]
              have HN := Lib.hid (ownN_no (bs := bs) (l := l) (k := k) (f := f) (by rw [HAA.out, HOB.out, hlv]; rfl))
              clear hbr
              go_wp2_with fail
              refine wp_region_class (Bw w4) (by kernel_rfl) (by kernel_rfl) (Bw.start w4) (fun hne => ?_)
              repeat (go_big_quiet_step (fail))
              refine wpQuiet_step (fun K hK => ?_)
              go_simp
              refine ⟨.bool true, fun y => calls_class y (Bw.keep w4) (HIB.out y.W), hK _ ?_⟩
              clear hK K
              repeat (go_big_quiet_step (fail))
              refine wpQuiet_nil ?_
              rintro w6 ⟨y, rfl⟩
              have HC6 := Lib.hid (HC4.out.trans (Below.mono y.ok HC4.out.size))
              have HD6 := Lib.hid (HD4.out.trans (Below.mono y.ok HD4.out.size))
              generalize y.W = w6 at *
              clear r0 r1 t0 t1 t2 t3 hne
              go_wp2_with fail
              go_roundw
              case rel => exact ⟨f + 1, by omega, by rw [show k + 1 + (f + 1) = a + 1 by omega]; go_num, by rw [HN.out], by rw [HN.out], HD6.out⟩
              case measure => simp [intOf]; omega
            · have hln : (levI l a != levI l k + 1) = false := by simp [bne, hlv]
              go_wp2_with fail
              refine wp_region_class (Bw w4) (by kernel_rfl) (by kernel_rfl) (Bw.start w4) (fun hne => ?_)
              repeat (go_big_quiet_step (fail))
              refine wpQuiet_step (fun K hK => ?_)
              go_simp
              refine ⟨.bool true, fun y => calls_class y (Bw.keep w4) (HIB.out y.W), hK _ ?_⟩
              clear hK K
              repeat (go_big_quiet_step (fail))
              refine wpQuiet_nil ?_
              rintro w6 ⟨y, rfl⟩
              have HC6 := Lib.hid (HC4.out.trans (Below.mono y.ok HC4.out.size))
              have HD6 := Lib.hid (HD4.out.trans (Below.mono y.ok HD4.out.size))
              generalize y.W = w6 at *
              clear r0 r1 t0 t1 t2 t3 hne
              go_wp2_with fail
              refine (l01Has_any A2 ps _ c2 _ _ rfl (by omega) (HR2.out.below HC6.out)).mono ?_
              rintro e' w7 ⟨rfl, rfl⟩
              cases hct : ps.contains (a : Int)
              · have HN := Lib.hid (ownN_yes (bs := bs) (l := l) (k := k) (f := f) (b := false) (by rw [HAA.out, HOB.out, hlv, hbr]; rfl) (by rw [HAA.out, HAT.out a (by omega), hct]))
                clear hct
                go_wp2_with fail
                go_roundw
                case rel => exact ⟨f + 1, by omega, by rw [show k + 1 + (f + 1) = a + 1 by omega]; go_num, by rw [HN.out, List.count_append]; simp, by rw [HN.out, List.count_append]; go_num, HD6.out⟩
                case measure => simp [intOf]; omega
              · have HN := Lib.hid (ownN_yes (bs := bs) (l := l) (k := k) (f := f) (b := true) (by rw [HAA.out, HOB.out, hlv, hbr]; rfl) (by rw [HAA.out, HAT.out a (by omega), hct]))
                clear hct
                go_wp2_with fail
                go_roundw
                case rel => exact ⟨f + 1, by omega, by rw [show k + 1 + (f + 1) = a + 1 by omega]; go_num, by rw [HN.out, List.count_append]; go_num, by rw [HN.out, List.count_append]; simp, HD6.out⟩
                case measure => simp [intOf]; omega
        · obtain rfl : a = e := by omega
          have HFF := Lib.hid (show ownN l bs k (endN l k - (k + 1)) = ownN l bs k f by rw [HEE.out, show a - (k + 1) = f by omega])
          rw [HFF.out] at HG
          have HCC := Lib.hid (cons_count (ownN l bs k f))
          obtain ⟨cy, hcy⟩ : ∃ cy, (ownN l bs k f).count true = cy := ⟨_, rfl⟩
          obtain ⟨cn, hcn⟩ : ∃ cn, (ownN l bs k f).count false = cn := ⟨_, rfl⟩
          rw [hcy, hcn] at HCC ⊢
          clear hcy hcn hct1 hct2
          cases g1 : decide (0 < cy) <;> cases g2 : decide (0 < cn)
          case true.true =>
            have HZ := Lib.hid (show (tgN l bs m).all cons = false from tgN_bad (by omega) HG.out (by rw [HCC.out, g1, g2]; rfl))
            go_wp2_with fail
            go_ret
            rw [HE.out, HZ.out]
            exact ⟨rfl, HB2.out.trans (HC4.out.mono HB2.out.size)⟩
          all_goals
            have HZ := Lib.hid (show (tgN l bs (k + 1)).all cons = true by
              rw [HG.out, List.all_append, HA.out]
              simp only [List.all_cons, List.all_nil, Bool.and_true, Bool.true_and]
              rw [HCC.out, g1, g2]
              rfl)
            go_wp2_with fail
            go_roundw
            case rel => exact ⟨k + 1, by omega, by go_num, HZ.out, HC4.out⟩
            case measure => simp [intOf]; omega
    · obtain rfl : k = m := by omega
      go_wp2_with fail
      go_ret
      rw [HE.out, HA.out]
      exact ⟨rfl, HB2.out.trans (HB.out.mono HB2.out.size)⟩
end Go.Proofs.Ytegjgbgnpkncbab
