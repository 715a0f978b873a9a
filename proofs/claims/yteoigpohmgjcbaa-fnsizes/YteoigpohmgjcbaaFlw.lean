/-
  The law FnSizes: the walk.
-/
import Derived.Test.YteoigpohmgjcbaaFns
namespace Go.Proofs.Yteoigpohmgjcbaa
open Go.RowKit
set_option linter.unusedVariables false

theorem mat_all {l : List Tk} (hS : strB l = true) {k : Nat} {t : Tk} (ht : l[k]? = some t) :
    ((t.k = 2 ∨ t.k = 3) ∧ ∃ j : Nat, j < l.length ∧ matB l (k : Int) = j ∧ matB l (j : Int) = k) ∨ (t.k ≠ 2 ∧ t.k ≠ 3 ∧ matB l (k : Int) = -1) := by
  by_cases h2 : t.k = 2
  · obtain ⟨m, u, h1, _, hu, _, h5, _⟩ := match_begin hS ht h2
    exact .inl ⟨.inl h2, m, (List.getElem?_eq_some_iff.1 hu).1, by rw [matB_yes hS ht, h1], by rw [matB_yes hS hu, h5]⟩
  · by_cases h3 : t.k = 3
    · obtain ⟨m, u, h1, _, hu, _, h5⟩ := match_end hS ht h3
      exact .inl ⟨.inr h3, m, (List.getElem?_eq_some_iff.1 hu).1, by rw [matB_yes hS ht, h1], by rw [matB_yes hS hu, h5]⟩
    · exact .inr ⟨h2, h3, by rw [matB_yes hS ht]; simp [matI, h2, h3]⟩

theorem wf_small {k : Int} (h0 : -1 ≤ k) (h : k ≤ 1000) : (Lit.int .i64 k).wf = true := by
  have h1 : IntKind.i64.min ≤ k := by rw [show IntKind.i64.min = -9223372036854775808 from rfl]; omega
  simp [Lit.wf, h1]
  omega

theorem wr_plain {l : List Tk} {g e : Tk} (hS : strB l = true) (hW : strB (g :: (l ++ [e])) = true) (hg : g.pl = []) (he : e.pl = []) : plnB (g :: (l ++ [e])) = plnB l := by
  unfold plnB
  rw [if_pos hW, if_pos hS]
  have : plN (g :: (l ++ [e])) (g :: (l ++ [e])).length = plN l l.length := by
    unfold plN
    rw [List.take_of_length_le (Nat.le_refl _), List.take_of_length_le (Nat.le_refl _)]
    simp [hg, he]
  rw [this]
theorem wid4 {t : Tk} (h : t.ok = true) (h4 : t.k = 4) : t.wid = 0 := by
  unfold Tk.wid widB
  rw [show tokB t.k t.s t.d t.o = true from h]
  simp [h4]
def wrL (l : List Tk) : List Tk := bgT true 1 :: (l ++ [endT])
theorem bgT_eq : bgT true 1 = ⟨2, ByteArray.empty, 1, 1⟩ := by rfl
theorem bg_ok : bgOk true 1 = true := by decide
theorem wrL_B {l : List Tk} (hS : strB l = true) : wrB l true 1 (wrL l) = strB (wrL l) := by simp [wrB, hS, bg_ok]
theorem bgT_facts : (bgT true 1).k = 2 ∧ (bgT true 1).ok = true ∧ (bgT true 1).wid = 0 ∧ (bgT true 1).pl = [] := by rw [bgT_eq]; decide
theorem endT_facts : endT.k = 3 ∧ endT.ok = true ∧ endT.wid = 0 ∧ endT.pl = [] ∧ endT.brk = false := by decide
theorem wr_none {l : List Tk} (hS : strB l = true) (hW : strB (wrL l) = false) (hl : l.length ≤ 398) : depB l = 12 := by
  obtain ⟨h4, hok, h0⟩ := strB_true hS
  have hb := mxN_bd hok (Nat.le_refl _)
  have : ¬ mxN l l.length ≤ 11 := fun hd => by
    have := wr_str hS bgT_facts.1 endT_facts.1 bgT_facts.2.1 endT_facts.2.1 hl hd
    unfold wrL at hW
    rw [this] at hW; cases hW
  unfold depB
  rw [if_pos hS]; omega

theorem wrL_fits {l : List Tk} (hf : Fits l) : Fits (wrL l) := by
  intro i t ht
  have hm := List.mem_of_getElem? ht
  unfold wrL at hm
  rcases List.mem_cons.1 hm with rfl | hm
  · rw [bgT_eq]; simp [maxLen, ByteArray.size]
  · rcases List.mem_append.1 hm with hm | hm
    · obtain ⟨j, hj⟩ := List.getElem?_of_mem hm
      exact hf j t hj
    · rw [List.mem_singleton.1 hm]; simp [endT, maxLen, ByteArray.size]

namespace fnSizes
set_option maxHeartbeats 4000000 in
set_option maxRecDepth 100000 in
theorem law (A : Option Addr) (n c : Nat) (w : World) (hn : n ≤ maxLen) (hbs : BS w A n) (hlo : ∀ b, A.map (·.block) = some b → b < w.heap.size) :
    Calls Try.prog 7 #[.slice A n c] w fun e w' => e = .returned (.bool true) ∧ Below w.heap.size w w' := by
  have HBS := Lib.hid hbs
  have HLO := Lib.hid hlo
  clear hbs hlo
  go_enter Try.func7, Try.ntmps7
  go_wp2_with fail
  refine (big_any A n c w hn).mono ?_
  rintro e w0 ⟨rfl, rfl⟩
  by_cases hbig : (1048576 : Int) < n
  · rw [decide_eq_true hbig]
    go_wp2
    go_ret
    exact ⟨rfl, Below.refl _ _⟩
  · rw [decide_eq_false hbig]
    go_wp2_with fail
    refine (DrawSizesOf_any A n c w (by omega) HBS.out HLO.out).mono ?_
    rintro e w1 ⟨A', c', l, rfl, hl, hbk, hts, hf, hb1⟩
    have HB1 := Lib.hid hb1
    have HT1 := Lib.hid hts
    have HF := Lib.hid hf
    clear hbig hbk hts hf hb1 hn HBS HLO
    go_wp2_with fail
    refine (SizesOf_out A' l _ c' w1 rfl (by omega) HT1.out HF.out).mono ?_
    rintro e w2 ⟨hb2, B0, cB, rfl, _, _, hrB⟩
    have HB2 := Lib.hid (HB1.out.trans (hb2.mono HB1.out.size))
    have HT2 := Lib.hid (HT1.out.below hb2)
    have HR2 := Lib.hid hrB.is
    clear hb2 hrB HT1 HB1
    go_wp2_with fail
    refine (sSizesOf_out A' l _ c' w2 rfl (by omega) HT2.out HF.out).mono ?_
    rintro e w3 ⟨hb3, C0, cC, rfl, _, _, hrC⟩
    have HB3 := Lib.hid (HB2.out.trans (hb3.mono HB2.out.size))
    have HT3 := Lib.hid (HT2.out.below hb3)
    have HR3 := Lib.hid (HR2.out.below hb3)
    have HC3 := Lib.hid hrC.is
    have hsl := szsB_le l
    clear hb3 hrC HT2 HB2 HR2
    go_wp2_with fail
    refine (same_any B0 C0 (szsB l) cB cC w3 (by omega) HR3.out HC3.out).mono ?_
    rintro e w4 ⟨rfl, hb4⟩
    have HB4 := Lib.hid (HB3.out.trans (hb4.mono HB3.out.size))
    have HT4 := Lib.hid (HT3.out.below hb4)
    have HR4 := Lib.hid (HR3.out.below hb4)
    clear hb4 HT3 HB3 HR3 HC3
    go_wp2_with fail
    refine (sStreamOk_any A' l _ c' w4 rfl (by omega) HT4.out HF.out).mono ?_
    rintro e w5 ⟨rfl, hb5⟩
    have HB5 := Lib.hid (HB4.out.trans (hb5.mono HB4.out.size))
    have HT5 := Lib.hid (HT4.out.below hb5)
    have HR5 := Lib.hid (HR4.out.below hb5)
    clear hb5 HT4 HB4 HR4
    cases hS : strB l
    · have hz : (szsB l).length = 0 := by rw [szsB_no hS]; rfl
      have HD := Lib.hid (show depB l = -1 from by simp [depB, hS])
      clear hS
      go_wp2_with fail
      refine (DepthOf_any A' l _ c' w5 rfl (by omega) HT5.out HF.out).mono ?_
      rintro e w6 ⟨rfl, hb6⟩
      rw [HD.out]
      have HB6 := Lib.hid (HB5.out.trans (hb6.mono HB5.out.size))
      clear hb6
      go_wp2
      go_ret
      exact ⟨rfl, HB6.out⟩
    · have hz : (szsB l).length = l.length := by rw [szsB_yes hS, szs_length]
      have HSS := Lib.hid hS
      have HZ := Lib.hid hz
      clear hS hz
      go_wp2_with fail
      go_loopw [5] (fun i wr => ∃ k : Nat, k ≤ l.length ∧ i = .int .i64 k ∧ Below w5.heap.size w5 wr) (fun i _ => l.length - (intOf i).toNat)
      case atStart => exact ⟨0, Nat.zero_le _, rfl, Below.refl _ _⟩
      case round =>
        obtain ⟨k, hk, rfl, hbw⟩ := hrel
        have HBW := Lib.hid hbw
        have HTR := Lib.hid (HT5.out.below hbw)
        clear hbw
        by_cases hlt : k < l.length
        · obtain ⟨t, b, o, ht, rfl, hbl, _⟩ := HTR.out.at hlt
          have HTT := Lib.hid ht
          have hwk : (Lit.int .i64 (k : Int)).wf = true := wf_small (by omega) (by omega)
          have hmat := mat_all HSS.out ht
          clear ht
          rcases hmat with ⟨hkd, j, hj, hm1, hm2⟩ | ⟨hn2, hn3, hm1⟩
          · have HM1 := Lib.hid hm1
            have HM2 := Lib.hid hm2
            have hwj : (Lit.int .i64 (j : Int)).wf = true := wf_small (by omega) (by omega)
            clear hm1 hm2
            go_wp2_with fail
            refine (MatchOf_any _ l _ c' (k : Int) wr rfl (by omega) HTR.out HF.out hwk).mono ?_
            rintro e w6 ⟨rfl, hb6⟩
            rw [HM1.out]
            have HB6 := Lib.hid (HBW.out.trans (hb6.mono HBW.out.size))
            have HT6 := Lib.hid (HTR.out.below hb6)
            clear hb6
            go_wp2_with fail
            refine (sMatchOf_any _ l _ c' (k : Int) w6 rfl (by omega) HT6.out HF.out hwk).mono ?_
            rintro e w7 ⟨rfl, hb7⟩
            rw [HM1.out]
            have HB7 := Lib.hid (HB6.out.trans (hb7.mono HB6.out.size))
            have HT7 := Lib.hid (HT6.out.below hb7)
            obtain ⟨hbl7, c0, c1, c2, c3⟩ := HT7.out.get HTT.out
            clear hb7 HT6 HB6
            rcases hkd with h2 | h3
            · have b2 : (t.k == 2) = true := by rw [h2]; rfl
              have H2 := Lib.hid h2
              clear h2
              go_wp2_with fail
              refine (MatchOf_any _ l _ c' (j : Int) w7 rfl (by omega) HT7.out HF.out hwj).mono ?_
              rintro e w8 ⟨rfl, hb8⟩
              rw [HM2.out]
              have HB8 := Lib.hid (HB7.out.trans (hb8.mono HB7.out.size))
              have HT8 := Lib.hid (HT7.out.below hb8)
              obtain ⟨hbl8, q0, q1, q2, q3⟩ := HT8.out.get HTT.out
              clear hb8 HT7 HB7 c0 c1 c2 c3
              go_wp2_with fail
              clear q0 q1 q2 q3
              go_loopw [7] (fun i wr => ∃ i0 : Nat, k + 1 ≤ i0 ∧ i0 ≤ l.length ∧ i = .int .i64 i0 ∧ Below w5.heap.size w5 wr) (fun i _ => l.length - (intOf i).toNat)
              case atStart => exact ⟨k + 1, Nat.le_refl _, by omega, by go_num, HB8.out⟩
              case round =>
                obtain ⟨i0, hki, hil, rfl, hbw9⟩ := hrel
                have HB9 := Lib.hid hbw9
                have HT9 := HT5.out.below hbw9
                have HR9 := HR5.out.below hbw9
                clear hbw9
                by_cases hij : i0 < j
                · obtain ⟨u, hu⟩ : ∃ u, l[i0]? = some u := ⟨_, List.getElem?_eq_getElem (by omega)⟩
                  obtain ⟨hblu, q0, q1, q2, q3⟩ := HT9.get hu
                  obtain ⟨g, hg, hgl, z1⟩ := HR9 i0 (sizI l i0 u) (by rw [szsB_yes HSS.out]; exact szs_at hu)
                  obtain ⟨g', hg', _, z2⟩ := HR9 k (sizI l k t) (by rw [szsB_yes HSS.out]; exact szs_at HTT.out)
                  subst hg
                  have hgg : g = g' := by injection hg' with h; injection h
                  subst hgg
                  have hzl : (szsB l).length = l.length := HZ.out
                  have hi1 : i0 < (szsB l).length := by omega
                  have hk1 : k < (szsB l).length := by omega
                  have HU := Lib.hid hu
                  clear hg' hu HT9 HR9 hzl
                  by_cases hu2 : u.k = 2
                  · have hle : sizI l i0 u ≤ sizI l k t := size_in HSS.out HTT.out H2.out HU.out hu2 (by rw [← matB_yes HSS.out HTT.out, HM1.out]) (by omega) hij
                    have bu : (u.k == 2) = true := by rw [hu2]; rfl
                    clear hu2
                    go_wp2
                    go_region
                    go_wp2
                    go_roundw
                    case rel => exact ⟨i0 + 1, by omega, by omega, by go_num, by first | exact HB9.out | exact HB9.out.drew⟩
                    case measure => simp [intOf] <;> omega
                  · have bu : (u.k == 2) = false := by simpa using hu2
                    clear hu2
                    go_wp2
                    go_region
                    go_wp2
                    go_roundw
                    case rel => exact ⟨i0 + 1, by omega, by omega, by go_num, by first | exact HB9.out | exact HB9.out.drew⟩
                    case measure => simp [intOf] <;> omega
                · clear HT9 HR9
                  go_wp2
                  go_roundw
                  case rel => exact ⟨k + 1, by omega, by go_num, HB9.out⟩
                  case measure => simp [intOf] <;> omega
            · have b3 : (t.k == 3) = true := by rw [h3]; rfl
              have b2 : (t.k == 2) = false := by rw [h3]; rfl
              have n2 : (t.k != 2) = true := by rw [h3]; rfl
              clear h3
              go_wp2_with fail
              refine (MatchOf_any _ l _ c' (j : Int) w7 rfl (by omega) HT7.out HF.out hwj).mono ?_
              rintro e w8 ⟨rfl, hb8⟩
              rw [HM2.out]
              have HB8 := Lib.hid (HB7.out.trans (hb8.mono HB7.out.size))
              have HT8 := Lib.hid (HT7.out.below hb8)
              obtain ⟨hbl8, q0, q1, q2, q3⟩ := HT8.out.get HTT.out
              clear hb8 HT7 HB7 c0 c1 c2 c3
              go_wp2
              go_roundw
              case rel => exact ⟨k + 1, by omega, by go_num, HB8.out⟩
              case measure => simp [intOf] <;> omega
          · have HM1 := Lib.hid hm1
            have b2 : (t.k == 2) = false := by simpa using hn2
            have b3 : (t.k == 3) = false := by simpa using hn3
            have n2 : (t.k != 2) = true := by simpa using hn2
            clear hm1 hn2 hn3
            go_wp2_with fail
            refine (MatchOf_any _ l _ c' (k : Int) wr rfl (by omega) HTR.out HF.out hwk).mono ?_
            rintro e w6 ⟨rfl, hb6⟩
            rw [HM1.out]
            have HB6 := Lib.hid (HBW.out.trans (hb6.mono HBW.out.size))
            have HT6 := Lib.hid (HTR.out.below hb6)
            clear hb6
            go_wp2_with fail
            refine (sMatchOf_any _ l _ c' (k : Int) w6 rfl (by omega) HT6.out HF.out hwk).mono ?_
            rintro e w7 ⟨rfl, hb7⟩
            rw [HM1.out]
            have HB7 := Lib.hid (HB6.out.trans (hb7.mono HB6.out.size))
            have HT7 := Lib.hid (HT6.out.below hb7)
            obtain ⟨hbl7, c0, c1, c2, c3⟩ := HT7.out.get HTT.out
            clear hb7 HT6 HB6
            go_wp2
            go_roundw
            case rel => exact ⟨k + 1, by omega, by go_num, HB7.out⟩
            case measure => simp [intOf] <;> omega
        · go_wp2_with fail
          refine (WrapStream_any A' l _ c' true 1 wr rfl (by omega) HTR.out HF.out (wrL l) rfl).mono ?_
          rintro e wa ⟨hba, ⟨hW, g, rfl, hgl, hbk⟩ | ⟨hW, rfl⟩⟩
          · rw [wrL_B HSS.out] at hW
            have HBA := Lib.hid (HBW.out.trans (hba.mono HBW.out.size))
            have HTA := Lib.hid (HTR.out.below hba)
            have HWA := Lib.hid (TS.of_blk hbk)
            have HWW := Lib.hid hW
            clear hba hbk hW hgl
            go_wp2_with fail
            go_loopw [10, 11] (fun sv kv wr => ∃ k : Nat, k ≤ l.length ∧ kv = .int .i64 k ∧ sv = .int .i64 (smN l k) ∧ Below wa.heap.size wa wr) (fun _ kv _ => l.length - (intOf kv).toNat)
            case atStart => exact ⟨0, Nat.zero_le _, rfl, by rw [smN_zero], Below.refl _ _⟩
            case round =>
              clear HBW HTR hlt hk
              obtain ⟨k, hk, rfl, rfl, hbw⟩ := hrel
              have HBW := Lib.hid hbw
              have HTR := Lib.hid (HTA.out.below hbw)
              have hok := (strB_true HSS.out).2.1
              have h400 := (strB_true HSS.out).1
              obtain ⟨hs0, hs1⟩ := smN_bd hok hk
              clear hbw
              by_cases hlt : k < l.length
              · obtain ⟨t, b, o, ht, rfl, hbl, c0, c1, c2, c3⟩ := HTR.out.at hlt
                have HTT := Lib.hid ht
                have htok := (okN_at hok hlt ht).1
                have hsz := HF.out k t ht
                obtain ⟨hw0, hw1⟩ := t.wid_bd htok
                have HN := Lib.hid (smN_succ ht)
                have HW4 := Lib.hid (fun h => wid4 htok h)
                clear ht hok
                go_wp2_with fail
                refine (WidthOf_any t.k t.s t.d t.o _ hsz).mono ?_
                rintro e wc ⟨rfl, hbc⟩
                rw [show widB t.k t.s t.d t.o = t.wid from rfl]
                have HBC := Lib.hid (HBW.out.trans (hbc.mono HBW.out.size))
                have HTC := HTR.out.below hbc
                obtain ⟨hblc, q0, q1, q2, q3⟩ := HTC.get HTT.out
                clear hbc HTC c0 c1 c2 c3
                by_cases h4 : t.k = 4
                · have b4 : (t.k == 4) = true := by rw [h4]; rfl
                  have HK := Lib.hid (show smN l (k + 1) = smN l k + t.wid + 1000000 from by rw [HN.out, HW4.out h4]; unfold Tk.kw; rw [if_pos h4]; omega)
                  clear h4
                  go_wp2
                  go_roundw
                  case rel => exact ⟨k + 1, by omega, by go_num, by rw [HK.out], HBC.out⟩
                  case measure => simp [intOf] <;> omega
                · have b4 : (t.k == 4) = false := by simpa using h4
                  have HK := Lib.hid (show smN l (k + 1) = smN l k + t.wid from by rw [HN.out]; unfold Tk.kw; rw [if_neg h4])
                  clear h4
                  go_wp2
                  go_roundw
                  case rel => exact ⟨k + 1, by omega, by go_num, by rw [HK.out], HBC.out⟩
                  case measure => simp [intOf] <;> omega
              · have hkn : k = l.length := by omega
                subst hkn
                obtain ⟨sm, hsm⟩ : ∃ sm, smN l l.length = sm := ⟨_, rfl⟩
                obtain ⟨mn, hmn⟩ : ∃ mn, min 1000000 (smN l l.length) = mn := ⟨_, rfl⟩
                have HDP := Lib.hid (show depB (wrL l) = depB l + 1 from wr_dep HSS.out HWW.out bgT_facts.1 endT_facts.1)
                have HSP := Lib.hid (show sizB (wrL l) 0 = mn from (wr_size HSS.out HWW.out bgT_facts.1 endT_facts.1 bgT_facts.2.2.1 endT_facts.2.2.1 endT_facts.2.2.2.2).trans hmn)
                have HPL := Lib.hid (show plnB (wrL l) = plnB l from wr_plain HSS.out HWW.out bgT_facts.2.2.2 endT_facts.2.2.2.1)
                have hdl : 0 ≤ depB l ∧ depB l ≤ 12 := by
                  have := mxN_bd hok (Nat.le_refl _)
                  have := mxN_nonneg l l.length
                  unfold depB; rw [if_pos HSS.out]; omega
                obtain ⟨hd0, hd1⟩ := hdl
                have HWB := Lib.hid (HWA.out.below HBW.out)
                have hwl : (wrL l).length ≤ 2097152 := by unfold wrL; simp; omega
                rw [hsm] at hs0 hs1 hmn
                rw [hsm]
                have hcase : (1000000 < sm ∧ mn = 1000000) ∨ (¬ 1000000 < sm ∧ mn = sm) := by omega
                clear hsm hok hmn
                have hw0 : (Lit.int .i64 (0 : Int)).wf = true := wf_small (by omega) (by omega)
                rcases hcase with ⟨h1, rfl⟩ | ⟨h1, rfl⟩
                all_goals
                  go_wp2_with fail
                  refine (DepthOf_any _ (wrL l) _ _ wr rfl hwl HWB.out (wrL_fits HF.out)).mono ?_
                  rintro e wd ⟨rfl, hbd⟩
                  rw [HDP.out]
                  have HBD := Lib.hid (HBW.out.trans (hbd.mono HBW.out.size))
                  have HTD := Lib.hid (HTR.out.below hbd)
                  have HWD := Lib.hid (HWB.out.below hbd)
                  clear hbd
                  go_wp2_with fail
                  refine (DepthOf_any _ l _ _ wd rfl (by omega) HTD.out HF.out).mono ?_
                  rintro e we ⟨rfl, hbe⟩
                  have HBE := Lib.hid (HBD.out.trans (hbe.mono HBD.out.size))
                  have HTE := Lib.hid (HTD.out.below hbe)
                  have HWE := Lib.hid (HWD.out.below hbe)
                  clear hbe
                  go_wp2_with fail
                  refine (SizeAt_any _ (wrL l) _ _ 0 we rfl hwl HWE.out (wrL_fits HF.out) hw0).mono ?_
                  rintro e wf ⟨rfl, hbf⟩
                  rw [HSP.out]
                  have HBF := Lib.hid (HBE.out.trans (hbf.mono HBE.out.size))
                  have HTF := Lib.hid (HTE.out.below hbf)
                  have HWF := Lib.hid (HWE.out.below hbf)
                  clear hbf
                  go_wp2_with fail
                  refine (PlainOf_any _ (wrL l) _ _ wf rfl hwl HWF.out (wrL_fits HF.out)).mono ?_
                  rintro e wg ⟨rfl, hbg⟩
                  rw [HPL.out]
                  have HBG := Lib.hid (HBF.out.trans (hbg.mono HBF.out.size))
                  have HTG := Lib.hid (HTF.out.below hbg)
                  clear hbg
                  go_wp2_with fail
                  refine (PlainOf_any _ l _ _ wg rfl (by omega) HTG.out HF.out).mono ?_
                  rintro e wh ⟨rfl, hbh⟩
                  have HBH := Lib.hid (HBG.out.trans (hbh.mono HBG.out.size))
                  clear hbh
                  go_wp2
                  go_ret
                  exact ⟨rfl, HB5.out.trans ((HBA.out.trans (HBH.out.mono HBA.out.size)).mono HB5.out.size)⟩
          · rw [wrL_B HSS.out] at hW
            have HBA := Lib.hid (HBW.out.trans (hba.mono HBW.out.size))
            have HTA := Lib.hid (HTR.out.below hba)
            have HD := Lib.hid (fun h => wr_none HSS.out hW h)
            clear hba hW
            by_cases h398 : 398 < l.length
            · go_wp2
              go_ret
              exact ⟨rfl, HB5.out.trans (HBA.out.mono HB5.out.size)⟩
            · go_wp2_with fail
              refine (DepthOf_any A' l _ c' wa rfl (by omega) HTA.out HF.out).mono ?_
              rintro e wb ⟨rfl, hbb⟩
              rw [HD.out (by omega)]
              have HBB := Lib.hid (HBA.out.trans (hbb.mono HBA.out.size))
              clear hbb
              go_wp2
              go_ret
              exact ⟨rfl, HB5.out.trans (HBB.out.mono HB5.out.size)⟩
end fnSizes
end Go.Proofs.Yteoigpohmgjcbaa
