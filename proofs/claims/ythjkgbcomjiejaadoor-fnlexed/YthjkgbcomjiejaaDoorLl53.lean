/-
  The law FnLexed: the walk.
-/
import Derived.Test.YthjkgbcomjiejaaDoorLl14
import Derived.Test.YthjkgbcomjiejaaDoorLl47
import Derived.Test.YthjkgbcomjiejaaDoorLl52
namespace Go.Proofs.YthjkgbcomjiejaaDoor
open Go.RowKit
set_option linter.unusedVariables false

theorem Bw.callv {P : Program} {f : FuncId} {args : Array Value} {w : World} {v : Value} (h : ∀ V, Bw w V → Calls P f args V fun e w' => e = .returned v ∧ Below V.heap.size V w') (x : Cl (Bw w)) : Calls P f args x.W fun e w'' => e = .returned v ∧ ∃ y : Cl (Bw w), w'' = y.W :=
  calls_class x (Bw.keep w) (h x.W x.ok)
theorem lx_out {w w' : World} {r : List Lx × Int} {e : Ending} (h : LxOut w r e w') : Below w.heap.size w w' ∧ ∃ A k, e = .returned (.tuple #[.slice A r.1.length k, .int .i64 r.2]) ∧ XS w' A r.1 := by
  obtain ⟨v, rfl, h1, h2⟩ := h
  refine ⟨h2, ?_⟩
  rcases h1.2 with ⟨rfl, h0⟩ | ⟨g, cap, cur, rfl, _⟩
  · have hn : r.1.length = 0 := h0
    rw [hn]
    refine ⟨none, 0, rfl, ?_⟩
    rw [List.eq_nil_of_length_eq_zero hn]
    exact RS.nil _ _
  · exact ⟨_, _, rfl, RS.of_own fx_len rfl h1⟩
set_option maxHeartbeats 1000000 in
theorem bigL_any (A : Option Addr) (n c : Nat) (w : World) (hn : n ≤ maxLen) : Calls Tryd.prog 4 #[.slice A n c] w fun e w' => e = .returned (.bool (decide ((1048576 : Int) < n))) ∧ w = w' := by
  unfold maxLen at hn
  go_enter Tryd.func4, Tryd.ntmps4
  go_wp2
  go_ret
  exact ⟨rfl, rfl⟩
set_option maxHeartbeats 1000000 in
set_option maxRecDepth 100000 in
theorem begins_any (t x : ByteArray) (w : World) (ht : t.size ≤ 1048576) (h : x.size ≤ t.size) (he : t.extract 0 x.size = x) :
    Calls Tryd.prog 10 #[.string t, .string x] w fun e w' => e = .returned (.bool true) ∧ w = w' := by
  have hq : ((t.extract 0 x.size).toList == x.toList) = true := by rw [he]; simp
  have hle : decide ((x.size : Int) ≤ (t.size : Int)) = true := decide_eq_true (by omega)
  go_enter Tryd.func10, Tryd.ntmps10
  go_wp2_with fail
  go_ret
  exact ⟨rfl, rfl⟩
namespace fnLexed
set_option maxHeartbeats 4000000 in
set_option maxRecDepth 100000 in
theorem law (A : Option Addr) (n c : Nat) (w : World) (hn : n ≤ maxLen) (hbs : BS w A n) (hlo : ∀ b, A.map (·.block) = some b → b < w.heap.size) (hg : ErrV w) :
    Calls Tryd.prog 3 #[.slice A n c] w fun e w' => e = .returned (.bool true) ∧ Below w.heap.size w w' := by
  have HBS := Lib.hid hbs
  have HLO := Lib.hid hlo
  have HG := Lib.hid hg
  clear hbs hlo hg
  go_enter Tryd.func3, Tryd.ntmps3
  go_wp2_with fail
  refine (bigL_any A n c w hn).mono ?_
  rintro e w0 ⟨rfl, rfl⟩
  by_cases hbig : (1048576 : Int) < n
  · rw [decide_eq_true hbig]
    go_wp2
    go_ret
    exact ⟨rfl, Below.refl _ _⟩
  rw [decide_eq_false hbig]
  go_wp2_with fail
  refine (DrawLexText_any A n c w (by omega) HBS.out HLO.out).mono ?_
  rintro e w1 ⟨s, rfl, hs, hb1⟩
  have HB1 := Lib.hid hb1
  clear hbig hb1 hn HBS HLO
  have HGD := Lib.hid (lxA_good s).1
  have HST := Lib.hid (lxA_st s).1
  have HCV := Lib.hid (show ∀ (i j : Nat) (x y : Lx), (lxA s).1[i]? = some x → (lxA s).1[j]? = some y → j < i → cvB y x.a = false from fun i j x y hx hy => cv_before hx hy)
  have hbad := lxA_bad s
  have hlen := lxA_len s
  obtain ⟨l, hl⟩ : ∃ l, (lxA s).1 = l := ⟨_, rfl⟩
  obtain ⟨k, hk⟩ : ∃ k, (lxA s).2 = k := ⟨_, rfl⟩
  rw [hl] at hlen HGD HST HCV
  rw [hl, hk] at hbad
  have HL := Lib.hid hl
  have HK := Lib.hid hk
  clear hl hk
  have hkk : (k == k) = true := by simp
  go_wp2_with fail
  refine (sLexText_any s w1 (by omega)).mono ?_
  intro e w2 h2
  obtain ⟨hb2, A0, c0, rfl, hx0⟩ := lx_out h2
  rw [HL.out, HK.out]
  rw [HL.out] at hx0
  have HB2 := Lib.hid (HB1.out.trans (hb2.mono HB1.out.size))
  have HX2 := Lib.hid hx0
  clear h2 hb2 hx0 HB1
  go_wp2_with fail
  refine (LexText_any s w2 (HG.out.below HB2.out)).mono ?_
  intro e w3 h3
  obtain ⟨hb3, A1, c1, rfl, hx1⟩ := lx_out h3
  rw [HL.out, HK.out]
  rw [HL.out] at hx1
  have HB3 := Lib.hid (HB2.out.trans (hb3.mono HB2.out.size))
  have HX3 := Lib.hid (HX2.out.below hb3)
  have HY3 := Lib.hid hx1
  clear h3 hb3 hx1 HB2 HX2 HL HK
  have hsm := smB_self l
  go_wp2_with fail
  refine (SameLexes_any A1 A0 l l _ c1 _ c0 w3 rfl rfl (by omega) (by omega) HY3.out HX3.out).mono ?_
  rintro e w4 ⟨rfl, hb4⟩
  rw [hsm]
  have HB4 := Lib.hid (HB3.out.trans (hb4.mono HB3.out.size))
  have HX4 := Lib.hid (HX3.out.below hb4)
  have HY4 := Lib.hid (HY3.out.below hb4)
  clear hb4 HB3 HX3 HY3
  rcases hbad with rfl | ⟨hk0, hnil⟩
  · clear hsm
    have HSUM := Lib.hid (cnN_sum HGD.out l.length (Nat.le_refl _))
    have HBD := Lib.hid (take_sum_bd (c := cnN l l.length) (m := 200) (fun j x hj => by have := cnN_bd l l.length j x hj; omega))
    have h6 := cnN_length l l.length
    obtain ⟨q, hq⟩ : ∃ q, cnN l l.length = q := ⟨_, rfl⟩
    have HQ := Lib.hid hq
    rw [hq] at HSUM HBD h6
    clear hq
    go_wp2_with fail
    refine (CountKinds_any A1 l _ c1 w4 rfl (by omega) HY4.out).mono ?_
    rw [HQ.out]
    intro e w5 h5
    obtain ⟨rfl, hk5, hb5⟩ := h5
    rw [h6]
    have HB5 := Lib.hid (HB4.out.trans (hb5.mono HB4.out.size))
    have HX5 := Lib.hid (HX4.out.below hb5)
    have HY5 := Lib.hid (HY4.out.below hb5)
    have HK5 := Lib.hid hk5
    clear hk5 hb5 HB4 HX4 HY4
    obtain ⟨g5, hg5⟩ : ∃ g, w4.heap.size = g := ⟨_, rfl⟩
    rw [hg5] at HK5 ⊢
    clear hg5 HQ
    go_wp2_with fail
    go_loopw [8, 10] (fun nv iv wr => ∃ i : Nat, i ≤ 6 ∧ iv = .int .i64 i ∧ nv = .int .i64 (q.take i).sum ∧ w5 = wr) (fun _ iv _ => 6 - (intOf iv).toNat)
    case atStart => exact ⟨0, Nat.zero_le _, rfl, by simp, rfl⟩
    case round =>
      obtain ⟨i, hi, rfl, rfl, rfl⟩ := hrel
      have hbd := HBD.out i (by omega)
      by_cases hi6 : i < 6
      · have hx : q[i]? = some (q[i]'(by omega)) := List.getElem?_eq_getElem _
        have hbd1 := HBD.out (i + 1) (by omega)
        have hts := take_sum hx
        generalize q[i]'(by omega) = x at hx hts
        have c5 : w5.cell? ⟨g5, i, none⟩ = some (.int .i64 x) := (HK5.out.cell i).trans (nums_at hx)
        rw [hts] at hbd1
        have HTS := Lib.hid hts
        clear hts hx
        go_wp2_with fail
        go_roundw
        case rel => exact ⟨i + 1, by omega, by go_num, by rw [HTS.out], trivial⟩
        case measure => simp [intOf]; omega
      · obtain rfl : i = 6 := by omega
        have hsum : (q.take 6).sum = (l.length : Int) := by rw [← HSUM.out, ← h6, List.take_length]
        rw [hsum, show (((6 : Nat) : Int)) = 6 from rfl]
        clear hbd hsum HK5 HBD HSUM h6
        go_wp2_with fail
        go_loopw [11] (fun iv wr => ∃ i : Nat, i ≤ l.length ∧ iv = .int .i64 i ∧ Below w5.heap.size w5 wr) (fun iv _ => l.length - (intOf iv).toNat)
        case atStart => exact ⟨0, Nat.zero_le _, rfl, Below.refl _ _⟩
        case round =>
          obtain ⟨i, hi, rfl, hb⟩ := hrel
          have HB := Lib.hid hb
          by_cases hil : i < l.length
          · obtain ⟨x, b, o, hx, rfl, hbl, m0, m1, m2⟩ := (HY5.out.below hb).all (k := i) hil
            obtain ⟨y, b', o', hy, rfl, hbl', d0, d1, d2⟩ := (HX5.out.below hb).all (k := i) hil
            obtain rfl : x = y := by rw [hx] at hy; injection hy
            have hxm := List.mem_of_getElem? hx
            have hgd := HGD.out x hxm
            obtain ⟨a, ha1, ha2, ha3⟩ := lx_begins (HST.out x hxm)
            have hsm := hgd.small
            have hal := hgd.a1
            have HBG := Lib.hid (same_below fun w => begins_any (s.extract a s.size) x.s w (by rw [ByteArray.size_extract]; omega) (by rw [ByteArray.size_extract]; omega) ha3)
            have HLA := Lib.hid (fun (V : World) (h : Bw wr V) => LexAt_first (some ⟨b, o, none⟩) l _ c1 x.a V rfl (by omega) ((HY5.out.below hb).below h) (fun y hy => ⟨(HGD.out y hy).a0, Int.le_of_lt (HGD.out y hy).a1, Nat.le_trans (HGD.out y hy).small (by decide)⟩) hgd.a0 (Int.le_of_lt hgd.a1) i x hx (cv_self hgd) (fun j y hj hy => HCV.out i j x y hx hy hj))
            rw [ha1] at m2 d2 HLA
            have r1 := Bw.rd m1
            have r2 := Bw.rd m2
            have s2 := Bw.rd d2
            clear hb hx hy hxm hgd ha1 ha3 hal m0 m1 m2 d0 d1 d2
            go_wp2_with fail
            refine wp_region_class (Bw wr) (by kernel_rfl) (by kernel_rfl) (Bw.start wr) (fun hne => ?_)
            repeat (go_big_quiet_step (fail))
            refine wpQuiet_step (fun K hK => ?_)
            go_simp
            refine ⟨.bool true, Bw.call rfl HBG.out, hK _ ?_⟩
            clear hK K
            repeat (go_big_quiet_step (fail))
            refine wpQuiet_step (fun K hK => ?_)
            go_simp
            refine ⟨.int .i64 i, Bw.callv HLA.out, hK _ ?_⟩
            clear hK K
            repeat (go_big_quiet_step (fail))
            refine wpQuiet_nil ?_
            rintro w7 ⟨y, rfl⟩
            have HB7 := Lib.hid (HB.out.trans (Below.mono y.ok HB.out.size))
            generalize y.W = w7 at *
            clear r1 r2 s2 hne
            go_wp2_with fail
            go_roundw
            case rel => exact ⟨i + 1, by omega, by go_num, HB7.out⟩
            case measure => simp [intOf]; omega
          · obtain rfl : i = l.length := by omega
            have HXE := Lib.hid (HX5.out.below hb)
            have HYE := Lib.hid (HY5.out.below hb)
            have HBE := Lib.hid (HB5.out.trans (hb.mono HB5.out.size))
            have hbk := bulkL_le HGD.out hlen
            have hps : (pxB l).size ≤ 1048776 := by
              have h1 := pxN_len l l.length (Nat.le_refl _)
              have h2 : (pxB l).size = (pxN l l.length).length := by show (pxN l l.length).toArray.size = _; simp
              have h3 : bulkN (txs l) l.length + l.length ≤ 1048576 + 200 := by
                have h4 := txs_length l
                unfold bulk at hbk
                rw [h4] at hbk
                omega
              omega
            have HRE := Lib.hid (relex_all HGD.out HST.out hlen)
            have HSM := Lib.hid (smB_mv l)
            have hll := mvN_len l l.length (Nat.le_refl _)
            clear hb
            go_wp2_with fail
            refine (PlainLex_any A1 l _ c1 wr rfl (by omega) HYE.out hbk).mono ?_
            rintro e w6 ⟨rfl, hb6⟩
            have HB6 := Lib.hid (HBE.out.trans (hb6.mono HBE.out.size))
            have HX6 := Lib.hid (HXE.out.below hb6)
            have HY6 := Lib.hid (HYE.out.below hb6)
            clear hb6
            go_wp2_with fail
            refine (sPlainLex_any A0 l _ c0 w6 rfl (by omega) HX6.out hbk).mono ?_
            rintro e w7 ⟨rfl, hb7⟩
            have HB7 := Lib.hid (HB6.out.trans (hb7.mono HB6.out.size))
            have HY7 := Lib.hid (HY6.out.below hb7)
            clear hb7 hbk
            obtain ⟨t, ht⟩ : ∃ t, pxB l = t := ⟨_, rfl⟩
            rw [ht] at HRE hps ⊢
            clear ht
            have htt : (t.toList == t.toList) = true := by simp
            go_wp2_with fail
            refine (LexText_any t w7 (HG.out.below HB7.out)).mono ?_
            intro e w8 h8
            obtain ⟨hb8, A8, c8, rfl, hx8⟩ := lx_out h8
            have HB8 := Lib.hid (HB7.out.trans (hb8.mono HB7.out.size))
            have HY8 := Lib.hid (HY7.out.below hb8)
            clear h8 hb8
            by_cases h2000 : 2000 < t.size
            · have hgt : decide (2000 < (t.size : Int)) = true := decide_eq_true (by omega)
              generalize lxA t = r at *
              obtain ⟨r1, r2⟩ := r
              clear h2000 HRE hx8
              go_wp2_with fail
              go_ret
              exact ⟨rfl, HB8.out⟩
            · have hgt : decide (2000 < (t.size : Int)) = false := decide_eq_false (by omega)
              rw [HRE.out (by omega)] at hx8 ⊢
              have HX8 := Lib.hid hx8
              rw [hll]
              clear h2000 HRE hx8
              go_wp2_with fail
              refine (SameLexes_any A8 A1 (mvN l l.length) l _ c8 _ c1 w8 hll rfl (by omega) (by omega) HX8.out HY8.out).mono ?_
              rintro e w9 ⟨rfl, hb9⟩
              rw [HSM.out]
              have HB9 := Lib.hid (HB8.out.trans (hb9.mono HB8.out.size))
              clear hb9
              go_wp2_with fail
              go_ret
              exact ⟨rfl, HB9.out⟩
  · have hl0 : l.length = 0 := by rw [hnil]; rfl
    have hkb : decide (0 ≤ k) = true := decide_eq_true hk0
    clear hsm hnil
    rw [hl0]
    go_wp2_with fail
    go_ret
    exact ⟨rfl, HB4.out⟩
end fnLexed
end Go.Proofs.YthjkgbcomjiejaaDoor
