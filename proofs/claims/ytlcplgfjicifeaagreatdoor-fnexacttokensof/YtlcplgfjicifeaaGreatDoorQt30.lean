/-
  The tokens of a block, as the program gathers them.
-/
import Derived.Test.YtlcplgfjicifeaaGreatDoorQt29
import Derived.Deep.Cut
namespace Go.Proofs.YtlcplgfjicifeaaGreatDoor
open Go.RowKit
set_option linter.unusedVariables false

theorem SyAt.belowB {w w' : World} {b B : Nat} {s : Sy} (h : SyAt w b s) (hb : Below B w w') (hB : b < B) : SyAt w' b s := by
  obtain ⟨h0, h1, h2, h3, h4, h5⟩ := h
  exact ⟨(hb.cell (p := ⟨b, 0, none⟩) hB).trans h0, (hb.cell (p := ⟨b, 1, none⟩) hB).trans h1, (hb.cell (p := ⟨b, 2, none⟩) hB).trans h2, (hb.cell (p := ⟨b, 3, none⟩) hB).trans h3, (hb.cell (p := ⟨b, 4, none⟩) hB).trans h4, Nat.lt_of_lt_of_le h5 hb.size⟩
set_option maxHeartbeats 4000000 in
set_option maxRecDepth 100000 in
theorem tokensOfBlock_sq {w0 : World} {B : Nat} {l : List Nd} {n : Nat} {ps : Nat → Nat} {vs : Nat → Value} (hfo : Fo w0 B l n ps vs) (hlen : l.length = n) (hn200 : n ≤ 200) (hup : UpTo l l.length) (s : Sy) (hs : s.ok = true) 
    (i : Nat) (h1i : 1 ≤ i) (hi : i ≤ n) (hk : knd l i = 4) (L : Int) (hL : s.of 4 = L) (w : World) (hw : Below w0.heap.size w0 w) (hoff : ∀ V, Below w.heap.size w V → ∀ (x y : Int) (m p : Nat), x = m → y = p → (1 ≤ m ∧ m ≤ 300) → p ≤ 301 → Calls Tryz.prog 185 #[.int .i64 x, .int .i64 y] V (fun e w' => e = .returned (.int .i64 (offB s 4 m p)) ∧ V = w'))
    (IH : ∀ a, a < n → par l a = i → ∀ V, Below w0.heap.size w0 V → Calls Tryz.prog 71 #[s.val, .pointer (some ⟨ps (a + 1), 0, none⟩)] V (TkO V (tkP s l (a + 1)))) :
    Calls Tryz.prog 183 #[s.val, .pointer (some ⟨ps i, 0, none⟩), .int .i64 L, .func (.func 185) #[] #[]] w (TkO w (tkP s l i)) := by
  obtain ⟨i0, hi0, hz0, hz1, hz2⟩ := info_parts infoTk
  have HFO := Lib.hid hfo
  have HUP := Lib.hid hup
  have HW := Lib.hid hw
  have HIH := Lib.hid IH
  have HOF := Lib.hid hoff
  have HOK := Lib.hid (Sy.ok_iff.1 hs)
  have hLb : 0 ≤ L ∧ L ≤ 3 := by have := HOK.out; rw [← hL]; unfold Sy.of; split; omega; split <;> omega
  have HPX := Lib.hid (tkP_block (s := s) (l := l) (i := i) (by omega) (by omega) (by omega))
  rw [hk, hL, hlen] at HPX
  have hf1 := hfo.below hw
  obtain ⟨_, d1, d2, _, _, d5, dl⟩ := hf1.cells (show i ≤ n by omega)
  rw [hk] at d1
  obtain ⟨A9, c9, hv, hkid⟩ := hfo.kid hi
  rw [hv] at d5
  have HVV := Lib.hid hv
  have HKD := Lib.hid hkid
  have hkl := kidsN_len l i n
  have hbS := (Below.refl w.heap.size w).alloc (Nat.le_refl _) (.cells #[.int .i64 s.r, .int .i64 s.q, .int .i64 s.c, .int .i64 s.h, .int .i64 s.g] 29)
  have d1' := (hbS.cell (p := ⟨ps i, 1, none⟩) dl).trans d1
  have d5' := (hbS.cell (p := ⟨ps i, 5, none⟩) dl).trans d5
  have hsy := SyAt.new w s 29
  have HBS := Lib.hid hbS
  have HK := Lib.hid hk
  clear hoff hfo hup hw IH hs hf1 hv hbS d1 d5 d2 hk hL hkid
  unfold Sy.val at HIH ⊢
  go_enter Tryz.func183, Tryz.ntmps183
  go_wp2_with fail
  refine (marksOf_any _ _).mono ?_
  rintro e w' ⟨rfl, rfl⟩
  go_wp2_with fail
  change Code.wp _ _ _ _ (w.alloc (.cells #[.int .i64 s.r, .int .i64 s.q, .int .i64 s.c, .int .i64 s.h, .int .i64 s.g] 29))
  have HLT := Lib.hid (show w.heap.size < (w.alloc (.cells #[.int .i64 s.r, .int .i64 s.q, .int .i64 s.c, .int .i64 s.h, .int .i64 s.g] 29)).heap.size by simp)
  generalize w.alloc (.cells #[.int .i64 s.r, .int .i64 s.q, .int .i64 s.c, .int .i64 s.h, .int .i64 s.g] 29) = W1 at *
  have hne : Nonempty (Cl (Bw W1)) := ⟨⟨_, Bw.start W1⟩⟩
  have hmz : (mkS 4).size = 2 := rfl
  have hme : (mkS 4).extract 0 1 = opS 4 := rfl
  refine wp_region_stages [0, 1, 0, 0, 0, 2, 0, 0, 3, 5, 7] 3 (fun w' => ∃ y : Cl (Bw W1), w' = y.W) (by kernel_rfl) (by kernel_rfl) ⟨⟨_, Bw.start W1⟩, rfl⟩ ?_
  simp only [Stage.stages, Stage.pickC, Nat.reduceBEq, Nat.reduceMul, Nat.reduceAdd, cond_true, cond_false, List.map_cons, List.map_nil]
  refine stage_more ?_
  repeat (go_big_quiet_step (fail))
  refine wpQuiet_nil ?_
  intro K hK
  unfold Chain.mov
  go_simp
  simp only [Chain.movUpon]
  refine (tightBit_any L hLb.1 hLb.2 _).mono ?_
  rintro r w5 ⟨rfl, rfl⟩
  refine ⟨_, rfl, hK _ _ ⟨⟨⟨_, Bw.start W1⟩, rfl⟩, ?_⟩⟩
  clear hK K
  refine stage_more ?_
  repeat (go_big_quiet_step (fail))
  refine wpQuiet_nil ?_
  intro K hK
  unfold Chain.mov
  go_simp
  simp only [Chain.movUpon]
  refine (textToken_any _ _).mono ?_
  rintro r w5 ⟨rfl, rfl⟩
  have hbX : Bw W1 (W1.alloc (.cells #[.int .i64 0, .string (opS 4), .int .i64 0, .int .i64 0] 48)).drew := ((Below.refl _ W1).alloc (Nat.le_refl _) _).drew
  refine ⟨_, rfl, hK _ _ ⟨⟨⟨_, hbX⟩, rfl⟩, ?_⟩⟩
  clear hK K
  refine stage_more ?_
  repeat (go_big_quiet_step (fail))
  refine wpQuiet_nil ?_
  intro K hK
  unfold Chain.mov
  go_simp
  have hbY : Bw W1 ((W1.alloc (.cells #[.int .i64 0, .string (opS 4), .int .i64 0, .int .i64 0] 48)).alloc (.cells #[.int .i64 2, .string ByteArray.empty, .int .i64 (L % 2), .int .i64 (1 + L / 2), .int .i64 0, .string (opS 4), .int .i64 0, .int .i64 0] 48)).drew := (((Below.refl _ W1).alloc (Nat.le_refl _) _).alloc (by simp) _).drew
  have hrow : ((W1.alloc (.cells #[.int .i64 0, .string (opS 4), .int .i64 0, .int .i64 0] 48)).alloc (.cells #[.int .i64 2, .string ByteArray.empty, .int .i64 (L % 2), .int .i64 (1 + L / 2), .int .i64 0, .string (opS 4), .int .i64 0, .int .i64 0] 48)).drew.ownsRow (W1.heap.size + 1) 48 4 (.slice (some ⟨W1.heap.size + 1, 0, none⟩) 2 2) 2 (fl ft [tG (L % 2) (1 + L / 2), tT (opS 4)]) := by
    have := own_lit (W1.alloc (.cells #[.int .i64 0, .string (opS 4), .int .i64 0, .int .i64 0] 48)) 48 4 2 (fl ft [tG (L % 2) (1 + L / 2), tT (opS 4)]) rfl (by unfold maxLen; omega)
    rw [show (W1.alloc (.cells #[.int .i64 0, .string (opS 4), .int .i64 0, .int .i64 0] 48)).heap.size = W1.heap.size + 1 by simp] at this
    exact this
  refine hK _ _ ⟨⟨⟨_, hbY⟩, rfl⟩, ?_⟩
  clear hK K hbX
  change Stage.stageW _ _ _ _ _ _ ((W1.alloc (.cells #[.int .i64 0, .string (opS 4), .int .i64 0, .int .i64 0] 48)).alloc (.cells #[.int .i64 2, .string ByteArray.empty, .int .i64 (L % 2), .int .i64 (1 + L / 2), .int .i64 0, .string (opS 4), .int .i64 0, .int .i64 0] 48)).drew
  have HB2 := Lib.hid (HBS.out.trans (hbY.mono HBS.out.size))
  have d5'' := (Below.cell (p := ⟨ps i, 5, none⟩) (show Below W1.heap.size W1 _ from hbY) (Nat.lt_of_lt_of_le dl HBS.out.size)).trans d5'
  have hsy2 := hsy.below hbY
  have HSY := Lib.hid hsy2
  have HB12 := Lib.hid (show Below W1.heap.size W1 _ from hbY)
  have HRW := Lib.hid (own_low hrow (show W1.heap.size ≤ W1.heap.size + 1 by omega))
  have HZ2 := Lib.hid (show W1.heap.size ≤ ((W1.alloc (.cells #[.int .i64 0, .string (opS 4), .int .i64 0, .int .i64 0] 48)).alloc (.cells #[.int .i64 2, .string ByteArray.empty, .int .i64 (L % 2), .int .i64 (1 + L / 2), .int .i64 0, .string (opS 4), .int .i64 0, .int .i64 0] 48)).drew.heap.size from hbY.size)
  clear hrow hbY hsy hsy2 d5' d1'
  generalize ((W1.alloc (.cells #[.int .i64 0, .string (opS 4), .int .i64 0, .int .i64 0] 48)).alloc (.cells #[.int .i64 2, .string ByteArray.empty, .int .i64 (L % 2), .int .i64 (1 + L / 2), .int .i64 0, .string (opS 4), .int .i64 0, .int .i64 0] 48)).drew = W2 at *
  refine stage_last ?_
  repeat (go_big_quiet_step (fail))
  refine wpQuiet_nil ?_
  go_wp2
  obtain ⟨hd, hhd⟩ : ∃ hd, [tG (L % 2) (1 + L / 2), tT (opS 4)] = hd := ⟨_, rfl⟩
  have HHD := Lib.hid hhd
  have hhl : hd.length = 2 := by rw [← hhd]; rfl
  rw [hhd] at HRW
  clear hhd
  go_loopw [10, 11, 35] (fun tv pv iv wr => ∃ j : Nat, j ≤ (kidsN l i n).length ∧ iv = .int .i64 j ∧ pv = .int .i64 (plT l i j : Int) ∧ wr.ownsRow W1.heap.size 48 4 tv (2 + (blT s l i j).length) (fl ft (hd ++ blT s l i j)) ∧ Below W1.heap.size W2 wr) (fun _ _ iv _ => (kidsN l i n).length - (intOf iv).toNat)
  case atStart => exact ⟨0, Nat.zero_le _, rfl, rfl, by rw [blT_zero, List.append_nil]; exact HRW.out, Below.refl _ _⟩
  case round =>
    obtain ⟨j, hj, rfl, rfl, hown, hb⟩ := hrel
    have HO := Lib.hid hown
    have HB := Lib.hid hb
    obtain ⟨Av, cv, hAv⟩ := own_slice hown
    subst hAv
    have hbl := HUP.out.blT_le s (i := i) (by omega) j
    have hpl := plE_le l ((kidsN l i n).take j) 0
    clear hown hb
    by_cases hjl : j < (kidsN l i n).length
    · obtain ⟨a, ha⟩ : ∃ a, (kidsN l i n)[j]? = some a := ⟨_, List.getElem?_eq_getElem hjl⟩
      obtain ⟨han, hpar, _⟩ := kidsN_mem (List.mem_of_getElem? ha)
      have HBR := Lib.hid (HW.out.trans ((HBS.out.trans ((HB12.out.trans HB.out).mono HBS.out.size)).mono HW.out.size))
      have HCALL := Lib.hid (HIH.out a han hpar)
      obtain ⟨g, hgA, hgl, hgc⟩ := HKD.out j a ha
      have cg : wr.cell? ⟨g, j, none⟩ = some (.pointer (some ⟨ps (a + 1), 0, none⟩)) := (HBR.out.cell (p := ⟨g, j, none⟩) hgl).trans hgc
      have HST := Lib.hid (blT_succ (s := s) (by rw [hlen]; exact ha))
      have htl := HUP.out.tkP_le s (i := a + 1) (by omega) (by omega)
      obtain ⟨c0, c1, c2, c3, c4, c5⟩ := HSY.out.belowB HB.out HLT.out
      have HAT := Lib.hid ha
      have hwz1 : W1.heap.size ≤ wr.heap.size := Nat.le_trans HZ2.out HB.out.size
      subst hgA
      clear hgc ha
      go_wp2_with fail
      refine (HCALL.out wr HBR.out).mono ?_
      rintro e w3 ⟨v3, rfl, ho3, hb3⟩
      have HO3 := Lib.hid (own_below HO.out hb3)
      have HB3 := Lib.hid (HB.out.trans (hb3.mono hwz1))
      have HR3 := Lib.hid ho3
      obtain ⟨A3, c3', rfl⟩ := own_slice ho3
      have hz3 : W1.heap.size ≤ w3.heap.size := Nat.le_trans HZ2.out HB3.out.size
      have hll3 : 2 + (blT s l i j).length ≤ 10000 := by omega
      clear ho3 hb3 cg c0 c1 c2 c3 c4 c5
      go_wp2_with (at_builtin; refine wpList_append_row _ rfl _ _ 26 rfl W1.heap.size 48 i0 (.agg #[.int .i64 0, .string ByteArray.empty, .int .i64 0, .int .i64 0]) 4 40 Tryz.underlying26 hi0 hz0 hz1 hz2 rfl (by decide) _ _ _ rfl HO3.out _ _ _ _ rfl HR3.out (ft_all _) (by simp only [maxLen]; omega) (by omega) hz3 ?_)
      intro v' w4 how4 hgr4
      rw [← fl_append] at how4
      have HB4 := Lib.hid (HB3.out.grown hgr4 hz3 (fun g hg => (HO3.out.lt g hg).1))
      obtain ⟨A4, c4', rfl⟩ := own_slice how4
      have HO4 := Lib.hid (show w4.ownsRow W1.heap.size 48 4 (.slice A4 (2 + (blT s l i j).length + (tkP s l (a + 1)).length) c4') (2 + (blT s l i j).length + (tkP s l (a + 1)).length) (fl ft (hd ++ blT s l i j ++ tkP s l (a + 1))) from how4)
      have HBQ := Lib.hid (HW.out.trans ((HBS.out.trans ((HB12.out.trans HB4.out).mono HBS.out.size)).mono HW.out.size))
      have hcl := (HFO.out.below HBQ.out).cells (show a + 1 ≤ n by omega)
      obtain ⟨_, e1, _, _, _, _, el⟩ := hcl
      clear how4 hgr4 HO3 HR3
      have HREL := Lib.hid (show ∀ (V : World) (tv : Value) (p m : Nat), p = pl1 l a (plT l i j) → m = 2 + (blT s l i j).length + (tkP s l (a + 1)).length + (ptL s 4 (isN l a) (decide (j + 1 = (kidsN l i n).length)) (j + 1) p).length → V.ownsRow W1.heap.size 48 4 tv m (fl ft (hd ++ blT s l i j ++ tkP s l (a + 1) ++ ptL s 4 (isN l a) (decide (j + 1 = (kidsN l i n).length)) (j + 1) p)) → Below W1.heap.size W2 V → ∃ j' : Nat, j' ≤ (kidsN l i n).length ∧ Value.int .i64 ((j : Int) + 1) = .int .i64 j' ∧ Value.int .i64 (p : Int) = .int .i64 (plT l i j' : Int) ∧ V.ownsRow W1.heap.size 48 4 tv (2 + (blT s l i j').length) (fl ft (hd ++ blT s l i j')) ∧ Below W1.heap.size W2 V by
        intro V tv p m hp hm ho hb
        obtain ⟨q1, q2⟩ := HST.out
        rw [HK.out, hlen, ← hp] at q1
        refine ⟨j + 1, by omega, by go_num, by rw [q2, hp], ?_, hb⟩
        rw [q1]
        refine own_n (n := m) (by rw [hm]; simp only [List.length_append]; omega) ?_
        simpa only [List.append_assoc] using ho)
      have f5 := (HB4.out.cell (p := ⟨ps i, 5, none⟩) (Nat.lt_of_lt_of_le dl HBS.out.size)).trans d5''
      obtain ⟨nn, hnn⟩ : ∃ nn, 2 + (blT s l i j).length + (tkP s l (a + 1)).length = nn := ⟨_, rfl⟩
      rw [hnn] at HO4 HREL ⊢
      have hnb : nn ≤ 10000 := by omega
      have hpb : plT l i j ≤ 300 := by unfold plT; have := List.length_take_le j (kidsN l i l.length); rw [hlen] at *; omega
      clear hbl htl hll3 hnn hpl
      by_cases hnote : knd l (a + 1) = 2
      · rw [hnote] at e1
        have hN : isN l a = true := by unfold isN; exact decide_eq_true hnote
        have hS := BlkL.new w4 48 (fl ft [tL])
        have hbS := (Below.refl w4.heap.size w4).alloc (Nat.le_refl _) (.cells (fl ft [tL]).toArray 48)
        have hz4 : W1.heap.size ≤ w4.heap.size := Nat.le_trans HZ2.out HB4.out.size
        have HOS := Lib.hid (own_below HO4.out hbS)
        have HBSS := Lib.hid (HB4.out.trans (hbS.mono hz4))
        have HSS := Lib.hid hS
        have hzS : W1.heap.size ≤ (w4.alloc (.cells (fl ft [tL]).toArray 48)).heap.size := Nat.le_trans HZ2.out HBSS.out.size
        clear hS hbS f5
        go_wp2_with (at_builtin; refine wpList_append_own_at _ rfl _ _ 26 rfl W1.heap.size 48 i0 (.agg #[.int .i64 0, .string ByteArray.empty, .int .i64 0, .int .i64 0]) 4 40 Tryz.underlying26 hi0 hz0 hz1 hz2 rfl (by decide) _ _ _ rfl HOS.out ⟨w4.heap.size, 0, none⟩ 1 1 (fl ft [tL]) rfl rfl (fun j u hj => by rw [Addr.add_lit, Nat.zero_add]; exact (HSS.out.cell j).trans hj) (ft_all _) (by simp only [maxLen]; omega) (by omega) hzS ?_)
        intro v' w5 howS hgrS _ _
        rw [← fl_append] at howS
        have HB5 := Lib.hid (HBSS.out.grown hgrS hzS (fun g hg => (HOS.out.lt g hg).1))
        obtain ⟨A5, c5, rfl⟩ := own_slice howS
        have HO5 := Lib.hid howS
        clear howS hgrS HOS HBSS HSS hzS
        go_wp2
        go_roundw
        case rel => exact HREL.out w5 _ (plT l i j) (nn + 1) (by simp [pl1, hN]) (by rw [hN]; rfl) (by rw [hN]; have := HO5.out; simp only [List.append_assoc] at this ⊢; exact this) HB5.out
        case measure => simp [intOf]; omega
      · have hkb : (knd l (a + 1) == 2) = false := by simpa using hnote
        have hN : isN l a = false := by unfold isN; exact decide_eq_false hnote
        by_cases hlast : j + 1 < (kidsN l i n).length
        · have g1 : decide ((j : Int) < ((kidsN l i n).length : Int) - 1) = true := decide_eq_true (by omega)
          have hdd : decide (j + 1 = (kidsN l i n).length) = false := decide_eq_false (by omega)
          obtain ⟨ov, hov⟩ : ∃ ov, offB s 4 (j + 1) (plT l i j + 1) = ov := ⟨_, rfl⟩
          have HQF := Lib.hid (HOF.out w4 (HBS.out.trans ((HB12.out.trans HB4.out).mono HBS.out.size)) ((j : Int) + 1) ((plT l i j : Int) + 1) (j + 1) (plT l i j + 1) (by go_num) (by go_num) (by omega) (by omega))
          rw [hov] at HQF
          go_wp2_with fail
          refine HQF.out.mono ?_
          rintro e wq ⟨rfl, rfl⟩
          have hS := BlkL.new w4 48 (fl ft [tK ov])
          have hbS := (Below.refl w4.heap.size w4).alloc (Nat.le_refl _) (.cells (fl ft [tK ov]).toArray 48)
          have hz4 : W1.heap.size ≤ w4.heap.size := Nat.le_trans HZ2.out HB4.out.size
          have HOS := Lib.hid (own_below HO4.out hbS)
          have HBSS := Lib.hid (HB4.out.trans (hbS.mono hz4))
          have HSS := Lib.hid hS
          have hzS : W1.heap.size ≤ (w4.alloc (.cells (fl ft [tK ov]).toArray 48)).heap.size := Nat.le_trans HZ2.out HBSS.out.size
          clear hS hbS f5
          go_wp2_with (at_builtin; refine wpList_append_own_at _ rfl _ _ 26 rfl W1.heap.size 48 i0 (.agg #[.int .i64 0, .string ByteArray.empty, .int .i64 0, .int .i64 0]) 4 40 Tryz.underlying26 hi0 hz0 hz1 hz2 rfl (by decide) _ _ _ rfl HOS.out ⟨w4.heap.size, 0, none⟩ 1 1 (fl ft [tK ov]) rfl rfl (fun j u hj => by rw [Addr.add_lit, Nat.zero_add]; exact (HSS.out.cell j).trans hj) (ft_all _) (by simp only [maxLen]; omega) (by omega) hzS ?_)
          intro v' w5 howS hgrS _ _
          rw [← fl_append] at howS
          have HB5 := Lib.hid (HBSS.out.grown hgrS hzS (fun g hg => (HOS.out.lt g hg).1))
          obtain ⟨A5, c5, rfl⟩ := own_slice howS
          have HO5 := Lib.hid howS
          clear howS hgrS HOS HBSS HSS hzS
          go_wp2
          go_roundw
          case rel => exact HREL.out w5 _ (plT l i j + 1) (nn + 1) (by simp [pl1, hN]) (by rw [hN, hdd]; rfl) (by rw [hN, hdd]; have := HO5.out; rw [← hov] at this; simp only [ptL, List.append_assoc, Bool.false_eq_true, if_false] at this ⊢; exact this) HB5.out
          case measure => simp [intOf]; omega
        · have g1 : decide ((j : Int) < ((kidsN l i n).length : Int) - 1) = false := decide_eq_false (by omega)
          have hdd : decide (j + 1 = (kidsN l i n).length) = true := decide_eq_true (by omega)
          go_wp2_with fail
          go_roundw
          case rel => exact HREL.out w4 _ (plT l i j + 1) nn (by simp [pl1, hN]) (by rw [hN, hdd]; rfl) (by rw [hN, hdd]; have := HO4.out; simp only [ptL, List.append_assoc, Bool.false_eq_true, if_false, if_true, List.append_nil] at this ⊢; exact this) HB4.out
          case measure => simp [intOf]; omega
    · have hjj : j = (kidsN l i n).length := by omega
      subst hjj
      have hcl2 : (mkS 4).extract 1 2 = clS 4 := rfl
      obtain ⟨cl, hcl⟩ : ∃ cl, clS 4 = cl := ⟨_, rfl⟩
      have HCL := Lib.hid hcl
      rw [hcl] at hcl2
      clear hcl
      go_wp2_with fail
      refine (textToken_any _ _).mono ?_
      rintro e wt ⟨rfl, rfl⟩
      have hzr : W1.heap.size ≤ wr.heap.size := Nat.le_trans HZ2.out HB.out.size
      have hbA := (Below.refl wr.heap.size wr).alloc (Nat.le_refl _) (.cells #[.int .i64 0, .string cl, .int .i64 0, .int .i64 0] 48)
      have HOA := Lib.hid (own_below HO.out hbA)
      have HBA := Lib.hid (HB.out.trans (hbA.mono hzr))
      clear hbA
      generalize wr.alloc (.cells #[.int .i64 0, .string cl, .int .i64 0, .int .i64 0] 48) = wA at *
      have hzA : W1.heap.size ≤ wA.heap.size := Nat.le_trans HZ2.out HBA.out.size
      have hS := BlkL.new wA 48 (fl ft [tT cl, tE])
      have hbS := (Below.refl wA.heap.size wA).alloc (Nat.le_refl _) (.cells (fl ft [tT cl, tE]).toArray 48)
      have HOS := Lib.hid (own_below HOA.out hbS)
      have HBSS := Lib.hid (HBA.out.trans (hbS.mono hzA))
      have HSS := Lib.hid hS
      have hzS : W1.heap.size ≤ (wA.alloc (.cells (fl ft [tT cl, tE]).toArray 48)).heap.size := Nat.le_trans HZ2.out HBSS.out.size
      clear hS hbS
      go_wp2_with (at_builtin; refine wpList_append_own_at _ rfl _ _ 26 rfl W1.heap.size 48 i0 (.agg #[.int .i64 0, .string ByteArray.empty, .int .i64 0, .int .i64 0]) 4 40 Tryz.underlying26 hi0 hz0 hz1 hz2 rfl (by decide) _ _ _ rfl HOS.out ⟨wA.heap.size, 0, none⟩ 2 2 (fl ft [tT cl, tE]) rfl rfl (fun j u hj => by rw [Addr.add_lit, Nat.zero_add]; exact (HSS.out.cell j).trans hj) (ft_all _) (by simp only [maxLen]; omega) (by omega) hzS ?_)
      intro v' w5 howS hgrS _ _
      rw [← fl_append] at howS
      have HB5 := Lib.hid (HBSS.out.grown hgrS hzS (fun g hg => (HOS.out.lt g hg).1))
      have HO5 := Lib.hid howS
      clear howS hgrS HOS HBSS HSS hzS
      go_wp2
      go_ret
      refine tkO_lift (HBS.out) (V := W1) ⟨_, rfl, ?_, (HB12.out.trans HB5.out)⟩
      rw [HPX.out]
      have := HO5.out
      rw [← HHD.out, ← HCL.out] at this
      refine own_n ?_ this
      simp only [List.length_cons, List.length_append, List.length_nil]
      omega
set_option maxHeartbeats 4000000 in
set_option maxRecDepth 100000 in
theorem tokensOfBlock_cu {w0 : World} {B : Nat} {l : List Nd} {n : Nat} {ps : Nat → Nat} {vs : Nat → Value} (hfo : Fo w0 B l n ps vs) (hlen : l.length = n) (hn200 : n ≤ 200) (hup : UpTo l l.length) (s : Sy) (hs : s.ok = true) 
    (i : Nat) (h1i : 1 ≤ i) (hi : i ≤ n) (hk : knd l i = 5) (L : Int) (hL : s.of 5 = L) (w : World) (hw : Below w0.heap.size w0 w) (hoff : ∀ V, Below w.heap.size w V → ∀ (x y : Int) (m p : Nat), x = m → y = p → (1 ≤ m ∧ m ≤ 300) → p ≤ 301 → Calls Tryz.prog 186 #[.int .i64 x, .int .i64 y] V (fun e w' => e = .returned (.int .i64 (offB s 5 m p)) ∧ V = w'))
    (IH : ∀ a, a < n → par l a = i → ∀ V, Below w0.heap.size w0 V → Calls Tryz.prog 71 #[s.val, .pointer (some ⟨ps (a + 1), 0, none⟩)] V (TkO V (tkP s l (a + 1)))) :
    Calls Tryz.prog 183 #[s.val, .pointer (some ⟨ps i, 0, none⟩), .int .i64 L, .func (.func 186) #[] #[]] w (TkO w (tkP s l i)) := by
  obtain ⟨i0, hi0, hz0, hz1, hz2⟩ := info_parts infoTk
  have HFO := Lib.hid hfo
  have HUP := Lib.hid hup
  have HW := Lib.hid hw
  have HIH := Lib.hid IH
  have HOF := Lib.hid hoff
  have HOK := Lib.hid (Sy.ok_iff.1 hs)
  have hLb : 0 ≤ L ∧ L ≤ 3 := by have := HOK.out; rw [← hL]; unfold Sy.of; split; omega; split <;> omega
  have HPX := Lib.hid (tkP_block (s := s) (l := l) (i := i) (by omega) (by omega) (by omega))
  rw [hk, hL, hlen] at HPX
  have hf1 := hfo.below hw
  obtain ⟨_, d1, d2, _, _, d5, dl⟩ := hf1.cells (show i ≤ n by omega)
  rw [hk] at d1
  obtain ⟨A9, c9, hv, hkid⟩ := hfo.kid hi
  rw [hv] at d5
  have HVV := Lib.hid hv
  have HKD := Lib.hid hkid
  have hkl := kidsN_len l i n
  have hbS := (Below.refl w.heap.size w).alloc (Nat.le_refl _) (.cells #[.int .i64 s.r, .int .i64 s.q, .int .i64 s.c, .int .i64 s.h, .int .i64 s.g] 29)
  have d1' := (hbS.cell (p := ⟨ps i, 1, none⟩) dl).trans d1
  have d5' := (hbS.cell (p := ⟨ps i, 5, none⟩) dl).trans d5
  have hsy := SyAt.new w s 29
  have HBS := Lib.hid hbS
  have HK := Lib.hid hk
  clear hoff hfo hup hw IH hs hf1 hv hbS d1 d5 d2 hk hL hkid
  unfold Sy.val at HIH ⊢
  go_enter Tryz.func183, Tryz.ntmps183
  go_wp2_with fail
  refine (marksOf_any _ _).mono ?_
  rintro e w' ⟨rfl, rfl⟩
  go_wp2_with fail
  change Code.wp _ _ _ _ (w.alloc (.cells #[.int .i64 s.r, .int .i64 s.q, .int .i64 s.c, .int .i64 s.h, .int .i64 s.g] 29))
  have HLT := Lib.hid (show w.heap.size < (w.alloc (.cells #[.int .i64 s.r, .int .i64 s.q, .int .i64 s.c, .int .i64 s.h, .int .i64 s.g] 29)).heap.size by simp)
  generalize w.alloc (.cells #[.int .i64 s.r, .int .i64 s.q, .int .i64 s.c, .int .i64 s.h, .int .i64 s.g] 29) = W1 at *
  have hne : Nonempty (Cl (Bw W1)) := ⟨⟨_, Bw.start W1⟩⟩
  have hmz : (mkS 5).size = 2 := rfl
  have hme : (mkS 5).extract 0 1 = opS 5 := rfl
  refine wp_region_stages [0, 1, 0, 0, 0, 2, 0, 0, 3, 5, 7] 3 (fun w' => ∃ y : Cl (Bw W1), w' = y.W) (by kernel_rfl) (by kernel_rfl) ⟨⟨_, Bw.start W1⟩, rfl⟩ ?_
  simp only [Stage.stages, Stage.pickC, Nat.reduceBEq, Nat.reduceMul, Nat.reduceAdd, cond_true, cond_false, List.map_cons, List.map_nil]
  refine stage_more ?_
  repeat (go_big_quiet_step (fail))
  refine wpQuiet_nil ?_
  intro K hK
  unfold Chain.mov
  go_simp
  simp only [Chain.movUpon]
  refine (tightBit_any L hLb.1 hLb.2 _).mono ?_
  rintro r w5 ⟨rfl, rfl⟩
  refine ⟨_, rfl, hK _ _ ⟨⟨⟨_, Bw.start W1⟩, rfl⟩, ?_⟩⟩
  clear hK K
  refine stage_more ?_
  repeat (go_big_quiet_step (fail))
  refine wpQuiet_nil ?_
  intro K hK
  unfold Chain.mov
  go_simp
  simp only [Chain.movUpon]
  refine (textToken_any _ _).mono ?_
  rintro r w5 ⟨rfl, rfl⟩
  have hbX : Bw W1 (W1.alloc (.cells #[.int .i64 0, .string (opS 5), .int .i64 0, .int .i64 0] 48)).drew := ((Below.refl _ W1).alloc (Nat.le_refl _) _).drew
  refine ⟨_, rfl, hK _ _ ⟨⟨⟨_, hbX⟩, rfl⟩, ?_⟩⟩
  clear hK K
  refine stage_more ?_
  repeat (go_big_quiet_step (fail))
  refine wpQuiet_nil ?_
  intro K hK
  unfold Chain.mov
  go_simp
  have hbY : Bw W1 ((W1.alloc (.cells #[.int .i64 0, .string (opS 5), .int .i64 0, .int .i64 0] 48)).alloc (.cells #[.int .i64 2, .string ByteArray.empty, .int .i64 (L % 2), .int .i64 (1 + L / 2), .int .i64 0, .string (opS 5), .int .i64 0, .int .i64 0] 48)).drew := (((Below.refl _ W1).alloc (Nat.le_refl _) _).alloc (by simp) _).drew
  have hrow : ((W1.alloc (.cells #[.int .i64 0, .string (opS 5), .int .i64 0, .int .i64 0] 48)).alloc (.cells #[.int .i64 2, .string ByteArray.empty, .int .i64 (L % 2), .int .i64 (1 + L / 2), .int .i64 0, .string (opS 5), .int .i64 0, .int .i64 0] 48)).drew.ownsRow (W1.heap.size + 1) 48 4 (.slice (some ⟨W1.heap.size + 1, 0, none⟩) 2 2) 2 (fl ft [tG (L % 2) (1 + L / 2), tT (opS 5)]) := by
    have := own_lit (W1.alloc (.cells #[.int .i64 0, .string (opS 5), .int .i64 0, .int .i64 0] 48)) 48 4 2 (fl ft [tG (L % 2) (1 + L / 2), tT (opS 5)]) rfl (by unfold maxLen; omega)
    rw [show (W1.alloc (.cells #[.int .i64 0, .string (opS 5), .int .i64 0, .int .i64 0] 48)).heap.size = W1.heap.size + 1 by simp] at this
    exact this
  refine hK _ _ ⟨⟨⟨_, hbY⟩, rfl⟩, ?_⟩
  clear hK K hbX
  change Stage.stageW _ _ _ _ _ _ ((W1.alloc (.cells #[.int .i64 0, .string (opS 5), .int .i64 0, .int .i64 0] 48)).alloc (.cells #[.int .i64 2, .string ByteArray.empty, .int .i64 (L % 2), .int .i64 (1 + L / 2), .int .i64 0, .string (opS 5), .int .i64 0, .int .i64 0] 48)).drew
  have HB2 := Lib.hid (HBS.out.trans (hbY.mono HBS.out.size))
  have d5'' := (Below.cell (p := ⟨ps i, 5, none⟩) (show Below W1.heap.size W1 _ from hbY) (Nat.lt_of_lt_of_le dl HBS.out.size)).trans d5'
  have hsy2 := hsy.below hbY
  have HSY := Lib.hid hsy2
  have HB12 := Lib.hid (show Below W1.heap.size W1 _ from hbY)
  have HRW := Lib.hid (own_low hrow (show W1.heap.size ≤ W1.heap.size + 1 by omega))
  have HZ2 := Lib.hid (show W1.heap.size ≤ ((W1.alloc (.cells #[.int .i64 0, .string (opS 5), .int .i64 0, .int .i64 0] 48)).alloc (.cells #[.int .i64 2, .string ByteArray.empty, .int .i64 (L % 2), .int .i64 (1 + L / 2), .int .i64 0, .string (opS 5), .int .i64 0, .int .i64 0] 48)).drew.heap.size from hbY.size)
  clear hrow hbY hsy hsy2 d5' d1'
  generalize ((W1.alloc (.cells #[.int .i64 0, .string (opS 5), .int .i64 0, .int .i64 0] 48)).alloc (.cells #[.int .i64 2, .string ByteArray.empty, .int .i64 (L % 2), .int .i64 (1 + L / 2), .int .i64 0, .string (opS 5), .int .i64 0, .int .i64 0] 48)).drew = W2 at *
  refine stage_last ?_
  repeat (go_big_quiet_step (fail))
  refine wpQuiet_nil ?_
  go_wp2
  obtain ⟨hd, hhd⟩ : ∃ hd, [tG (L % 2) (1 + L / 2), tT (opS 5)] = hd := ⟨_, rfl⟩
  have HHD := Lib.hid hhd
  have hhl : hd.length = 2 := by rw [← hhd]; rfl
  rw [hhd] at HRW
  clear hhd
  go_loopw [10, 11, 35] (fun tv pv iv wr => ∃ j : Nat, j ≤ (kidsN l i n).length ∧ iv = .int .i64 j ∧ pv = .int .i64 (plT l i j : Int) ∧ wr.ownsRow W1.heap.size 48 4 tv (2 + (blT s l i j).length) (fl ft (hd ++ blT s l i j)) ∧ Below W1.heap.size W2 wr) (fun _ _ iv _ => (kidsN l i n).length - (intOf iv).toNat)
  case atStart => exact ⟨0, Nat.zero_le _, rfl, rfl, by rw [blT_zero, List.append_nil]; exact HRW.out, Below.refl _ _⟩
  case round =>
    obtain ⟨j, hj, rfl, rfl, hown, hb⟩ := hrel
    have HO := Lib.hid hown
    have HB := Lib.hid hb
    obtain ⟨Av, cv, hAv⟩ := own_slice hown
    subst hAv
    have hbl := HUP.out.blT_le s (i := i) (by omega) j
    have hpl := plE_le l ((kidsN l i n).take j) 0
    clear hown hb
    by_cases hjl : j < (kidsN l i n).length
    · obtain ⟨a, ha⟩ : ∃ a, (kidsN l i n)[j]? = some a := ⟨_, List.getElem?_eq_getElem hjl⟩
      obtain ⟨han, hpar, _⟩ := kidsN_mem (List.mem_of_getElem? ha)
      have HBR := Lib.hid (HW.out.trans ((HBS.out.trans ((HB12.out.trans HB.out).mono HBS.out.size)).mono HW.out.size))
      have HCALL := Lib.hid (HIH.out a han hpar)
      obtain ⟨g, hgA, hgl, hgc⟩ := HKD.out j a ha
      have cg : wr.cell? ⟨g, j, none⟩ = some (.pointer (some ⟨ps (a + 1), 0, none⟩)) := (HBR.out.cell (p := ⟨g, j, none⟩) hgl).trans hgc
      have HST := Lib.hid (blT_succ (s := s) (by rw [hlen]; exact ha))
      have htl := HUP.out.tkP_le s (i := a + 1) (by omega) (by omega)
      obtain ⟨c0, c1, c2, c3, c4, c5⟩ := HSY.out.belowB HB.out HLT.out
      have HAT := Lib.hid ha
      have hwz1 : W1.heap.size ≤ wr.heap.size := Nat.le_trans HZ2.out HB.out.size
      subst hgA
      clear hgc ha
      go_wp2_with fail
      refine (HCALL.out wr HBR.out).mono ?_
      rintro e w3 ⟨v3, rfl, ho3, hb3⟩
      have HO3 := Lib.hid (own_below HO.out hb3)
      have HB3 := Lib.hid (HB.out.trans (hb3.mono hwz1))
      have HR3 := Lib.hid ho3
      obtain ⟨A3, c3', rfl⟩ := own_slice ho3
      have hz3 : W1.heap.size ≤ w3.heap.size := Nat.le_trans HZ2.out HB3.out.size
      have hll3 : 2 + (blT s l i j).length ≤ 10000 := by omega
      clear ho3 hb3 cg c0 c1 c2 c3 c4 c5
      go_wp2_with (at_builtin; refine wpList_append_row _ rfl _ _ 26 rfl W1.heap.size 48 i0 (.agg #[.int .i64 0, .string ByteArray.empty, .int .i64 0, .int .i64 0]) 4 40 Tryz.underlying26 hi0 hz0 hz1 hz2 rfl (by decide) _ _ _ rfl HO3.out _ _ _ _ rfl HR3.out (ft_all _) (by simp only [maxLen]; omega) (by omega) hz3 ?_)
      intro v' w4 how4 hgr4
      rw [← fl_append] at how4
      have HB4 := Lib.hid (HB3.out.grown hgr4 hz3 (fun g hg => (HO3.out.lt g hg).1))
      obtain ⟨A4, c4', rfl⟩ := own_slice how4
      have HO4 := Lib.hid (show w4.ownsRow W1.heap.size 48 4 (.slice A4 (2 + (blT s l i j).length + (tkP s l (a + 1)).length) c4') (2 + (blT s l i j).length + (tkP s l (a + 1)).length) (fl ft (hd ++ blT s l i j ++ tkP s l (a + 1))) from how4)
      have HBQ := Lib.hid (HW.out.trans ((HBS.out.trans ((HB12.out.trans HB4.out).mono HBS.out.size)).mono HW.out.size))
      have hcl := (HFO.out.below HBQ.out).cells (show a + 1 ≤ n by omega)
      obtain ⟨_, e1, _, _, _, _, el⟩ := hcl
      clear how4 hgr4 HO3 HR3
      have HREL := Lib.hid (show ∀ (V : World) (tv : Value) (p m : Nat), p = pl1 l a (plT l i j) → m = 2 + (blT s l i j).length + (tkP s l (a + 1)).length + (ptL s 5 (isN l a) (decide (j + 1 = (kidsN l i n).length)) (j + 1) p).length → V.ownsRow W1.heap.size 48 4 tv m (fl ft (hd ++ blT s l i j ++ tkP s l (a + 1) ++ ptL s 5 (isN l a) (decide (j + 1 = (kidsN l i n).length)) (j + 1) p)) → Below W1.heap.size W2 V → ∃ j' : Nat, j' ≤ (kidsN l i n).length ∧ Value.int .i64 ((j : Int) + 1) = .int .i64 j' ∧ Value.int .i64 (p : Int) = .int .i64 (plT l i j' : Int) ∧ V.ownsRow W1.heap.size 48 4 tv (2 + (blT s l i j').length) (fl ft (hd ++ blT s l i j')) ∧ Below W1.heap.size W2 V by
        intro V tv p m hp hm ho hb
        obtain ⟨q1, q2⟩ := HST.out
        rw [HK.out, hlen, ← hp] at q1
        refine ⟨j + 1, by omega, by go_num, by rw [q2, hp], ?_, hb⟩
        rw [q1]
        refine own_n (n := m) (by rw [hm]; simp only [List.length_append]; omega) ?_
        simpa only [List.append_assoc] using ho)
      have f5 := (HB4.out.cell (p := ⟨ps i, 5, none⟩) (Nat.lt_of_lt_of_le dl HBS.out.size)).trans d5''
      obtain ⟨nn, hnn⟩ : ∃ nn, 2 + (blT s l i j).length + (tkP s l (a + 1)).length = nn := ⟨_, rfl⟩
      rw [hnn] at HO4 HREL ⊢
      have hnb : nn ≤ 10000 := by omega
      have hpb : plT l i j ≤ 300 := by unfold plT; have := List.length_take_le j (kidsN l i l.length); rw [hlen] at *; omega
      clear hbl htl hll3 hnn hpl
      by_cases hnote : knd l (a + 1) = 2
      · rw [hnote] at e1
        have hN : isN l a = true := by unfold isN; exact decide_eq_true hnote
        have hS := BlkL.new w4 48 (fl ft [tL])
        have hbS := (Below.refl w4.heap.size w4).alloc (Nat.le_refl _) (.cells (fl ft [tL]).toArray 48)
        have hz4 : W1.heap.size ≤ w4.heap.size := Nat.le_trans HZ2.out HB4.out.size
        have HOS := Lib.hid (own_below HO4.out hbS)
        have HBSS := Lib.hid (HB4.out.trans (hbS.mono hz4))
        have HSS := Lib.hid hS
        have hzS : W1.heap.size ≤ (w4.alloc (.cells (fl ft [tL]).toArray 48)).heap.size := Nat.le_trans HZ2.out HBSS.out.size
        clear hS hbS f5
        go_wp2_with (at_builtin; refine wpList_append_own_at _ rfl _ _ 26 rfl W1.heap.size 48 i0 (.agg #[.int .i64 0, .string ByteArray.empty, .int .i64 0, .int .i64 0]) 4 40 Tryz.underlying26 hi0 hz0 hz1 hz2 rfl (by decide) _ _ _ rfl HOS.out ⟨w4.heap.size, 0, none⟩ 1 1 (fl ft [tL]) rfl rfl (fun j u hj => by rw [Addr.add_lit, Nat.zero_add]; exact (HSS.out.cell j).trans hj) (ft_all _) (by simp only [maxLen]; omega) (by omega) hzS ?_)
        intro v' w5 howS hgrS _ _
        rw [← fl_append] at howS
        have HB5 := Lib.hid (HBSS.out.grown hgrS hzS (fun g hg => (HOS.out.lt g hg).1))
        obtain ⟨A5, c5, rfl⟩ := own_slice howS
        have HO5 := Lib.hid howS
        clear howS hgrS HOS HBSS HSS hzS
        go_wp2
        go_roundw
        case rel => exact HREL.out w5 _ (plT l i j) (nn + 1) (by simp [pl1, hN]) (by rw [hN]; rfl) (by rw [hN]; have := HO5.out; simp only [List.append_assoc] at this ⊢; exact this) HB5.out
        case measure => simp [intOf]; omega
      · have hkb : (knd l (a + 1) == 2) = false := by simpa using hnote
        have hN : isN l a = false := by unfold isN; exact decide_eq_false hnote
        by_cases hlast : j + 1 < (kidsN l i n).length
        · have g1 : decide ((j : Int) < ((kidsN l i n).length : Int) - 1) = true := decide_eq_true (by omega)
          have hdd : decide (j + 1 = (kidsN l i n).length) = false := decide_eq_false (by omega)
          obtain ⟨ov, hov⟩ : ∃ ov, offB s 5 (j + 1) (plT l i j + 1) = ov := ⟨_, rfl⟩
          have HQF := Lib.hid (HOF.out w4 (HBS.out.trans ((HB12.out.trans HB4.out).mono HBS.out.size)) ((j : Int) + 1) ((plT l i j : Int) + 1) (j + 1) (plT l i j + 1) (by go_num) (by go_num) (by omega) (by omega))
          rw [hov] at HQF
          go_wp2_with fail
          refine HQF.out.mono ?_
          rintro e wq ⟨rfl, rfl⟩
          have hS := BlkL.new w4 48 (fl ft [tK ov])
          have hbS := (Below.refl w4.heap.size w4).alloc (Nat.le_refl _) (.cells (fl ft [tK ov]).toArray 48)
          have hz4 : W1.heap.size ≤ w4.heap.size := Nat.le_trans HZ2.out HB4.out.size
          have HOS := Lib.hid (own_below HO4.out hbS)
          have HBSS := Lib.hid (HB4.out.trans (hbS.mono hz4))
          have HSS := Lib.hid hS
          have hzS : W1.heap.size ≤ (w4.alloc (.cells (fl ft [tK ov]).toArray 48)).heap.size := Nat.le_trans HZ2.out HBSS.out.size
          clear hS hbS f5
          go_wp2_with (at_builtin; refine wpList_append_own_at _ rfl _ _ 26 rfl W1.heap.size 48 i0 (.agg #[.int .i64 0, .string ByteArray.empty, .int .i64 0, .int .i64 0]) 4 40 Tryz.underlying26 hi0 hz0 hz1 hz2 rfl (by decide) _ _ _ rfl HOS.out ⟨w4.heap.size, 0, none⟩ 1 1 (fl ft [tK ov]) rfl rfl (fun j u hj => by rw [Addr.add_lit, Nat.zero_add]; exact (HSS.out.cell j).trans hj) (ft_all _) (by simp only [maxLen]; omega) (by omega) hzS ?_)
          intro v' w5 howS hgrS _ _
          rw [← fl_append] at howS
          have HB5 := Lib.hid (HBSS.out.grown hgrS hzS (fun g hg => (HOS.out.lt g hg).1))
          obtain ⟨A5, c5, rfl⟩ := own_slice howS
          have HO5 := Lib.hid howS
          clear howS hgrS HOS HBSS HSS hzS
          go_wp2
          go_roundw
          case rel => exact HREL.out w5 _ (plT l i j + 1) (nn + 1) (by simp [pl1, hN]) (by rw [hN, hdd]; rfl) (by rw [hN, hdd]; have := HO5.out; rw [← hov] at this; simp only [ptL, List.append_assoc, Bool.false_eq_true, if_false] at this ⊢; exact this) HB5.out
          case measure => simp [intOf]; omega
        · have g1 : decide ((j : Int) < ((kidsN l i n).length : Int) - 1) = false := decide_eq_false (by omega)
          have hdd : decide (j + 1 = (kidsN l i n).length) = true := decide_eq_true (by omega)
          go_wp2_with fail
          go_roundw
          case rel => exact HREL.out w4 _ (plT l i j + 1) nn (by simp [pl1, hN]) (by rw [hN, hdd]; rfl) (by rw [hN, hdd]; have := HO4.out; simp only [ptL, List.append_assoc, Bool.false_eq_true, if_false, if_true, List.append_nil] at this ⊢; exact this) HB4.out
          case measure => simp [intOf]; omega
    · have hjj : j = (kidsN l i n).length := by omega
      subst hjj
      have hcl2 : (mkS 5).extract 1 2 = clS 5 := rfl
      obtain ⟨cl, hcl⟩ : ∃ cl, clS 5 = cl := ⟨_, rfl⟩
      have HCL := Lib.hid hcl
      rw [hcl] at hcl2
      clear hcl
      go_wp2_with fail
      refine (textToken_any _ _).mono ?_
      rintro e wt ⟨rfl, rfl⟩
      have hzr : W1.heap.size ≤ wr.heap.size := Nat.le_trans HZ2.out HB.out.size
      have hbA := (Below.refl wr.heap.size wr).alloc (Nat.le_refl _) (.cells #[.int .i64 0, .string cl, .int .i64 0, .int .i64 0] 48)
      have HOA := Lib.hid (own_below HO.out hbA)
      have HBA := Lib.hid (HB.out.trans (hbA.mono hzr))
      clear hbA
      generalize wr.alloc (.cells #[.int .i64 0, .string cl, .int .i64 0, .int .i64 0] 48) = wA at *
      have hzA : W1.heap.size ≤ wA.heap.size := Nat.le_trans HZ2.out HBA.out.size
      have hS := BlkL.new wA 48 (fl ft [tT cl, tE])
      have hbS := (Below.refl wA.heap.size wA).alloc (Nat.le_refl _) (.cells (fl ft [tT cl, tE]).toArray 48)
      have HOS := Lib.hid (own_below HOA.out hbS)
      have HBSS := Lib.hid (HBA.out.trans (hbS.mono hzA))
      have HSS := Lib.hid hS
      have hzS : W1.heap.size ≤ (wA.alloc (.cells (fl ft [tT cl, tE]).toArray 48)).heap.size := Nat.le_trans HZ2.out HBSS.out.size
      clear hS hbS
      go_wp2_with (at_builtin; refine wpList_append_own_at _ rfl _ _ 26 rfl W1.heap.size 48 i0 (.agg #[.int .i64 0, .string ByteArray.empty, .int .i64 0, .int .i64 0]) 4 40 Tryz.underlying26 hi0 hz0 hz1 hz2 rfl (by decide) _ _ _ rfl HOS.out ⟨wA.heap.size, 0, none⟩ 2 2 (fl ft [tT cl, tE]) rfl rfl (fun j u hj => by rw [Addr.add_lit, Nat.zero_add]; exact (HSS.out.cell j).trans hj) (ft_all _) (by simp only [maxLen]; omega) (by omega) hzS ?_)
      intro v' w5 howS hgrS _ _
      rw [← fl_append] at howS
      have HB5 := Lib.hid (HBSS.out.grown hgrS hzS (fun g hg => (HOS.out.lt g hg).1))
      have HO5 := Lib.hid howS
      clear howS hgrS HOS HBSS HSS hzS
      go_wp2
      go_ret
      refine tkO_lift (HBS.out) (V := W1) ⟨_, rfl, ?_, (HB12.out.trans HB5.out)⟩
      rw [HPX.out]
      have := HO5.out
      rw [← HHD.out, ← HCL.out] at this
      refine own_n ?_ this
      simp only [List.length_cons, List.length_append, List.length_nil]
      omega
set_option maxHeartbeats 4000000 in
set_option maxRecDepth 100000 in
theorem tokensOfBlock_ro {w0 : World} {B : Nat} {l : List Nd} {n : Nat} {ps : Nat → Nat} {vs : Nat → Value} (hfo : Fo w0 B l n ps vs) (hlen : l.length = n) (hn200 : n ≤ 200) (hup : UpTo l l.length) (s : Sy) (hs : s.ok = true) (q : Nat)
    (i : Nat) (h1i : 1 ≤ i) (hi : i ≤ n) (hk : knd l i = 3) (L : Int) (hL : s.of 3 = L) (w : World) (hw : Below w0.heap.size w0 w) (hoff : ∀ V, Below w.heap.size w V → ∀ (x y : Int) (m p : Nat), x = m → y = p → (1 ≤ m ∧ m ≤ 300) → p ≤ 301 → Calls Tryz.prog 184 #[.int .i64 x, .int .i64 y, .pointer (some ⟨q, 0, none⟩)] V (fun e w' => e = .returned (.int .i64 (offB s 3 m p)) ∧ V = w'))
    (IH : ∀ a, a < n → par l a = i → ∀ V, Below w0.heap.size w0 V → Calls Tryz.prog 71 #[s.val, .pointer (some ⟨ps (a + 1), 0, none⟩)] V (TkO V (tkP s l (a + 1)))) :
    Calls Tryz.prog 183 #[s.val, .pointer (some ⟨ps i, 0, none⟩), .int .i64 L, .func (.func 184) #[] #[.pointer (some ⟨q, 0, none⟩)]] w (TkO w (tkP s l i)) := by
  obtain ⟨i0, hi0, hz0, hz1, hz2⟩ := info_parts infoTk
  have HFO := Lib.hid hfo
  have HUP := Lib.hid hup
  have HW := Lib.hid hw
  have HIH := Lib.hid IH
  have HOF := Lib.hid hoff
  have HOK := Lib.hid (Sy.ok_iff.1 hs)
  have hLb : 0 ≤ L ∧ L ≤ 3 := by have := HOK.out; rw [← hL]; unfold Sy.of; split; omega; split <;> omega
  have HPX := Lib.hid (tkP_block (s := s) (l := l) (i := i) (by omega) (by omega) (by omega))
  rw [hk, hL, hlen] at HPX
  have hf1 := hfo.below hw
  obtain ⟨_, d1, d2, _, _, d5, dl⟩ := hf1.cells (show i ≤ n by omega)
  rw [hk] at d1
  obtain ⟨A9, c9, hv, hkid⟩ := hfo.kid hi
  rw [hv] at d5
  have HVV := Lib.hid hv
  have HKD := Lib.hid hkid
  have hkl := kidsN_len l i n
  have hbS := (Below.refl w.heap.size w).alloc (Nat.le_refl _) (.cells #[.int .i64 s.r, .int .i64 s.q, .int .i64 s.c, .int .i64 s.h, .int .i64 s.g] 29)
  have d1' := (hbS.cell (p := ⟨ps i, 1, none⟩) dl).trans d1
  have d5' := (hbS.cell (p := ⟨ps i, 5, none⟩) dl).trans d5
  have hsy := SyAt.new w s 29
  have HBS := Lib.hid hbS
  have HK := Lib.hid hk
  clear hoff hfo hup hw IH hs hf1 hv hbS d1 d5 d2 hk hL hkid
  unfold Sy.val at HIH ⊢
  go_enter Tryz.func183, Tryz.ntmps183
  go_wp2_with fail
  refine (marksOf_any _ _).mono ?_
  rintro e w' ⟨rfl, rfl⟩
  go_wp2_with fail
  change Code.wp _ _ _ _ (w.alloc (.cells #[.int .i64 s.r, .int .i64 s.q, .int .i64 s.c, .int .i64 s.h, .int .i64 s.g] 29))
  have HLT := Lib.hid (show w.heap.size < (w.alloc (.cells #[.int .i64 s.r, .int .i64 s.q, .int .i64 s.c, .int .i64 s.h, .int .i64 s.g] 29)).heap.size by simp)
  generalize w.alloc (.cells #[.int .i64 s.r, .int .i64 s.q, .int .i64 s.c, .int .i64 s.h, .int .i64 s.g] 29) = W1 at *
  have hne : Nonempty (Cl (Bw W1)) := ⟨⟨_, Bw.start W1⟩⟩
  have hmz : (mkS 3).size = 2 := rfl
  have hme : (mkS 3).extract 0 1 = opS 3 := rfl
  refine wp_region_stages [0, 1, 0, 0, 0, 2, 0, 0, 3, 5, 7] 3 (fun w' => ∃ y : Cl (Bw W1), w' = y.W) (by kernel_rfl) (by kernel_rfl) ⟨⟨_, Bw.start W1⟩, rfl⟩ ?_
  simp only [Stage.stages, Stage.pickC, Nat.reduceBEq, Nat.reduceMul, Nat.reduceAdd, cond_true, cond_false, List.map_cons, List.map_nil]
  refine stage_more ?_
  repeat (go_big_quiet_step (fail))
  refine wpQuiet_nil ?_
  intro K hK
  unfold Chain.mov
  go_simp
  simp only [Chain.movUpon]
  refine (tightBit_any L hLb.1 hLb.2 _).mono ?_
  rintro r w5 ⟨rfl, rfl⟩
  refine ⟨_, rfl, hK _ _ ⟨⟨⟨_, Bw.start W1⟩, rfl⟩, ?_⟩⟩
  clear hK K
  refine stage_more ?_
  repeat (go_big_quiet_step (fail))
  refine wpQuiet_nil ?_
  intro K hK
  unfold Chain.mov
  go_simp
  simp only [Chain.movUpon]
  refine (textToken_any _ _).mono ?_
  rintro r w5 ⟨rfl, rfl⟩
  have hbX : Bw W1 (W1.alloc (.cells #[.int .i64 0, .string (opS 3), .int .i64 0, .int .i64 0] 48)).drew := ((Below.refl _ W1).alloc (Nat.le_refl _) _).drew
  refine ⟨_, rfl, hK _ _ ⟨⟨⟨_, hbX⟩, rfl⟩, ?_⟩⟩
  clear hK K
  refine stage_more ?_
  repeat (go_big_quiet_step (fail))
  refine wpQuiet_nil ?_
  intro K hK
  unfold Chain.mov
  go_simp
  have hbY : Bw W1 ((W1.alloc (.cells #[.int .i64 0, .string (opS 3), .int .i64 0, .int .i64 0] 48)).alloc (.cells #[.int .i64 2, .string ByteArray.empty, .int .i64 (L % 2), .int .i64 (1 + L / 2), .int .i64 0, .string (opS 3), .int .i64 0, .int .i64 0] 48)).drew := (((Below.refl _ W1).alloc (Nat.le_refl _) _).alloc (by simp) _).drew
  have hrow : ((W1.alloc (.cells #[.int .i64 0, .string (opS 3), .int .i64 0, .int .i64 0] 48)).alloc (.cells #[.int .i64 2, .string ByteArray.empty, .int .i64 (L % 2), .int .i64 (1 + L / 2), .int .i64 0, .string (opS 3), .int .i64 0, .int .i64 0] 48)).drew.ownsRow (W1.heap.size + 1) 48 4 (.slice (some ⟨W1.heap.size + 1, 0, none⟩) 2 2) 2 (fl ft [tG (L % 2) (1 + L / 2), tT (opS 3)]) := by
    have := own_lit (W1.alloc (.cells #[.int .i64 0, .string (opS 3), .int .i64 0, .int .i64 0] 48)) 48 4 2 (fl ft [tG (L % 2) (1 + L / 2), tT (opS 3)]) rfl (by unfold maxLen; omega)
    rw [show (W1.alloc (.cells #[.int .i64 0, .string (opS 3), .int .i64 0, .int .i64 0] 48)).heap.size = W1.heap.size + 1 by simp] at this
    exact this
  refine hK _ _ ⟨⟨⟨_, hbY⟩, rfl⟩, ?_⟩
  clear hK K hbX
  change Stage.stageW _ _ _ _ _ _ ((W1.alloc (.cells #[.int .i64 0, .string (opS 3), .int .i64 0, .int .i64 0] 48)).alloc (.cells #[.int .i64 2, .string ByteArray.empty, .int .i64 (L % 2), .int .i64 (1 + L / 2), .int .i64 0, .string (opS 3), .int .i64 0, .int .i64 0] 48)).drew
  have HB2 := Lib.hid (HBS.out.trans (hbY.mono HBS.out.size))
  have d5'' := (Below.cell (p := ⟨ps i, 5, none⟩) (show Below W1.heap.size W1 _ from hbY) (Nat.lt_of_lt_of_le dl HBS.out.size)).trans d5'
  have hsy2 := hsy.below hbY
  have HSY := Lib.hid hsy2
  have HB12 := Lib.hid (show Below W1.heap.size W1 _ from hbY)
  have HRW := Lib.hid (own_low hrow (show W1.heap.size ≤ W1.heap.size + 1 by omega))
  have HZ2 := Lib.hid (show W1.heap.size ≤ ((W1.alloc (.cells #[.int .i64 0, .string (opS 3), .int .i64 0, .int .i64 0] 48)).alloc (.cells #[.int .i64 2, .string ByteArray.empty, .int .i64 (L % 2), .int .i64 (1 + L / 2), .int .i64 0, .string (opS 3), .int .i64 0, .int .i64 0] 48)).drew.heap.size from hbY.size)
  clear hrow hbY hsy hsy2 d5' d1'
  generalize ((W1.alloc (.cells #[.int .i64 0, .string (opS 3), .int .i64 0, .int .i64 0] 48)).alloc (.cells #[.int .i64 2, .string ByteArray.empty, .int .i64 (L % 2), .int .i64 (1 + L / 2), .int .i64 0, .string (opS 3), .int .i64 0, .int .i64 0] 48)).drew = W2 at *
  refine stage_last ?_
  repeat (go_big_quiet_step (fail))
  refine wpQuiet_nil ?_
  go_wp2
  obtain ⟨hd, hhd⟩ : ∃ hd, [tG (L % 2) (1 + L / 2), tT (opS 3)] = hd := ⟨_, rfl⟩
  have HHD := Lib.hid hhd
  have hhl : hd.length = 2 := by rw [← hhd]; rfl
  rw [hhd] at HRW
  clear hhd
  go_loopw [10, 11, 35] (fun tv pv iv wr => ∃ j : Nat, j ≤ (kidsN l i n).length ∧ iv = .int .i64 j ∧ pv = .int .i64 (plT l i j : Int) ∧ wr.ownsRow W1.heap.size 48 4 tv (2 + (blT s l i j).length) (fl ft (hd ++ blT s l i j)) ∧ Below W1.heap.size W2 wr) (fun _ _ iv _ => (kidsN l i n).length - (intOf iv).toNat)
  case atStart => exact ⟨0, Nat.zero_le _, rfl, rfl, by rw [blT_zero, List.append_nil]; exact HRW.out, Below.refl _ _⟩
  case round =>
    obtain ⟨j, hj, rfl, rfl, hown, hb⟩ := hrel
    have HO := Lib.hid hown
    have HB := Lib.hid hb
    obtain ⟨Av, cv, hAv⟩ := own_slice hown
    subst hAv
    have hbl := HUP.out.blT_le s (i := i) (by omega) j
    have hpl := plE_le l ((kidsN l i n).take j) 0
    clear hown hb
    by_cases hjl : j < (kidsN l i n).length
    · obtain ⟨a, ha⟩ : ∃ a, (kidsN l i n)[j]? = some a := ⟨_, List.getElem?_eq_getElem hjl⟩
      obtain ⟨han, hpar, _⟩ := kidsN_mem (List.mem_of_getElem? ha)
      have HBR := Lib.hid (HW.out.trans ((HBS.out.trans ((HB12.out.trans HB.out).mono HBS.out.size)).mono HW.out.size))
      have HCALL := Lib.hid (HIH.out a han hpar)
      obtain ⟨g, hgA, hgl, hgc⟩ := HKD.out j a ha
      have cg : wr.cell? ⟨g, j, none⟩ = some (.pointer (some ⟨ps (a + 1), 0, none⟩)) := (HBR.out.cell (p := ⟨g, j, none⟩) hgl).trans hgc
      have HST := Lib.hid (blT_succ (s := s) (by rw [hlen]; exact ha))
      have htl := HUP.out.tkP_le s (i := a + 1) (by omega) (by omega)
      obtain ⟨c0, c1, c2, c3, c4, c5⟩ := HSY.out.belowB HB.out HLT.out
      have HAT := Lib.hid ha
      have hwz1 : W1.heap.size ≤ wr.heap.size := Nat.le_trans HZ2.out HB.out.size
      subst hgA
      clear hgc ha
      go_wp2_with fail
      refine (HCALL.out wr HBR.out).mono ?_
      rintro e w3 ⟨v3, rfl, ho3, hb3⟩
      have HO3 := Lib.hid (own_below HO.out hb3)
      have HB3 := Lib.hid (HB.out.trans (hb3.mono hwz1))
      have HR3 := Lib.hid ho3
      obtain ⟨A3, c3', rfl⟩ := own_slice ho3
      have hz3 : W1.heap.size ≤ w3.heap.size := Nat.le_trans HZ2.out HB3.out.size
      have hll3 : 2 + (blT s l i j).length ≤ 10000 := by omega
      clear ho3 hb3 cg c0 c1 c2 c3 c4 c5
      go_wp2_with (at_builtin; refine wpList_append_row _ rfl _ _ 26 rfl W1.heap.size 48 i0 (.agg #[.int .i64 0, .string ByteArray.empty, .int .i64 0, .int .i64 0]) 4 40 Tryz.underlying26 hi0 hz0 hz1 hz2 rfl (by decide) _ _ _ rfl HO3.out _ _ _ _ rfl HR3.out (ft_all _) (by simp only [maxLen]; omega) (by omega) hz3 ?_)
      intro v' w4 how4 hgr4
      rw [← fl_append] at how4
      have HB4 := Lib.hid (HB3.out.grown hgr4 hz3 (fun g hg => (HO3.out.lt g hg).1))
      obtain ⟨A4, c4', rfl⟩ := own_slice how4
      have HO4 := Lib.hid (show w4.ownsRow W1.heap.size 48 4 (.slice A4 (2 + (blT s l i j).length + (tkP s l (a + 1)).length) c4') (2 + (blT s l i j).length + (tkP s l (a + 1)).length) (fl ft (hd ++ blT s l i j ++ tkP s l (a + 1))) from how4)
      have HBQ := Lib.hid (HW.out.trans ((HBS.out.trans ((HB12.out.trans HB4.out).mono HBS.out.size)).mono HW.out.size))
      have hcl := (HFO.out.below HBQ.out).cells (show a + 1 ≤ n by omega)
      obtain ⟨_, e1, _, _, _, _, el⟩ := hcl
      clear how4 hgr4 HO3 HR3
      have HREL := Lib.hid (show ∀ (V : World) (tv : Value) (p m : Nat), p = pl1 l a (plT l i j) → m = 2 + (blT s l i j).length + (tkP s l (a + 1)).length + (ptL s 3 (isN l a) (decide (j + 1 = (kidsN l i n).length)) (j + 1) p).length → V.ownsRow W1.heap.size 48 4 tv m (fl ft (hd ++ blT s l i j ++ tkP s l (a + 1) ++ ptL s 3 (isN l a) (decide (j + 1 = (kidsN l i n).length)) (j + 1) p)) → Below W1.heap.size W2 V → ∃ j' : Nat, j' ≤ (kidsN l i n).length ∧ Value.int .i64 ((j : Int) + 1) = .int .i64 j' ∧ Value.int .i64 (p : Int) = .int .i64 (plT l i j' : Int) ∧ V.ownsRow W1.heap.size 48 4 tv (2 + (blT s l i j').length) (fl ft (hd ++ blT s l i j')) ∧ Below W1.heap.size W2 V by
        intro V tv p m hp hm ho hb
        obtain ⟨q1, q2⟩ := HST.out
        rw [HK.out, hlen, ← hp] at q1
        refine ⟨j + 1, by omega, by go_num, by rw [q2, hp], ?_, hb⟩
        rw [q1]
        refine own_n (n := m) (by rw [hm]; simp only [List.length_append]; omega) ?_
        simpa only [List.append_assoc] using ho)
      have f5 := (HB4.out.cell (p := ⟨ps i, 5, none⟩) (Nat.lt_of_lt_of_le dl HBS.out.size)).trans d5''
      obtain ⟨nn, hnn⟩ : ∃ nn, 2 + (blT s l i j).length + (tkP s l (a + 1)).length = nn := ⟨_, rfl⟩
      rw [hnn] at HO4 HREL ⊢
      have hnb : nn ≤ 10000 := by omega
      have hpb : plT l i j ≤ 300 := by unfold plT; have := List.length_take_le j (kidsN l i l.length); rw [hlen] at *; omega
      clear hbl htl hll3 hnn hpl
      by_cases hnote : knd l (a + 1) = 2
      · rw [hnote] at e1
        have hN : isN l a = true := by unfold isN; exact decide_eq_true hnote
        have hS := BlkL.new w4 48 (fl ft [tL])
        have hbS := (Below.refl w4.heap.size w4).alloc (Nat.le_refl _) (.cells (fl ft [tL]).toArray 48)
        have hz4 : W1.heap.size ≤ w4.heap.size := Nat.le_trans HZ2.out HB4.out.size
        have HOS := Lib.hid (own_below HO4.out hbS)
        have HBSS := Lib.hid (HB4.out.trans (hbS.mono hz4))
        have HSS := Lib.hid hS
        have hzS : W1.heap.size ≤ (w4.alloc (.cells (fl ft [tL]).toArray 48)).heap.size := Nat.le_trans HZ2.out HBSS.out.size
        clear hS hbS f5
        go_wp2_with (at_builtin; refine wpList_append_own_at _ rfl _ _ 26 rfl W1.heap.size 48 i0 (.agg #[.int .i64 0, .string ByteArray.empty, .int .i64 0, .int .i64 0]) 4 40 Tryz.underlying26 hi0 hz0 hz1 hz2 rfl (by decide) _ _ _ rfl HOS.out ⟨w4.heap.size, 0, none⟩ 1 1 (fl ft [tL]) rfl rfl (fun j u hj => by rw [Addr.add_lit, Nat.zero_add]; exact (HSS.out.cell j).trans hj) (ft_all _) (by simp only [maxLen]; omega) (by omega) hzS ?_)
        intro v' w5 howS hgrS _ _
        rw [← fl_append] at howS
        have HB5 := Lib.hid (HBSS.out.grown hgrS hzS (fun g hg => (HOS.out.lt g hg).1))
        obtain ⟨A5, c5, rfl⟩ := own_slice howS
        have HO5 := Lib.hid howS
        clear howS hgrS HOS HBSS HSS hzS
        go_wp2
        go_roundw
        case rel => exact HREL.out w5 _ (plT l i j) (nn + 1) (by simp [pl1, hN]) (by rw [hN]; rfl) (by rw [hN]; have := HO5.out; simp only [List.append_assoc] at this ⊢; exact this) HB5.out
        case measure => simp [intOf]; omega
      · have hkb : (knd l (a + 1) == 2) = false := by simpa using hnote
        have hN : isN l a = false := by unfold isN; exact decide_eq_false hnote
        by_cases hlast : j + 1 < (kidsN l i n).length
        · have g1 : decide ((j : Int) < ((kidsN l i n).length : Int) - 1) = true := decide_eq_true (by omega)
          have hdd : decide (j + 1 = (kidsN l i n).length) = false := decide_eq_false (by omega)
          obtain ⟨ov, hov⟩ : ∃ ov, offB s 3 (j + 1) (plT l i j + 1) = ov := ⟨_, rfl⟩
          have HQF := Lib.hid (HOF.out w4 (HBS.out.trans ((HB12.out.trans HB4.out).mono HBS.out.size)) ((j : Int) + 1) ((plT l i j : Int) + 1) (j + 1) (plT l i j + 1) (by go_num) (by go_num) (by omega) (by omega))
          rw [hov] at HQF
          go_wp2_with fail
          refine HQF.out.mono ?_
          rintro e wq ⟨rfl, rfl⟩
          have hS := BlkL.new w4 48 (fl ft [tK ov])
          have hbS := (Below.refl w4.heap.size w4).alloc (Nat.le_refl _) (.cells (fl ft [tK ov]).toArray 48)
          have hz4 : W1.heap.size ≤ w4.heap.size := Nat.le_trans HZ2.out HB4.out.size
          have HOS := Lib.hid (own_below HO4.out hbS)
          have HBSS := Lib.hid (HB4.out.trans (hbS.mono hz4))
          have HSS := Lib.hid hS
          have hzS : W1.heap.size ≤ (w4.alloc (.cells (fl ft [tK ov]).toArray 48)).heap.size := Nat.le_trans HZ2.out HBSS.out.size
          clear hS hbS f5
          go_wp2_with (at_builtin; refine wpList_append_own_at _ rfl _ _ 26 rfl W1.heap.size 48 i0 (.agg #[.int .i64 0, .string ByteArray.empty, .int .i64 0, .int .i64 0]) 4 40 Tryz.underlying26 hi0 hz0 hz1 hz2 rfl (by decide) _ _ _ rfl HOS.out ⟨w4.heap.size, 0, none⟩ 1 1 (fl ft [tK ov]) rfl rfl (fun j u hj => by rw [Addr.add_lit, Nat.zero_add]; exact (HSS.out.cell j).trans hj) (ft_all _) (by simp only [maxLen]; omega) (by omega) hzS ?_)
          intro v' w5 howS hgrS _ _
          rw [← fl_append] at howS
          have HB5 := Lib.hid (HBSS.out.grown hgrS hzS (fun g hg => (HOS.out.lt g hg).1))
          obtain ⟨A5, c5, rfl⟩ := own_slice howS
          have HO5 := Lib.hid howS
          clear howS hgrS HOS HBSS HSS hzS
          go_wp2
          go_roundw
          case rel => exact HREL.out w5 _ (plT l i j + 1) (nn + 1) (by simp [pl1, hN]) (by rw [hN, hdd]; rfl) (by rw [hN, hdd]; have := HO5.out; rw [← hov] at this; simp only [ptL, List.append_assoc, Bool.false_eq_true, if_false] at this ⊢; exact this) HB5.out
          case measure => simp [intOf]; omega
        · have g1 : decide ((j : Int) < ((kidsN l i n).length : Int) - 1) = false := decide_eq_false (by omega)
          have hdd : decide (j + 1 = (kidsN l i n).length) = true := decide_eq_true (by omega)
          go_wp2_with fail
          go_roundw
          case rel => exact HREL.out w4 _ (plT l i j + 1) nn (by simp [pl1, hN]) (by rw [hN, hdd]; rfl) (by rw [hN, hdd]; have := HO4.out; simp only [ptL, List.append_assoc, Bool.false_eq_true, if_false, if_true, List.append_nil] at this ⊢; exact this) HB4.out
          case measure => simp [intOf]; omega
    · have hjj : j = (kidsN l i n).length := by omega
      subst hjj
      have hcl2 : (mkS 3).extract 1 2 = clS 3 := rfl
      obtain ⟨cl, hcl⟩ : ∃ cl, clS 3 = cl := ⟨_, rfl⟩
      have HCL := Lib.hid hcl
      rw [hcl] at hcl2
      clear hcl
      go_wp2_with fail
      refine (textToken_any _ _).mono ?_
      rintro e wt ⟨rfl, rfl⟩
      have hzr : W1.heap.size ≤ wr.heap.size := Nat.le_trans HZ2.out HB.out.size
      have hbA := (Below.refl wr.heap.size wr).alloc (Nat.le_refl _) (.cells #[.int .i64 0, .string cl, .int .i64 0, .int .i64 0] 48)
      have HOA := Lib.hid (own_below HO.out hbA)
      have HBA := Lib.hid (HB.out.trans (hbA.mono hzr))
      clear hbA
      generalize wr.alloc (.cells #[.int .i64 0, .string cl, .int .i64 0, .int .i64 0] 48) = wA at *
      have hzA : W1.heap.size ≤ wA.heap.size := Nat.le_trans HZ2.out HBA.out.size
      have hS := BlkL.new wA 48 (fl ft [tT cl, tE])
      have hbS := (Below.refl wA.heap.size wA).alloc (Nat.le_refl _) (.cells (fl ft [tT cl, tE]).toArray 48)
      have HOS := Lib.hid (own_below HOA.out hbS)
      have HBSS := Lib.hid (HBA.out.trans (hbS.mono hzA))
      have HSS := Lib.hid hS
      have hzS : W1.heap.size ≤ (wA.alloc (.cells (fl ft [tT cl, tE]).toArray 48)).heap.size := Nat.le_trans HZ2.out HBSS.out.size
      clear hS hbS
      go_wp2_with (at_builtin; refine wpList_append_own_at _ rfl _ _ 26 rfl W1.heap.size 48 i0 (.agg #[.int .i64 0, .string ByteArray.empty, .int .i64 0, .int .i64 0]) 4 40 Tryz.underlying26 hi0 hz0 hz1 hz2 rfl (by decide) _ _ _ rfl HOS.out ⟨wA.heap.size, 0, none⟩ 2 2 (fl ft [tT cl, tE]) rfl rfl (fun j u hj => by rw [Addr.add_lit, Nat.zero_add]; exact (HSS.out.cell j).trans hj) (ft_all _) (by simp only [maxLen]; omega) (by omega) hzS ?_)
      intro v' w5 howS hgrS _ _
      rw [← fl_append] at howS
      have HB5 := Lib.hid (HBSS.out.grown hgrS hzS (fun g hg => (HOS.out.lt g hg).1))
      have HO5 := Lib.hid howS
      clear howS hgrS HOS HBSS HSS hzS
      go_wp2
      go_ret
      refine tkO_lift (HBS.out) (V := W1) ⟨_, rfl, ?_, (HB12.out.trans HB5.out)⟩
      rw [HPX.out]
      have := HO5.out
      rw [← HHD.out, ← HCL.out] at this
      refine own_n ?_ this
      simp only [List.length_cons, List.length_append, List.length_nil]
      omega
end Go.Proofs.YtlcplgfjicifeaaGreatDoor
