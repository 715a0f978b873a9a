/-
  The tokens of a node that is no quote, as the model gathers them.
-/
import Derived.Test.YtlcplgfjicifeaaGreatDoorQt39
namespace Go.Proofs.YtlcplgfjicifeaaGreatDoor
open Go.RowKit
set_option linter.unusedVariables false

theorem ptM_eq (s : Sy) (k ky : Int) (hky : ¬ ky = 2) (n p : Nat) : ptM s k ky (n : Int) ((p : Int) % 2 == 1) = tK (offB s k n p) := by
  unfold ptM offB
  rw [if_neg hky]
  by_cases h5 : k = 5
  · subst h5
    rw [if_pos rfl]
    have h01 : (p : Int) % 2 = 0 ∨ (p : Int) % 2 = 1 := by omega
    rcases h01 with h | h
    · rw [h, if_neg (by simp), if_neg (by simp)]
    · rw [h, if_pos (by simp)]
  · rw [if_neg h5, if_neg (fun h => h5 h.1)]
    split <;> rfl
set_option maxHeartbeats 4000000 in
set_option maxRecDepth 100000 in
theorem l08Node_nq {l : List Nd} {n : Nat} (hlen : l.length = n) (ht : TrOk l) (s : Sy) (hs : s.ok = true) (A : Option Addr) (c : Nat) (i' : Nat) (h2 : i' < n)
    (hih : ∀ a, i' < a → a < n → ∀ V, NS V A l → Calls Tryz.prog 65 #[s.val, .slice A n c, .int .i64 (a : Int)] V (TkO V (tkP s l (a + 1))))
    (w : World) (hns : NS w A l) (hq : knd l (i' + 1) ≠ 6) : Calls Tryz.prog 65 #[s.val, .slice A n c, .int .i64 (i' : Int)] w (TkO w (tkP s l (i' + 1))) := by
    obtain ⟨i0, hi0, hz0, hz1, hz2⟩ := info_parts infoTk
    have HT := Lib.hid ht
    have HOK := Lib.hid (Sy.ok_iff.1 hs)
    have hn200 := ht.len
    have IH := Lib.hid hih
    have HNS := Lib.hid hns
    have HQ := Lib.hid hq
    clear ht hs hih hns hq
    obtain ⟨x, b, o, hx, rfl, hbl, d0, d1, d2⟩ := HNS.out.all (k := i') (by omega)
    obtain ⟨⟨x', hx', hnb⟩, _⟩ := HT.out.upTo i' (by omega)
    obtain rfl : x = x' := Option.some.inj (hx.symm.trans hx')
    have hxk := (nodB_bd hnb).1
    have HX := Lib.hid hx
    have HKI := Lib.hid (show ∀ V, NS V (some ⟨b, o, none⟩) l → Calls Tryz.prog 63 #[.slice (some ⟨b, o, none⟩) n c, .int .i64 (i' : Int)] V (PcOut V (kidsN l (i' + 1) n)) from fun V hV => by
      have := l07Kids_any (some ⟨b, o, none⟩) l n c (i' + 1) V hlen (by omega) hV HT.out.upTo (by omega)
      rwa [show ((i' + 1 : Nat) : Int) - 1 = (i' : Int) by omega] at this)
    have HKD := Lib.hid (knd_succ hx)
    have HAT := Lib.hid (nAt_succ hx)
    clear hx hx' hnb
    unfold Sy.val at IH ⊢
    go_enter Tryz.func65, Tryz.ntmps65
    go_wp2_with fail
    have hbA := ((Below.refl w.heap.size w).alloc (Nat.le_refl _) (.cells #[.int .i64 s.r, .int .i64 s.q, .int .i64 s.c, .int .i64 s.h, .int .i64 s.g] 29)).alloc (by simp) (.cells #[.int .i64 x.d, .int .i64 x.k, .string x.s] 63)
    have hsy := (SyAt.new w s 29).below ((Below.refl _ _).alloc (Nat.le_refl _) (.cells #[.int .i64 x.d, .int .i64 x.k, .string x.s] 63))
    have hnd := BlkL.new (w.alloc (.cells #[.int .i64 s.r, .int .i64 s.q, .int .i64 s.c, .int .i64 s.h, .int .i64 s.g] 29)) 63 [.int .i64 x.d, .int .i64 x.k, .string x.s]
    rw [show (w.alloc (.cells #[.int .i64 s.r, .int .i64 s.q, .int .i64 s.c, .int .i64 s.h, .int .i64 s.g] 29)).heap.size = w.heap.size + 1 by simp] at hnd
    change BlkL ((w.alloc (.cells #[.int .i64 s.r, .int .i64 s.q, .int .i64 s.c, .int .i64 s.h, .int .i64 s.g] 29)).alloc (.cells #[.int .i64 x.d, .int .i64 x.k, .string x.s] 63)) _ _ _ at hnd
    refine (HKI.out _ (HNS.out.below hbA)).mono ?_
    generalize (w.alloc (.cells #[.int .i64 s.r, .int .i64 s.q, .int .i64 s.c, .int .i64 s.h, .int .i64 s.g] 29)).alloc (.cells #[.int .i64 x.d, .int .i64 x.k, .string x.s] 63) = w1 at *
    rintro e w2 ⟨v2, rfl, ho2, hb2⟩
    have HB2 := Lib.hid (hbA.trans (hb2.mono hbA.size))
    have HSY := Lib.hid (hsy.below hb2)
    have hnd2 := hnd.below hb2 hnd.lt
    have HND := Lib.hid hnd2
    obtain ⟨A9, c9, rfl⟩ := own_slice ho2
    have HKC := Lib.hid (fun (j : Nat) (hj : j < (kidsN l (i' + 1) n).length) => own_cells ho2 hj)
    have HNS2 := Lib.hid (HNS.out.below HB2.out)
    have x1 : w2.cell? ⟨w.heap.size + 1, 1, none⟩ = some (.int .i64 x.k) := (hnd2.cell 1).trans rfl
    have x2 : w2.cell? ⟨w.heap.size + 1, 2, none⟩ = some (.string x.s) := (hnd2.cell 2).trans rfl
    have hkl := kidsN_len l (i' + 1) n
    clear hbA hsy hnd hnd2 ho2 hb2 d0 d1 d2 HKI
    by_cases h3 : x.k < 3
    · have h3b : decide (x.k < 3) = true := by simpa using h3
      have HPX := Lib.hid (tkP_leaf (s := s) (l := l) (i := i' + 1) (by omega) (by rw [HKD.out]; omega))
      rw [HAT.out] at HPX
      go_wp2_with fail
      refine (l08Txt_any _ _).mono ?_
      rintro e w3 ⟨rfl, hb3⟩
      have hl := own_lit w3 48 4 1 (fl ft [tT x.s]) rfl (by unfold maxLen; omega)
      have HB3 := Lib.hid (HB2.out.trans (hb3.mono HB2.out.size))
      have HL := Lib.hid (own_low hl HB3.out.size)
      have HB4 := Lib.hid (HB3.out.alloc HB3.out.size (.cells (fl ft [tT x.s]).toArray 48))
      clear hl hb3
      go_wp2
      go_ret
      rw [HPX.out]
      exact ⟨_, rfl, HL.out, HB4.out⟩
    · have h3b : decide (x.k < 3) = false := by simpa using h3
      by_cases h6 : x.k = 6
      · exact (HQ.out (by rw [HKD.out, h6])).elim
      · have h6b : (x.k == 6) = false := by simpa using h6
        obtain ⟨c0, c1, c2, c3, c4, c5⟩ := HSY.out
        go_wp2_with fail
        refine (l08Of_any s x.k w2).mono ?_
        rintro e w3 ⟨rfl, hb3⟩
        have HB3 := Lib.hid (HB2.out.trans (hb3.mono HB2.out.size))
        have hnd3 := HND.out.below hb3 HND.out.lt
        have y1 : w3.cell? ⟨w.heap.size + 1, 1, none⟩ = some (.int .i64 x.k) := (hnd3.cell 1).trans rfl
        obtain ⟨op, hop⟩ : ∃ op, opS x.k = op := ⟨_, rfl⟩
        have hex : (⟨#[40, 91, 123]⟩ : ByteArray).extract (x.k - 3).toNat (x.k - 3 + 1).toNat = op := by
          rw [← hop]
          obtain h | h | h : x.k = 3 ∨ x.k = 4 ∨ x.k = 5 := by omega
          all_goals rw [h]; rfl
        have hof : 0 ≤ s.of x.k ∧ s.of x.k ≤ 3 := by have := HOK.out; unfold Sy.of; split; omega; split <;> omega
        obtain ⟨L, hL⟩ : ∃ L, s.of x.k = L := ⟨_, rfl⟩
        rw [hL] at hof ⊢
        have HPX := Lib.hid (tkP_block (s := s) (l := l) (i := i' + 1) (by omega) (by rw [HKD.out]; omega) (by rw [HKD.out]; omega))
        rw [HKD.out, hL, hop, hlen] at HPX
        have HL0 := Lib.hid hL
        have HOP := Lib.hid hop
        clear hL hop
        go_wp2_with fail
        refine (l08Txt_any _ _).mono ?_
        rintro e w4 ⟨rfl, hb4⟩
        have HB4 := Lib.hid (HB3.out.trans (hb4.mono HB3.out.size))
        have HND4 := Lib.hid (hnd3.below hb4 hnd3.lt)
        have HSY4 := Lib.hid ((HSY.out.below hb3).below hb4)
        have HNS4 := Lib.hid (HNS2.out.below (hb3.trans (hb4.mono hb3.size)))
        have hb24 := hb3.trans (hb4.mono hb3.size)
        have HKC4 := Lib.hid (show ∀ j, j < (kidsN l (i' + 1) n).length → ∃ g, A9 = some ⟨g, 0, none⟩ ∧ g < w4.heap.size ∧ w4.cell? ⟨g, j, none⟩ = (plc (kidsN l (i' + 1) n))[j]? from fun j hj => by
          obtain ⟨g, e1, e2, e3⟩ := HKC.out j hj
          exact ⟨g, e1, Nat.lt_of_lt_of_le e2 hb24.size, (hb24.cell (p := ⟨g, j, none⟩) e2).trans e3⟩)
        have hrow : (w4.alloc (.cells #[.int .i64 2, .string ByteArray.empty, .int .i64 (L % 2), .int .i64 (1 + L / 2), .int .i64 0, .string op, .int .i64 0, .int .i64 0] 48)).ownsRow w4.heap.size 48 4 (.slice (some ⟨w4.heap.size, 0, none⟩) 2 2) 2 (fl ft [tG (L % 2) (1 + L / 2), tT op]) := own_lit w4 48 4 2 (fl ft [tG (L % 2) (1 + L / 2), tT op]) rfl (by unfold maxLen; omega)
        have hb5 := (Below.refl w4.heap.size w4).alloc (Nat.le_refl _) (.cells #[.int .i64 2, .string ByteArray.empty, .int .i64 (L % 2), .int .i64 (1 + L / 2), .int .i64 0, .string op, .int .i64 0, .int .i64 0] 48)
        have HRW := Lib.hid hrow
        have HB5 := Lib.hid hb5
        clear hb3 hb4 hnd3 y1 x1 x2 c0 c1 c2 c3 c4 hex hb24 hrow hb5 HKC HNS2 HND HSY HNS
        go_wp2_with fail
        change Code.wp _ _ _ _ (w4.alloc (.cells #[.int .i64 2, .string ByteArray.empty, .int .i64 (L % 2), .int .i64 (1 + L / 2), .int .i64 0, .string op, .int .i64 0, .int .i64 0] 48))
        generalize (w4.alloc (.cells #[.int .i64 2, .string ByteArray.empty, .int .i64 (L % 2), .int .i64 (1 + L / 2), .int .i64 0, .string op, .int .i64 0, .int .i64 0] 48)) = W5 at *
        obtain ⟨hd, hhd⟩ : ∃ hd, [tG (L % 2) (1 + L / 2), tT op] = hd := ⟨_, rfl⟩
        have HHD := Lib.hid hhd
        have hhl : hd.length = 2 := by rw [← hhd]; rfl
        rw [hhd] at HRW
        clear hhd
        have HUP := Lib.hid HT.out.upTo
        go_loopw [11, 12, 13] (fun tv pv iv wr => ∃ j : Nat, j ≤ (kidsN l (i' + 1) n).length ∧ iv = .int .i64 j ∧ pv = .int .i64 (plT l (i' + 1) j : Int) ∧ wr.ownsRow w4.heap.size 48 4 tv (2 + (blT s l (i' + 1) j).length) (fl ft (hd ++ blT s l (i' + 1) j)) ∧ Below w4.heap.size w4 wr) (fun _ _ iv _ => (kidsN l (i' + 1) n).length - (intOf iv).toNat)
        case atStart => exact ⟨0, Nat.zero_le _, rfl, rfl, by rw [blT_zero, List.append_nil]; exact HRW.out, HB5.out⟩
        case round =>
          obtain ⟨j, hj, rfl, rfl, hown, hb⟩ := hrel
          have HO := Lib.hid hown
          have HB := Lib.hid hb
          obtain ⟨Av, cv, hAv⟩ := own_slice hown
          subst hAv
          have hbl := HUP.out.blT_le s (i := i' + 1) (by omega) j
          clear hown hb HRW HB5
          by_cases hjl : j < (kidsN l (i' + 1) n).length
          · obtain ⟨a, ha⟩ : ∃ a, (kidsN l (i' + 1) n)[j]? = some a := ⟨_, List.getElem?_eq_getElem hjl⟩
            obtain ⟨han, hpar, hia⟩ := kidsN_mem (List.mem_of_getElem? ha)
            obtain ⟨g, hgA, hgl, hgc⟩ := HKC4.out j hjl
            have cg : wr.cell? ⟨g, j, none⟩ = some (.int .i64 (a : Int)) := (HB.out.cell (p := ⟨g, j, none⟩) hgl).trans (hgc.trans (by unfold plc; simp [ha]))
            have HST := Lib.hid (blT_succ (s := s) (by rw [hlen]; exact ha))
            have htl := HUP.out.tkP_le s (i := a + 1) (by omega) (by omega)
            have HNSR := Lib.hid (HNS4.out.below HB.out)
            obtain ⟨y, b', o', hy, hbo, hybl, e0, e1, e2⟩ := HNSR.out.all (k := a) (by omega)
            injection hbo with hbo
            injection hbo with hbo1 hbo2
            subst hbo1 hbo2 hgA
            have HYK := Lib.hid (knd_succ hy)
            have hsw : w.heap.size < w4.heap.size := by have := HND4.out.lt; omega
            have hsyr := SyAt.below HSY4.out HB.out
            obtain ⟨c0, c1, c2, c3, c4, c5⟩ := hsyr
            have hpl := plE_le l ((kidsN l (i' + 1) n).take j) 0
            have hbY := (Below.refl wr.heap.size wr).alloc (Nat.le_refl _) (.cells #[.int .i64 y.d, .int .i64 y.k, .string y.s] 63)
            have hyn := BlkL.new wr 63 [.int .i64 y.d, .int .i64 y.k, .string y.s]
            change BlkL (wr.alloc (.cells #[.int .i64 y.d, .int .i64 y.k, .string y.s] 63)) _ _ _ at hyn
            have hwz : w4.heap.size ≤ wr.heap.size := HB.out.size
            have HYN := Lib.hid hyn
            have HBY := Lib.hid hbY
            have HOY := Lib.hid (own_below HO.out hbY)
            have HB6 := Lib.hid (HB.out.trans (hbY.mono hwz))
            have HCALL := Lib.hid (IH.out a (by omega) han)
            have cg' := (hbY.cell (p := ⟨g, j, none⟩) (Nat.lt_of_lt_of_le hgl hwz)).trans cg
            have d0 := (hbY.cell (p := ⟨w.heap.size, 0, none⟩) (show w.heap.size < wr.heap.size by omega)).trans c0
            have d1 := (hbY.cell (p := ⟨w.heap.size, 1, none⟩) (show w.heap.size < wr.heap.size by omega)).trans c1
            have d2 := (hbY.cell (p := ⟨w.heap.size, 2, none⟩) (show w.heap.size < wr.heap.size by omega)).trans c2
            have d3 := (hbY.cell (p := ⟨w.heap.size, 3, none⟩) (show w.heap.size < wr.heap.size by omega)).trans c3
            have d4 := (hbY.cell (p := ⟨w.heap.size, 4, none⟩) (show w.heap.size < wr.heap.size by omega)).trans c4
            clear hgc ha hbY hyn
            go_wp2_with fail
            change Code.wp _ _ _ _ (wr.alloc (.cells #[.int .i64 y.d, .int .i64 y.k, .string y.s] 63))
            have HSZ6 := Lib.hid (show wr.heap.size ≤ (wr.alloc (.cells #[.int .i64 y.d, .int .i64 y.k, .string y.s] 63)).heap.size by simp)
            generalize (wr.alloc (.cells #[.int .i64 y.d, .int .i64 y.k, .string y.s] 63)) = W6 at *
            have q0 := Bw.rd d0
            have q1 := Bw.rd d1
            have q2 := Bw.rd d2
            have q3 := Bw.rd d3
            have q4 := Bw.rd d4
            have r1 := Bw.rd cg'
            clear d0 d1 d2 d3 d4 cg' cg c0 c1 c2 c3 c4 e0 e1 e2
            have hne : Nonempty (Cl (Bw W6)) := ⟨⟨_, Bw.start W6⟩⟩
            refine wp_region_stages [0, 0, 0, 0, 0, 0, 0, 1, 3, 5] 2 (fun w' => ∃ y : Cl (Bw W6), w' = y.W) (by kernel_rfl) (by kernel_rfl) ⟨⟨_, Bw.start W6⟩, rfl⟩ ?_
            simp only [Stage.stages, Stage.pickC, Nat.reduceBEq, Nat.reduceMul, Nat.reduceAdd, cond_true, cond_false, List.map_cons, List.map_nil]
            refine stage_more ?_
            repeat (go_big_quiet_step (fail))
            refine wpQuiet_nil ?_
            intro K hK
            unfold Chain.mov
            go_simp
            simp only [Chain.movUpon]
            have hB6d : Below w4.heap.size w4 W6.drew := HB6.out.drew
            refine (HCALL.out W6.drew (HNS4.out.below hB6d)).mono ?_
            rintro r w7 ⟨v7, rfl, ho7, hb7⟩
            have HB67 := Lib.hid (show Bw W6 w7 from (Below.refl _ W6).drew.trans (hb7.mono (Nat.le_refl _)))
            have HB7 := Lib.hid (hB6d.trans (hb7.mono hB6d.size))
            have HO7 := Lib.hid (own_below HOY.out HB67.out)
            have HR7 := Lib.hid ho7
            obtain ⟨A7, c7, rfl⟩ := own_slice ho7
            refine ⟨_, rfl, hK _ _ ⟨⟨⟨_, HB67.out⟩, rfl⟩, ?_⟩⟩
            clear hK K ho7 hb7 hB6d HCALL
            refine stage_more ?_
            repeat (go_big_quiet_step (fail))
            refine wpQuiet_nil ?_
            intro K hK
            unfold Chain.mov
            go_simp
            simp only [Chain.movUpon]
            refine (l08Join_any Av A7 (hd ++ blT s l (i' + 1) j) (tkP s l (a + 1)) _ cv _ c7 w7 (by rw [List.length_append, hhl]) rfl (by omega) (by omega) (ts_own HO7.out) (ts_own HR7.out)).mono ?_
            rintro r w8 ⟨v8, rfl, ho8, hb8⟩
            have HB68 := Lib.hid (show Bw W6 w8 from HB67.out.trans (hb8.mono HB67.out.size))
            have HB8 := Lib.hid (HB7.out.trans (hb8.mono HB7.out.size))
            have HO8 := Lib.hid (own_low ho8 HB7.out.size)
            refine ⟨_, rfl, hK _ _ ⟨⟨⟨_, HB68.out⟩, rfl⟩, ?_⟩⟩
            clear hK K ho8 hb8 HO7 HR7 HOY HB67
            refine stage_last ?_
            repeat (go_big_quiet_step (fail))
            refine wpQuiet_nil ?_
            have y1 : w8.cell? ⟨wr.heap.size, 1, none⟩ = some (.int .i64 y.k) := ((HYN.out.below HB68.out HYN.out.lt).cell 1).trans rfl
            have hyn8 := HYN.out.below HB68.out HYN.out.lt
            have y0 : w8.cell? ⟨wr.heap.size, 0, none⟩ = some (.int .i64 y.d) := (hyn8.cell 0).trans rfl
            have y2 : w8.cell? ⟨wr.heap.size, 2, none⟩ = some (.string y.s) := (hyn8.cell 2).trans rfl
            obtain ⟨s0, s1, s2, s3, s4, s5⟩ := SyAt.below HSY4.out HB8.out
            have n1 : w8.cell? ⟨w.heap.size + 1, 1, none⟩ = some (.int .i64 x.k) := ((HND4.out.below HB8.out HND4.out.lt).cell 1).trans rfl
            clear q0 q1 q2 q3 q4 r1 hyn8
            have hpb : plT l (i' + 1) j ≤ 300 := by
              unfold plT
              have := List.length_take_le j (kidsN l (i' + 1) l.length)
              rw [hlen] at *
              omega
            have HREL := Lib.hid (show ∀ (V : World) (tv : Value) (p m : Nat), p = pl1 l a (plT l (i' + 1) j) → m = ((hd ++ blT s l (i' + 1) j) ++ tkP s l (a + 1)).length + (ptL s x.k (isN l a) (decide (j + 1 = (kidsN l (i' + 1) n).length)) (j + 1) p).length → V.ownsRow w4.heap.size 48 4 tv m (fl ft (hd ++ blT s l (i' + 1) j ++ tkP s l (a + 1) ++ ptL s x.k (isN l a) (decide (j + 1 = (kidsN l (i' + 1) n).length)) (j + 1) p)) → Below w4.heap.size w4 V → ∃ j' : Nat, j' ≤ (kidsN l (i' + 1) n).length ∧ Value.int .i64 ((j : Int) + 1) = .int .i64 j' ∧ Value.int .i64 (p : Int) = .int .i64 (plT l (i' + 1) j' : Int) ∧ V.ownsRow w4.heap.size 48 4 tv (2 + (blT s l (i' + 1) j').length) (fl ft (hd ++ blT s l (i' + 1) j')) ∧ Below w4.heap.size w4 V by
              intro V tv p m hp hm ho hb
              obtain ⟨q1, q2⟩ := HST.out
              rw [HKD.out, hlen, ← hp] at q1
              refine ⟨j + 1, by omega, by go_num, by rw [q2, hp], ?_, hb⟩
              rw [q1]
              refine own_n (n := m) (by rw [hm]; simp only [List.length_append, hhl]; omega) ?_
              simpa only [List.append_assoc] using ho)
            obtain ⟨M, hM⟩ : ∃ M, ((hd ++ blT s l (i' + 1) j) ++ tkP s l (a + 1)).length = M := ⟨_, rfl⟩
            have hMb : M ≤ 10000 := by rw [← hM]; simp only [List.length_append, hhl]; omega
            rw [hM] at HO8 HREL
            obtain ⟨A8, c8, rfl⟩ := own_slice HO8.out
            clear hM hbl htl hpl
            by_cases hnote : y.k = 2
            · rw [hnote] at y1
              have hN : isN l a = true := by unfold isN; rw [HYK.out, hnote]; rfl
              by_cases hlast : j + 1 < (kidsN l (i' + 1) n).length
              · rw [show pl1 l a (plT l (i' + 1) j) = plT l (i' + 1) j by simp [pl1, hN]] at HREL
                go_wp2_with fail
                refine (l08Part_any s HOK.out.1 x.k y.d (2) ((j : Int) + 1) y.s (((plT l (i' + 1) j : Nat) : Int) % 2 == 1) w8).mono ?_
                rintro e w9 ⟨rfl, hb9⟩
                obtain ⟨T0, hT0⟩ : ∃ T0, ptM s x.k (2) ((j : Int) + 1) (((plT l (i' + 1) j : Nat) : Int) % 2 == 1) = T0 := ⟨_, rfl⟩
                have HT0 := Lib.hid (show ptL s x.k true (decide (j + 1 = (kidsN l (i' + 1) n).length)) (j + 1) (plT l (i' + 1) j) = [T0] by rw [← hT0]; rfl)
                rw [hT0]
                unfold tkV
                have HB9 := Lib.hid (HB8.out.trans (hb9.mono HB8.out.size))
                have HO9 := Lib.hid (own_below HO8.out hb9)
                clear hT0 hb9 s0 s1 s2 s3 s4 s5 n1 y0 y1 y2
                have hz9 : w4.heap.size ≤ w9.heap.size := HB9.out.size
                have hS := BlkL.new w9 48 (fl ft [T0])
                have hbS := (Below.refl w9.heap.size w9).alloc (Nat.le_refl _) (.cells (fl ft [T0]).toArray 48)
                have HOS := Lib.hid (own_below HO9.out hbS)
                have HBSS := Lib.hid (HB9.out.trans (hbS.mono hz9))
                have HSS := Lib.hid hS
                have hzS : w4.heap.size ≤ (w9.alloc (.cells (fl ft [T0]).toArray 48)).heap.size := HBSS.out.size
                clear hS hbS
                go_wp2_with (at_builtin; refine wpList_append_own_at _ rfl _ _ 26 rfl w4.heap.size 48 i0 (.agg #[.int .i64 0, .string ByteArray.empty, .int .i64 0, .int .i64 0]) 4 40 Tryz.underlying26 hi0 hz0 hz1 hz2 rfl (by decide) _ _ _ rfl HOS.out ⟨w9.heap.size, 0, none⟩ 1 1 (fl ft [T0]) rfl rfl (fun j u hj => by rw [Addr.add_lit, Nat.zero_add]; exact (HSS.out.cell j).trans hj) (ft_all _) (by simp only [maxLen]; omega) (by omega) hzS ?_)
                intro v' w10 howS hgrS _ _
                rw [← fl_append, ← HT0.out] at howS
                have HB10 := Lib.hid (HBSS.out.grown hgrS hzS (fun g hg => (HOS.out.lt g hg).1))
                have HO10 := Lib.hid howS
                clear howS hgrS HOS HBSS HSS hzS
                go_wp2
                go_roundw
                case rel => exact HREL.out w10 _ (plT l (i' + 1) j) (M + 1) rfl (by rw [hN, HT0.out]; rfl) (by rw [hN]; have := HO10.out; simp only [List.append_assoc] at this ⊢; exact this) HB10.out
                case measure => simp [intOf]; omega
              · rw [show pl1 l a (plT l (i' + 1) j) = plT l (i' + 1) j by simp [pl1, hN]] at HREL
                go_wp2_with fail
                refine (l08Part_any s HOK.out.1 x.k y.d (2) ((j : Int) + 1) y.s (((plT l (i' + 1) j : Nat) : Int) % 2 == 1) w8).mono ?_
                rintro e w9 ⟨rfl, hb9⟩
                obtain ⟨T0, hT0⟩ : ∃ T0, ptM s x.k (2) ((j : Int) + 1) (((plT l (i' + 1) j : Nat) : Int) % 2 == 1) = T0 := ⟨_, rfl⟩
                have HT0 := Lib.hid (show ptL s x.k true (decide (j + 1 = (kidsN l (i' + 1) n).length)) (j + 1) (plT l (i' + 1) j) = [T0] by rw [← hT0]; rfl)
                rw [hT0]
                unfold tkV
                have HB9 := Lib.hid (HB8.out.trans (hb9.mono HB8.out.size))
                have HO9 := Lib.hid (own_below HO8.out hb9)
                clear hT0 hb9 s0 s1 s2 s3 s4 s5 n1 y0 y1 y2
                have hz9 : w4.heap.size ≤ w9.heap.size := HB9.out.size
                have hS := BlkL.new w9 48 (fl ft [T0])
                have hbS := (Below.refl w9.heap.size w9).alloc (Nat.le_refl _) (.cells (fl ft [T0]).toArray 48)
                have HOS := Lib.hid (own_below HO9.out hbS)
                have HBSS := Lib.hid (HB9.out.trans (hbS.mono hz9))
                have HSS := Lib.hid hS
                have hzS : w4.heap.size ≤ (w9.alloc (.cells (fl ft [T0]).toArray 48)).heap.size := HBSS.out.size
                clear hS hbS
                go_wp2_with (at_builtin; refine wpList_append_own_at _ rfl _ _ 26 rfl w4.heap.size 48 i0 (.agg #[.int .i64 0, .string ByteArray.empty, .int .i64 0, .int .i64 0]) 4 40 Tryz.underlying26 hi0 hz0 hz1 hz2 rfl (by decide) _ _ _ rfl HOS.out ⟨w9.heap.size, 0, none⟩ 1 1 (fl ft [T0]) rfl rfl (fun j u hj => by rw [Addr.add_lit, Nat.zero_add]; exact (HSS.out.cell j).trans hj) (ft_all _) (by simp only [maxLen]; omega) (by omega) hzS ?_)
                intro v' w10 howS hgrS _ _
                rw [← fl_append, ← HT0.out] at howS
                have HB10 := Lib.hid (HBSS.out.grown hgrS hzS (fun g hg => (HOS.out.lt g hg).1))
                have HO10 := Lib.hid howS
                clear howS hgrS HOS HBSS HSS hzS
                go_wp2
                go_roundw
                case rel => exact HREL.out w10 _ (plT l (i' + 1) j) (M + 1) rfl (by rw [hN, HT0.out]; rfl) (by rw [hN]; have := HO10.out; simp only [List.append_assoc] at this ⊢; exact this) HB10.out
                case measure => simp [intOf]; omega
            · have hkb : (y.k == 2) = false := by simpa using hnote
              have hN : isN l a = false := by unfold isN; rw [HYK.out]; exact decide_eq_false hnote
              by_cases hlast : j + 1 < (kidsN l (i' + 1) n).length
              · have HHDD := Lib.hid (show decide (j + 1 = (kidsN l (i' + 1) n).length) = false from decide_eq_false (by omega))
                have HPM := Lib.hid (show ptM s x.k y.k ((j : Int) + 1) ((((plT l (i' + 1) j : Nat) : Int) + 1) % 2 == 1) = tK (offB s x.k (j + 1) (plT l (i' + 1) j + 1)) from ptM_eq s x.k y.k hnote (j + 1) (plT l (i' + 1) j + 1))
                go_wp2_with fail
                refine (l08Part_any s HOK.out.1 x.k y.d (y.k) ((j : Int) + 1) y.s ((((plT l (i' + 1) j : Nat) : Int) + 1) % 2 == 1) w8).mono ?_
                rintro e w9 ⟨rfl, hb9⟩
                obtain ⟨T0, hT0⟩ : ∃ T0, ptM s x.k (y.k) ((j : Int) + 1) ((((plT l (i' + 1) j : Nat) : Int) + 1) % 2 == 1) = T0 := ⟨_, rfl⟩
                have HT0 := Lib.hid (show ptL s x.k false false (j + 1) (plT l (i' + 1) j + 1) = [T0] by rw [← hT0]; exact congrArg (fun t => [t]) (HPM.out).symm)
                rw [hT0]
                unfold tkV
                have HB9 := Lib.hid (HB8.out.trans (hb9.mono HB8.out.size))
                have HO9 := Lib.hid (own_below HO8.out hb9)
                clear hT0 hb9 s0 s1 s2 s3 s4 s5 n1 y0 y1 y2
                have hz9 : w4.heap.size ≤ w9.heap.size := HB9.out.size
                have hS := BlkL.new w9 48 (fl ft [T0])
                have hbS := (Below.refl w9.heap.size w9).alloc (Nat.le_refl _) (.cells (fl ft [T0]).toArray 48)
                have HOS := Lib.hid (own_below HO9.out hbS)
                have HBSS := Lib.hid (HB9.out.trans (hbS.mono hz9))
                have HSS := Lib.hid hS
                have hzS : w4.heap.size ≤ (w9.alloc (.cells (fl ft [T0]).toArray 48)).heap.size := HBSS.out.size
                clear hS hbS
                go_wp2_with (at_builtin; refine wpList_append_own_at _ rfl _ _ 26 rfl w4.heap.size 48 i0 (.agg #[.int .i64 0, .string ByteArray.empty, .int .i64 0, .int .i64 0]) 4 40 Tryz.underlying26 hi0 hz0 hz1 hz2 rfl (by decide) _ _ _ rfl HOS.out ⟨w9.heap.size, 0, none⟩ 1 1 (fl ft [T0]) rfl rfl (fun j u hj => by rw [Addr.add_lit, Nat.zero_add]; exact (HSS.out.cell j).trans hj) (ft_all _) (by simp only [maxLen]; omega) (by omega) hzS ?_)
                intro v' w10 howS hgrS _ _
                rw [← fl_append, ← HT0.out] at howS
                have HB10 := Lib.hid (HBSS.out.grown hgrS hzS (fun g hg => (HOS.out.lt g hg).1))
                have HO10 := Lib.hid howS
                clear howS hgrS HOS HBSS HSS hzS
                go_wp2
                go_roundw
                case rel => exact HREL.out w10 _ (plT l (i' + 1) j + 1) (M + 1) (by simp [pl1, hN]) (by rw [hN, HHDD.out, HT0.out]; rfl) (by rw [hN, HHDD.out]; have := HO10.out; simp only [List.append_assoc] at this ⊢; exact this) HB10.out
                case measure => simp [intOf]; omega
              · have hdd : decide (j + 1 = (kidsN l (i' + 1) n).length) = true := decide_eq_true (by omega)
                go_wp2_with fail
                go_roundw
                case rel => exact HREL.out w8 _ (plT l (i' + 1) j + 1) M (by simp [pl1, hN]) (by rw [hN, hdd]; rfl) (by rw [hN, hdd]; have := HO8.out; simp only [ptL, List.append_assoc, Bool.false_eq_true, if_false, if_true, List.append_nil] at this ⊢; exact this) HB8.out
                case measure => simp [intOf]; omega
          · have hjj : j = (kidsN l (i' + 1) n).length := by omega
            subst hjj
            obtain ⟨cl, hcl⟩ : ∃ cl, clS x.k = cl := ⟨_, rfl⟩
            have hex2 : (⟨#[41, 93, 125]⟩ : ByteArray).extract (x.k - 3).toNat (x.k - 3 + 1).toNat = cl := by
              rw [← hcl]
              obtain h | h | h : x.k = 3 ∨ x.k = 4 ∨ x.k = 5 := by omega
              all_goals rw [h]; rfl
            have HCL := Lib.hid hcl
            clear hcl
            go_wp2_with fail
            refine (l08Txt_any _ _).mono ?_
            rintro e wA ⟨rfl, hbA⟩
            have hzr : w4.heap.size ≤ wr.heap.size := HB.out.size
            have HOA := Lib.hid (own_below HO.out hbA)
            have HBA := Lib.hid (HB.out.trans (hbA.mono hzr))
            have hzA : w4.heap.size ≤ wA.heap.size := HBA.out.size
            have hS := BlkL.new wA 48 (fl ft [tT cl, tE])
            have hbS := (Below.refl wA.heap.size wA).alloc (Nat.le_refl _) (.cells (fl ft [tT cl, tE]).toArray 48)
            have HOS := Lib.hid (own_below HOA.out hbS)
            have HBSS := Lib.hid (HBA.out.trans (hbS.mono hzA))
            have HSS := Lib.hid hS
            have hzS : w4.heap.size ≤ (wA.alloc (.cells (fl ft [tT cl, tE]).toArray 48)).heap.size := HBSS.out.size
            clear hS hbS hbA hex2
            go_wp2_with (at_builtin; refine wpList_append_own_at _ rfl _ _ 26 rfl w4.heap.size 48 i0 (.agg #[.int .i64 0, .string ByteArray.empty, .int .i64 0, .int .i64 0]) 4 40 Tryz.underlying26 hi0 hz0 hz1 hz2 rfl (by decide) _ _ _ rfl HOS.out ⟨wA.heap.size, 0, none⟩ 2 2 (fl ft [tT cl, tE]) rfl rfl (fun j u hj => by rw [Addr.add_lit, Nat.zero_add]; exact (HSS.out.cell j).trans hj) (ft_all _) (by simp only [maxLen]; omega) (by omega) hzS ?_)
            intro v' w9 howS hgrS _ _
            rw [← fl_append] at howS
            have HB9 := Lib.hid (HBSS.out.grown hgrS hzS (fun g hg => (HOS.out.lt g hg).1))
            have HO9 := Lib.hid howS
            clear howS hgrS HOS HBSS HSS hzS
            go_wp2
            go_ret
            refine tkO_lift HB4.out ⟨_, rfl, ?_, HB9.out⟩
            rw [HPX.out]
            have := HO9.out
            rw [← HHD.out, ← HCL.out] at this
            refine own_n ?_ this
            simp only [List.length_cons, List.length_append, List.length_nil]
            omega
end Go.Proofs.YtlcplgfjicifeaaGreatDoor
