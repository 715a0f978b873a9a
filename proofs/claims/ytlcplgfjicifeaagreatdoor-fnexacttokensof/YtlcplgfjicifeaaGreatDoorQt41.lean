/-
  Tokens that a call has made: how they are told, marked and looked at again.
-/
import Derived.Test.YtlcplgfjicifeaaGreatDoorQt40
import Derived.Test.YtlcplgfjicifeaaGreatDoorQt35
import Derived.Test.YtlcplgfjicifeaaGreatDoorQt05
namespace Go.Proofs.YtlcplgfjicifeaaGreatDoor
open Go.RowKit
set_option linter.unusedVariables false

set_option maxHeartbeats 4000000 in
set_option maxRecDepth 100000 in
theorem sTokensOf_of (s : Sy) (A : Option Addr) (l : List Nd) (n c : Nat) (w : World) (hn : l.length = n) (hm : n ≤ 2097152) (hl : NS w A l) (hsz : ∀ (i : Nat) (x : Nd), l[i]? = some x → x.s.size ≤ 1048576)
    (hnode : TrOk l → s.ok = true → ∀ a, a < n → ∀ V, NS V A l → Calls Tryz.prog 65 #[s.val, .slice A n c, .int .i64 (a : Int)] V (TkO V (tkP s l (a + 1)))) :
    Calls Tryz.prog 14 #[s.val, .slice A n c] w (TkOut w (tkB s l) (tkA s l)) := by
  subst hn
  obtain ⟨i0, hi0, hz0, hz1, hz2⟩ := info_parts infoTk
  have HSO := Lib.hid (sStyleOk_any s)
  have HL := Lib.hid hl
  have HSZ := Lib.hid hsz
  have HND := Lib.hid hnode
  have hbS := (Below.refl w.heap.size w).alloc (Nat.le_refl _) (.cells #[.int .i64 s.r, .int .i64 s.q, .int .i64 s.c, .int .i64 s.h, .int .i64 s.g] 29)
  have HBS := Lib.hid hbS
  have hsy := SyAt.new w s 29
  clear hl hsz hnode hbS
  unfold Sy.val at HSO HND ⊢
  go_enter Tryz.func14, Tryz.ntmps14
  go_wp2_with fail
  refine (HSO.out _).mono ?_
  have hlt : w.heap.size < (w.alloc (.cells #[.int .i64 s.r, .int .i64 s.q, .int .i64 s.c, .int .i64 s.h, .int .i64 s.g] 29)).heap.size := by simp
  generalize (w.alloc (.cells #[.int .i64 s.r, .int .i64 s.q, .int .i64 s.c, .int .i64 s.h, .int .i64 s.g] 29)) = W1 at *
  rintro e w1 ⟨rfl, hb1⟩
  have HB1 := Lib.hid (HBS.out.trans (hb1.mono HBS.out.size))
  have hsy1 := hsy.below hb1
  clear hb1 hsy
  cases hok : s.ok
  · have HTB := Lib.hid (show tkB s l = false by unfold tkB; rw [hok]; simp)
    clear hok
    go_wp2
    go_ret2
    unfold tkA
    rw [HTB.out]
    exact TkOut.no _ _ HB1.out
  · have HOK := Lib.hid hok
    clear hok
    go_wp2_with fail
    refine (sTreeOk_any A l _ c w1 rfl hm (HL.out.below HB1.out) HSZ.out).mono ?_
    rintro e w2 ⟨rfl, hb2⟩
    have HB2 := Lib.hid (HB1.out.trans (hb2.mono HB1.out.size))
    have HSY2 := Lib.hid (hsy1.below hb2)
    clear hsy1 hb2
    cases ht : treB l
    · have HTB := Lib.hid (show tkB s l = false by unfold tkB; rw [ht]; rfl)
      clear ht
      go_wp2
      go_ret2
      unfold tkA
      rw [HTB.out]
      exact TkOut.no _ _ HB2.out
    · have HT := Lib.hid (treB_ok ht)
      clear ht
      have hl200 := HT.out.len
      have hg01 := (Sy.ok_iff.1 HOK.out).2.2.2.2
      have hkl := kidsN_len l 0 l.length
      have hb3 := (Below.refl w2.heap.size w2).alloc (Nat.le_refl _) (.cells #[] 48)
      have HB3 := Lib.hid (HB2.out.trans (hb3.mono HB2.out.size))
      have HSY3 := Lib.hid (HSY2.out.below hb3)
      have HKI := Lib.hid (show Calls Tryz.prog 63 #[.slice A l.length c, .int .i64 (-1)] (w2.alloc (.cells #[] 48)) (PcOut (w2.alloc (.cells #[] 48)) (kidsN l 0 l.length)) from by
        have := l07Kids_any A l l.length c 0 _ rfl (by omega) (HL.out.below HB3.out) HT.out.upTo (Nat.zero_le _)
        rwa [show ((0 : Nat) : Int) - 1 = -1 by omega] at this)
      have hlit : (w2.alloc (.cells #[] 48)).ownsRow w2.heap.size 48 4 (.slice (some ⟨w2.heap.size, 0, none⟩) 0 0) 0 (fl ft []) := own_lit w2 48 4 0 [] rfl (by unfold maxLen; omega)
      have HLIT := Lib.hid hlit
      clear hb3 HSY2 hlit
      go_wp2_with fail
      refine HKI.out.mono ?_
      clear HKI
      generalize (w2.alloc (.cells #[] 48)) = w3 at *
      rintro e w4 ⟨v4, rfl, ho4, hb4⟩
      have HB4 := Lib.hid (HB3.out.trans (hb4.mono HB3.out.size))
      have HLI4 := Lib.hid (own_low (own_below HLIT.out hb4) HB2.out.size)
      have HSY4 := Lib.hid (HSY3.out.below hb4)
      obtain ⟨A9, c9, rfl⟩ := own_slice ho4
      have HKC4 := Lib.hid (fun (j : Nat) (hj : j < (kidsN l 0 l.length).length) => own_cells ho4 hj)
      have HNS4 := Lib.hid (HL.out.below HB4.out)
      have HUP := Lib.hid HT.out.upTo
      have HCALL := Lib.hid (HND.out HT.out HOK.out)
      clear ho4 hb4 HL HND HSY3
      go_wp2
      go_loopw [6, 8] (fun tv iv wr => ∃ j : Nat, j ≤ (kidsN l 0 l.length).length ∧ iv = .int .i64 j ∧ ((j = 0 ∧ tv = .slice (some ⟨w2.heap.size, 0, none⟩) 0 0) ∨ (1 ≤ j ∧ wr.ownsRow w4.heap.size 48 4 tv (toT s l j).length (fl ft (toT s l j)))) ∧ Below w4.heap.size w4 wr) (fun _ iv _ => (kidsN l 0 l.length).length - (intOf iv).toNat)
      case atStart => exact ⟨0, Nat.zero_le _, rfl, .inl ⟨rfl, rfl⟩, Below.refl _ _⟩
      case round =>
        obtain ⟨j, hj, rfl, hcase, hb⟩ := hrel
        have HB := Lib.hid hb
        clear hb
        by_cases hjl : j < (kidsN l 0 l.length).length
        · obtain ⟨a, ha⟩ : ∃ a, (kidsN l 0 l.length)[j]? = some a := ⟨_, List.getElem?_eq_getElem hjl⟩
          obtain ⟨han, hpar, _⟩ := kidsN_mem (List.mem_of_getElem? ha)
          obtain ⟨g, hgA, hgl, hgc⟩ := HKC4.out j hjl
          have HST := Lib.hid (toT_succ (s := s) ha)
          have htl := HUP.out.tkP_le s (i := a + 1) (by omega) (by omega)
          have hbl := HUP.out.toT_le s hg01.2 j hj
          subst hgA
          rcases hcase with ⟨rfl, rfl⟩ | ⟨h1j, hown⟩
          · rw [if_pos rfl, List.nil_append] at HST
            have HTS := Lib.hid (TS.nil wr (some ⟨w2.heap.size, 0, none⟩))
            obtain ⟨s0, s1, s2, s3, s4, s5⟩ := SyAt.below HSY4.out HB.out
            have cg : wr.cell? ⟨g, 0, none⟩ = some (.int .i64 (a : Int)) := (HB.out.cell (p := ⟨g, 0, none⟩) hgl).trans (hgc.trans (by unfold plc; simp [ha]))
            have q0 := Bw.rd s0
            have q1 := Bw.rd s1
            have q2 := Bw.rd s2
            have q3 := Bw.rd s3
            have q4 := Bw.rd s4
            have r1 := Bw.rd cg
            have hne : Nonempty (Cl (Bw wr)) := ⟨⟨_, Bw.start wr⟩⟩
            clear s0 s1 s2 s3 s4 s5 cg hgc ha
            go_wp2_with fail
            refine wp_region_stages [0, 0, 0, 0, 0, 0, 0, 1, 3, 5] 2 (fun w' => ∃ y : Cl (Bw wr), w' = y.W) (by kernel_rfl) (by kernel_rfl) ⟨⟨_, Bw.start wr⟩, rfl⟩ ?_
            simp only [Stage.stages, Stage.pickC, Nat.reduceBEq, Nat.reduceMul, Nat.reduceAdd, cond_true, cond_false, List.map_cons, List.map_nil]
            refine stage_more ?_
            repeat (go_big_quiet_step (fail))
            refine wpQuiet_nil ?_
            intro K hK
            unfold Chain.mov
            go_simp
            simp only [Chain.movUpon]
            have hBd : Below w4.heap.size w4 wr.drew := HB.out.drew
            refine (HCALL.out a han wr.drew (HNS4.out.below hBd)).mono ?_
            rintro r w7 ⟨v7, rfl, ho7, hb7⟩
            have HB67 := Lib.hid (show Bw wr w7 from (Below.refl _ wr).drew.trans (hb7.mono (Nat.le_refl _)))
            have HB7 := Lib.hid (hBd.trans (hb7.mono hBd.size))
            have HTS7 := Lib.hid (HTS.out.below HB67.out)
            have HR7 := Lib.hid ho7
            obtain ⟨A7, c7, rfl⟩ := own_slice ho7
            refine ⟨_, rfl, hK _ _ ⟨⟨⟨_, HB67.out⟩, rfl⟩, ?_⟩⟩
            clear hK K ho7 hb7 hBd
            refine stage_more ?_
            repeat (go_big_quiet_step (fail))
            refine wpQuiet_nil ?_
            intro K hK
            unfold Chain.mov
            go_simp
            simp only [Chain.movUpon]
            refine (l08Join_any _ A7 ([]) (tkP s l (a + 1)) _ _ _ c7 w7 (by rfl) rfl (by omega) (by omega) HTS7.out (ts_own HR7.out)).mono ?_
            rintro r w8 ⟨v8, rfl, ho8, hb8⟩
            have HB68 := Lib.hid (show Bw wr w8 from HB67.out.trans (hb8.mono HB67.out.size))
            have HB8 := Lib.hid (HB7.out.trans (hb8.mono HB7.out.size))
            have HO8 := Lib.hid (own_low ho8 HB7.out.size)
            refine ⟨_, rfl, hK _ _ ⟨⟨⟨_, HB68.out⟩, rfl⟩, ?_⟩⟩
            clear hK K ho8 hb8 HR7 HB67
            refine stage_last ?_
            repeat (go_big_quiet_step (fail))
            refine wpQuiet_nil ?_
            clear q0 q1 q2 q3 q4 r1
            go_wp2
            go_roundw
            case rel => exact ⟨0 + 1, by omega, by go_num, .inr ⟨by omega, by rw [HST.out]; have := HO8.out; exact this⟩, HB8.out⟩
            case measure => simp [intOf]; omega
          · rw [if_neg (show ¬ j = 0 by omega)] at HST
            have g0 : decide ((0 : Int) < (j : Int)) = true := decide_eq_true (by omega)
            have g00 : decide (0 < j) = true := decide_eq_true (by omega)
            have HO := Lib.hid hown
            clear hown
            obtain ⟨G, hG⟩ : ∃ G : Nat, s.g.toNat = G := ⟨_, rfl⟩
            have hG2 : s.g = (G : Int) := by omega
            have hGb : G ≤ 1 := by omega
            rw [hG] at HST
            go_wp2_with fail
            go_loopw [6, 9] (fun tv gv wx => ∃ m : Nat, m ≤ G + 1 ∧ gv = .int .i64 m ∧ wx.ownsRow w4.heap.size 48 4 tv ((toT s l j).length + m) (fl ft (toT s l j ++ List.replicate m tL)) ∧ Below w4.heap.size w4 wx) (fun _ gv _ => G + 1 - (intOf gv).toNat)
            case atStart => exact ⟨0, Nat.zero_le _, rfl, by simpa using HO.out, HB.out⟩
            case round =>
              obtain ⟨m, hm, rfl, hown, hb⟩ := hrel
              have HO := Lib.hid hown
              have HBX := Lib.hid hb
              obtain ⟨Av, cv, hAv⟩ := own_slice hown
              subst hAv
              clear hown hb
              by_cases hlt : m < G + 1
              · have g1 : decide ((m : Int) ≤ s.g) = true := decide_eq_true (by omega)
                obtain ⟨s0, s1, s2, s3, s4, s5⟩ := SyAt.below HSY4.out HBX.out
                have hwz1 : w4.heap.size ≤ wr.heap.size := HBX.out.size
                have hS := BlkL.new wr 48 (fl ft [tL])
                have hbS := (Below.refl wr.heap.size wr).alloc (Nat.le_refl _) (.cells (fl ft [tL]).toArray 48)
                have HOS := Lib.hid (own_below HO.out hbS)
                have HBSS := Lib.hid (HBX.out.trans (hbS.mono hwz1))
                have HSS := Lib.hid hS
                have hzS : w4.heap.size ≤ (wr.alloc (.cells (fl ft [tL]).toArray 48)).heap.size := HBSS.out.size
                clear hS hbS hgc ha hG hG2
                go_wp2_with (at_builtin; refine wpList_append_own_at _ rfl _ _ 26 rfl w4.heap.size 48 i0 (.agg #[.int .i64 0, .string ByteArray.empty, .int .i64 0, .int .i64 0]) 4 40 Tryz.underlying26 hi0 hz0 hz1 hz2 rfl (by decide) _ _ _ rfl HOS.out ⟨wr.heap.size, 0, none⟩ 1 1 (fl ft [tL]) rfl rfl (fun j u hj => by rw [Addr.add_lit, Nat.zero_add]; exact (HSS.out.cell j).trans hj) (ft_all _) (by simp only [maxLen]; omega) (by omega) hzS ?_)
                intro v' w5 howS hgrS _ _
                rw [← fl_append, List.append_assoc, ← List.replicate_succ'] at howS
                have HB5 := Lib.hid (HBSS.out.grown hgrS hzS (fun g hg => (HOS.out.lt g hg).1))
                have HO5 := Lib.hid howS
                clear howS hgrS HOS HBSS HSS hzS
                go_wp2
                go_roundw
                case rel => exact ⟨m + 1, by omega, by go_num, HO5.out, HB5.out⟩
                case measure => simp [intOf]; omega
              · have hmm : m = G + 1 := by omega
                subst hmm
                have g1 : decide ((((G + 1 : Nat)) : Int) ≤ s.g) = false := decide_eq_false (by omega)
                have g2 : decide ((G : Int) + 1 ≤ s.g) = false := decide_eq_false (by omega)
                clear hG hG2
                have HTS := Lib.hid (ts_own HO.out)
                obtain ⟨s0, s1, s2, s3, s4, s5⟩ := SyAt.below HSY4.out HBX.out
                have cg : wr.cell? ⟨g, j, none⟩ = some (.int .i64 (a : Int)) := (HBX.out.cell (p := ⟨g, j, none⟩) hgl).trans (hgc.trans (by unfold plc; simp [ha]))
                have q0 := Bw.rd s0
                have q1 := Bw.rd s1
                have q2 := Bw.rd s2
                have q3 := Bw.rd s3
                have q4 := Bw.rd s4
                have r1 := Bw.rd cg
                have hne : Nonempty (Cl (Bw wr)) := ⟨⟨_, Bw.start wr⟩⟩
                clear s0 s1 s2 s3 s5 cg hgc ha
                go_wp2_with fail
                refine wp_region_stages [0, 0, 0, 0, 0, 0, 0, 1, 3, 5] 2 (fun w' => ∃ y : Cl (Bw wr), w' = y.W) (by kernel_rfl) (by kernel_rfl) ⟨⟨_, Bw.start wr⟩, rfl⟩ ?_
                simp only [Stage.stages, Stage.pickC, Nat.reduceBEq, Nat.reduceMul, Nat.reduceAdd, cond_true, cond_false, List.map_cons, List.map_nil]
                refine stage_more ?_
                repeat (go_big_quiet_step (fail))
                refine wpQuiet_nil ?_
                intro K hK
                unfold Chain.mov
                go_simp
                simp only [Chain.movUpon]
                have hBd : Below w4.heap.size w4 wr.drew := HBX.out.drew
                refine (HCALL.out a han wr.drew (HNS4.out.below hBd)).mono ?_
                rintro r w7 ⟨v7, rfl, ho7, hb7⟩
                have HB67 := Lib.hid (show Bw wr w7 from (Below.refl _ wr).drew.trans (hb7.mono (Nat.le_refl _)))
                have HB7 := Lib.hid (hBd.trans (hb7.mono hBd.size))
                have HTS7 := Lib.hid (HTS.out.below HB67.out)
                have HR7 := Lib.hid ho7
                obtain ⟨A7, c7, rfl⟩ := own_slice ho7
                refine ⟨_, rfl, hK _ _ ⟨⟨⟨_, HB67.out⟩, rfl⟩, ?_⟩⟩
                clear hK K ho7 hb7 hBd
                refine stage_more ?_
                repeat (go_big_quiet_step (fail))
                refine wpQuiet_nil ?_
                intro K hK
                unfold Chain.mov
                go_simp
                simp only [Chain.movUpon]
                refine (l08Join_any _ A7 (toT s l j ++ List.replicate (G + 1) tL) (tkP s l (a + 1)) _ _ _ c7 w7 (by simp) rfl (by omega) (by omega) HTS7.out (ts_own HR7.out)).mono ?_
                rintro r w8 ⟨v8, rfl, ho8, hb8⟩
                have HB68 := Lib.hid (show Bw wr w8 from HB67.out.trans (hb8.mono HB67.out.size))
                have HB8 := Lib.hid (HB7.out.trans (hb8.mono HB7.out.size))
                have HO8 := Lib.hid (own_low ho8 HB7.out.size)
                refine ⟨_, rfl, hK _ _ ⟨⟨⟨_, HB68.out⟩, rfl⟩, ?_⟩⟩
                clear hK K ho8 hb8 HR7 HB67
                refine stage_last ?_
                repeat (go_big_quiet_step (fail))
                refine wpQuiet_nil ?_
                clear q0 q1 q2 q3 q4 r1
                go_wp2
                go_roundw
                case rel => exact ⟨j + 1, by omega, by go_num, .inr ⟨by omega, by rw [HST.out]; have := HO8.out; rw [List.append_assoc] at this; exact this⟩, HB8.out⟩
                case measure => simp [intOf]; omega
        · have hjj : j = (kidsN l 0 l.length).length := by omega
          have hoe : ∀ tv, ((j = 0 ∧ tv = .slice (some ⟨w2.heap.size, 0, none⟩) 0 0) ∨ (1 ≤ j ∧ wr.ownsRow w4.heap.size 48 4 tv (toT s l j).length (fl ft (toT s l j)))) → wr.ownsRow w.heap.size 48 4 tv (toT s l j).length (fl ft (toT s l j)) := by
            rintro tv (⟨h, rfl⟩ | ⟨_, h⟩)
            · rw [h]
              exact own_below HLI4.out HB.out
            · exact own_low h HB4.out.size
          have hown := hoe _ hcase
          clear hoe hcase
          obtain ⟨Av, cv, hAv⟩ := own_slice hown
          subst hAv
          have HO := Lib.hid hown
          clear hown
          have hbl := HUP.out.toT_le s hg01.2 j hj
          subst hjj
          have HFT := Lib.hid (toT_fits HUP.out s (kidsN l 0 l.length).length)
          have HTS := Lib.hid (ts_own HO.out)
          go_wp2_with fail
          refine (sStreamOk_any Av (toT s l (kidsN l 0 l.length).length) _ cv wr rfl (by omega) HTS.out HFT.out).mono ?_
          rintro e w5 ⟨rfl, hb5⟩
          have HTB := Lib.hid (show tkB s l = strB (toT s l (kidsN l 0 l.length).length) by unfold tkB topN; rw [treB_yes HT.out, HOK.out]; simp)
          have HB5 := Lib.hid (HB4.out.trans ((HB.out.trans (hb5.mono HB.out.size)).mono HB4.out.size))
          have HO5 := Lib.hid (own_below HO.out hb5)
          clear hb5
          cases hsb : strB (toT s l (kidsN l 0 l.length).length)
          · rw [hsb] at HTB
            go_wp2
            go_ret2
            unfold tkA
            rw [HTB.out]
            exact TkOut.no _ _ HB5.out
          · rw [hsb] at HTB
            go_wp2
            go_ret2
            unfold tkA
            rw [HTB.out, if_pos rfl]
            exact ⟨HB5.out, _, rfl, HO5.out⟩
end Go.Proofs.YtlcplgfjicifeaaGreatDoor
namespace Go.Proofs.YtlcplgfjicifeaaGreatDoor
open Go.ChangeShapes Go.WideShapes Go.ChangeAt Go.RowKit Go.Joins Go.Deep
set_option linter.unusedVariables false

def mkTk (x : Int) (k : Nat) : Tk := ⟨x + 4 * k, mtx (x + 4 * k + 1), x + 4 * k + 1 + 1, x + 4 * k + 1 + 1 + 1⟩
set_option maxHeartbeats 1000000 in
set_option maxRecDepth 100000 in
theorem markTokenQ_blk (g : Nat) (l : List Tk) (rest : List Value) (n c : Nat) (x : Int) (w : World) (hn : l.length = n) (hm : n ≤ 2097152) (hx0 : 0 ≤ x) (hx1 : x ≤ 900000000) (hb : BlkL w g 48 (fl ft l ++ rest)) :
    Calls Tryz.prog 21 #[.slice (some ⟨g, 0, none⟩) n c, .int .i64 x] w fun e w' => e = .returned (.int .i64 (x + 4 * n)) ∧ BlkL w' g 48 (fl ft (mkF (mkTk x) l n) ++ rest) ∧ w.grownBy w' (some g) := by
  have HN := Lib.hid hn
  clear hn
  go_enter Tryz.func21, Tryz.ntmps21
  go_wp2
  go_loopw [1, 5] (fun y i wr => ∃ k : Nat, k ≤ n ∧ i = .int .i64 k ∧ y = .int .i64 (x + 4 * k) ∧ BlkL wr g 48 (fl ft (mkF (mkTk x) l k) ++ rest) ∧ w.grownBy wr (some g)) (fun _ i _ => n - (intOf i).toNat)
  case atStart => exact ⟨0, Nat.zero_le _, rfl, by simp, by rw [mkF_zero]; exact hb, World.grownBy.refl _ _⟩
  case round =>
    obtain ⟨k, hk, rfl, rfl, hbk, hgr⟩ := hrel
    by_cases hkl : k < n
    · have hkl2 : k < (mkF (mkTk x) l k).length := by rw [mkF_length, HN.out]; exact hkl
      obtain ⟨⟨v0, q0⟩, z0⟩ := BlkL.eachR ft_len hbk (k := k) (j := 0) hkl2 (by decide)
      rw [Nat.add_zero] at q0 z0
      have HK := Lib.hid hbk
      have HG := Lib.hid hgr
      clear hbk hgr
      go_wp2_with fail
      refine (markText_any _ _ (by omega)).mono ?_
      rintro e w2 ⟨rfl, hb2⟩
      have hK1 := BlkL.setN [.int .i64 (x + 4 * k)] _ _ (k * 4) HK.out
      have hK2 := hK1.below hb2 hK1.lt
      have hG2 := grown_below (grown_setN [.int .i64 (x + 4 * k)] _ (k * 4) HG.out) hb2
      have hlen : k * 4 + 3 < (setN (fl ft (mkF (mkTk x) l k) ++ rest) (k * 4) [.int .i64 (x + 4 * k)]).length := by
        simp only [setN, List.length_set]
        rw [List.length_append, fl_length ft_len, mkF_length, HN.out]; omega
      obtain ⟨y1, r1⟩ := hK2.some_ (i := k * 4 + 1) (by omega)
      have s1 := hK2.frozen (k * 4 + 1)
      obtain ⟨y2, r2⟩ := hK2.some_ (i := k * 4 + 2) (by omega)
      have s2 := hK2.frozen (k * 4 + 2)
      obtain ⟨y3, r3⟩ := hK2.some_ (i := k * 4 + 3) (by omega)
      have s3 := hK2.frozen (k * 4 + 3)
      have HK2 := Lib.hid hK2
      have HG2 := Lib.hid hG2
      clear hK1 hK2 hG2 hb2 hlen q0 z0
      go_wp2
      go_roundw
      case rel =>
        have h1 := BlkL.setN ((ft (mkTk x k)).drop 1) _ _ (k * 4 + 1) HK2.out
        have h2 : setN (setN (fl ft (mkF (mkTk x) l k) ++ rest) (k * 4) [.int .i64 (x + 4 * k)]) (k * 4 + 1) ((ft (mkTk x k)).drop 1) = fl ft ((mkF (mkTk x) l k).set k (mkTk x k)) ++ rest := by
          have e1 : setN (setN (fl ft (mkF (mkTk x) l k) ++ rest) (k * 4) [.int .i64 (x + 4 * k)]) (k * 4 + 1) ((ft (mkTk x k)).drop 1) = setN (fl ft (mkF (mkTk x) l k) ++ rest) (k * 4) (ft (mkTk x k)) := rfl
          rw [e1, setN_app _ _ _ _ (by rw [fl_length ft_len, ft_len]; omega), fl_set ft_len _ hkl2]
        rw [h2, mkF_set _ _ (by rw [HN.out]; exact hkl)] at h1
        exact ⟨k + 1, by omega, by go_num, by go_num, h1, grown_setN ((ft (mkTk x k)).drop 1) _ _ HG2.out⟩
      case measure => simp [intOf]; omega
    · have HK := Lib.hid hbk
      have HG := Lib.hid hgr
      clear hbk hgr
      have HKN := Lib.hid (show k = n by omega)
      go_wp2
      go_ret
      have e := HKN.out
      subst e
      exact ⟨rfl, HK.out, HG.out⟩
theorem mkTk_is (x : Int) (k : Nat) : mkTk x k = mkT x k := rfl
/-- tokens of a call's own: none, or at the head of a block. -/
def TkRow (w : World) (A : Option Addr) (xs : List Tk) : Prop :=
  xs = [] ∨ ∃ g rest, A = some ⟨g, 0, none⟩ ∧ BlkL w g 48 (fl ft xs ++ rest)
theorem TkRow.is {w : World} {A : Option Addr} {xs : List Tk} (h : TkRow w A xs) : TS w A xs := by
  rcases h with rfl | ⟨g, rest, rfl, hk⟩
  · exact TS.nil _ _
  · intro i u hu
    have f := flat_at hu
    rw [fl_flat] at hk
    refine ⟨g, 0, rfl, hk.lt, ?_⟩
    have hlt := (List.getElem?_eq_some_iff.1 hu).1
    have hfl := flat_length xs
    unfold TkC
    simp only [Nat.zero_add]
    rw [hk.cell, hk.cell, hk.cell, hk.cell]
    rw [List.getElem?_append_left (by omega), List.getElem?_append_left (by omega), List.getElem?_append_left (by omega), List.getElem?_append_left (by omega)]
    exact f
theorem TkRow.below {w w' : World} {A : Option Addr} {xs : List Tk} (h : TkRow w A xs) (hb : Below w.heap.size w w') : TkRow w' A xs := by
  rcases h with rfl | ⟨g, rest, rfl, hk⟩
  · exact .inl rfl
  · exact .inr ⟨g, rest, rfl, hk.below hb hk.lt⟩
theorem TkRow.grown {w w' : World} {A : Option Addr} {xs : List Tk} {row : Option Nat} (h : TkRow w A xs) (hg : w.grownBy w' row) (hne : ∀ b, A.map (·.block) = some b → some b ≠ row) : TkRow w' A xs := by
  rcases h with rfl | ⟨g, rest, rfl, hk⟩
  · exact .inl rfl
  · exact .inr ⟨g, rest, rfl, hk.grown hg (hne g rfl)⟩
/-- what a call hands back: tokens of its own, and a yes or no. -/
def TksO (w : World) (b : Bool) (xs : List Tk) (e : Ending) (w' : World) : Prop :=
  Below w.heap.size w w' ∧ ∃ A c, e = .returned (.tuple #[.slice A xs.length c, .bool b]) ∧ (∀ g, A.map (·.block) = some g → w.heap.size ≤ g ∧ g < w'.heap.size) ∧ TkRow w' A xs
theorem TkOut.o {w w' : World} {e : Ending} {b : Bool} {xs : List Tk} (h : TkOut w b xs e w') : TksO w b xs e w' := by
  obtain ⟨hb, v, rfl, h⟩ := h
  have hlt := h.lt
  rcases h.2 with ⟨rfl, h0⟩ | ⟨g, cap, cur, rfl, hB, hh, h1, h2, h3, h4⟩
  · have : xs = [] := List.eq_nil_of_length_eq_zero h0
    subst this
    exact ⟨hb, none, 0, rfl, fun b hb => by simp at hb, .inl rfl⟩
  · refine ⟨hb, some ⟨g, 0, none⟩, cap, rfl, fun b hb => ?_, .inr ⟨g, cur.toList.drop (xs.length * 4), rfl, ?_⟩⟩
    · simp at hb
      subst hb
      exact hlt g rfl
    · unfold BlkL
      rw [← h4, List.take_append_drop]
      simpa using hh
def TMk (w : World) (A : Option Addr) (xs : List Tk) (x : Int) (e : Ending) (w' : World) : Prop :=
  e = .returned (.int .i64 (x + 4 * xs.length)) ∧ TkRow w' A (mkF (mkTk x) xs xs.length) ∧ w.grownBy w' (A.map (·.block))
theorem markTokenQ_nil (A : Option Addr) (c : Nat) (x : Int) (w : World) : Calls Tryz.prog 21 #[.slice A 0 c, .int .i64 x] w fun r w' => r = .returned (.int .i64 x) ∧ w = w' := by
  go_enter Tryz.func21, Tryz.ntmps21
  go_wp2
  go_loopw [1, 5] (fun y i wr => i = .int .i64 0 ∧ y = .int .i64 x ∧ w = wr) (fun _ i _ => 0)
  case atStart => exact ⟨rfl, rfl, rfl⟩
  case round =>
    obtain ⟨rfl, rfl, rfl⟩ := hrel
    go_wp2
    go_ret
    exact ⟨rfl, rfl⟩
theorem markTokenR_any (A : Option Addr) (xs : List Tk) (c : Nat) (x : Int) (w : World) (hm : xs.length ≤ 2097152) (hx0 : 0 ≤ x) (hx1 : x ≤ 900000000) (h : TkRow w A xs) :
    Calls Tryz.prog 21 #[.slice A xs.length c, .int .i64 x] w (TMk w A xs x) := by
  rcases h with rfl | ⟨g, rest, rfl, hk⟩
  · refine (markTokenQ_nil A c x w).mono ?_
    rintro e w' ⟨rfl, rfl⟩
    exact ⟨by simp, .inl rfl, World.grownBy.refl _ _⟩
  · refine (markTokenQ_blk g xs rest _ c x w rfl hm hx0 hx1 hk).mono ?_
    rintro e w' ⟨rfl, h1, h2⟩
    exact ⟨rfl, .inr ⟨g, rest, rfl, h1⟩, h2⟩
theorem tkA_len (s : Sy) (l : List Nd) : (tkA s l).length ≤ 2000 := by
  unfold tkA tkB
  cases ht : treB l
  · simp
  · cases hs : s.ok
    · simp
    · have hT := treB_ok ht
      split
      · have h1 := hT.upTo.toT_le (s := s) (Sy.ok_iff.1 hs).2.2.2.2.2 (topN l) (Nat.le_refl _)
        have h2 := kidsN_len l 0 l.length
        have h3 := hT.len
        unfold topN at h1 ⊢
        omega
      · simp
end Go.Proofs.YtlcplgfjicifeaaGreatDoor
