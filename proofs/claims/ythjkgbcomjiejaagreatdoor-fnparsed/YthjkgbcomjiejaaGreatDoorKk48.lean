/-
  ParseTree of the model: the walk.
-/
import Derived.Test.YthjkgbcomjiejaaGreatDoorKk47
import Derived.Deep.Cut
namespace Go.Proofs.YthjkgbcomjiejaaGreatDoor
open Go.RowKit
set_option linter.unusedVariables false

theorem idx_zero {s : ByteArray} (h : 1 ≤ s.size) (V : World) : (Instr.index 9 (.string s) (.int .i64 0)).run Tryz.prog V = .ok (.int .u8 (s[0].toNat : Int)) V := by
  have h0 : 0 < s.size := h
  simp [go_sem, h0]
theorem anc_le (l : List Nd) : ∀ t, (anc l t).length ≤ t := by
  intro t
  induction t using Nat.strongRecOn with
  | _ t ih =>
    cases t with
    | zero => rw [anc_zero]; exact Nat.le_refl _
    | succ t =>
      have hp := par_le l t
      have h1 := ih (par l t) (by omega)
      rw [anc_len_succ]
      omega
theorem nod_kind {l : List Nd} {q : List Int} {t i : Nat} (h : PzOk ⟨l, q, t⟩) (hi : i + 1 ≤ l.length) : 0 ≤ knd l (i + 1) ∧ knd l (i + 1) ≤ 6 := by
  obtain ⟨⟨x, hx, hn⟩, _⟩ := h.up i (by show i < l.length; omega)
  rw [knd_succ hx]
  unfold nodB at hn
  simp only [Bool.and_eq_true] at hn
  exact inB_true.1 hn.1
set_option maxHeartbeats 8000000 in
set_option maxRecDepth 100000 in
theorem sParseTree_any (s : ByteArray) (w : World) (hs : s.size ≤ 1048576) :
    Calls Tryz.prog 7 #[.string s] w (PtP s w) := by
  obtain ⟨i0, hi0, hz0, hz1, hz2⟩ := info_parts infoNd
  obtain ⟨j0, hj0, hy0, hy1, hy2⟩ := info_parts infoI
  go_enter Tryz.func7, Tryz.ntmps7
  go_wp2_with fail
  refine (sLexText_any s _ hs).mono ?_
  rintro e w1 ⟨v, rfl, hown, hb1⟩
  have HB1 := Lib.hid hb1
  have HXG := Lib.hid (lxA_good s)
  have HX2 := Lib.hid (lxA_len s)
  rcases lxA_bad s with hbad | ⟨hbad, hnil⟩
  · have HBD := Lib.hid hbad
    have HZ := Lib.hid (prsZ_go hbad)
    rw [hbad]
    obtain ⟨xs, hxs⟩ : ∃ xs, (lxA s).1 = xs := ⟨_, rfl⟩
    rw [hxs] at hown HXG HX2 HZ
    obtain ⟨Av, cv, rfl⟩ := own_slice hown
    have HXS := Lib.hid (xs_of_own hown rfl)
    clear hbad hxs hown hb1
    go_wp2_with fail
    change Code.wp _ _ _ _ (((w1.alloc (.cells #[] 31)).alloc (.cells #[] 3)).alloc (.cells #[] 3))
    have hb4 := (((Below.refl w1.heap.size w1).alloc (Nat.le_refl _) (.cells #[] 31)).alloc (by simp) (.cells #[] 3)).alloc (by simp; omega) (.cells #[] 3)
    have hmz : Mz (((w1.alloc (.cells #[] 31)).alloc (.cells #[] 3)).alloc (.cells #[] 3)) w1.heap.size [] [] 0 w1.heap.size 0 (w1.heap.size + 1) 0 (w1.heap.size + 2) 0 := Mz.zero w1
    have HM := Lib.hid hmz
    have HB4 := Lib.hid hb4
    clear hmz hb4
    have hsz4 : w1.heap.size ≤ (((w1.alloc (.cells #[] 31)).alloc (.cells #[] 3)).alloc (.cells #[] 3)).heap.size := HB4.out.size
    generalize (((w1.alloc (.cells #[] 31)).alloc (.cells #[] 3)).alloc (.cells #[] 3)) = w4 at *
    obtain ⟨R, hR⟩ : ∃ R, runZ xs pz0 = R := ⟨_, rfl⟩
    rw [hR] at HZ
    have HRR := Lib.hid hR
    clear hR
    go_loopw [7, 8, 9, 10] (fun v7 v8 v9 iv wr => ∃ (j : Nat) (l : List Nd) (q : List Int) (t n gO cO gP cP gW cW : Nat), j ≤ xs.length ∧ iv = .int .i64 j ∧ v7 = .slice (some ⟨gO, 0, none⟩) l.length cO ∧ v8 = .slice (some ⟨gP, 0, none⟩) n cP ∧ v9 = .slice (some ⟨gW, 0, none⟩) n cW ∧ n = (anc l t).length ∧ Mz wr w1.heap.size l q t gO cO gP cP gW cW ∧ PzOk ⟨l, q, t⟩ ∧ runZ (xs.drop j) ⟨l, q, t⟩ = R ∧ l.length ≤ j ∧ Below w1.heap.size w1 wr) (fun _ _ _ iv _ => xs.length - (intOf iv).toNat)
    case atStart => exact ⟨0, [], [], 0, 0, _, _, _, _, _, _, Nat.zero_le _, rfl, rfl, rfl, rfl, by rw [anc_zero]; rfl, HM.out, PzOk.zero, HRR.out, Nat.zero_le _, HB4.out⟩
    case round =>
      obtain ⟨j, l, q, t, n, gO, cO, gP, cP, gW, cW, hj, rfl, rfl, rfl, rfl, hn, hm, hok, hrun, hzl, hb⟩ := hrel
      have HN := Lib.hid hn
      have HOK := Lib.hid hok
      have HRN := Lib.hid hrun
      have hxl := HX2.out
      have HM1 := Lib.hid hm
      have HB := Lib.hid hb
      clear hok hrun hm hb HM HB4 HRR hn
      by_cases hjl : j < xs.length
      · obtain ⟨x, b, o, hx, rfl, hbl, d0, d1, d2⟩ := (HXS.out.below HB.out).all hjl
        have hdrop : xs.drop j = x :: xs.drop (j + 1) := by
          rw [List.drop_eq_getElem_cons hjl]
          congr 1
          rw [List.getElem?_eq_getElem hjl] at hx
          exact Option.some.inj hx
        have hgd := HXG.out.1 x (List.mem_of_getElem? hx)
        rw [hdrop] at HRN
        have HD := Lib.hid hgd
        have hbX := (Below.refl wr.heap.size wr).alloc (Nat.le_refl _) (.cells #[.int .i64 x.k, .string x.s, .int .i64 x.a] 51)
        have HM2 := Lib.hid (HM1.out.below hbX)
        have HX := Lib.hid (BlkL.new wr 51 [.int .i64 x.k, .string x.s, .int .i64 x.a])
        have HBX := Lib.hid (HB.out.trans (hbX.mono HB.out.size))
        have hszX : w1.heap.size ≤ (wr.alloc (.cells #[.int .i64 x.k, .string x.s, .int .i64 x.a] 51)).heap.size := HBX.out.size
        clear hx hdrop hgd hbX
        obtain ⟨gX, hgX⟩ : ∃ g, wr.heap.size = g := ⟨_, rfl⟩
        rw [hgX] at HX
        go_upto_region 11 with (fail)
        change Code.wp _ _ _ _ (wr.alloc (.cells #[.int .i64 x.k, .string x.s, .int .i64 x.a] 51))
        generalize (wr.alloc (.cells #[.int .i64 x.k, .string x.s, .int .i64 x.a] 51)) = wX at *
        clear d0 d1 d2 hbl
        have x0 : wX.cell? ⟨gX, 0, none⟩ = some (.int .i64 x.k) := (HX.out.cell 0).trans rfl
        have x1 : wX.cell? ⟨gX, 1, none⟩ = some (.string x.s) := (HX.out.cell 1).trans rfl
        have x2 : wX.cell? ⟨gX, 2, none⟩ = some (.int .i64 x.a) := (HX.out.cell 2).trans rfl
        have xl := HX.out.lt
        cases t with
        | zero =>
          obtain rfl : n = 0 := by rw [HN.out, anc_zero]; rfl
          by_cases h4 : x.k = 4
          · have h4b : (x.k == 4) = true := by simp [h4]
            as_aux_lemma =>
              go_wp2_with fail
              have r2 := Bw.rd x2
              have r1 := Bw.rd x1
              refine wp_region_class (Bw wX) (by kernel_rfl) (by kernel_rfl) (Bw.start wX) (fun hne => ?_)
              repeat (go_big_quiet_step (fail))
              refine wpQuiet_nil ?_
              rintro w6 ⟨y, rfl⟩
              have HX6 := Lib.hid (HX.out.below y.ok HX.out.lt)
              have HBX6 := Lib.hid (HBX.out.trans (Below.mono y.ok HBX.out.size))
              have HM6 := Lib.hid (HM2.out.below y.ok)
              generalize y.W = w6 at *
              clear r1 r2 x0 x1 x2 xl hne HX HBX hszX HM2 
              have hszX : w1.heap.size ≤ w6.heap.size := HBX6.out.size
              have x0 : w6.cell? ⟨gX, 0, none⟩ = some (.int .i64 x.k) := (HX6.out.cell 0).trans rfl
              have x1 : w6.cell? ⟨gX, 1, none⟩ = some (.string x.s) := (HX6.out.cell 1).trans rfl
              have x2 : w6.cell? ⟨gX, 2, none⟩ = some (.int .i64 x.a) := (HX6.out.cell 2).trans rfl
              have xl := HX6.out.lt
              have HST := Lib.hid (show stepZ ⟨l, q, 0⟩ x = .error (2, x.a) by
                unfold stepZ
                rw [if_pos h4, if_neg (by rw [knd_zero]; show ¬ (-1 : Int) = _; omega)]
              )
              go_wp2_with fail
              have r2 := Bw.rd x2
              refine wp_region_class (Bw w6) (by kernel_rfl) (by kernel_rfl) (Bw.start w6) (fun hne => ?_)
              repeat (go_big_quiet_step (fail))
              refine wpQuiet_nil ?_
              rintro w5 ⟨y, rfl⟩
              have HB5 := Lib.hid (HB1.out.trans ((HBX6.out.trans (Below.mono y.ok HBX6.out.size)).mono HB1.out.size))
              generalize y.W = w5 at *
              clear r2 hne
              go_wp2_with fail
              refine bodyPost_ret (v := .tuple #[.slice none 0 0, .int .i64 2, .int .i64 x.a]) (by simp [results, Tryz.results7, go_sem]) rfl (PtP.err ?_ HB5.out)
              rw [HZ.out, ← HRN.out, runZ_bad HST.out]
              rfl
          · have h4b : (x.k == 4) = false := by simp [h4]
            by_cases hx3 : x.k = 3
            · have hx3b : (x.k == 3) = true := by simp [hx3]
              as_aux_lemma =>
                have hone := HD.out.one (by omega)
                obtain ⟨kk, hkk⟩ : ∃ kk, opK (bt x.s 0) = kk := ⟨_, rfl⟩
                have hkk3 : 3 ≤ kk := by rw [← hkk]; unfold opK; split; omega; split <;> omega
                have hkd3 : decide (3 ≤ kk) = true := by simp [hkk3]
                have HKK := Lib.hid hkk
                go_wp2_with fail
                refine (l07OpenKind_any _ hone _).mono ?_
                rintro e w' ⟨rfl, rfl⟩
                rw [HKK.out]
                have HND := Lib.hid (show ndX x (dep l (0) + 1) = ⟨0, kk, ByteArray.empty⟩ by
                  have hd : dep l (0) + 1 = 0 := by rw [dep_zero]; rfl
                  unfold ndX
                  rw [if_pos hx3, hd, HKK.out]
                )
                go_upto_region 29 with (fail)
                obtain ⟨gN, hgN⟩ : ∃ g, wX.heap.size = g := ⟨_, rfl⟩
                rw [hgN]
                have hbN := (Below.refl wX.heap.size wX).alloc (Nat.le_refl _) (.cells #[.int .i64 (0), .int .i64 (kk), .string (ByteArray.empty)] 31)
                have HN8 := Lib.hid (BlkL.new wX 31 [.int .i64 (0), .int .i64 (kk), .string (ByteArray.empty)])
                rw [hgN] at HN8
                have HM8 := Lib.hid (HM2.out.below hbN)
                have HX8 := Lib.hid (HX.out.below hbN HX.out.lt)
                have HB8 := Lib.hid (HBX.out.trans (hbN.mono HBX.out.size))
                obtain ⟨qO, qP, qW⟩ : gO < gN ∧ gP < gN ∧ gW < gN := by rw [← hgN]; exact HM2.out.lts
                change Code.wp _ _ _ _ (wX.alloc (.cells #[.int .i64 (0), .int .i64 (kk), .string (ByteArray.empty)] 31))
                generalize (wX.alloc (.cells #[.int .i64 (0), .int .i64 (kk), .string (ByteArray.empty)] 31)) = w8 at *
                clear x0 x1 x2 xl  hbN HX HM2 HBX hszX hgN
                have n0 : w8.cell? ⟨gN, 0, none⟩ = some (.int .i64 (0)) := (HN8.out.cell 0).trans rfl
                have n1 : w8.cell? ⟨gN, 1, none⟩ = some (.int .i64 (kk)) := (HN8.out.cell 1).trans rfl
                have n2 : w8.cell? ⟨gN, 2, none⟩ = some (.string (ByteArray.empty)) := (HN8.out.cell 2).trans rfl
                have nl := HN8.out.lt
                have hb9 := (Below.refl w8.heap.size w8).alloc (Nat.le_refl _) (.cells #[.int .i64 (0), .int .i64 (kk), .string (ByteArray.empty)] 31)
                have HS := Lib.hid (BlkL.new w8 31 [.int .i64 (0), .int .i64 (kk), .string (ByteArray.empty)])
                have HM9 := Lib.hid (HM8.out.below hb9)
                have HX9 := Lib.hid (HX8.out.below hb9 HX8.out.lt)
                have HN9 := Lib.hid (HN8.out.below hb9 HN8.out.lt)
                have HB9 := Lib.hid (HB8.out.trans (hb9.mono HB8.out.size))
                have hz9 : w1.heap.size ≤ (w8.alloc (.cells #[.int .i64 (0), .int .i64 (kk), .string (ByteArray.empty)] 31)).heap.size := HB9.out.size
                have HXE := Lib.hid (show fl fn [(⟨0, kk, ByteArray.empty⟩ : Nd)] = ([.int .i64 (0), .int .i64 (kk), .string (ByteArray.empty)] : List Value) by simp [fl, fn])
                have HONE := Lib.hid (show ∀ u ∈ ([.int .i64 (0), .int .i64 (kk), .string (ByteArray.empty)] : List Value), u.oneCell' = true by rw [← HXE.out]; exact fn_one _)
                clear hb9
                go_wp2_with (at_builtin; refine wpList_append_own_at _ rfl _ _ 25 rfl w1.heap.size 31 i0 (.agg #[.int .i64 0, .int .i64 0, .string ByteArray.empty]) 3 32 Tryz.underlying25 hi0 hz0 hz1 hz2 rfl (by decide) _ _ _ rfl HM9.out.out ⟨w8.heap.size, 0, none⟩ 1 1 [.int .i64 (0), .int .i64 (kk), .string (ByteArray.empty)] rfl rfl (fun j u hj => by rw [Addr.add_lit, Nat.zero_add]; exact (HS.out.cell j).trans hj) HONE.out (by simp only [maxLen]; omega) (by omega) hz9 ?_)
                intro v' wA howA hgrA hnilA hatA
                obtain ⟨gO2, cO2, rfl⟩ := own_some howA hnilA
                rw [← HXE.out] at howA
                have HMA := Lib.hid (HM9.out.app hgrA _ x.a howA (Nat.zero_le _) HOK.out.len)
                have HNA := Lib.hid (HN9.out.grown hgrA (by intro e; have e2 : gN = gO := Option.some.inj e; omega))
                have HXA := Lib.hid (HX9.out.grown hgrA (fun e => fo_blk HM9.out.out HX9.out (by decide) e.symm))
                have HBA := Lib.hid (HB9.out.grown hgrA hz9 (fun g hg => (HM9.out.out.lt g hg).1))
                clear howA hgrA hnilA hatA n0 n1 n2 nl HS HM8 HM9 HX8 HX9 HN8 HN9 HB8 HB9 hz9 HXE HONE
                have n1 : wA.cell? ⟨gN, 1, none⟩ = some (.int .i64 (kk)) := (HNA.out.cell 1).trans rfl
                have nl := HNA.out.lt
                have x2 : wA.cell? ⟨gX, 2, none⟩ = some (.int .i64 x.a) := (HXA.out.cell 2).trans rfl
                have xl := HXA.out.lt
                have hzA : w1.heap.size ≤ wA.heap.size := HBA.out.size
                have HST := Lib.hid (show stepZ ⟨l, q, 0⟩ x = .ok ⟨l ++ [(⟨0, kk, ByteArray.empty⟩ : Nd)], q ++ [x.a], l.length + 1⟩ by
                  unfold stepZ
                  dsimp only
                  rw [if_neg h4, if_neg (by rintro ⟨_, h⟩; rw [knd_zero] at h; omega), if_neg (by rw [dep_zero]; omega), HND.out, if_pos hkk3])
                have HPR := Lib.hid (show par (l ++ [(⟨0, kk, ByteArray.empty⟩ : Nd)]) l.length = 0 from HOK.out.par_new (n := (⟨0, kk, ByteArray.empty⟩ : Nd)) (by show 0 = dep l (0) + 1; have hd : dep l (0) + 1 = 0 := (by rw [dep_zero]; rfl); omega))
                have HB0 := (Below.refl wA.heap.size wA).alloc (Nat.le_refl _) (.cells #[.int .i64 (l.length : Int)] 3)
                have HOP := Lib.hid (own_below (HMA.out.open_ (Nat.zero_le _) HN.out) HB0)
                have HMB := Lib.hid (HMA.out.below HB0)
                have HXB := Lib.hid (HXA.out.below HB0 HXA.out.lt)
                have HBB := Lib.hid (HBA.out.trans (HB0.mono HBA.out.size))
                have hzB : w1.heap.size ≤ (wA.alloc (.cells #[.int .i64 (l.length : Int)] 3)).heap.size := HBB.out.size
                clear HB0
                go_wp2_with (at_builtin; refine wpList_append_own_at _ rfl _ _ 37 rfl w1.heap.size 3 j0 (.int .i64 0) 1 8 Tryz.underlying37 hj0 hy0 hy1 hy2 rfl (by decide) _ _ _ rfl HOP.out ⟨wA.heap.size, 0, none⟩ 1 1 [.int .i64 (l.length : Int)] rfl rfl (cell_one_new _ _ _) (by simp [Value.oneCell']) (by simp only [maxLen]; omega) (by omega) hzB ?_)
                intro v2 wC howC hgrC hnilC hatC
                obtain ⟨gP2, cP2, rfl⟩ := own_some howC hnilC
                have HBC0 := (Below.refl wC.heap.size wC).alloc (Nat.le_refl _) (.cells #[.int .i64 x.a] 3)
                have HOW := Lib.hid (HMB.out.where_ (Nat.zero_le _) HN.out hgrC HBC0)
                have HXC := Lib.hid (HXB.out.grown hgrC (fun e => fo_blk (HMB.out.open_ (Nat.zero_le _) HN.out) HXB.out (by decide) e.symm))
                have HBC := Lib.hid ((HBB.out.grown hgrC hzB (fun g hg => (HOP.out.lt g hg).1)).trans (HBC0.mono (HBB.out.grown hgrC hzB (fun g hg => (HOP.out.lt g hg).1)).size))
                have HGC := Lib.hid hgrC
                have HHC := Lib.hid howC
                have HTC := Lib.hid hatC
                have HC0 := Lib.hid HBC0
                have hzC : w1.heap.size ≤ (wC.alloc (.cells #[.int .i64 x.a] 3)).heap.size := HBC.out.size
                clear howC hgrC hnilC hatC HBC0 x2 xl n1 nl HXB HXA HNA HBA HBB
                have x2 : wC.cell? ⟨gX, 2, none⟩ = some (.int .i64 x.a) := (HXC.out.cell 2).trans rfl
                have xl := HXC.out.lt
                go_wp2_with (at_builtin; refine wpList_append_own_at _ rfl _ _ 37 rfl w1.heap.size 3 j0 (.int .i64 0) 1 8 Tryz.underlying37 hj0 hy0 hy1 hy2 rfl (by decide) _ _ _ rfl HOW.out ⟨wC.heap.size, 0, none⟩ 1 1 [.int .i64 x.a] rfl rfl (cell_one_new _ _ _) (by simp [Value.oneCell']) (by simp only [maxLen]; omega) (by omega) hzC ?_)
                intro v3 wD howD hgrD hnilD hatD
                obtain ⟨gW2, cW2, rfl⟩ := own_some howD hnilD
                have HMD := Lib.hid (HMB.out.pushN (Nat.zero_le _) HOK.out.len HN.out HPR.out HGC.out HHC.out (HTC.out.imp_right fun e => e.trans (by simp)) HC0.out hgrD howD (hatD.imp_right fun e => e.trans (by simp)))
                have HBD := Lib.hid (HBC.out.grown hgrD hzC (fun g hg => (HOW.out.lt g hg).1))
                have HNN := Lib.hid (show 0 + 1 = (anc (l ++ [(⟨0, kk, ByteArray.empty⟩ : Nd)]) (l.length + 1)).length by rw [anc_new (Nat.zero_le _) HPR.out, ← HN.out])
                have HREL := Lib.hid (show PzOk ⟨l ++ [(⟨0, kk, ByteArray.empty⟩ : Nd)], q ++ [x.a], l.length + 1⟩ ∧ runZ (xs.drop (j + 1)) ⟨l ++ [(⟨0, kk, ByteArray.empty⟩ : Nd)], q ++ [x.a], l.length + 1⟩ = R from ⟨stepZ_ok HOK.out HD.out HST.out, by rw [← HRN.out, runZ_cons HST.out]⟩)
                clear howD hgrD hnilD hatD HOK HRN HST HMA HMB HOP HOW HGC HHC HTC HC0 HBC HXC x2 xl hzC
                go_wp2_with fail
                go_roundw
                · exact ⟨j + 1, l ++ [(⟨0, kk, ByteArray.empty⟩ : Nd)], q ++ [x.a], l.length + 1, 0 + 1, _, _, _, _, _, _, by omega, by simp, by rw [List.length_append]; rfl, rfl, rfl, HNN.out, HMD.out, HREL.out.1, HREL.out.2, by simp; omega, HBD.out⟩
                · simp only [intOf]
                  omega
            · have hx3b : (x.k == 3) = false := by simp [hx3]
              by_cases hx5 : x.k = 5
              · have hx5b : (x.k == 5) = true := by simp [hx5]
                as_aux_lemma =>
                  have HND := Lib.hid (show ndX x (dep l (0) + 1) = ⟨0, 6, ByteArray.empty⟩ by
                    have hd : dep l (0) + 1 = 0 := by rw [dep_zero]; rfl
                    unfold ndX
                    rw [if_neg hx3, if_pos hx5, hd]
                  )
                  go_upto_region 29 with (fail)
                  obtain ⟨gN, hgN⟩ : ∃ g, wX.heap.size = g := ⟨_, rfl⟩
                  rw [hgN]
                  have hbN := (Below.refl wX.heap.size wX).alloc (Nat.le_refl _) (.cells #[.int .i64 (0), .int .i64 (6), .string (ByteArray.empty)] 31)
                  have HN8 := Lib.hid (BlkL.new wX 31 [.int .i64 (0), .int .i64 (6), .string (ByteArray.empty)])
                  rw [hgN] at HN8
                  have HM8 := Lib.hid (HM2.out.below hbN)
                  have HX8 := Lib.hid (HX.out.below hbN HX.out.lt)
                  have HB8 := Lib.hid (HBX.out.trans (hbN.mono HBX.out.size))
                  obtain ⟨qO, qP, qW⟩ : gO < gN ∧ gP < gN ∧ gW < gN := by rw [← hgN]; exact HM2.out.lts
                  change Code.wp _ _ _ _ (wX.alloc (.cells #[.int .i64 (0), .int .i64 (6), .string (ByteArray.empty)] 31))
                  generalize (wX.alloc (.cells #[.int .i64 (0), .int .i64 (6), .string (ByteArray.empty)] 31)) = w8 at *
                  clear x0 x1 x2 xl  hbN HX HM2 HBX hszX hgN
                  have n0 : w8.cell? ⟨gN, 0, none⟩ = some (.int .i64 (0)) := (HN8.out.cell 0).trans rfl
                  have n1 : w8.cell? ⟨gN, 1, none⟩ = some (.int .i64 (6)) := (HN8.out.cell 1).trans rfl
                  have n2 : w8.cell? ⟨gN, 2, none⟩ = some (.string (ByteArray.empty)) := (HN8.out.cell 2).trans rfl
                  have nl := HN8.out.lt
                  have hb9 := (Below.refl w8.heap.size w8).alloc (Nat.le_refl _) (.cells #[.int .i64 (0), .int .i64 (6), .string (ByteArray.empty)] 31)
                  have HS := Lib.hid (BlkL.new w8 31 [.int .i64 (0), .int .i64 (6), .string (ByteArray.empty)])
                  have HM9 := Lib.hid (HM8.out.below hb9)
                  have HX9 := Lib.hid (HX8.out.below hb9 HX8.out.lt)
                  have HN9 := Lib.hid (HN8.out.below hb9 HN8.out.lt)
                  have HB9 := Lib.hid (HB8.out.trans (hb9.mono HB8.out.size))
                  have hz9 : w1.heap.size ≤ (w8.alloc (.cells #[.int .i64 (0), .int .i64 (6), .string (ByteArray.empty)] 31)).heap.size := HB9.out.size
                  have HXE := Lib.hid (show fl fn [(⟨0, 6, ByteArray.empty⟩ : Nd)] = ([.int .i64 (0), .int .i64 (6), .string (ByteArray.empty)] : List Value) by simp [fl, fn])
                  have HONE := Lib.hid (show ∀ u ∈ ([.int .i64 (0), .int .i64 (6), .string (ByteArray.empty)] : List Value), u.oneCell' = true by rw [← HXE.out]; exact fn_one _)
                  clear hb9
                  go_wp2_with (at_builtin; refine wpList_append_own_at _ rfl _ _ 25 rfl w1.heap.size 31 i0 (.agg #[.int .i64 0, .int .i64 0, .string ByteArray.empty]) 3 32 Tryz.underlying25 hi0 hz0 hz1 hz2 rfl (by decide) _ _ _ rfl HM9.out.out ⟨w8.heap.size, 0, none⟩ 1 1 [.int .i64 (0), .int .i64 (6), .string (ByteArray.empty)] rfl rfl (fun j u hj => by rw [Addr.add_lit, Nat.zero_add]; exact (HS.out.cell j).trans hj) HONE.out (by simp only [maxLen]; omega) (by omega) hz9 ?_)
                  intro v' wA howA hgrA hnilA hatA
                  obtain ⟨gO2, cO2, rfl⟩ := own_some howA hnilA
                  rw [← HXE.out] at howA
                  have HMA := Lib.hid (HM9.out.app hgrA _ x.a howA (Nat.zero_le _) HOK.out.len)
                  have HNA := Lib.hid (HN9.out.grown hgrA (by intro e; have e2 : gN = gO := Option.some.inj e; omega))
                  have HXA := Lib.hid (HX9.out.grown hgrA (fun e => fo_blk HM9.out.out HX9.out (by decide) e.symm))
                  have HBA := Lib.hid (HB9.out.grown hgrA hz9 (fun g hg => (HM9.out.out.lt g hg).1))
                  clear howA hgrA hnilA hatA n0 n1 n2 nl HS HM8 HM9 HX8 HX9 HN8 HN9 HB8 HB9 hz9 HXE HONE
                  have n1 : wA.cell? ⟨gN, 1, none⟩ = some (.int .i64 (6)) := (HNA.out.cell 1).trans rfl
                  have nl := HNA.out.lt
                  have x2 : wA.cell? ⟨gX, 2, none⟩ = some (.int .i64 x.a) := (HXA.out.cell 2).trans rfl
                  have xl := HXA.out.lt
                  have hzA : w1.heap.size ≤ wA.heap.size := HBA.out.size
                  have HST := Lib.hid (show stepZ ⟨l, q, 0⟩ x = .ok ⟨l ++ [(⟨0, 6, ByteArray.empty⟩ : Nd)], q ++ [x.a], l.length + 1⟩ by
                    unfold stepZ
                    dsimp only
                    rw [if_neg h4, if_neg (by rintro ⟨_, h⟩; rw [knd_zero] at h; omega), if_neg (by rw [dep_zero]; omega), HND.out, if_pos (by show (3 : Int) ≤ 6; decide)])
                  have HPR := Lib.hid (show par (l ++ [(⟨0, 6, ByteArray.empty⟩ : Nd)]) l.length = 0 from HOK.out.par_new (n := (⟨0, 6, ByteArray.empty⟩ : Nd)) (by show 0 = dep l (0) + 1; have hd : dep l (0) + 1 = 0 := (by rw [dep_zero]; rfl); omega))
                  have HB0 := (Below.refl wA.heap.size wA).alloc (Nat.le_refl _) (.cells #[.int .i64 (l.length : Int)] 3)
                  have HOP := Lib.hid (own_below (HMA.out.open_ (Nat.zero_le _) HN.out) HB0)
                  have HMB := Lib.hid (HMA.out.below HB0)
                  have HXB := Lib.hid (HXA.out.below HB0 HXA.out.lt)
                  have HBB := Lib.hid (HBA.out.trans (HB0.mono HBA.out.size))
                  have hzB : w1.heap.size ≤ (wA.alloc (.cells #[.int .i64 (l.length : Int)] 3)).heap.size := HBB.out.size
                  clear HB0
                  go_wp2_with (at_builtin; refine wpList_append_own_at _ rfl _ _ 37 rfl w1.heap.size 3 j0 (.int .i64 0) 1 8 Tryz.underlying37 hj0 hy0 hy1 hy2 rfl (by decide) _ _ _ rfl HOP.out ⟨wA.heap.size, 0, none⟩ 1 1 [.int .i64 (l.length : Int)] rfl rfl (cell_one_new _ _ _) (by simp [Value.oneCell']) (by simp only [maxLen]; omega) (by omega) hzB ?_)
                  intro v2 wC howC hgrC hnilC hatC
                  obtain ⟨gP2, cP2, rfl⟩ := own_some howC hnilC
                  have HBC0 := (Below.refl wC.heap.size wC).alloc (Nat.le_refl _) (.cells #[.int .i64 x.a] 3)
                  have HOW := Lib.hid (HMB.out.where_ (Nat.zero_le _) HN.out hgrC HBC0)
                  have HXC := Lib.hid (HXB.out.grown hgrC (fun e => fo_blk (HMB.out.open_ (Nat.zero_le _) HN.out) HXB.out (by decide) e.symm))
                  have HBC := Lib.hid ((HBB.out.grown hgrC hzB (fun g hg => (HOP.out.lt g hg).1)).trans (HBC0.mono (HBB.out.grown hgrC hzB (fun g hg => (HOP.out.lt g hg).1)).size))
                  have HGC := Lib.hid hgrC
                  have HHC := Lib.hid howC
                  have HTC := Lib.hid hatC
                  have HC0 := Lib.hid HBC0
                  have hzC : w1.heap.size ≤ (wC.alloc (.cells #[.int .i64 x.a] 3)).heap.size := HBC.out.size
                  clear howC hgrC hnilC hatC HBC0 x2 xl n1 nl HXB HXA HNA HBA HBB
                  have x2 : wC.cell? ⟨gX, 2, none⟩ = some (.int .i64 x.a) := (HXC.out.cell 2).trans rfl
                  have xl := HXC.out.lt
                  go_wp2_with (at_builtin; refine wpList_append_own_at _ rfl _ _ 37 rfl w1.heap.size 3 j0 (.int .i64 0) 1 8 Tryz.underlying37 hj0 hy0 hy1 hy2 rfl (by decide) _ _ _ rfl HOW.out ⟨wC.heap.size, 0, none⟩ 1 1 [.int .i64 x.a] rfl rfl (cell_one_new _ _ _) (by simp [Value.oneCell']) (by simp only [maxLen]; omega) (by omega) hzC ?_)
                  intro v3 wD howD hgrD hnilD hatD
                  obtain ⟨gW2, cW2, rfl⟩ := own_some howD hnilD
                  have HMD := Lib.hid (HMB.out.pushN (Nat.zero_le _) HOK.out.len HN.out HPR.out HGC.out HHC.out (HTC.out.imp_right fun e => e.trans (by simp)) HC0.out hgrD howD (hatD.imp_right fun e => e.trans (by simp)))
                  have HBD := Lib.hid (HBC.out.grown hgrD hzC (fun g hg => (HOW.out.lt g hg).1))
                  have HNN := Lib.hid (show 0 + 1 = (anc (l ++ [(⟨0, 6, ByteArray.empty⟩ : Nd)]) (l.length + 1)).length by rw [anc_new (Nat.zero_le _) HPR.out, ← HN.out])
                  have HREL := Lib.hid (show PzOk ⟨l ++ [(⟨0, 6, ByteArray.empty⟩ : Nd)], q ++ [x.a], l.length + 1⟩ ∧ runZ (xs.drop (j + 1)) ⟨l ++ [(⟨0, 6, ByteArray.empty⟩ : Nd)], q ++ [x.a], l.length + 1⟩ = R from ⟨stepZ_ok HOK.out HD.out HST.out, by rw [← HRN.out, runZ_cons HST.out]⟩)
                  clear howD hgrD hnilD hatD HOK HRN HST HMA HMB HOP HOW HGC HHC HTC HC0 HBC HXC x2 xl hzC
                  go_wp2_with fail
                  go_roundw
                  · exact ⟨j + 1, l ++ [(⟨0, 6, ByteArray.empty⟩ : Nd)], q ++ [x.a], l.length + 1, 0 + 1, _, _, _, _, _, _, by omega, by simp, by rw [List.length_append]; rfl, rfl, rfl, HNN.out, HMD.out, HREL.out.1, HREL.out.2, by simp; omega, HBD.out⟩
                  · simp only [intOf]
                    omega
              · have hx5b : (x.k == 5) = false := by simp [hx5]
                as_aux_lemma =>
                  have hk0 : decide (3 ≤ x.k) = false := by have := HD.out.kind; have := kdI_bd (bt x.s 0); simp; omega
                  have HND := Lib.hid (show ndX x (dep l (0) + 1) = ⟨0, x.k, x.s⟩ by
                    have hd : dep l (0) + 1 = 0 := by rw [dep_zero]; rfl
                    unfold ndX
                    rw [if_neg hx3, if_neg hx5, hd]
                  )
                  go_upto_region 29 with (fail)
                  obtain ⟨gN, hgN⟩ : ∃ g, wX.heap.size = g := ⟨_, rfl⟩
                  rw [hgN]
                  have hbN := (Below.refl wX.heap.size wX).alloc (Nat.le_refl _) (.cells #[.int .i64 (0), .int .i64 (x.k), .string (x.s)] 31)
                  have HN8 := Lib.hid (BlkL.new wX 31 [.int .i64 (0), .int .i64 (x.k), .string (x.s)])
                  rw [hgN] at HN8
                  have HM8 := Lib.hid (HM2.out.below hbN)
                  have HX8 := Lib.hid (HX.out.below hbN HX.out.lt)
                  have HB8 := Lib.hid (HBX.out.trans (hbN.mono HBX.out.size))
                  obtain ⟨qO, qP, qW⟩ : gO < gN ∧ gP < gN ∧ gW < gN := by rw [← hgN]; exact HM2.out.lts
                  change Code.wp _ _ _ _ (wX.alloc (.cells #[.int .i64 (0), .int .i64 (x.k), .string (x.s)] 31))
                  generalize (wX.alloc (.cells #[.int .i64 (0), .int .i64 (x.k), .string (x.s)] 31)) = w8 at *
                  clear x0 x1 x2 xl  hbN HX HM2 HBX hszX hgN
                  have n0 : w8.cell? ⟨gN, 0, none⟩ = some (.int .i64 (0)) := (HN8.out.cell 0).trans rfl
                  have n1 : w8.cell? ⟨gN, 1, none⟩ = some (.int .i64 (x.k)) := (HN8.out.cell 1).trans rfl
                  have n2 : w8.cell? ⟨gN, 2, none⟩ = some (.string (x.s)) := (HN8.out.cell 2).trans rfl
                  have nl := HN8.out.lt
                  have hb9 := (Below.refl w8.heap.size w8).alloc (Nat.le_refl _) (.cells #[.int .i64 (0), .int .i64 (x.k), .string (x.s)] 31)
                  have HS := Lib.hid (BlkL.new w8 31 [.int .i64 (0), .int .i64 (x.k), .string (x.s)])
                  have HM9 := Lib.hid (HM8.out.below hb9)
                  have HX9 := Lib.hid (HX8.out.below hb9 HX8.out.lt)
                  have HN9 := Lib.hid (HN8.out.below hb9 HN8.out.lt)
                  have HB9 := Lib.hid (HB8.out.trans (hb9.mono HB8.out.size))
                  have hz9 : w1.heap.size ≤ (w8.alloc (.cells #[.int .i64 (0), .int .i64 (x.k), .string (x.s)] 31)).heap.size := HB9.out.size
                  have HXE := Lib.hid (show fl fn [(⟨0, x.k, x.s⟩ : Nd)] = ([.int .i64 (0), .int .i64 (x.k), .string (x.s)] : List Value) by simp [fl, fn])
                  have HONE := Lib.hid (show ∀ u ∈ ([.int .i64 (0), .int .i64 (x.k), .string (x.s)] : List Value), u.oneCell' = true by rw [← HXE.out]; exact fn_one _)
                  clear hb9
                  go_wp2_with (at_builtin; refine wpList_append_own_at _ rfl _ _ 25 rfl w1.heap.size 31 i0 (.agg #[.int .i64 0, .int .i64 0, .string ByteArray.empty]) 3 32 Tryz.underlying25 hi0 hz0 hz1 hz2 rfl (by decide) _ _ _ rfl HM9.out.out ⟨w8.heap.size, 0, none⟩ 1 1 [.int .i64 (0), .int .i64 (x.k), .string (x.s)] rfl rfl (fun j u hj => by rw [Addr.add_lit, Nat.zero_add]; exact (HS.out.cell j).trans hj) HONE.out (by simp only [maxLen]; omega) (by omega) hz9 ?_)
                  intro v' wA howA hgrA hnilA hatA
                  obtain ⟨gO2, cO2, rfl⟩ := own_some howA hnilA
                  rw [← HXE.out] at howA
                  have HMA := Lib.hid (HM9.out.app hgrA _ x.a howA (Nat.zero_le _) HOK.out.len)
                  have HNA := Lib.hid (HN9.out.grown hgrA (by intro e; have e2 : gN = gO := Option.some.inj e; omega))
                  have HXA := Lib.hid (HX9.out.grown hgrA (fun e => fo_blk HM9.out.out HX9.out (by decide) e.symm))
                  have HBA := Lib.hid (HB9.out.grown hgrA hz9 (fun g hg => (HM9.out.out.lt g hg).1))
                  clear howA hgrA hnilA hatA n0 n1 n2 nl HS HM8 HM9 HX8 HX9 HN8 HN9 HB8 HB9 hz9 HXE HONE
                  have n1 : wA.cell? ⟨gN, 1, none⟩ = some (.int .i64 (x.k)) := (HNA.out.cell 1).trans rfl
                  have nl := HNA.out.lt
                  have x2 : wA.cell? ⟨gX, 2, none⟩ = some (.int .i64 x.a) := (HXA.out.cell 2).trans rfl
                  have xl := HXA.out.lt
                  have hzA : w1.heap.size ≤ wA.heap.size := HBA.out.size
                  have HST := Lib.hid (show stepZ ⟨l, q, 0⟩ x = .ok ⟨l ++ [(⟨0, x.k, x.s⟩ : Nd)], q ++ [x.a], unq l (0)⟩ by
                    unfold stepZ
                    dsimp only
                    rw [if_neg h4, if_neg (by rintro ⟨_, h⟩; rw [knd_zero] at h; omega), if_neg (by rw [dep_zero]; omega), HND.out, if_neg (by have := of_decide_eq_false hk0; exact this)])
                  have HREL := Lib.hid (show PzOk ⟨l ++ [(⟨0, x.k, x.s⟩ : Nd)], q ++ [x.a], unq (l ++ [(⟨0, x.k, x.s⟩ : Nd)]) (0)⟩ ∧ runZ (xs.drop (j + 1)) ⟨l ++ [(⟨0, x.k, x.s⟩ : Nd)], q ++ [x.a], unq (l ++ [(⟨0, x.k, x.s⟩ : Nd)]) (0)⟩ = R from by
                    rw [unq_app _ (Nat.zero_le _)]
                    exact ⟨stepZ_ok HOK.out HD.out HST.out, by rw [← HRN.out, runZ_cons HST.out]⟩)
                  have HNN := Lib.hid (show 0 = (anc (l ++ [(⟨0, x.k, x.s⟩ : Nd)]) (0)).length by rw [anc_app _ (Nat.zero_le _), ← HN.out])
                  have HLL := Lib.hid (show l.length + 1 = (l ++ [(⟨0, x.k, x.s⟩ : Nd)]).length by simp)
                  have hll : (l ++ [(⟨0, x.k, x.s⟩ : Nd)]).length = l.length + 1 := by simp
                  have htl2 : 0 ≤ (l ++ [(⟨0, x.k, x.s⟩ : Nd)]).length := by have := (show 0 ≤ l.length from (Nat.zero_le _)); omega
                  clear HOK HRN HST HND HN
                  obtain ⟨l2, hl2⟩ : ∃ y, l ++ [(⟨0, x.k, x.s⟩ : Nd)] = y := ⟨_, rfl⟩
                  obtain ⟨q2, hq2⟩ : ∃ y, q ++ [x.a] = y := ⟨_, rfl⟩
                  rw [hl2] at HREL HNN HLL HMA hll htl2
                  rw [hq2] at HREL HMA
                  clear hl2 hq2
                  go_wp2_with fail
                  go_loopw [8, 9] (fun v8 v9 wv => ∃ (u n2 : Nat), v8 = .slice (some ⟨gP, 0, none⟩) n2 cP ∧ v9 = .slice (some ⟨gW, 0, none⟩) n2 cW ∧ n2 = (anc l2 u).length ∧ unq l2 u = unq l2 (0) ∧ u ≤ l2.length ∧ Mz wA w1.heap.size l2 q2 u gO2 cO2 gP cP gW cW ∧ wv = wA) (fun v8 _ _ => match v8 with | .slice _ n _ => n | _ => 0)
                  case atStart => exact ⟨(0), (0), rfl, rfl, HNN.out, rfl, htl2, HMA.out, rfl⟩
                  case round =>
                    obtain ⟨u, n2, rfl, rfl, hn2, hun, hul, hmz, rfl⟩ := hrel
                    have HUN := Lib.hid hun
                    have HMZ := Lib.hid hmz
                    have HN2 := Lib.hid hn2
                    clear hun hmz hn2
                    cases u with
                    | zero =>
                      obtain rfl : n2 = 0 := by rw [HN2.out, anc_zero]; rfl
                      have HQ0 := Lib.hid (show unq l2 (0) = 0 by rw [← HUN.out, unq_zero])
                      go_wp2_with fail
                      go_roundw
                      · rw [HQ0.out] at HREL
                        exact ⟨j + 1, l2, q2, 0, 0, _, _, _, _, _, _, by omega, by simp, by rw [HLL.out], rfl, rfl, by rw [anc_zero]; rfl, HMZ.out, HREL.out.1, HREL.out.2, by omega, HBA.out⟩
                      · simp only [intOf]
                        omega
                    | succ u =>
                      obtain ⟨s0, s1, s2⟩ := HMZ.out.top hul
                      obtain ⟨m2, hm2⟩ : ∃ m, (anc l2 (par l2 u)).length = m := ⟨_, rfl⟩
                      obtain rfl : n2 = m2 + 1 := by rw [← hm2, HN2.out, anc_len_succ]
                      rw [hm2] at s0 s2
                      have hal3 := anc_le l2 (u + 1)
                      rw [← HN2.out] at hal3
                      obtain ⟨b0, b1, b2⟩ := HMZ.out.lts
                      obtain ⟨kz1, kz2⟩ := HMZ.out.caps
                      rw [← HN2.out] at kz1 kz2
                      have HM3 := Lib.hid hm2
                      clear hm2
                      by_cases hk6 : knd l2 (u + 1) = 6
                      · have hk6b : (knd l2 (u + 1) == 6) = true := by simp [hk6]
                        have HK6 := Lib.hid hk6
                        clear hk6
                        go_wp2_with fail
                        go_roundw
                        · exact ⟨par l2 u, m2, rfl, rfl, HM3.out.symm, by rw [← HUN.out, unq_go HK6.out], by have := par_le l2 u; omega, HMZ.out.pop, trivial⟩
                        · simp
                      · have hk6b : (knd l2 (u + 1) == 6) = false := by simp [hk6]
                        have HQ0 := Lib.hid (show unq l2 (0) = u + 1 by rw [← HUN.out, unq_stop hk6])
                        clear hk6
                        go_wp2_with fail
                        go_roundw
                        · rw [HQ0.out] at HREL
                          exact ⟨j + 1, l2, q2, u + 1, m2 + 1, _, _, _, _, _, _, by omega, by simp, by rw [HLL.out], rfl, rfl, HN2.out, HMZ.out, HREL.out.1, HREL.out.2, by omega, HBA.out⟩
                        · simp only [intOf]
                          omega
        | succ t =>
          have htl : t + 1 ≤ l.length := HOK.out.tip
          obtain ⟨p0, p1, p2⟩ := HM2.out.top htl
          obtain ⟨lO, lP, lW⟩ := HM2.out.lts
          have hal := anc_le l (t + 1)
          have hal2 := anc_len (l := l) (t + 1) htl (fun i hi => (HOK.out.up i (by show i < l.length; omega)).2)
          obtain ⟨m, hm⟩ : ∃ m, (anc l (par l t)).length = m := ⟨_, rfl⟩
          obtain rfl : n = m + 1 := by rw [← hm, HN.out, anc_len_succ]
          rw [hm] at p0 p2
          rw [← HN.out] at hal hal2
          have HMM := Lib.hid hm
          have HAL := Lib.hid hal2
          have hkn := nod_kind HOK.out htl
          obtain ⟨kd, hkd⟩ : ∃ kd, knd l (t + 1) = kd := ⟨_, rfl⟩
          rw [hkd] at p1 hkn
          have HKD := Lib.hid hkd
          clear hm hal2 hkd
          by_cases hq : kd = 6
          · have hqb : (kd == 6) = true := by simp [hq]
            by_cases h4 : x.k = 4
            · have h4b : (x.k == 4) = true := by simp [h4]
              as_aux_lemma =>
                have hm0 : ((m : Int) + 1 == 0) = false := by simp; omega
                go_wp2_with fail
                have r2 := Bw.rd x2
                have r1 := Bw.rd x1
                refine wp_region_class (Bw wX) (by kernel_rfl) (by kernel_rfl) (Bw.start wX) (fun hne => ?_)
                repeat (go_big_quiet_step (fail))
                refine wpQuiet_nil ?_
                rintro w6 ⟨y, rfl⟩
                have HX6 := Lib.hid (HX.out.below y.ok HX.out.lt)
                have HBX6 := Lib.hid (HBX.out.trans (Below.mono y.ok HBX.out.size))
                have HM6 := Lib.hid (HM2.out.below y.ok)
                generalize y.W = w6 at *
                clear r1 r2 x0 x1 x2 xl hne HX HBX hszX HM2 p0 p1 p2 lO lP lW
                have hszX : w1.heap.size ≤ w6.heap.size := HBX6.out.size
                have x0 : w6.cell? ⟨gX, 0, none⟩ = some (.int .i64 x.k) := (HX6.out.cell 0).trans rfl
                have x1 : w6.cell? ⟨gX, 1, none⟩ = some (.string x.s) := (HX6.out.cell 1).trans rfl
                have x2 : w6.cell? ⟨gX, 2, none⟩ = some (.int .i64 x.a) := (HX6.out.cell 2).trans rfl
                have xl := HX6.out.lt
                have HST := Lib.hid (show stepZ ⟨l, q, t + 1⟩ x = .error (2, x.a) by
                  unfold stepZ
                  rw [if_pos h4, if_neg (by rw [HKD.out, hq]; show ¬ (-1 : Int) = _; omega)]
                )
                go_wp2_with fail
                have r2 := Bw.rd x2
                refine wp_region_class (Bw w6) (by kernel_rfl) (by kernel_rfl) (Bw.start w6) (fun hne => ?_)
                repeat (go_big_quiet_step (fail))
                refine wpQuiet_nil ?_
                rintro w5 ⟨y, rfl⟩
                have HB5 := Lib.hid (HB1.out.trans ((HBX6.out.trans (Below.mono y.ok HBX6.out.size)).mono HB1.out.size))
                generalize y.W = w5 at *
                clear r2 hne
                go_wp2_with fail
                refine bodyPost_ret (v := .tuple #[.slice none 0 0, .int .i64 2, .int .i64 x.a]) (by simp [results, Tryz.results7, go_sem]) rfl (PtP.err ?_ HB5.out)
                rw [HZ.out, ← HRN.out, runZ_bad HST.out]
                rfl
            · have h4b : (x.k == 4) = false := by simp [h4]
              by_cases h2 : x.k = 2
              · have h2b : (x.k == 2) = true := by simp [h2]
                as_aux_lemma =>
                  have HST := Lib.hid (show stepZ ⟨l, q, t + 1⟩ x = .error (4, x.a) by
                    unfold stepZ
                    rw [if_neg h4, if_pos ⟨h2, by rw [HKD.out, hq]⟩]
                  )
                  go_wp2_with fail
                  have r2 := Bw.rd x2
                  refine wp_region_class (Bw wX) (by kernel_rfl) (by kernel_rfl) (Bw.start wX) (fun hne => ?_)
                  repeat (go_big_quiet_step (fail))
                  refine wpQuiet_nil ?_
                  rintro w5 ⟨y, rfl⟩
                  have HB5 := Lib.hid (HB1.out.trans ((HBX.out.trans (Below.mono y.ok HBX.out.size)).mono HB1.out.size))
                  generalize y.W = w5 at *
                  clear r2 hne
                  go_wp2_with fail
                  refine bodyPost_ret (v := .tuple #[.slice none 0 0, .int .i64 4, .int .i64 x.a]) (by simp [results, Tryz.results7, go_sem]) rfl (PtP.err ?_ HB5.out)
                  rw [HZ.out, ← HRN.out, runZ_bad HST.out]
                  rfl
              · have h2b : (x.k == 2) = false := by simp [h2]
                by_cases hdp : 12 < (m : Int) + 1
                · have hdb : decide (12 < (m : Int) + 1) = true := by simp [hdp]
                  as_aux_lemma =>
                    have HST := Lib.hid (show stepZ ⟨l, q, t + 1⟩ x = .error (6, x.a) by
                      unfold stepZ
                      rw [if_neg h4, if_neg (by rw [HKD.out]; omega), if_pos (by have := HAL.out; show 12 < dep l (t + 1) + 1; omega)]
                    )
                    go_wp2_with fail
                    have r2 := Bw.rd x2
                    refine wp_region_class (Bw wX) (by kernel_rfl) (by kernel_rfl) (Bw.start wX) (fun hne => ?_)
                    repeat (go_big_quiet_step (fail))
                    refine wpQuiet_nil ?_
                    rintro w5 ⟨y, rfl⟩
                    have HB5 := Lib.hid (HB1.out.trans ((HBX.out.trans (Below.mono y.ok HBX.out.size)).mono HB1.out.size))
                    generalize y.W = w5 at *
                    clear r2 hne
                    go_wp2_with fail
                    refine bodyPost_ret (v := .tuple #[.slice none 0 0, .int .i64 6, .int .i64 x.a]) (by simp [results, Tryz.results7, go_sem]) rfl (PtP.err ?_ HB5.out)
                    rw [HZ.out, ← HRN.out, runZ_bad HST.out]
                    rfl
                · have hdb : decide (12 < (m : Int) + 1) = false := by simp [hdp]
                  by_cases hx3 : x.k = 3
                  · have hx3b : (x.k == 3) = true := by simp [hx3]
                    as_aux_lemma =>
                      have hone := HD.out.one (by omega)
                      obtain ⟨kk, hkk⟩ : ∃ kk, opK (bt x.s 0) = kk := ⟨_, rfl⟩
                      have hkk3 : 3 ≤ kk := by rw [← hkk]; unfold opK; split; omega; split <;> omega
                      have hkd3 : decide (3 ≤ kk) = true := by simp [hkk3]
                      have HKK := Lib.hid hkk
                      go_wp2_with fail
                      refine (l07OpenKind_any _ hone _).mono ?_
                      rintro e w' ⟨rfl, rfl⟩
                      rw [HKK.out]
                      have HND := Lib.hid (show ndX x (dep l (t + 1) + 1) = ⟨(m : Int) + 1, kk, ByteArray.empty⟩ by
                        have hd : dep l (t + 1) + 1 = (m : Int) + 1 := by have := HAL.out; omega
                        unfold ndX
                        rw [if_pos hx3, hd, HKK.out]
                      )
                      go_upto_region 29 with (fail)
                      obtain ⟨gN, hgN⟩ : ∃ g, wX.heap.size = g := ⟨_, rfl⟩
                      rw [hgN]
                      have hbN := (Below.refl wX.heap.size wX).alloc (Nat.le_refl _) (.cells #[.int .i64 ((m : Int) + 1), .int .i64 (kk), .string (ByteArray.empty)] 31)
                      have HN8 := Lib.hid (BlkL.new wX 31 [.int .i64 ((m : Int) + 1), .int .i64 (kk), .string (ByteArray.empty)])
                      rw [hgN] at HN8
                      have HM8 := Lib.hid (HM2.out.below hbN)
                      have HX8 := Lib.hid (HX.out.below hbN HX.out.lt)
                      have HB8 := Lib.hid (HBX.out.trans (hbN.mono HBX.out.size))
                      obtain ⟨qO, qP, qW⟩ : gO < gN ∧ gP < gN ∧ gW < gN := by rw [← hgN]; exact HM2.out.lts
                      change Code.wp _ _ _ _ (wX.alloc (.cells #[.int .i64 ((m : Int) + 1), .int .i64 (kk), .string (ByteArray.empty)] 31))
                      generalize (wX.alloc (.cells #[.int .i64 ((m : Int) + 1), .int .i64 (kk), .string (ByteArray.empty)] 31)) = w8 at *
                      clear x0 x1 x2 xl p0 p1 p2 lO lP lW hbN HX HM2 HBX hszX hgN
                      have n0 : w8.cell? ⟨gN, 0, none⟩ = some (.int .i64 ((m : Int) + 1)) := (HN8.out.cell 0).trans rfl
                      have n1 : w8.cell? ⟨gN, 1, none⟩ = some (.int .i64 (kk)) := (HN8.out.cell 1).trans rfl
                      have n2 : w8.cell? ⟨gN, 2, none⟩ = some (.string (ByteArray.empty)) := (HN8.out.cell 2).trans rfl
                      have nl := HN8.out.lt
                      have hb9 := (Below.refl w8.heap.size w8).alloc (Nat.le_refl _) (.cells #[.int .i64 ((m : Int) + 1), .int .i64 (kk), .string (ByteArray.empty)] 31)
                      have HS := Lib.hid (BlkL.new w8 31 [.int .i64 ((m : Int) + 1), .int .i64 (kk), .string (ByteArray.empty)])
                      have HM9 := Lib.hid (HM8.out.below hb9)
                      have HX9 := Lib.hid (HX8.out.below hb9 HX8.out.lt)
                      have HN9 := Lib.hid (HN8.out.below hb9 HN8.out.lt)
                      have HB9 := Lib.hid (HB8.out.trans (hb9.mono HB8.out.size))
                      have hz9 : w1.heap.size ≤ (w8.alloc (.cells #[.int .i64 ((m : Int) + 1), .int .i64 (kk), .string (ByteArray.empty)] 31)).heap.size := HB9.out.size
                      have HXE := Lib.hid (show fl fn [(⟨(m : Int) + 1, kk, ByteArray.empty⟩ : Nd)] = ([.int .i64 ((m : Int) + 1), .int .i64 (kk), .string (ByteArray.empty)] : List Value) by simp [fl, fn])
                      have HONE := Lib.hid (show ∀ u ∈ ([.int .i64 ((m : Int) + 1), .int .i64 (kk), .string (ByteArray.empty)] : List Value), u.oneCell' = true by rw [← HXE.out]; exact fn_one _)
                      clear hb9
                      go_wp2_with (at_builtin; refine wpList_append_own_at _ rfl _ _ 25 rfl w1.heap.size 31 i0 (.agg #[.int .i64 0, .int .i64 0, .string ByteArray.empty]) 3 32 Tryz.underlying25 hi0 hz0 hz1 hz2 rfl (by decide) _ _ _ rfl HM9.out.out ⟨w8.heap.size, 0, none⟩ 1 1 [.int .i64 ((m : Int) + 1), .int .i64 (kk), .string (ByteArray.empty)] rfl rfl (fun j u hj => by rw [Addr.add_lit, Nat.zero_add]; exact (HS.out.cell j).trans hj) HONE.out (by simp only [maxLen]; omega) (by omega) hz9 ?_)
                      intro v' wA howA hgrA hnilA hatA
                      obtain ⟨gO2, cO2, rfl⟩ := own_some howA hnilA
                      rw [← HXE.out] at howA
                      have HMA := Lib.hid (HM9.out.app hgrA _ x.a howA htl HOK.out.len)
                      have HNA := Lib.hid (HN9.out.grown hgrA (by intro e; have e2 : gN = gO := Option.some.inj e; omega))
                      have HXA := Lib.hid (HX9.out.grown hgrA (fun e => fo_blk HM9.out.out HX9.out (by decide) e.symm))
                      have HBA := Lib.hid (HB9.out.grown hgrA hz9 (fun g hg => (HM9.out.out.lt g hg).1))
                      clear howA hgrA hnilA hatA n0 n1 n2 nl HS HM8 HM9 HX8 HX9 HN8 HN9 HB8 HB9 hz9 HXE HONE
                      have n1 : wA.cell? ⟨gN, 1, none⟩ = some (.int .i64 (kk)) := (HNA.out.cell 1).trans rfl
                      have nl := HNA.out.lt
                      have x2 : wA.cell? ⟨gX, 2, none⟩ = some (.int .i64 x.a) := (HXA.out.cell 2).trans rfl
                      have xl := HXA.out.lt
                      have hzA : w1.heap.size ≤ wA.heap.size := HBA.out.size
                      have HST := Lib.hid (show stepZ ⟨l, q, t + 1⟩ x = .ok ⟨l ++ [(⟨(m : Int) + 1, kk, ByteArray.empty⟩ : Nd)], q ++ [x.a], l.length + 1⟩ by
                        unfold stepZ
                        dsimp only
                        rw [if_neg h4, if_neg (by rintro ⟨h, _⟩; exact h2 h), if_neg (by have := HAL.out; omega), HND.out, if_pos hkk3])
                      have HPR := Lib.hid (show par (l ++ [(⟨(m : Int) + 1, kk, ByteArray.empty⟩ : Nd)]) l.length = t + 1 from HOK.out.par_new (n := (⟨(m : Int) + 1, kk, ByteArray.empty⟩ : Nd)) (by show (m : Int) + 1 = dep l (t + 1) + 1; have hd : dep l (t + 1) + 1 = (m : Int) + 1 := (by have := HAL.out; omega); omega))
                      have HB0 := (Below.refl wA.heap.size wA).alloc (Nat.le_refl _) (.cells #[.int .i64 (l.length : Int)] 3)
                      have HOP := Lib.hid (own_below (HMA.out.open_ htl HN.out) HB0)
                      have HMB := Lib.hid (HMA.out.below HB0)
                      have HXB := Lib.hid (HXA.out.below HB0 HXA.out.lt)
                      have HBB := Lib.hid (HBA.out.trans (HB0.mono HBA.out.size))
                      have hzB : w1.heap.size ≤ (wA.alloc (.cells #[.int .i64 (l.length : Int)] 3)).heap.size := HBB.out.size
                      clear HB0
                      go_wp2_with (at_builtin; refine wpList_append_own_at _ rfl _ _ 37 rfl w1.heap.size 3 j0 (.int .i64 0) 1 8 Tryz.underlying37 hj0 hy0 hy1 hy2 rfl (by decide) _ _ _ rfl HOP.out ⟨wA.heap.size, 0, none⟩ 1 1 [.int .i64 (l.length : Int)] rfl rfl (cell_one_new _ _ _) (by simp [Value.oneCell']) (by simp only [maxLen]; omega) (by omega) hzB ?_)
                      intro v2 wC howC hgrC hnilC hatC
                      obtain ⟨gP2, cP2, rfl⟩ := own_some howC hnilC
                      have HBC0 := (Below.refl wC.heap.size wC).alloc (Nat.le_refl _) (.cells #[.int .i64 x.a] 3)
                      have HOW := Lib.hid (HMB.out.where_ htl HN.out hgrC HBC0)
                      have HXC := Lib.hid (HXB.out.grown hgrC (fun e => fo_blk (HMB.out.open_ htl HN.out) HXB.out (by decide) e.symm))
                      have HBC := Lib.hid ((HBB.out.grown hgrC hzB (fun g hg => (HOP.out.lt g hg).1)).trans (HBC0.mono (HBB.out.grown hgrC hzB (fun g hg => (HOP.out.lt g hg).1)).size))
                      have HGC := Lib.hid hgrC
                      have HHC := Lib.hid howC
                      have HTC := Lib.hid hatC
                      have HC0 := Lib.hid HBC0
                      have hzC : w1.heap.size ≤ (wC.alloc (.cells #[.int .i64 x.a] 3)).heap.size := HBC.out.size
                      clear howC hgrC hnilC hatC HBC0 x2 xl n1 nl HXB HXA HNA HBA HBB
                      have x2 : wC.cell? ⟨gX, 2, none⟩ = some (.int .i64 x.a) := (HXC.out.cell 2).trans rfl
                      have xl := HXC.out.lt
                      go_wp2_with (at_builtin; refine wpList_append_own_at _ rfl _ _ 37 rfl w1.heap.size 3 j0 (.int .i64 0) 1 8 Tryz.underlying37 hj0 hy0 hy1 hy2 rfl (by decide) _ _ _ rfl HOW.out ⟨wC.heap.size, 0, none⟩ 1 1 [.int .i64 x.a] rfl rfl (cell_one_new _ _ _) (by simp [Value.oneCell']) (by simp only [maxLen]; omega) (by omega) hzC ?_)
                      intro v3 wD howD hgrD hnilD hatD
                      obtain ⟨gW2, cW2, rfl⟩ := own_some howD hnilD
                      have HMD := Lib.hid (HMB.out.pushN htl HOK.out.len HN.out HPR.out HGC.out HHC.out (HTC.out.imp_right fun e => e.trans (by simp)) HC0.out hgrD howD (hatD.imp_right fun e => e.trans (by simp)))
                      have HBD := Lib.hid (HBC.out.grown hgrD hzC (fun g hg => (HOW.out.lt g hg).1))
                      have HNN := Lib.hid (show m + 1 + 1 = (anc (l ++ [(⟨(m : Int) + 1, kk, ByteArray.empty⟩ : Nd)]) (l.length + 1)).length by rw [anc_new htl HPR.out, ← HN.out])
                      have HREL := Lib.hid (show PzOk ⟨l ++ [(⟨(m : Int) + 1, kk, ByteArray.empty⟩ : Nd)], q ++ [x.a], l.length + 1⟩ ∧ runZ (xs.drop (j + 1)) ⟨l ++ [(⟨(m : Int) + 1, kk, ByteArray.empty⟩ : Nd)], q ++ [x.a], l.length + 1⟩ = R from ⟨stepZ_ok HOK.out HD.out HST.out, by rw [← HRN.out, runZ_cons HST.out]⟩)
                      clear howD hgrD hnilD hatD HOK HRN HST HMA HMB HOP HOW HGC HHC HTC HC0 HBC HXC x2 xl hzC
                      go_wp2_with fail
                      go_roundw
                      · exact ⟨j + 1, l ++ [(⟨(m : Int) + 1, kk, ByteArray.empty⟩ : Nd)], q ++ [x.a], l.length + 1, m + 1 + 1, _, _, _, _, _, _, by omega, by simp, by rw [List.length_append]; rfl, rfl, rfl, HNN.out, HMD.out, HREL.out.1, HREL.out.2, by simp; omega, HBD.out⟩
                      · simp only [intOf]
                        omega
                  · have hx3b : (x.k == 3) = false := by simp [hx3]
                    by_cases hx5 : x.k = 5
                    · have hx5b : (x.k == 5) = true := by simp [hx5]
                      as_aux_lemma =>
                        have HND := Lib.hid (show ndX x (dep l (t + 1) + 1) = ⟨(m : Int) + 1, 6, ByteArray.empty⟩ by
                          have hd : dep l (t + 1) + 1 = (m : Int) + 1 := by have := HAL.out; omega
                          unfold ndX
                          rw [if_neg hx3, if_pos hx5, hd]
                        )
                        go_upto_region 29 with (fail)
                        obtain ⟨gN, hgN⟩ : ∃ g, wX.heap.size = g := ⟨_, rfl⟩
                        rw [hgN]
                        have hbN := (Below.refl wX.heap.size wX).alloc (Nat.le_refl _) (.cells #[.int .i64 ((m : Int) + 1), .int .i64 (6), .string (ByteArray.empty)] 31)
                        have HN8 := Lib.hid (BlkL.new wX 31 [.int .i64 ((m : Int) + 1), .int .i64 (6), .string (ByteArray.empty)])
                        rw [hgN] at HN8
                        have HM8 := Lib.hid (HM2.out.below hbN)
                        have HX8 := Lib.hid (HX.out.below hbN HX.out.lt)
                        have HB8 := Lib.hid (HBX.out.trans (hbN.mono HBX.out.size))
                        obtain ⟨qO, qP, qW⟩ : gO < gN ∧ gP < gN ∧ gW < gN := by rw [← hgN]; exact HM2.out.lts
                        change Code.wp _ _ _ _ (wX.alloc (.cells #[.int .i64 ((m : Int) + 1), .int .i64 (6), .string (ByteArray.empty)] 31))
                        generalize (wX.alloc (.cells #[.int .i64 ((m : Int) + 1), .int .i64 (6), .string (ByteArray.empty)] 31)) = w8 at *
                        clear x0 x1 x2 xl p0 p1 p2 lO lP lW hbN HX HM2 HBX hszX hgN
                        have n0 : w8.cell? ⟨gN, 0, none⟩ = some (.int .i64 ((m : Int) + 1)) := (HN8.out.cell 0).trans rfl
                        have n1 : w8.cell? ⟨gN, 1, none⟩ = some (.int .i64 (6)) := (HN8.out.cell 1).trans rfl
                        have n2 : w8.cell? ⟨gN, 2, none⟩ = some (.string (ByteArray.empty)) := (HN8.out.cell 2).trans rfl
                        have nl := HN8.out.lt
                        have hb9 := (Below.refl w8.heap.size w8).alloc (Nat.le_refl _) (.cells #[.int .i64 ((m : Int) + 1), .int .i64 (6), .string (ByteArray.empty)] 31)
                        have HS := Lib.hid (BlkL.new w8 31 [.int .i64 ((m : Int) + 1), .int .i64 (6), .string (ByteArray.empty)])
                        have HM9 := Lib.hid (HM8.out.below hb9)
                        have HX9 := Lib.hid (HX8.out.below hb9 HX8.out.lt)
                        have HN9 := Lib.hid (HN8.out.below hb9 HN8.out.lt)
                        have HB9 := Lib.hid (HB8.out.trans (hb9.mono HB8.out.size))
                        have hz9 : w1.heap.size ≤ (w8.alloc (.cells #[.int .i64 ((m : Int) + 1), .int .i64 (6), .string (ByteArray.empty)] 31)).heap.size := HB9.out.size
                        have HXE := Lib.hid (show fl fn [(⟨(m : Int) + 1, 6, ByteArray.empty⟩ : Nd)] = ([.int .i64 ((m : Int) + 1), .int .i64 (6), .string (ByteArray.empty)] : List Value) by simp [fl, fn])
                        have HONE := Lib.hid (show ∀ u ∈ ([.int .i64 ((m : Int) + 1), .int .i64 (6), .string (ByteArray.empty)] : List Value), u.oneCell' = true by rw [← HXE.out]; exact fn_one _)
                        clear hb9
                        go_wp2_with (at_builtin; refine wpList_append_own_at _ rfl _ _ 25 rfl w1.heap.size 31 i0 (.agg #[.int .i64 0, .int .i64 0, .string ByteArray.empty]) 3 32 Tryz.underlying25 hi0 hz0 hz1 hz2 rfl (by decide) _ _ _ rfl HM9.out.out ⟨w8.heap.size, 0, none⟩ 1 1 [.int .i64 ((m : Int) + 1), .int .i64 (6), .string (ByteArray.empty)] rfl rfl (fun j u hj => by rw [Addr.add_lit, Nat.zero_add]; exact (HS.out.cell j).trans hj) HONE.out (by simp only [maxLen]; omega) (by omega) hz9 ?_)
                        intro v' wA howA hgrA hnilA hatA
                        obtain ⟨gO2, cO2, rfl⟩ := own_some howA hnilA
                        rw [← HXE.out] at howA
                        have HMA := Lib.hid (HM9.out.app hgrA _ x.a howA htl HOK.out.len)
                        have HNA := Lib.hid (HN9.out.grown hgrA (by intro e; have e2 : gN = gO := Option.some.inj e; omega))
                        have HXA := Lib.hid (HX9.out.grown hgrA (fun e => fo_blk HM9.out.out HX9.out (by decide) e.symm))
                        have HBA := Lib.hid (HB9.out.grown hgrA hz9 (fun g hg => (HM9.out.out.lt g hg).1))
                        clear howA hgrA hnilA hatA n0 n1 n2 nl HS HM8 HM9 HX8 HX9 HN8 HN9 HB8 HB9 hz9 HXE HONE
                        have n1 : wA.cell? ⟨gN, 1, none⟩ = some (.int .i64 (6)) := (HNA.out.cell 1).trans rfl
                        have nl := HNA.out.lt
                        have x2 : wA.cell? ⟨gX, 2, none⟩ = some (.int .i64 x.a) := (HXA.out.cell 2).trans rfl
                        have xl := HXA.out.lt
                        have hzA : w1.heap.size ≤ wA.heap.size := HBA.out.size
                        have HST := Lib.hid (show stepZ ⟨l, q, t + 1⟩ x = .ok ⟨l ++ [(⟨(m : Int) + 1, 6, ByteArray.empty⟩ : Nd)], q ++ [x.a], l.length + 1⟩ by
                          unfold stepZ
                          dsimp only
                          rw [if_neg h4, if_neg (by rintro ⟨h, _⟩; exact h2 h), if_neg (by have := HAL.out; omega), HND.out, if_pos (by show (3 : Int) ≤ 6; decide)])
                        have HPR := Lib.hid (show par (l ++ [(⟨(m : Int) + 1, 6, ByteArray.empty⟩ : Nd)]) l.length = t + 1 from HOK.out.par_new (n := (⟨(m : Int) + 1, 6, ByteArray.empty⟩ : Nd)) (by show (m : Int) + 1 = dep l (t + 1) + 1; have hd : dep l (t + 1) + 1 = (m : Int) + 1 := (by have := HAL.out; omega); omega))
                        have HB0 := (Below.refl wA.heap.size wA).alloc (Nat.le_refl _) (.cells #[.int .i64 (l.length : Int)] 3)
                        have HOP := Lib.hid (own_below (HMA.out.open_ htl HN.out) HB0)
                        have HMB := Lib.hid (HMA.out.below HB0)
                        have HXB := Lib.hid (HXA.out.below HB0 HXA.out.lt)
                        have HBB := Lib.hid (HBA.out.trans (HB0.mono HBA.out.size))
                        have hzB : w1.heap.size ≤ (wA.alloc (.cells #[.int .i64 (l.length : Int)] 3)).heap.size := HBB.out.size
                        clear HB0
                        go_wp2_with (at_builtin; refine wpList_append_own_at _ rfl _ _ 37 rfl w1.heap.size 3 j0 (.int .i64 0) 1 8 Tryz.underlying37 hj0 hy0 hy1 hy2 rfl (by decide) _ _ _ rfl HOP.out ⟨wA.heap.size, 0, none⟩ 1 1 [.int .i64 (l.length : Int)] rfl rfl (cell_one_new _ _ _) (by simp [Value.oneCell']) (by simp only [maxLen]; omega) (by omega) hzB ?_)
                        intro v2 wC howC hgrC hnilC hatC
                        obtain ⟨gP2, cP2, rfl⟩ := own_some howC hnilC
                        have HBC0 := (Below.refl wC.heap.size wC).alloc (Nat.le_refl _) (.cells #[.int .i64 x.a] 3)
                        have HOW := Lib.hid (HMB.out.where_ htl HN.out hgrC HBC0)
                        have HXC := Lib.hid (HXB.out.grown hgrC (fun e => fo_blk (HMB.out.open_ htl HN.out) HXB.out (by decide) e.symm))
                        have HBC := Lib.hid ((HBB.out.grown hgrC hzB (fun g hg => (HOP.out.lt g hg).1)).trans (HBC0.mono (HBB.out.grown hgrC hzB (fun g hg => (HOP.out.lt g hg).1)).size))
                        have HGC := Lib.hid hgrC
                        have HHC := Lib.hid howC
                        have HTC := Lib.hid hatC
                        have HC0 := Lib.hid HBC0
                        have hzC : w1.heap.size ≤ (wC.alloc (.cells #[.int .i64 x.a] 3)).heap.size := HBC.out.size
                        clear howC hgrC hnilC hatC HBC0 x2 xl n1 nl HXB HXA HNA HBA HBB
                        have x2 : wC.cell? ⟨gX, 2, none⟩ = some (.int .i64 x.a) := (HXC.out.cell 2).trans rfl
                        have xl := HXC.out.lt
                        go_wp2_with (at_builtin; refine wpList_append_own_at _ rfl _ _ 37 rfl w1.heap.size 3 j0 (.int .i64 0) 1 8 Tryz.underlying37 hj0 hy0 hy1 hy2 rfl (by decide) _ _ _ rfl HOW.out ⟨wC.heap.size, 0, none⟩ 1 1 [.int .i64 x.a] rfl rfl (cell_one_new _ _ _) (by simp [Value.oneCell']) (by simp only [maxLen]; omega) (by omega) hzC ?_)
                        intro v3 wD howD hgrD hnilD hatD
                        obtain ⟨gW2, cW2, rfl⟩ := own_some howD hnilD
                        have HMD := Lib.hid (HMB.out.pushN htl HOK.out.len HN.out HPR.out HGC.out HHC.out (HTC.out.imp_right fun e => e.trans (by simp)) HC0.out hgrD howD (hatD.imp_right fun e => e.trans (by simp)))
                        have HBD := Lib.hid (HBC.out.grown hgrD hzC (fun g hg => (HOW.out.lt g hg).1))
                        have HNN := Lib.hid (show m + 1 + 1 = (anc (l ++ [(⟨(m : Int) + 1, 6, ByteArray.empty⟩ : Nd)]) (l.length + 1)).length by rw [anc_new htl HPR.out, ← HN.out])
                        have HREL := Lib.hid (show PzOk ⟨l ++ [(⟨(m : Int) + 1, 6, ByteArray.empty⟩ : Nd)], q ++ [x.a], l.length + 1⟩ ∧ runZ (xs.drop (j + 1)) ⟨l ++ [(⟨(m : Int) + 1, 6, ByteArray.empty⟩ : Nd)], q ++ [x.a], l.length + 1⟩ = R from ⟨stepZ_ok HOK.out HD.out HST.out, by rw [← HRN.out, runZ_cons HST.out]⟩)
                        clear howD hgrD hnilD hatD HOK HRN HST HMA HMB HOP HOW HGC HHC HTC HC0 HBC HXC x2 xl hzC
                        go_wp2_with fail
                        go_roundw
                        · exact ⟨j + 1, l ++ [(⟨(m : Int) + 1, 6, ByteArray.empty⟩ : Nd)], q ++ [x.a], l.length + 1, m + 1 + 1, _, _, _, _, _, _, by omega, by simp, by rw [List.length_append]; rfl, rfl, rfl, HNN.out, HMD.out, HREL.out.1, HREL.out.2, by simp; omega, HBD.out⟩
                        · simp only [intOf]
                          omega
                    · have hx5b : (x.k == 5) = false := by simp [hx5]
                      as_aux_lemma =>
                        have hk0 : decide (3 ≤ x.k) = false := by have := HD.out.kind; have := kdI_bd (bt x.s 0); simp; omega
                        have HND := Lib.hid (show ndX x (dep l (t + 1) + 1) = ⟨(m : Int) + 1, x.k, x.s⟩ by
                          have hd : dep l (t + 1) + 1 = (m : Int) + 1 := by have := HAL.out; omega
                          unfold ndX
                          rw [if_neg hx3, if_neg hx5, hd]
                        )
                        go_upto_region 29 with (fail)
                        obtain ⟨gN, hgN⟩ : ∃ g, wX.heap.size = g := ⟨_, rfl⟩
                        rw [hgN]
                        have hbN := (Below.refl wX.heap.size wX).alloc (Nat.le_refl _) (.cells #[.int .i64 ((m : Int) + 1), .int .i64 (x.k), .string (x.s)] 31)
                        have HN8 := Lib.hid (BlkL.new wX 31 [.int .i64 ((m : Int) + 1), .int .i64 (x.k), .string (x.s)])
                        rw [hgN] at HN8
                        have HM8 := Lib.hid (HM2.out.below hbN)
                        have HX8 := Lib.hid (HX.out.below hbN HX.out.lt)
                        have HB8 := Lib.hid (HBX.out.trans (hbN.mono HBX.out.size))
                        obtain ⟨qO, qP, qW⟩ : gO < gN ∧ gP < gN ∧ gW < gN := by rw [← hgN]; exact HM2.out.lts
                        change Code.wp _ _ _ _ (wX.alloc (.cells #[.int .i64 ((m : Int) + 1), .int .i64 (x.k), .string (x.s)] 31))
                        generalize (wX.alloc (.cells #[.int .i64 ((m : Int) + 1), .int .i64 (x.k), .string (x.s)] 31)) = w8 at *
                        clear x0 x1 x2 xl p0 p1 p2 lO lP lW hbN HX HM2 HBX hszX hgN
                        have n0 : w8.cell? ⟨gN, 0, none⟩ = some (.int .i64 ((m : Int) + 1)) := (HN8.out.cell 0).trans rfl
                        have n1 : w8.cell? ⟨gN, 1, none⟩ = some (.int .i64 (x.k)) := (HN8.out.cell 1).trans rfl
                        have n2 : w8.cell? ⟨gN, 2, none⟩ = some (.string (x.s)) := (HN8.out.cell 2).trans rfl
                        have nl := HN8.out.lt
                        have hb9 := (Below.refl w8.heap.size w8).alloc (Nat.le_refl _) (.cells #[.int .i64 ((m : Int) + 1), .int .i64 (x.k), .string (x.s)] 31)
                        have HS := Lib.hid (BlkL.new w8 31 [.int .i64 ((m : Int) + 1), .int .i64 (x.k), .string (x.s)])
                        have HM9 := Lib.hid (HM8.out.below hb9)
                        have HX9 := Lib.hid (HX8.out.below hb9 HX8.out.lt)
                        have HN9 := Lib.hid (HN8.out.below hb9 HN8.out.lt)
                        have HB9 := Lib.hid (HB8.out.trans (hb9.mono HB8.out.size))
                        have hz9 : w1.heap.size ≤ (w8.alloc (.cells #[.int .i64 ((m : Int) + 1), .int .i64 (x.k), .string (x.s)] 31)).heap.size := HB9.out.size
                        have HXE := Lib.hid (show fl fn [(⟨(m : Int) + 1, x.k, x.s⟩ : Nd)] = ([.int .i64 ((m : Int) + 1), .int .i64 (x.k), .string (x.s)] : List Value) by simp [fl, fn])
                        have HONE := Lib.hid (show ∀ u ∈ ([.int .i64 ((m : Int) + 1), .int .i64 (x.k), .string (x.s)] : List Value), u.oneCell' = true by rw [← HXE.out]; exact fn_one _)
                        clear hb9
                        go_wp2_with (at_builtin; refine wpList_append_own_at _ rfl _ _ 25 rfl w1.heap.size 31 i0 (.agg #[.int .i64 0, .int .i64 0, .string ByteArray.empty]) 3 32 Tryz.underlying25 hi0 hz0 hz1 hz2 rfl (by decide) _ _ _ rfl HM9.out.out ⟨w8.heap.size, 0, none⟩ 1 1 [.int .i64 ((m : Int) + 1), .int .i64 (x.k), .string (x.s)] rfl rfl (fun j u hj => by rw [Addr.add_lit, Nat.zero_add]; exact (HS.out.cell j).trans hj) HONE.out (by simp only [maxLen]; omega) (by omega) hz9 ?_)
                        intro v' wA howA hgrA hnilA hatA
                        obtain ⟨gO2, cO2, rfl⟩ := own_some howA hnilA
                        rw [← HXE.out] at howA
                        have HMA := Lib.hid (HM9.out.app hgrA _ x.a howA htl HOK.out.len)
                        have HNA := Lib.hid (HN9.out.grown hgrA (by intro e; have e2 : gN = gO := Option.some.inj e; omega))
                        have HXA := Lib.hid (HX9.out.grown hgrA (fun e => fo_blk HM9.out.out HX9.out (by decide) e.symm))
                        have HBA := Lib.hid (HB9.out.grown hgrA hz9 (fun g hg => (HM9.out.out.lt g hg).1))
                        clear howA hgrA hnilA hatA n0 n1 n2 nl HS HM8 HM9 HX8 HX9 HN8 HN9 HB8 HB9 hz9 HXE HONE
                        have n1 : wA.cell? ⟨gN, 1, none⟩ = some (.int .i64 (x.k)) := (HNA.out.cell 1).trans rfl
                        have nl := HNA.out.lt
                        have x2 : wA.cell? ⟨gX, 2, none⟩ = some (.int .i64 x.a) := (HXA.out.cell 2).trans rfl
                        have xl := HXA.out.lt
                        have hzA : w1.heap.size ≤ wA.heap.size := HBA.out.size
                        have HST := Lib.hid (show stepZ ⟨l, q, t + 1⟩ x = .ok ⟨l ++ [(⟨(m : Int) + 1, x.k, x.s⟩ : Nd)], q ++ [x.a], unq l (t + 1)⟩ by
                          unfold stepZ
                          dsimp only
                          rw [if_neg h4, if_neg (by rintro ⟨h, _⟩; exact h2 h), if_neg (by have := HAL.out; omega), HND.out, if_neg (by have := of_decide_eq_false hk0; exact this)])
                        have HREL := Lib.hid (show PzOk ⟨l ++ [(⟨(m : Int) + 1, x.k, x.s⟩ : Nd)], q ++ [x.a], unq (l ++ [(⟨(m : Int) + 1, x.k, x.s⟩ : Nd)]) (t + 1)⟩ ∧ runZ (xs.drop (j + 1)) ⟨l ++ [(⟨(m : Int) + 1, x.k, x.s⟩ : Nd)], q ++ [x.a], unq (l ++ [(⟨(m : Int) + 1, x.k, x.s⟩ : Nd)]) (t + 1)⟩ = R from by
                          rw [unq_app _ htl]
                          exact ⟨stepZ_ok HOK.out HD.out HST.out, by rw [← HRN.out, runZ_cons HST.out]⟩)
                        have HNN := Lib.hid (show m + 1 = (anc (l ++ [(⟨(m : Int) + 1, x.k, x.s⟩ : Nd)]) (t + 1)).length by rw [anc_app _ htl, ← HN.out])
                        have HLL := Lib.hid (show l.length + 1 = (l ++ [(⟨(m : Int) + 1, x.k, x.s⟩ : Nd)]).length by simp)
                        have hll : (l ++ [(⟨(m : Int) + 1, x.k, x.s⟩ : Nd)]).length = l.length + 1 := by simp
                        have htl2 : t + 1 ≤ (l ++ [(⟨(m : Int) + 1, x.k, x.s⟩ : Nd)]).length := by have := (show t + 1 ≤ l.length from htl); omega
                        clear HOK HRN HST HND HN
                        obtain ⟨l2, hl2⟩ : ∃ y, l ++ [(⟨(m : Int) + 1, x.k, x.s⟩ : Nd)] = y := ⟨_, rfl⟩
                        obtain ⟨q2, hq2⟩ : ∃ y, q ++ [x.a] = y := ⟨_, rfl⟩
                        rw [hl2] at HREL HNN HLL HMA hll htl2
                        rw [hq2] at HREL HMA
                        clear hl2 hq2
                        go_wp2_with fail
                        go_loopw [8, 9] (fun v8 v9 wv => ∃ (u n2 : Nat), v8 = .slice (some ⟨gP, 0, none⟩) n2 cP ∧ v9 = .slice (some ⟨gW, 0, none⟩) n2 cW ∧ n2 = (anc l2 u).length ∧ unq l2 u = unq l2 (t + 1) ∧ u ≤ l2.length ∧ Mz wA w1.heap.size l2 q2 u gO2 cO2 gP cP gW cW ∧ wv = wA) (fun v8 _ _ => match v8 with | .slice _ n _ => n | _ => 0)
                        case atStart => exact ⟨(t + 1), (m + 1), rfl, rfl, HNN.out, rfl, htl2, HMA.out, rfl⟩
                        case round =>
                          obtain ⟨u, n2, rfl, rfl, hn2, hun, hul, hmz, rfl⟩ := hrel
                          have HUN := Lib.hid hun
                          have HMZ := Lib.hid hmz
                          have HN2 := Lib.hid hn2
                          clear hun hmz hn2
                          cases u with
                          | zero =>
                            obtain rfl : n2 = 0 := by rw [HN2.out, anc_zero]; rfl
                            have HQ0 := Lib.hid (show unq l2 (t + 1) = 0 by rw [← HUN.out, unq_zero])
                            go_wp2_with fail
                            go_roundw
                            · rw [HQ0.out] at HREL
                              exact ⟨j + 1, l2, q2, 0, 0, _, _, _, _, _, _, by omega, by simp, by rw [HLL.out], rfl, rfl, by rw [anc_zero]; rfl, HMZ.out, HREL.out.1, HREL.out.2, by omega, HBA.out⟩
                            · simp only [intOf]
                              omega
                          | succ u =>
                            obtain ⟨s0, s1, s2⟩ := HMZ.out.top hul
                            obtain ⟨m2, hm2⟩ : ∃ m, (anc l2 (par l2 u)).length = m := ⟨_, rfl⟩
                            obtain rfl : n2 = m2 + 1 := by rw [← hm2, HN2.out, anc_len_succ]
                            rw [hm2] at s0 s2
                            have hal3 := anc_le l2 (u + 1)
                            rw [← HN2.out] at hal3
                            obtain ⟨b0, b1, b2⟩ := HMZ.out.lts
                            obtain ⟨kz1, kz2⟩ := HMZ.out.caps
                            rw [← HN2.out] at kz1 kz2
                            have HM3 := Lib.hid hm2
                            clear hm2
                            by_cases hk6 : knd l2 (u + 1) = 6
                            · have hk6b : (knd l2 (u + 1) == 6) = true := by simp [hk6]
                              have HK6 := Lib.hid hk6
                              clear hk6
                              go_wp2_with fail
                              go_roundw
                              · exact ⟨par l2 u, m2, rfl, rfl, HM3.out.symm, by rw [← HUN.out, unq_go HK6.out], by have := par_le l2 u; omega, HMZ.out.pop, trivial⟩
                              · simp
                            · have hk6b : (knd l2 (u + 1) == 6) = false := by simp [hk6]
                              have HQ0 := Lib.hid (show unq l2 (t + 1) = u + 1 by rw [← HUN.out, unq_stop hk6])
                              clear hk6
                              go_wp2_with fail
                              go_roundw
                              · rw [HQ0.out] at HREL
                                exact ⟨j + 1, l2, q2, u + 1, m2 + 1, _, _, _, _, _, _, by omega, by simp, by rw [HLL.out], rfl, rfl, HN2.out, HMZ.out, HREL.out.1, HREL.out.2, by omega, HBA.out⟩
                              · simp only [intOf]
                                omega
          · have hqb : (kd == 6) = false := by simp [hq]
            by_cases h4 : x.k = 4
            · have h4b : (x.k == 4) = true := by simp [h4]
              have hk3 : 3 ≤ kd ∧ kd ≤ 5 := by
                have hh := HOK.out.hold
                unfold hld at hh
                change (decide (knd l (t + 1) = -1) || inB (knd l (t + 1)) 3 6) = true at hh
                rw [HKD.out] at hh
                rcases Bool.or_eq_true_iff.1 hh with hh | hh
                · have := of_decide_eq_true hh
                  omega
                · have := inB_true.1 hh
                  omega
              have HS := Lib.hid (fun V => l07Shut_any kd hk3.1 hk3.2 V)
              have hsz1 := HD.out.pos
              have HBT := Lib.hid (bt_at (s := x.s) (i := 0) (by omega))
              have hm0 : ((m : Int) + 1 == 0) = false := by simp; omega
              have hidx : ∀ V : World, (Instr.index 9 (.string x.s) (.int .i64 0)).run Tryz.prog V = .ok (.int .u8 (x.s[0].toNat : Int)) V := idx_zero hsz1
              have c0 := Bw.rd p0
              have c1 := Bw.rd p1
              by_cases he : shI kd = (bt x.s 0 : Int)
              · have heb : (shI kd == (x.s[0].toNat : Int)) = true := by rw [← HBT.out]; simp [he]
                go_wp2_with fail
                have r2 := Bw.rd x2
                have r1 := Bw.rd x1
                refine wp_region_class (Bw wX) (by kernel_rfl) (by kernel_rfl) (Bw.start wX) (fun hne => ?_)
                repeat (go_big_quiet_step (fail))
                refine wpQuiet_step (fun K hK => ?_)
                go_simp
                refine ⟨.int .u8 (shI kd), fun y => calls_class y (Bw.keep wX) (same_below HS.out y.W), hK _ ?_⟩
                clear hK K
                repeat (go_big_quiet_step (fail))
                refine wpQuiet_nil ?_
                rintro w6 ⟨y, rfl⟩
                have HX6 := Lib.hid (HX.out.below y.ok HX.out.lt)
                have HBX6 := Lib.hid (HBX.out.trans (Below.mono y.ok HBX.out.size))
                have HM6 := Lib.hid (HM2.out.below y.ok)
                generalize y.W = w6 at *
                clear r1 r2 x0 x1 x2 xl hne HX HBX hszX HM2 p0 p1 p2 lO lP lW c0 c1
                have hszX : w1.heap.size ≤ w6.heap.size := HBX6.out.size
                have x0 : w6.cell? ⟨gX, 0, none⟩ = some (.int .i64 x.k) := (HX6.out.cell 0).trans rfl
                have x1 : w6.cell? ⟨gX, 1, none⟩ = some (.string x.s) := (HX6.out.cell 1).trans rfl
                have x2 : w6.cell? ⟨gX, 2, none⟩ = some (.int .i64 x.a) := (HX6.out.cell 2).trans rfl
                have xl := HX6.out.lt
                obtain ⟨p0, p1, p2⟩ := HM6.out.top htl
                obtain ⟨lO, lP, lW⟩ := HM6.out.lts
                rw [HMM.out] at p0 p2
                rw [HKD.out] at p1
                go_upto_region 15 with (fail)
                by_cases h5 : kd = 5
                · have h5b : (kd == 5) = true := by simp [h5]
                  have hmt := HMM.out
                  have HKI := Lib.hid (show Calls Tryz.prog 31 #[.slice (some ⟨gO, 0, none⟩) l.length cO, .int .i64 (t : Int)] w6 (PcOut w6 (kidsN l (t + 1) l.length)) from by
                    have := l07Kids_any (some ⟨gO, 0, none⟩) l l.length cO (t + 1) w6 rfl (by omega) (RS.of_own fn_len rfl HM6.out.out) HOK.out.up htl
                    rw [show (((t + 1 : Nat) : Int) - 1) = (t : Int) by omega] at this
                    exact this)
                  go_wp2_with fail
                  refine HKI.out.mono ?_
                  rintro e w7 ⟨v, rfl, ho, hb7⟩
                  obtain ⟨A3, c3, rfl⟩ := own_slice ho
                  have hlen := kidsN_len l (t + 1) l.length
                  have hpl := plainN_le l (kidsN l (t + 1) l.length)
                  have HM7 := Lib.hid (HM6.out.below hb7)
                  have HX7 := Lib.hid (HX6.out.below hb7 HX6.out.lt)
                  have HBX7 := Lib.hid (HBX6.out.trans (hb7.mono HBX6.out.size))
                  have HPL := Lib.hid (l07Plain_any (some ⟨gO, 0, none⟩) l l.length cO A3 (kidsN l (t + 1) l.length) _ _ c3 w7 rfl (by omega) (RS.of_own fn_len rfl HM7.out.out) (fun x hx => (kidsN_mem hx).1) (by omega) rfl ho)
                  obtain ⟨p, hp1⟩ : ∃ p, plainN l (kidsN l (t + 1) l.length) = p := ⟨_, rfl⟩
                  rw [hp1] at hpl HPL
                  have HWH := Lib.hid (show whl l (t + 1) l.length = decide (p % 2 = 0) by unfold whl; rw [if_neg (by rw [HKD.out]; exact hq), if_pos (by rw [HKD.out]; exact h5), hp1])
                  have hmod : (p : Int).tmod 2 = ((p % 2 : Nat) : Int) := (Int.ofNat_tmod p 2).symm
                  clear ho hb7 hp1 x0 x1 x2 xl p0 p1 p2 lO lP lW HM6 HX6 HBX6 hszX HKI
                  have x0 : w7.cell? ⟨gX, 0, none⟩ = some (.int .i64 x.k) := (HX7.out.cell 0).trans rfl
                  have x2 : w7.cell? ⟨gX, 2, none⟩ = some (.int .i64 x.a) := (HX7.out.cell 2).trans rfl
                  have xl := HX7.out.lt
                  obtain ⟨kc1, kc2⟩ := HM7.out.caps
                  rw [← HN.out] at kc1 kc2
                  by_cases e2 : p % 2 = 0
                  · have HST := Lib.hid (show stepZ ⟨l, q, t + 1⟩ x = .ok ⟨l, q, unq l (par l t)⟩ by
                      unfold stepZ
                      rw [if_pos h4, if_pos (by rw [HKD.out]; exact he), if_pos (by show whl l (t + 1) l.length = true; rw [HWH.out]; simp [e2])]
                      rfl)
                    rw [e2] at hmod
                    go_wp2_with fail
                    refine HPL.out.mono ?_
                    rintro e w8 ⟨rfl, rfl⟩
                    as_aux_lemma =>
                      go_wp2_with fail
                      have HREL := Lib.hid (show PzOk ⟨l, q, unq l (par l t)⟩ ∧ runZ (xs.drop (j + 1)) ⟨l, q, unq l (par l t)⟩ = R from ⟨stepZ_ok HOK.out HD.out HST.out, by rw [← HRN.out, runZ_cons HST.out]⟩)
                      clear HOK HRN HST
                      go_loopw [8, 9] (fun v8 v9 wv => ∃ (u n2 : Nat), v8 = .slice (some ⟨gP, 0, none⟩) n2 cP ∧ v9 = .slice (some ⟨gW, 0, none⟩) n2 cW ∧ n2 = (anc l u).length ∧ unq l u = unq l (par l t) ∧ u ≤ l.length ∧ Mz w7 w1.heap.size l q u gO cO gP cP gW cW ∧ wv = w7) (fun v8 _ _ => match v8 with | .slice _ n _ => n | _ => 0)
                      case atStart => exact ⟨(par l t), m, rfl, rfl, hmt.symm, rfl, (by have := par_le l t; omega), HM7.out.pop, rfl⟩
                      case round =>
                        obtain ⟨u, n2, rfl, rfl, hn2, hun, hul, hmz, rfl⟩ := hrel
                        have HUN := Lib.hid hun
                        have HMZ := Lib.hid hmz
                        have HN2 := Lib.hid hn2
                        clear hun hmz hn2
                        cases u with
                        | zero =>
                          obtain rfl : n2 = 0 := by rw [HN2.out, anc_zero]; rfl
                          have HQ0 := Lib.hid (show unq l (par l t) = 0 by rw [← HUN.out, unq_zero])
                          go_wp2_with fail
                          go_roundw
                          · rw [HQ0.out] at HREL
                            exact ⟨j + 1, l, q, 0, 0, _, _, _, _, _, _, by omega, by simp, rfl, rfl, rfl, by rw [anc_zero]; rfl, HMZ.out, HREL.out.1, HREL.out.2, by omega, HBX7.out⟩
                          · simp only [intOf]
                            omega
                        | succ u =>
                          obtain ⟨s0, s1, s2⟩ := HMZ.out.top hul
                          obtain ⟨m2, hm2⟩ : ∃ m, (anc l (par l u)).length = m := ⟨_, rfl⟩
                          obtain rfl : n2 = m2 + 1 := by rw [← hm2, HN2.out, anc_len_succ]
                          rw [hm2] at s0 s2
                          have hal3 := anc_le l (u + 1)
                          rw [← HN2.out] at hal3
                          obtain ⟨b0, b1, b2⟩ := HMZ.out.lts
                          obtain ⟨kz1, kz2⟩ := HMZ.out.caps
                          rw [← HN2.out] at kz1 kz2
                          have HM3 := Lib.hid hm2
                          clear hm2
                          by_cases hk6 : knd l (u + 1) = 6
                          · have hk6b : (knd l (u + 1) == 6) = true := by simp [hk6]
                            have HK6 := Lib.hid hk6
                            clear hk6
                            go_wp2_with fail
                            go_roundw
                            · exact ⟨par l u, m2, rfl, rfl, HM3.out.symm, by rw [← HUN.out, unq_go HK6.out], by have := par_le l u; omega, HMZ.out.pop, trivial⟩
                            · simp
                          · have hk6b : (knd l (u + 1) == 6) = false := by simp [hk6]
                            have HQ0 := Lib.hid (show unq l (par l t) = u + 1 by rw [← HUN.out, unq_stop hk6])
                            clear hk6
                            go_wp2_with fail
                            go_roundw
                            · rw [HQ0.out] at HREL
                              exact ⟨j + 1, l, q, u + 1, m2 + 1, _, _, _, _, _, _, by omega, by simp, rfl, rfl, rfl, HN2.out, HMZ.out, HREL.out.1, HREL.out.2, by omega, HBX7.out⟩
                            · simp only [intOf]
                              omega
                  · have e3 : p % 2 = 1 := by omega
                    rw [e3] at hmod
                    have HW5 := Lib.hid (show ¬ whl l (t + 1) l.length = true by rw [HWH.out]; simp [e2])
                    go_wp2_with fail
                    refine HPL.out.mono ?_
                    rintro e w8 ⟨rfl, rfl⟩
                    as_aux_lemma =>
                      have HST := Lib.hid (show stepZ ⟨l, q, t + 1⟩ x = .error (5, x.a) by
                        unfold stepZ
                        rw [if_pos h4, if_pos (by rw [HKD.out]; exact he), if_neg HW5.out]
                      )
                      go_wp2_with fail
                      have r2 := Bw.rd x2
                      refine wp_region_class (Bw w7) (by kernel_rfl) (by kernel_rfl) (Bw.start w7) (fun hne => ?_)
                      repeat (go_big_quiet_step (fail))
                      refine wpQuiet_nil ?_
                      rintro w5 ⟨y, rfl⟩
                      have HB5 := Lib.hid (HB1.out.trans ((HBX7.out.trans (Below.mono y.ok HBX7.out.size)).mono HB1.out.size))
                      generalize y.W = w5 at *
                      clear r2 hne
                      go_wp2_with fail
                      refine bodyPost_ret (v := .tuple #[.slice none 0 0, .int .i64 5, .int .i64 x.a]) (by simp [results, Tryz.results7, go_sem]) rfl (PtP.err ?_ HB5.out)
                      rw [HZ.out, ← HRN.out, runZ_bad HST.out]
                      rfl
                · have h5b : (kd == 5) = false := by simp [h5]
                  have HST := Lib.hid (show stepZ ⟨l, q, t + 1⟩ x = .ok ⟨l, q, unq l (par l t)⟩ by
                    unfold stepZ
                    rw [if_pos h4, if_pos (by rw [HKD.out]; exact he), if_pos (by show whl l (t + 1) l.length = true; unfold whl; rw [if_neg (by rw [HKD.out]; exact hq), if_neg (by rw [HKD.out]; exact h5)])]
                    rfl)
                  obtain ⟨kc1, kc2⟩ := HM6.out.caps
                  rw [← HN.out] at kc1 kc2
                  have hmt := HMM.out
                  as_aux_lemma =>
                    go_wp2_with fail
                    have HREL := Lib.hid (show PzOk ⟨l, q, unq l (par l t)⟩ ∧ runZ (xs.drop (j + 1)) ⟨l, q, unq l (par l t)⟩ = R from ⟨stepZ_ok HOK.out HD.out HST.out, by rw [← HRN.out, runZ_cons HST.out]⟩)
                    clear HOK HRN HST
                    go_loopw [8, 9] (fun v8 v9 wv => ∃ (u n2 : Nat), v8 = .slice (some ⟨gP, 0, none⟩) n2 cP ∧ v9 = .slice (some ⟨gW, 0, none⟩) n2 cW ∧ n2 = (anc l u).length ∧ unq l u = unq l (par l t) ∧ u ≤ l.length ∧ Mz w6 w1.heap.size l q u gO cO gP cP gW cW ∧ wv = w6) (fun v8 _ _ => match v8 with | .slice _ n _ => n | _ => 0)
                    case atStart => exact ⟨(par l t), m, rfl, rfl, hmt.symm, rfl, (by have := par_le l t; omega), HM6.out.pop, rfl⟩
                    case round =>
                      obtain ⟨u, n2, rfl, rfl, hn2, hun, hul, hmz, rfl⟩ := hrel
                      have HUN := Lib.hid hun
                      have HMZ := Lib.hid hmz
                      have HN2 := Lib.hid hn2
                      clear hun hmz hn2
                      cases u with
                      | zero =>
                        obtain rfl : n2 = 0 := by rw [HN2.out, anc_zero]; rfl
                        have HQ0 := Lib.hid (show unq l (par l t) = 0 by rw [← HUN.out, unq_zero])
                        go_wp2_with fail
                        go_roundw
                        · rw [HQ0.out] at HREL
                          exact ⟨j + 1, l, q, 0, 0, _, _, _, _, _, _, by omega, by simp, rfl, rfl, rfl, by rw [anc_zero]; rfl, HMZ.out, HREL.out.1, HREL.out.2, by omega, HBX6.out⟩
                        · simp only [intOf]
                          omega
                      | succ u =>
                        obtain ⟨s0, s1, s2⟩ := HMZ.out.top hul
                        obtain ⟨m2, hm2⟩ : ∃ m, (anc l (par l u)).length = m := ⟨_, rfl⟩
                        obtain rfl : n2 = m2 + 1 := by rw [← hm2, HN2.out, anc_len_succ]
                        rw [hm2] at s0 s2
                        have hal3 := anc_le l (u + 1)
                        rw [← HN2.out] at hal3
                        obtain ⟨b0, b1, b2⟩ := HMZ.out.lts
                        obtain ⟨kz1, kz2⟩ := HMZ.out.caps
                        rw [← HN2.out] at kz1 kz2
                        have HM3 := Lib.hid hm2
                        clear hm2
                        by_cases hk6 : knd l (u + 1) = 6
                        · have hk6b : (knd l (u + 1) == 6) = true := by simp [hk6]
                          have HK6 := Lib.hid hk6
                          clear hk6
                          go_wp2_with fail
                          go_roundw
                          · exact ⟨par l u, m2, rfl, rfl, HM3.out.symm, by rw [← HUN.out, unq_go HK6.out], by have := par_le l u; omega, HMZ.out.pop, trivial⟩
                          · simp
                        · have hk6b : (knd l (u + 1) == 6) = false := by simp [hk6]
                          have HQ0 := Lib.hid (show unq l (par l t) = u + 1 by rw [← HUN.out, unq_stop hk6])
                          clear hk6
                          go_wp2_with fail
                          go_roundw
                          · rw [HQ0.out] at HREL
                            exact ⟨j + 1, l, q, u + 1, m2 + 1, _, _, _, _, _, _, by omega, by simp, rfl, rfl, rfl, HN2.out, HMZ.out, HREL.out.1, HREL.out.2, by omega, HBX6.out⟩
                          · simp only [intOf]
                            omega
              · have heb : (shI kd == (x.s[0].toNat : Int)) = false := by rw [← HBT.out]; simp [he]
                as_aux_lemma =>
                  go_wp2_with fail
                  have r2 := Bw.rd x2
                  have r1 := Bw.rd x1
                  refine wp_region_class (Bw wX) (by kernel_rfl) (by kernel_rfl) (Bw.start wX) (fun hne => ?_)
                  repeat (go_big_quiet_step (fail))
                  refine wpQuiet_step (fun K hK => ?_)
                  go_simp
                  refine ⟨.int .u8 (shI kd), fun y => calls_class y (Bw.keep wX) (same_below HS.out y.W), hK _ ?_⟩
                  clear hK K
                  repeat (go_big_quiet_step (fail))
                  refine wpQuiet_nil ?_
                  rintro w6 ⟨y, rfl⟩
                  have HX6 := Lib.hid (HX.out.below y.ok HX.out.lt)
                  have HBX6 := Lib.hid (HBX.out.trans (Below.mono y.ok HBX.out.size))
                  have HM6 := Lib.hid (HM2.out.below y.ok)
                  generalize y.W = w6 at *
                  clear r1 r2 x0 x1 x2 xl hne HX HBX hszX HM2 p0 p1 p2 lO lP lW c0 c1
                  have hszX : w1.heap.size ≤ w6.heap.size := HBX6.out.size
                  have x0 : w6.cell? ⟨gX, 0, none⟩ = some (.int .i64 x.k) := (HX6.out.cell 0).trans rfl
                  have x1 : w6.cell? ⟨gX, 1, none⟩ = some (.string x.s) := (HX6.out.cell 1).trans rfl
                  have x2 : w6.cell? ⟨gX, 2, none⟩ = some (.int .i64 x.a) := (HX6.out.cell 2).trans rfl
                  have xl := HX6.out.lt
                  have HST := Lib.hid (show stepZ ⟨l, q, t + 1⟩ x = .error (2, x.a) by
                    unfold stepZ
                    rw [if_pos h4, if_neg (by rw [HKD.out]; exact he)]
                  )
                  go_wp2_with fail
                  have r2 := Bw.rd x2
                  refine wp_region_class (Bw w6) (by kernel_rfl) (by kernel_rfl) (Bw.start w6) (fun hne => ?_)
                  repeat (go_big_quiet_step (fail))
                  refine wpQuiet_nil ?_
                  rintro w5 ⟨y, rfl⟩
                  have HB5 := Lib.hid (HB1.out.trans ((HBX6.out.trans (Below.mono y.ok HBX6.out.size)).mono HB1.out.size))
                  generalize y.W = w5 at *
                  clear r2 hne
                  go_wp2_with fail
                  refine bodyPost_ret (v := .tuple #[.slice none 0 0, .int .i64 2, .int .i64 x.a]) (by simp [results, Tryz.results7, go_sem]) rfl (PtP.err ?_ HB5.out)
                  rw [HZ.out, ← HRN.out, runZ_bad HST.out]
                  rfl
            · have h4b : (x.k == 4) = false := by simp [h4]
              by_cases hdp : 12 < (m : Int) + 1
              · have hdb : decide (12 < (m : Int) + 1) = true := by simp [hdp]
                as_aux_lemma =>
                  have HST := Lib.hid (show stepZ ⟨l, q, t + 1⟩ x = .error (6, x.a) by
                    unfold stepZ
                    rw [if_neg h4, if_neg (by rw [HKD.out]; omega), if_pos (by have := HAL.out; show 12 < dep l (t + 1) + 1; omega)]
                  )
                  go_wp2_with fail
                  have r2 := Bw.rd x2
                  refine wp_region_class (Bw wX) (by kernel_rfl) (by kernel_rfl) (Bw.start wX) (fun hne => ?_)
                  repeat (go_big_quiet_step (fail))
                  refine wpQuiet_nil ?_
                  rintro w5 ⟨y, rfl⟩
                  have HB5 := Lib.hid (HB1.out.trans ((HBX.out.trans (Below.mono y.ok HBX.out.size)).mono HB1.out.size))
                  generalize y.W = w5 at *
                  clear r2 hne
                  go_wp2_with fail
                  refine bodyPost_ret (v := .tuple #[.slice none 0 0, .int .i64 6, .int .i64 x.a]) (by simp [results, Tryz.results7, go_sem]) rfl (PtP.err ?_ HB5.out)
                  rw [HZ.out, ← HRN.out, runZ_bad HST.out]
                  rfl
              · have hdb : decide (12 < (m : Int) + 1) = false := by simp [hdp]
                by_cases hx3 : x.k = 3
                · have hx3b : (x.k == 3) = true := by simp [hx3]
                  as_aux_lemma =>
                    have hone := HD.out.one (by omega)
                    obtain ⟨kk, hkk⟩ : ∃ kk, opK (bt x.s 0) = kk := ⟨_, rfl⟩
                    have hkk3 : 3 ≤ kk := by rw [← hkk]; unfold opK; split; omega; split <;> omega
                    have hkd3 : decide (3 ≤ kk) = true := by simp [hkk3]
                    have HKK := Lib.hid hkk
                    go_wp2_with fail
                    refine (l07OpenKind_any _ hone _).mono ?_
                    rintro e w' ⟨rfl, rfl⟩
                    rw [HKK.out]
                    have HND := Lib.hid (show ndX x (dep l (t + 1) + 1) = ⟨(m : Int) + 1, kk, ByteArray.empty⟩ by
                      have hd : dep l (t + 1) + 1 = (m : Int) + 1 := by have := HAL.out; omega
                      unfold ndX
                      rw [if_pos hx3, hd, HKK.out]
                    )
                    go_upto_region 29 with (fail)
                    obtain ⟨gN, hgN⟩ : ∃ g, wX.heap.size = g := ⟨_, rfl⟩
                    rw [hgN]
                    have hbN := (Below.refl wX.heap.size wX).alloc (Nat.le_refl _) (.cells #[.int .i64 ((m : Int) + 1), .int .i64 (kk), .string (ByteArray.empty)] 31)
                    have HN8 := Lib.hid (BlkL.new wX 31 [.int .i64 ((m : Int) + 1), .int .i64 (kk), .string (ByteArray.empty)])
                    rw [hgN] at HN8
                    have HM8 := Lib.hid (HM2.out.below hbN)
                    have HX8 := Lib.hid (HX.out.below hbN HX.out.lt)
                    have HB8 := Lib.hid (HBX.out.trans (hbN.mono HBX.out.size))
                    obtain ⟨qO, qP, qW⟩ : gO < gN ∧ gP < gN ∧ gW < gN := by rw [← hgN]; exact HM2.out.lts
                    change Code.wp _ _ _ _ (wX.alloc (.cells #[.int .i64 ((m : Int) + 1), .int .i64 (kk), .string (ByteArray.empty)] 31))
                    generalize (wX.alloc (.cells #[.int .i64 ((m : Int) + 1), .int .i64 (kk), .string (ByteArray.empty)] 31)) = w8 at *
                    clear x0 x1 x2 xl p0 p1 p2 lO lP lW hbN HX HM2 HBX hszX hgN
                    have n0 : w8.cell? ⟨gN, 0, none⟩ = some (.int .i64 ((m : Int) + 1)) := (HN8.out.cell 0).trans rfl
                    have n1 : w8.cell? ⟨gN, 1, none⟩ = some (.int .i64 (kk)) := (HN8.out.cell 1).trans rfl
                    have n2 : w8.cell? ⟨gN, 2, none⟩ = some (.string (ByteArray.empty)) := (HN8.out.cell 2).trans rfl
                    have nl := HN8.out.lt
                    have hb9 := (Below.refl w8.heap.size w8).alloc (Nat.le_refl _) (.cells #[.int .i64 ((m : Int) + 1), .int .i64 (kk), .string (ByteArray.empty)] 31)
                    have HS := Lib.hid (BlkL.new w8 31 [.int .i64 ((m : Int) + 1), .int .i64 (kk), .string (ByteArray.empty)])
                    have HM9 := Lib.hid (HM8.out.below hb9)
                    have HX9 := Lib.hid (HX8.out.below hb9 HX8.out.lt)
                    have HN9 := Lib.hid (HN8.out.below hb9 HN8.out.lt)
                    have HB9 := Lib.hid (HB8.out.trans (hb9.mono HB8.out.size))
                    have hz9 : w1.heap.size ≤ (w8.alloc (.cells #[.int .i64 ((m : Int) + 1), .int .i64 (kk), .string (ByteArray.empty)] 31)).heap.size := HB9.out.size
                    have HXE := Lib.hid (show fl fn [(⟨(m : Int) + 1, kk, ByteArray.empty⟩ : Nd)] = ([.int .i64 ((m : Int) + 1), .int .i64 (kk), .string (ByteArray.empty)] : List Value) by simp [fl, fn])
                    have HONE := Lib.hid (show ∀ u ∈ ([.int .i64 ((m : Int) + 1), .int .i64 (kk), .string (ByteArray.empty)] : List Value), u.oneCell' = true by rw [← HXE.out]; exact fn_one _)
                    clear hb9
                    go_wp2_with (at_builtin; refine wpList_append_own_at _ rfl _ _ 25 rfl w1.heap.size 31 i0 (.agg #[.int .i64 0, .int .i64 0, .string ByteArray.empty]) 3 32 Tryz.underlying25 hi0 hz0 hz1 hz2 rfl (by decide) _ _ _ rfl HM9.out.out ⟨w8.heap.size, 0, none⟩ 1 1 [.int .i64 ((m : Int) + 1), .int .i64 (kk), .string (ByteArray.empty)] rfl rfl (fun j u hj => by rw [Addr.add_lit, Nat.zero_add]; exact (HS.out.cell j).trans hj) HONE.out (by simp only [maxLen]; omega) (by omega) hz9 ?_)
                    intro v' wA howA hgrA hnilA hatA
                    obtain ⟨gO2, cO2, rfl⟩ := own_some howA hnilA
                    rw [← HXE.out] at howA
                    have HMA := Lib.hid (HM9.out.app hgrA _ x.a howA htl HOK.out.len)
                    have HNA := Lib.hid (HN9.out.grown hgrA (by intro e; have e2 : gN = gO := Option.some.inj e; omega))
                    have HXA := Lib.hid (HX9.out.grown hgrA (fun e => fo_blk HM9.out.out HX9.out (by decide) e.symm))
                    have HBA := Lib.hid (HB9.out.grown hgrA hz9 (fun g hg => (HM9.out.out.lt g hg).1))
                    clear howA hgrA hnilA hatA n0 n1 n2 nl HS HM8 HM9 HX8 HX9 HN8 HN9 HB8 HB9 hz9 HXE HONE
                    have n1 : wA.cell? ⟨gN, 1, none⟩ = some (.int .i64 (kk)) := (HNA.out.cell 1).trans rfl
                    have nl := HNA.out.lt
                    have x2 : wA.cell? ⟨gX, 2, none⟩ = some (.int .i64 x.a) := (HXA.out.cell 2).trans rfl
                    have xl := HXA.out.lt
                    have hzA : w1.heap.size ≤ wA.heap.size := HBA.out.size
                    have HST := Lib.hid (show stepZ ⟨l, q, t + 1⟩ x = .ok ⟨l ++ [(⟨(m : Int) + 1, kk, ByteArray.empty⟩ : Nd)], q ++ [x.a], l.length + 1⟩ by
                      unfold stepZ
                      dsimp only
                      rw [if_neg h4, if_neg (by rintro ⟨_, h⟩; rw [HKD.out] at h; exact hq h), if_neg (by have := HAL.out; omega), HND.out, if_pos hkk3])
                    have HPR := Lib.hid (show par (l ++ [(⟨(m : Int) + 1, kk, ByteArray.empty⟩ : Nd)]) l.length = t + 1 from HOK.out.par_new (n := (⟨(m : Int) + 1, kk, ByteArray.empty⟩ : Nd)) (by show (m : Int) + 1 = dep l (t + 1) + 1; have hd : dep l (t + 1) + 1 = (m : Int) + 1 := (by have := HAL.out; omega); omega))
                    have HB0 := (Below.refl wA.heap.size wA).alloc (Nat.le_refl _) (.cells #[.int .i64 (l.length : Int)] 3)
                    have HOP := Lib.hid (own_below (HMA.out.open_ htl HN.out) HB0)
                    have HMB := Lib.hid (HMA.out.below HB0)
                    have HXB := Lib.hid (HXA.out.below HB0 HXA.out.lt)
                    have HBB := Lib.hid (HBA.out.trans (HB0.mono HBA.out.size))
                    have hzB : w1.heap.size ≤ (wA.alloc (.cells #[.int .i64 (l.length : Int)] 3)).heap.size := HBB.out.size
                    clear HB0
                    go_wp2_with (at_builtin; refine wpList_append_own_at _ rfl _ _ 37 rfl w1.heap.size 3 j0 (.int .i64 0) 1 8 Tryz.underlying37 hj0 hy0 hy1 hy2 rfl (by decide) _ _ _ rfl HOP.out ⟨wA.heap.size, 0, none⟩ 1 1 [.int .i64 (l.length : Int)] rfl rfl (cell_one_new _ _ _) (by simp [Value.oneCell']) (by simp only [maxLen]; omega) (by omega) hzB ?_)
                    intro v2 wC howC hgrC hnilC hatC
                    obtain ⟨gP2, cP2, rfl⟩ := own_some howC hnilC
                    have HBC0 := (Below.refl wC.heap.size wC).alloc (Nat.le_refl _) (.cells #[.int .i64 x.a] 3)
                    have HOW := Lib.hid (HMB.out.where_ htl HN.out hgrC HBC0)
                    have HXC := Lib.hid (HXB.out.grown hgrC (fun e => fo_blk (HMB.out.open_ htl HN.out) HXB.out (by decide) e.symm))
                    have HBC := Lib.hid ((HBB.out.grown hgrC hzB (fun g hg => (HOP.out.lt g hg).1)).trans (HBC0.mono (HBB.out.grown hgrC hzB (fun g hg => (HOP.out.lt g hg).1)).size))
                    have HGC := Lib.hid hgrC
                    have HHC := Lib.hid howC
                    have HTC := Lib.hid hatC
                    have HC0 := Lib.hid HBC0
                    have hzC : w1.heap.size ≤ (wC.alloc (.cells #[.int .i64 x.a] 3)).heap.size := HBC.out.size
                    clear howC hgrC hnilC hatC HBC0 x2 xl n1 nl HXB HXA HNA HBA HBB
                    have x2 : wC.cell? ⟨gX, 2, none⟩ = some (.int .i64 x.a) := (HXC.out.cell 2).trans rfl
                    have xl := HXC.out.lt
                    go_wp2_with (at_builtin; refine wpList_append_own_at _ rfl _ _ 37 rfl w1.heap.size 3 j0 (.int .i64 0) 1 8 Tryz.underlying37 hj0 hy0 hy1 hy2 rfl (by decide) _ _ _ rfl HOW.out ⟨wC.heap.size, 0, none⟩ 1 1 [.int .i64 x.a] rfl rfl (cell_one_new _ _ _) (by simp [Value.oneCell']) (by simp only [maxLen]; omega) (by omega) hzC ?_)
                    intro v3 wD howD hgrD hnilD hatD
                    obtain ⟨gW2, cW2, rfl⟩ := own_some howD hnilD
                    have HMD := Lib.hid (HMB.out.pushN htl HOK.out.len HN.out HPR.out HGC.out HHC.out (HTC.out.imp_right fun e => e.trans (by simp)) HC0.out hgrD howD (hatD.imp_right fun e => e.trans (by simp)))
                    have HBD := Lib.hid (HBC.out.grown hgrD hzC (fun g hg => (HOW.out.lt g hg).1))
                    have HNN := Lib.hid (show m + 1 + 1 = (anc (l ++ [(⟨(m : Int) + 1, kk, ByteArray.empty⟩ : Nd)]) (l.length + 1)).length by rw [anc_new htl HPR.out, ← HN.out])
                    have HREL := Lib.hid (show PzOk ⟨l ++ [(⟨(m : Int) + 1, kk, ByteArray.empty⟩ : Nd)], q ++ [x.a], l.length + 1⟩ ∧ runZ (xs.drop (j + 1)) ⟨l ++ [(⟨(m : Int) + 1, kk, ByteArray.empty⟩ : Nd)], q ++ [x.a], l.length + 1⟩ = R from ⟨stepZ_ok HOK.out HD.out HST.out, by rw [← HRN.out, runZ_cons HST.out]⟩)
                    clear howD hgrD hnilD hatD HOK HRN HST HMA HMB HOP HOW HGC HHC HTC HC0 HBC HXC x2 xl hzC
                    go_wp2_with fail
                    go_roundw
                    · exact ⟨j + 1, l ++ [(⟨(m : Int) + 1, kk, ByteArray.empty⟩ : Nd)], q ++ [x.a], l.length + 1, m + 1 + 1, _, _, _, _, _, _, by omega, by simp, by rw [List.length_append]; rfl, rfl, rfl, HNN.out, HMD.out, HREL.out.1, HREL.out.2, by simp; omega, HBD.out⟩
                    · simp only [intOf]
                      omega
                · have hx3b : (x.k == 3) = false := by simp [hx3]
                  by_cases hx5 : x.k = 5
                  · have hx5b : (x.k == 5) = true := by simp [hx5]
                    as_aux_lemma =>
                      have HND := Lib.hid (show ndX x (dep l (t + 1) + 1) = ⟨(m : Int) + 1, 6, ByteArray.empty⟩ by
                        have hd : dep l (t + 1) + 1 = (m : Int) + 1 := by have := HAL.out; omega
                        unfold ndX
                        rw [if_neg hx3, if_pos hx5, hd]
                      )
                      go_upto_region 29 with (fail)
                      obtain ⟨gN, hgN⟩ : ∃ g, wX.heap.size = g := ⟨_, rfl⟩
                      rw [hgN]
                      have hbN := (Below.refl wX.heap.size wX).alloc (Nat.le_refl _) (.cells #[.int .i64 ((m : Int) + 1), .int .i64 (6), .string (ByteArray.empty)] 31)
                      have HN8 := Lib.hid (BlkL.new wX 31 [.int .i64 ((m : Int) + 1), .int .i64 (6), .string (ByteArray.empty)])
                      rw [hgN] at HN8
                      have HM8 := Lib.hid (HM2.out.below hbN)
                      have HX8 := Lib.hid (HX.out.below hbN HX.out.lt)
                      have HB8 := Lib.hid (HBX.out.trans (hbN.mono HBX.out.size))
                      obtain ⟨qO, qP, qW⟩ : gO < gN ∧ gP < gN ∧ gW < gN := by rw [← hgN]; exact HM2.out.lts
                      change Code.wp _ _ _ _ (wX.alloc (.cells #[.int .i64 ((m : Int) + 1), .int .i64 (6), .string (ByteArray.empty)] 31))
                      generalize (wX.alloc (.cells #[.int .i64 ((m : Int) + 1), .int .i64 (6), .string (ByteArray.empty)] 31)) = w8 at *
                      clear x0 x1 x2 xl p0 p1 p2 lO lP lW hbN HX HM2 HBX hszX hgN
                      have n0 : w8.cell? ⟨gN, 0, none⟩ = some (.int .i64 ((m : Int) + 1)) := (HN8.out.cell 0).trans rfl
                      have n1 : w8.cell? ⟨gN, 1, none⟩ = some (.int .i64 (6)) := (HN8.out.cell 1).trans rfl
                      have n2 : w8.cell? ⟨gN, 2, none⟩ = some (.string (ByteArray.empty)) := (HN8.out.cell 2).trans rfl
                      have nl := HN8.out.lt
                      have hb9 := (Below.refl w8.heap.size w8).alloc (Nat.le_refl _) (.cells #[.int .i64 ((m : Int) + 1), .int .i64 (6), .string (ByteArray.empty)] 31)
                      have HS := Lib.hid (BlkL.new w8 31 [.int .i64 ((m : Int) + 1), .int .i64 (6), .string (ByteArray.empty)])
                      have HM9 := Lib.hid (HM8.out.below hb9)
                      have HX9 := Lib.hid (HX8.out.below hb9 HX8.out.lt)
                      have HN9 := Lib.hid (HN8.out.below hb9 HN8.out.lt)
                      have HB9 := Lib.hid (HB8.out.trans (hb9.mono HB8.out.size))
                      have hz9 : w1.heap.size ≤ (w8.alloc (.cells #[.int .i64 ((m : Int) + 1), .int .i64 (6), .string (ByteArray.empty)] 31)).heap.size := HB9.out.size
                      have HXE := Lib.hid (show fl fn [(⟨(m : Int) + 1, 6, ByteArray.empty⟩ : Nd)] = ([.int .i64 ((m : Int) + 1), .int .i64 (6), .string (ByteArray.empty)] : List Value) by simp [fl, fn])
                      have HONE := Lib.hid (show ∀ u ∈ ([.int .i64 ((m : Int) + 1), .int .i64 (6), .string (ByteArray.empty)] : List Value), u.oneCell' = true by rw [← HXE.out]; exact fn_one _)
                      clear hb9
                      go_wp2_with (at_builtin; refine wpList_append_own_at _ rfl _ _ 25 rfl w1.heap.size 31 i0 (.agg #[.int .i64 0, .int .i64 0, .string ByteArray.empty]) 3 32 Tryz.underlying25 hi0 hz0 hz1 hz2 rfl (by decide) _ _ _ rfl HM9.out.out ⟨w8.heap.size, 0, none⟩ 1 1 [.int .i64 ((m : Int) + 1), .int .i64 (6), .string (ByteArray.empty)] rfl rfl (fun j u hj => by rw [Addr.add_lit, Nat.zero_add]; exact (HS.out.cell j).trans hj) HONE.out (by simp only [maxLen]; omega) (by omega) hz9 ?_)
                      intro v' wA howA hgrA hnilA hatA
                      obtain ⟨gO2, cO2, rfl⟩ := own_some howA hnilA
                      rw [← HXE.out] at howA
                      have HMA := Lib.hid (HM9.out.app hgrA _ x.a howA htl HOK.out.len)
                      have HNA := Lib.hid (HN9.out.grown hgrA (by intro e; have e2 : gN = gO := Option.some.inj e; omega))
                      have HXA := Lib.hid (HX9.out.grown hgrA (fun e => fo_blk HM9.out.out HX9.out (by decide) e.symm))
                      have HBA := Lib.hid (HB9.out.grown hgrA hz9 (fun g hg => (HM9.out.out.lt g hg).1))
                      clear howA hgrA hnilA hatA n0 n1 n2 nl HS HM8 HM9 HX8 HX9 HN8 HN9 HB8 HB9 hz9 HXE HONE
                      have n1 : wA.cell? ⟨gN, 1, none⟩ = some (.int .i64 (6)) := (HNA.out.cell 1).trans rfl
                      have nl := HNA.out.lt
                      have x2 : wA.cell? ⟨gX, 2, none⟩ = some (.int .i64 x.a) := (HXA.out.cell 2).trans rfl
                      have xl := HXA.out.lt
                      have hzA : w1.heap.size ≤ wA.heap.size := HBA.out.size
                      have HST := Lib.hid (show stepZ ⟨l, q, t + 1⟩ x = .ok ⟨l ++ [(⟨(m : Int) + 1, 6, ByteArray.empty⟩ : Nd)], q ++ [x.a], l.length + 1⟩ by
                        unfold stepZ
                        dsimp only
                        rw [if_neg h4, if_neg (by rintro ⟨_, h⟩; rw [HKD.out] at h; exact hq h), if_neg (by have := HAL.out; omega), HND.out, if_pos (by show (3 : Int) ≤ 6; decide)])
                      have HPR := Lib.hid (show par (l ++ [(⟨(m : Int) + 1, 6, ByteArray.empty⟩ : Nd)]) l.length = t + 1 from HOK.out.par_new (n := (⟨(m : Int) + 1, 6, ByteArray.empty⟩ : Nd)) (by show (m : Int) + 1 = dep l (t + 1) + 1; have hd : dep l (t + 1) + 1 = (m : Int) + 1 := (by have := HAL.out; omega); omega))
                      have HB0 := (Below.refl wA.heap.size wA).alloc (Nat.le_refl _) (.cells #[.int .i64 (l.length : Int)] 3)
                      have HOP := Lib.hid (own_below (HMA.out.open_ htl HN.out) HB0)
                      have HMB := Lib.hid (HMA.out.below HB0)
                      have HXB := Lib.hid (HXA.out.below HB0 HXA.out.lt)
                      have HBB := Lib.hid (HBA.out.trans (HB0.mono HBA.out.size))
                      have hzB : w1.heap.size ≤ (wA.alloc (.cells #[.int .i64 (l.length : Int)] 3)).heap.size := HBB.out.size
                      clear HB0
                      go_wp2_with (at_builtin; refine wpList_append_own_at _ rfl _ _ 37 rfl w1.heap.size 3 j0 (.int .i64 0) 1 8 Tryz.underlying37 hj0 hy0 hy1 hy2 rfl (by decide) _ _ _ rfl HOP.out ⟨wA.heap.size, 0, none⟩ 1 1 [.int .i64 (l.length : Int)] rfl rfl (cell_one_new _ _ _) (by simp [Value.oneCell']) (by simp only [maxLen]; omega) (by omega) hzB ?_)
                      intro v2 wC howC hgrC hnilC hatC
                      obtain ⟨gP2, cP2, rfl⟩ := own_some howC hnilC
                      have HBC0 := (Below.refl wC.heap.size wC).alloc (Nat.le_refl _) (.cells #[.int .i64 x.a] 3)
                      have HOW := Lib.hid (HMB.out.where_ htl HN.out hgrC HBC0)
                      have HXC := Lib.hid (HXB.out.grown hgrC (fun e => fo_blk (HMB.out.open_ htl HN.out) HXB.out (by decide) e.symm))
                      have HBC := Lib.hid ((HBB.out.grown hgrC hzB (fun g hg => (HOP.out.lt g hg).1)).trans (HBC0.mono (HBB.out.grown hgrC hzB (fun g hg => (HOP.out.lt g hg).1)).size))
                      have HGC := Lib.hid hgrC
                      have HHC := Lib.hid howC
                      have HTC := Lib.hid hatC
                      have HC0 := Lib.hid HBC0
                      have hzC : w1.heap.size ≤ (wC.alloc (.cells #[.int .i64 x.a] 3)).heap.size := HBC.out.size
                      clear howC hgrC hnilC hatC HBC0 x2 xl n1 nl HXB HXA HNA HBA HBB
                      have x2 : wC.cell? ⟨gX, 2, none⟩ = some (.int .i64 x.a) := (HXC.out.cell 2).trans rfl
                      have xl := HXC.out.lt
                      go_wp2_with (at_builtin; refine wpList_append_own_at _ rfl _ _ 37 rfl w1.heap.size 3 j0 (.int .i64 0) 1 8 Tryz.underlying37 hj0 hy0 hy1 hy2 rfl (by decide) _ _ _ rfl HOW.out ⟨wC.heap.size, 0, none⟩ 1 1 [.int .i64 x.a] rfl rfl (cell_one_new _ _ _) (by simp [Value.oneCell']) (by simp only [maxLen]; omega) (by omega) hzC ?_)
                      intro v3 wD howD hgrD hnilD hatD
                      obtain ⟨gW2, cW2, rfl⟩ := own_some howD hnilD
                      have HMD := Lib.hid (HMB.out.pushN htl HOK.out.len HN.out HPR.out HGC.out HHC.out (HTC.out.imp_right fun e => e.trans (by simp)) HC0.out hgrD howD (hatD.imp_right fun e => e.trans (by simp)))
                      have HBD := Lib.hid (HBC.out.grown hgrD hzC (fun g hg => (HOW.out.lt g hg).1))
                      have HNN := Lib.hid (show m + 1 + 1 = (anc (l ++ [(⟨(m : Int) + 1, 6, ByteArray.empty⟩ : Nd)]) (l.length + 1)).length by rw [anc_new htl HPR.out, ← HN.out])
                      have HREL := Lib.hid (show PzOk ⟨l ++ [(⟨(m : Int) + 1, 6, ByteArray.empty⟩ : Nd)], q ++ [x.a], l.length + 1⟩ ∧ runZ (xs.drop (j + 1)) ⟨l ++ [(⟨(m : Int) + 1, 6, ByteArray.empty⟩ : Nd)], q ++ [x.a], l.length + 1⟩ = R from ⟨stepZ_ok HOK.out HD.out HST.out, by rw [← HRN.out, runZ_cons HST.out]⟩)
                      clear howD hgrD hnilD hatD HOK HRN HST HMA HMB HOP HOW HGC HHC HTC HC0 HBC HXC x2 xl hzC
                      go_wp2_with fail
                      go_roundw
                      · exact ⟨j + 1, l ++ [(⟨(m : Int) + 1, 6, ByteArray.empty⟩ : Nd)], q ++ [x.a], l.length + 1, m + 1 + 1, _, _, _, _, _, _, by omega, by simp, by rw [List.length_append]; rfl, rfl, rfl, HNN.out, HMD.out, HREL.out.1, HREL.out.2, by simp; omega, HBD.out⟩
                      · simp only [intOf]
                        omega
                  · have hx5b : (x.k == 5) = false := by simp [hx5]
                    as_aux_lemma =>
                      have hk0 : decide (3 ≤ x.k) = false := by have := HD.out.kind; have := kdI_bd (bt x.s 0); simp; omega
                      have HND := Lib.hid (show ndX x (dep l (t + 1) + 1) = ⟨(m : Int) + 1, x.k, x.s⟩ by
                        have hd : dep l (t + 1) + 1 = (m : Int) + 1 := by have := HAL.out; omega
                        unfold ndX
                        rw [if_neg hx3, if_neg hx5, hd]
                      )
                      go_upto_region 29 with (fail)
                      obtain ⟨gN, hgN⟩ : ∃ g, wX.heap.size = g := ⟨_, rfl⟩
                      rw [hgN]
                      have hbN := (Below.refl wX.heap.size wX).alloc (Nat.le_refl _) (.cells #[.int .i64 ((m : Int) + 1), .int .i64 (x.k), .string (x.s)] 31)
                      have HN8 := Lib.hid (BlkL.new wX 31 [.int .i64 ((m : Int) + 1), .int .i64 (x.k), .string (x.s)])
                      rw [hgN] at HN8
                      have HM8 := Lib.hid (HM2.out.below hbN)
                      have HX8 := Lib.hid (HX.out.below hbN HX.out.lt)
                      have HB8 := Lib.hid (HBX.out.trans (hbN.mono HBX.out.size))
                      obtain ⟨qO, qP, qW⟩ : gO < gN ∧ gP < gN ∧ gW < gN := by rw [← hgN]; exact HM2.out.lts
                      change Code.wp _ _ _ _ (wX.alloc (.cells #[.int .i64 ((m : Int) + 1), .int .i64 (x.k), .string (x.s)] 31))
                      generalize (wX.alloc (.cells #[.int .i64 ((m : Int) + 1), .int .i64 (x.k), .string (x.s)] 31)) = w8 at *
                      clear x0 x1 x2 xl p0 p1 p2 lO lP lW hbN HX HM2 HBX hszX hgN
                      have n0 : w8.cell? ⟨gN, 0, none⟩ = some (.int .i64 ((m : Int) + 1)) := (HN8.out.cell 0).trans rfl
                      have n1 : w8.cell? ⟨gN, 1, none⟩ = some (.int .i64 (x.k)) := (HN8.out.cell 1).trans rfl
                      have n2 : w8.cell? ⟨gN, 2, none⟩ = some (.string (x.s)) := (HN8.out.cell 2).trans rfl
                      have nl := HN8.out.lt
                      have hb9 := (Below.refl w8.heap.size w8).alloc (Nat.le_refl _) (.cells #[.int .i64 ((m : Int) + 1), .int .i64 (x.k), .string (x.s)] 31)
                      have HS := Lib.hid (BlkL.new w8 31 [.int .i64 ((m : Int) + 1), .int .i64 (x.k), .string (x.s)])
                      have HM9 := Lib.hid (HM8.out.below hb9)
                      have HX9 := Lib.hid (HX8.out.below hb9 HX8.out.lt)
                      have HN9 := Lib.hid (HN8.out.below hb9 HN8.out.lt)
                      have HB9 := Lib.hid (HB8.out.trans (hb9.mono HB8.out.size))
                      have hz9 : w1.heap.size ≤ (w8.alloc (.cells #[.int .i64 ((m : Int) + 1), .int .i64 (x.k), .string (x.s)] 31)).heap.size := HB9.out.size
                      have HXE := Lib.hid (show fl fn [(⟨(m : Int) + 1, x.k, x.s⟩ : Nd)] = ([.int .i64 ((m : Int) + 1), .int .i64 (x.k), .string (x.s)] : List Value) by simp [fl, fn])
                      have HONE := Lib.hid (show ∀ u ∈ ([.int .i64 ((m : Int) + 1), .int .i64 (x.k), .string (x.s)] : List Value), u.oneCell' = true by rw [← HXE.out]; exact fn_one _)
                      clear hb9
                      go_wp2_with (at_builtin; refine wpList_append_own_at _ rfl _ _ 25 rfl w1.heap.size 31 i0 (.agg #[.int .i64 0, .int .i64 0, .string ByteArray.empty]) 3 32 Tryz.underlying25 hi0 hz0 hz1 hz2 rfl (by decide) _ _ _ rfl HM9.out.out ⟨w8.heap.size, 0, none⟩ 1 1 [.int .i64 ((m : Int) + 1), .int .i64 (x.k), .string (x.s)] rfl rfl (fun j u hj => by rw [Addr.add_lit, Nat.zero_add]; exact (HS.out.cell j).trans hj) HONE.out (by simp only [maxLen]; omega) (by omega) hz9 ?_)
                      intro v' wA howA hgrA hnilA hatA
                      obtain ⟨gO2, cO2, rfl⟩ := own_some howA hnilA
                      rw [← HXE.out] at howA
                      have HMA := Lib.hid (HM9.out.app hgrA _ x.a howA htl HOK.out.len)
                      have HNA := Lib.hid (HN9.out.grown hgrA (by intro e; have e2 : gN = gO := Option.some.inj e; omega))
                      have HXA := Lib.hid (HX9.out.grown hgrA (fun e => fo_blk HM9.out.out HX9.out (by decide) e.symm))
                      have HBA := Lib.hid (HB9.out.grown hgrA hz9 (fun g hg => (HM9.out.out.lt g hg).1))
                      clear howA hgrA hnilA hatA n0 n1 n2 nl HS HM8 HM9 HX8 HX9 HN8 HN9 HB8 HB9 hz9 HXE HONE
                      have n1 : wA.cell? ⟨gN, 1, none⟩ = some (.int .i64 (x.k)) := (HNA.out.cell 1).trans rfl
                      have nl := HNA.out.lt
                      have x2 : wA.cell? ⟨gX, 2, none⟩ = some (.int .i64 x.a) := (HXA.out.cell 2).trans rfl
                      have xl := HXA.out.lt
                      have hzA : w1.heap.size ≤ wA.heap.size := HBA.out.size
                      have HST := Lib.hid (show stepZ ⟨l, q, t + 1⟩ x = .ok ⟨l ++ [(⟨(m : Int) + 1, x.k, x.s⟩ : Nd)], q ++ [x.a], unq l (t + 1)⟩ by
                        unfold stepZ
                        dsimp only
                        rw [if_neg h4, if_neg (by rintro ⟨_, h⟩; rw [HKD.out] at h; exact hq h), if_neg (by have := HAL.out; omega), HND.out, if_neg (by have := of_decide_eq_false hk0; exact this)])
                      have HREL := Lib.hid (show PzOk ⟨l ++ [(⟨(m : Int) + 1, x.k, x.s⟩ : Nd)], q ++ [x.a], unq (l ++ [(⟨(m : Int) + 1, x.k, x.s⟩ : Nd)]) (t + 1)⟩ ∧ runZ (xs.drop (j + 1)) ⟨l ++ [(⟨(m : Int) + 1, x.k, x.s⟩ : Nd)], q ++ [x.a], unq (l ++ [(⟨(m : Int) + 1, x.k, x.s⟩ : Nd)]) (t + 1)⟩ = R from by
                        rw [unq_app _ htl]
                        exact ⟨stepZ_ok HOK.out HD.out HST.out, by rw [← HRN.out, runZ_cons HST.out]⟩)
                      have HNN := Lib.hid (show m + 1 = (anc (l ++ [(⟨(m : Int) + 1, x.k, x.s⟩ : Nd)]) (t + 1)).length by rw [anc_app _ htl, ← HN.out])
                      have HLL := Lib.hid (show l.length + 1 = (l ++ [(⟨(m : Int) + 1, x.k, x.s⟩ : Nd)]).length by simp)
                      have hll : (l ++ [(⟨(m : Int) + 1, x.k, x.s⟩ : Nd)]).length = l.length + 1 := by simp
                      have htl2 : t + 1 ≤ (l ++ [(⟨(m : Int) + 1, x.k, x.s⟩ : Nd)]).length := by have := (show t + 1 ≤ l.length from htl); omega
                      clear HOK HRN HST HND HN
                      obtain ⟨l2, hl2⟩ : ∃ y, l ++ [(⟨(m : Int) + 1, x.k, x.s⟩ : Nd)] = y := ⟨_, rfl⟩
                      obtain ⟨q2, hq2⟩ : ∃ y, q ++ [x.a] = y := ⟨_, rfl⟩
                      rw [hl2] at HREL HNN HLL HMA hll htl2
                      rw [hq2] at HREL HMA
                      clear hl2 hq2
                      go_wp2_with fail
                      go_loopw [8, 9] (fun v8 v9 wv => ∃ (u n2 : Nat), v8 = .slice (some ⟨gP, 0, none⟩) n2 cP ∧ v9 = .slice (some ⟨gW, 0, none⟩) n2 cW ∧ n2 = (anc l2 u).length ∧ unq l2 u = unq l2 (t + 1) ∧ u ≤ l2.length ∧ Mz wA w1.heap.size l2 q2 u gO2 cO2 gP cP gW cW ∧ wv = wA) (fun v8 _ _ => match v8 with | .slice _ n _ => n | _ => 0)
                      case atStart => exact ⟨(t + 1), (m + 1), rfl, rfl, HNN.out, rfl, htl2, HMA.out, rfl⟩
                      case round =>
                        obtain ⟨u, n2, rfl, rfl, hn2, hun, hul, hmz, rfl⟩ := hrel
                        have HUN := Lib.hid hun
                        have HMZ := Lib.hid hmz
                        have HN2 := Lib.hid hn2
                        clear hun hmz hn2
                        cases u with
                        | zero =>
                          obtain rfl : n2 = 0 := by rw [HN2.out, anc_zero]; rfl
                          have HQ0 := Lib.hid (show unq l2 (t + 1) = 0 by rw [← HUN.out, unq_zero])
                          go_wp2_with fail
                          go_roundw
                          · rw [HQ0.out] at HREL
                            exact ⟨j + 1, l2, q2, 0, 0, _, _, _, _, _, _, by omega, by simp, by rw [HLL.out], rfl, rfl, by rw [anc_zero]; rfl, HMZ.out, HREL.out.1, HREL.out.2, by omega, HBA.out⟩
                          · simp only [intOf]
                            omega
                        | succ u =>
                          obtain ⟨s0, s1, s2⟩ := HMZ.out.top hul
                          obtain ⟨m2, hm2⟩ : ∃ m, (anc l2 (par l2 u)).length = m := ⟨_, rfl⟩
                          obtain rfl : n2 = m2 + 1 := by rw [← hm2, HN2.out, anc_len_succ]
                          rw [hm2] at s0 s2
                          have hal3 := anc_le l2 (u + 1)
                          rw [← HN2.out] at hal3
                          obtain ⟨b0, b1, b2⟩ := HMZ.out.lts
                          obtain ⟨kz1, kz2⟩ := HMZ.out.caps
                          rw [← HN2.out] at kz1 kz2
                          have HM3 := Lib.hid hm2
                          clear hm2
                          by_cases hk6 : knd l2 (u + 1) = 6
                          · have hk6b : (knd l2 (u + 1) == 6) = true := by simp [hk6]
                            have HK6 := Lib.hid hk6
                            clear hk6
                            go_wp2_with fail
                            go_roundw
                            · exact ⟨par l2 u, m2, rfl, rfl, HM3.out.symm, by rw [← HUN.out, unq_go HK6.out], by have := par_le l2 u; omega, HMZ.out.pop, trivial⟩
                            · simp
                          · have hk6b : (knd l2 (u + 1) == 6) = false := by simp [hk6]
                            have HQ0 := Lib.hid (show unq l2 (t + 1) = u + 1 by rw [← HUN.out, unq_stop hk6])
                            clear hk6
                            go_wp2_with fail
                            go_roundw
                            · rw [HQ0.out] at HREL
                              exact ⟨j + 1, l2, q2, u + 1, m2 + 1, _, _, _, _, _, _, by omega, by simp, by rw [HLL.out], rfl, rfl, HN2.out, HMZ.out, HREL.out.1, HREL.out.2, by omega, HBA.out⟩
                            · simp only [intOf]
                              omega
      · obtain rfl : j = xs.length := by omega
        have hr := HRN.out
        rw [List.drop_length] at hr
        simp only [runZ] at hr
        subst hr
        have HZ2 := Lib.hid (show prsZ s = endZ ⟨l, q, t⟩ from HZ.out)
        clear HZ
        cases t with
        | zero =>
          obtain rfl : n = 0 := by rw [HN.out, anc_zero]; rfl
          go_wp2_with fail
          refine bodyPost_ret (v := .tuple #[.slice (some ⟨gO, 0, none⟩) l.length cO, .int .i64 0, .int .i64 (-1)]) (by simp [results, Tryz.results7, go_sem]) rfl (PtP.fine (by rw [HZ2.out]; rfl) (Joins.ownsRow_le HM1.out.out HB1.out.size) (HB1.out.trans (HB.out.mono HB1.out.size)))
        | succ t =>
          have htl : t + 1 ≤ l.length := HOK.out.tip
          obtain ⟨p0, p1, p2⟩ := HM1.out.top htl
          obtain ⟨lO, lP, lW⟩ := HM1.out.lts
          have hal := anc_le l (t + 1)
          obtain ⟨m, hm⟩ : ∃ m, (anc l (par l t)).length = m := ⟨_, rfl⟩
          obtain rfl : n = m + 1 := by rw [← hm, HN.out, anc_len_succ]
          rw [hm] at p0 p2
          rw [← HN.out] at hal
          clear hm
          by_cases hq : knd l (t + 1) = 6
          · have hqb : (knd l (t + 1) == 6) = true := by simp [hq]
            have HQQ := Lib.hid hq
            clear hq
            go_wp2_with fail
            have r2 := Bw.rd p2
            refine wp_region_class (Bw wr) (by kernel_rfl) (by kernel_rfl) (Bw.start wr) (fun hne => ?_)
            repeat (go_big_quiet_step (fail))
            refine wpQuiet_nil ?_
            rintro w5 ⟨y, rfl⟩
            have HB5 := Lib.hid (HB1.out.trans ((HB.out.trans (Below.mono y.ok HB.out.size)).mono HB1.out.size))
            generalize y.W = w5 at *
            clear r2 hne
            go_wp2_with fail
            refine bodyPost_ret (v := .tuple #[.slice none 0 0, .int .i64 4, .int .i64 (q.getD t 0)]) (by simp [results, Tryz.results7, go_sem]) rfl (PtP.err ?_ HB5.out)
            rw [HZ2.out]
            unfold endZ
            rw [if_neg (by show ¬ t + 1 = 0; omega)]
            show Except.error (if knd l (t + 1) = 6 then (4 : Int) else 3, q.getD (t + 1 - 1) 0) = _
            rw [if_pos HQQ.out]
            rfl
          · have hqb : (knd l (t + 1) == 6) = false := by simp [hq]
            have HQQ := Lib.hid hq
            clear hq
            go_wp2_with fail
            have r2 := Bw.rd p2
            refine wp_region_class (Bw wr) (by kernel_rfl) (by kernel_rfl) (Bw.start wr) (fun hne => ?_)
            repeat (go_big_quiet_step (fail))
            refine wpQuiet_nil ?_
            rintro w5 ⟨y, rfl⟩
            have HB5 := Lib.hid (HB1.out.trans ((HB.out.trans (Below.mono y.ok HB.out.size)).mono HB1.out.size))
            generalize y.W = w5 at *
            clear r2 hne
            go_wp2_with fail
            refine bodyPost_ret (v := .tuple #[.slice none 0 0, .int .i64 3, .int .i64 (q.getD t 0)]) (by simp [results, Tryz.results7, go_sem]) rfl (PtP.err ?_ HB5.out)
            rw [HZ2.out]
            unfold endZ
            rw [if_neg (by show ¬ t + 1 = 0; omega)]
            show Except.error (if knd l (t + 1) = 6 then (4 : Int) else 3, q.getD (t + 1 - 1) 0) = _
            rw [if_neg HQQ.out]
            rfl
  · have HZ := Lib.hid (prsZ_no (s := s) (by omega))
    obtain ⟨Av, cv, rfl⟩ := own_slice hown
    have hge : decide (0 ≤ (lxA s).2) = true := by simp; omega
    obtain ⟨bad, hbd⟩ : ∃ b, (lxA s).2 = b := ⟨_, rfl⟩
    rw [hbd] at hge HZ ⊢
    clear hbad hnil hbd hown hb1
    go_wp2_with fail
    exact bodyPost_ret (v := .tuple #[.slice none 0 0, .int .i64 1, .int .i64 bad]) (by simp [results, Tryz.results7, go_sem]) rfl (PtP.err HZ.out HB1.out)
end Go.Proofs.YthjkgbcomjiejaaGreatDoor
