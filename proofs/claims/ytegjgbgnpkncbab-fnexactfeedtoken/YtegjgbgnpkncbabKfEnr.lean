/-
  The model's EngineOk.
-/
import Derived.Test.YtegjgbgnpkncbabKf29
import Derived.Test.YtegjgbgnpkncbabKf11
namespace Go.Proofs.Ytegjgbgnpkncbab
open Go.RowKit
set_option linter.unusedVariables false
theorem stkN_succ (n : Nat) (l : List Tk) (k : Nat) : stkN n l (k + 1) = (stkN n l k && inB ((n : Int) + opN l (k + 1)) 1 13) := rfl
set_option maxHeartbeats 20000000 in
set_option maxRecDepth 100000 in
theorem sEngineOk_any (e : En) (v : Value) (w : World) (hm : e.ms.length ≤ maxLen) (hi : e.it.length ≤ maxLen) (hf : Fits (tks e.it)) (h : EngR w v e) :
    Calls Try.prog 49 #[v] w fun r w' => r = .returned (.bool (engB e)) ∧ Below w.heap.size w w' := by
  obtain ⟨A, c, A2, c2, rfl, m1, i1⟩ := h
  unfold ev
  have M1 := Lib.hid m1
  have I1 := Lib.hid i1
  have HF := Lib.hid hf
  clear m1 i1 hf
  unfold maxLen at hm hi
  have hX1 := BlkL.new w 47 (ecs e (.slice A e.ms.length c) (.slice A2 e.it.length c2))
  have HX1 := Lib.hid hX1
  have HB1 := Lib.hid ((Below.refl w.heap.size w).alloc (Nat.le_refl _) (.cells (ecs e (.slice A e.ms.length c) (.slice A2 e.it.length c2)).toArray 47))
  clear hX1
  cases g1 : inB e.W 1 200
  · have G1 := Lib.hid g1
    have HI := Lib.hid (show engB e = false by rw [engB_eq]; simp [colB, mksOkB, g1])
    clear g1
    go_enter Try.func49, Try.ntmps49
    go_wp2_with (go_at_call 70; refine (l01In_any _ _ _ _).mono ?_; rintro e w' ⟨rfl, rfl⟩; first | rw [G1.out])
    go_ret
    rw [HI.out]
    exact ⟨rfl, HB1.out⟩
  have G1 := Lib.hid g1
  clear g1
  cases g2 : inB e.col 0 1000000
  · have G2 := Lib.hid g2
    have HI := Lib.hid (show engB e = false by rw [engB_eq]; simp [colB, mksOkB, g2])
    clear g2
    go_enter Try.func49, Try.ntmps49
    go_wp2_with (go_at_call 70; refine (l01In_any _ _ _ _).mono ?_; rintro e w' ⟨rfl, rfl⟩; first | rw [G1.out] | rw [G2.out])
    go_ret
    rw [HI.out]
    exact ⟨rfl, HB1.out⟩
  have G2 := Lib.hid g2
  clear g2
  cases g3 : inB e.pend 0 1000000
  · have G3 := Lib.hid g3
    have HI := Lib.hid (show engB e = false by rw [engB_eq]; simp [colB, mksOkB, g3])
    clear g3
    go_enter Try.func49, Try.ntmps49
    go_wp2_with (go_at_call 70; refine (l01In_any _ _ _ _).mono ?_; rintro e w' ⟨rfl, rfl⟩; first | rw [G1.out] | rw [G2.out] | rw [G3.out])
    go_ret
    rw [HI.out]
    exact ⟨rfl, HB1.out⟩
  have G3 := Lib.hid g3
  clear g3
  cases g4 : inB e.tot 0 1000000
  · have G4 := Lib.hid g4
    have HI := Lib.hid (show engB e = false by rw [engB_eq]; simp [colB, mksOkB, g4])
    clear g4
    go_enter Try.func49, Try.ntmps49
    go_wp2_with (go_at_call 70; refine (l01In_any _ _ _ _).mono ?_; rintro e w' ⟨rfl, rfl⟩; first | rw [G1.out] | rw [G2.out] | rw [G3.out] | rw [G4.out])
    go_ret
    rw [HI.out]
    exact ⟨rfl, HB1.out⟩
  have G4 := Lib.hid g4
  clear g4
  cases g5 : inB e.lev 0 12
  · have G5 := Lib.hid g5
    have HI := Lib.hid (show engB e = false by rw [engB_eq]; simp [colB, mksOkB, g5])
    clear g5
    go_enter Try.func49, Try.ntmps49
    go_wp2_with (go_at_call 70; refine (l01In_any _ _ _ _).mono ?_; rintro e w' ⟨rfl, rfl⟩; first | rw [G1.out] | rw [G2.out] | rw [G3.out] | rw [G4.out] | rw [G5.out])
    go_ret
    rw [HI.out]
    exact ⟨rfl, HB1.out⟩
  have G5 := Lib.hid g5
  have hlv := inB_true.1 g5
  clear g5
  cases g6 : inB (e.ms.length : Int) 1 13
  · have G6 := Lib.hid g6
    have HI := Lib.hid (show engB e = false by rw [engB_eq]; simp [colB, mksOkB, g6])
    clear g6
    go_enter Try.func49, Try.ntmps49
    go_wp2_with (go_at_call 70; refine (l01In_any _ _ _ _).mono ?_; rintro e w' ⟨rfl, rfl⟩; first | rw [G1.out] | rw [G2.out] | rw [G3.out] | rw [G4.out] | rw [G5.out] | rw [G6.out])
    go_ret
    rw [HI.out]
    exact ⟨rfl, HB1.out⟩
  have G6 := Lib.hid g6
  have hm13 : e.ms.length ≤ 13 := by have := inB_true.1 g6; omega
  clear g6
  by_cases h4 : 400 < e.it.length
  · have HI := Lib.hid (show engB e = false by rw [engB_eq]; simp [helB]; omega)
    go_enter Try.func49, Try.ntmps49
    go_wp2_with (go_at_call 70; refine (l01In_any _ _ _ _).mono ?_; rintro e w' ⟨rfl, rfl⟩; first | rw [G1.out] | rw [G2.out] | rw [G3.out] | rw [G4.out] | rw [G5.out] | rw [G6.out])
    go_ret
    rw [HI.out]
    exact ⟨rfl, HB1.out⟩
  go_enter Try.func49, Try.ntmps49
  go_wp2_with (go_at_call 70; refine (l01In_any _ _ _ _).mono ?_; rintro e w' ⟨rfl, rfl⟩; first | rw [G1.out] | rw [G2.out] | rw [G3.out] | rw [G4.out] | rw [G5.out] | rw [G6.out])
  change Code.wp _ _ _ _ (w.alloc (.cells (ecs e (.slice A e.ms.length c) (.slice A2 e.it.length c2)).toArray 47))
  go_loopw [3] (fun i wr => ∃ k : Nat, k ≤ e.ms.length ∧ i = .int .i64 k ∧ (e.ms.take k).all kindP = true ∧ (e.ms.take k).all colP = true ∧ BlkL wr w.heap.size 47 (ecs e (.slice A e.ms.length c) (.slice A2 e.it.length c2)) ∧ Below w.heap.size w wr) (fun i _ => e.ms.length - (intOf i).toNat)
  case atStart => exact ⟨0, Nat.zero_le _, rfl, by simp, by simp, HX1.out, HB1.out⟩
  case round =>
    clear HX1 HB1
    obtain ⟨k, hk, rfl, hall1, hall2, hbx, hb⟩ := hrel
    have HA1 := Lib.hid hall1
    have HA2 := Lib.hid hall2
    clear hall1 hall2
    have x3 : wr.cell? ⟨w.heap.size, 3, none⟩ = some (.slice A e.ms.length c) := (hbx.cell 3).trans rfl
    have x4 : wr.cell? ⟨w.heap.size, 4, none⟩ = some (.slice A2 e.it.length c2) := (hbx.cell 4).trans rfl
    have xl := hbx.lt
    have HBX := Lib.hid hbx
    have HB := Lib.hid hb
    have M2 := Lib.hid (RS.below M1.out hb)
    clear hbx hb
    by_cases hkl : k < e.ms.length
    · obtain ⟨t, b, o, ht, rfl, hbl, f0, f1⟩ := MS.two M2.out (k := k) hkl
      have HT := Lib.hid ht
      clear ht
      cases hp : inB t.1 0 2
      · have HP := Lib.hid hp
        have HI := Lib.hid (show engB e = false by rw [engB_eq, mksOkB, all_bad HT.out (show kindP t = false from hp)]; simp)
        clear hp
        go_wp2_with (go_at_call 70; refine (l01In_any _ _ _ _).mono ?_; rintro e w' ⟨rfl, rfl⟩; rw [HP.out])
        go_ret
        rw [HI.out]
        exact ⟨rfl, HB.out⟩
      · have HP := Lib.hid hp
        have HI1 := Lib.hid (all_take_succ HT.out HA1.out (show kindP t = true from hp))
        clear hp
        cases hq : inB t.2 (-1000000) 1000000
        · have HQ := Lib.hid hq
          have HI := Lib.hid (show engB e = false by rw [engB_eq, colB, all_bad HT.out (show colP t = false from hq)]; simp)
          clear hq
          go_wp2_with (go_at_call 70; refine (l01In_any _ _ _ _).mono ?_; rintro e w' ⟨rfl, rfl⟩; first | rw [HP.out] | rw [HQ.out])
          go_ret
          rw [HI.out]
          exact ⟨rfl, HB.out⟩
        · have HQ := Lib.hid hq
          have HI2 := Lib.hid (all_take_succ HT.out HA2.out (show colP t = true from hq))
          clear hq
          go_wp2_with (go_at_call 70; refine (l01In_any _ _ _ _).mono ?_; rintro e w' ⟨rfl, rfl⟩; first | rw [HP.out] | rw [HQ.out])
          go_roundw
          case rel => exact ⟨k + 1, by omega, by go_num, HI1.out, HI2.out, HBX.out, HB.out⟩
          case measure => simp [intOf]; omega
    · have HI1 := Lib.hid (all_end rfl hkl HA1.out)
      have HI2 := Lib.hid (all_end rfl hkl HA2.out)
      have HC := Lib.hid (show engB e = (helB e.tot e.it && stkB e.ms.length (tks e.it) e.lev) by
        rw [engB_eq, colB, mksOkB, HI1.out, HI2.out, G1.out, G2.out, G3.out, G4.out, G5.out, G6.out]; rfl)
      have HD := Lib.hid (show helB e.tot e.it = hdsB e.tot e.it e.it.length by unfold helB; rw [decide_eq_true (by omega)]; rfl)
      have HL := Lib.hid (tks_length e.it)
      clear HA1 HA2 HI1 HI2 G1 G2 G3 G4 G5 G6 M1 M2
      go_wp2_with fail
      clear hk hkl x3 x4 xl
      go_loopw [4, 5] (fun s i wr => ∃ k : Nat, k ≤ e.it.length ∧ i = .int .i64 k ∧ s = .int .i64 (e.ms.length + opN (tks e.it) k) ∧ hdsB e.tot e.it k = true ∧ stkN e.ms.length (tks e.it) k = true ∧ 0 ≤ lstN e.it k ∧ BlkL wr w.heap.size 47 (ecs e (.slice A e.ms.length c) (.slice A2 e.it.length c2)) ∧ Below w.heap.size w wr) (fun _ i _ => e.it.length - (intOf i).toNat)
      case atStart => exact ⟨0, Nat.zero_le _, rfl, by simp [opN_zero], rfl, rfl, Int.le_refl _, HBX.out, HB.out⟩
      case round =>
        clear HBX HB
        obtain ⟨k, hk, rfl, rfl, hall1, hall2, hl0, hbx, hb⟩ := hrel
        have x4 : wr.cell? ⟨w.heap.size, 4, none⟩ = some (.slice A2 e.it.length c2) := (hbx.cell 4).trans rfl
        have x5 : wr.cell? ⟨w.heap.size, 5, none⟩ = some (.int .i64 e.tot) := (hbx.cell 5).trans rfl
        have x6 : wr.cell? ⟨w.heap.size, 6, none⟩ = some (.int .i64 e.lev) := (hbx.cell 6).trans rfl
        have xl := hbx.lt
        have HA1 := Lib.hid hall1
        have HA2 := Lib.hid hall2
        clear hall1 hall2
        have hop := opN_bd (tks e.it) k
        have HBX := Lib.hid hbx
        have HB := Lib.hid hb
        have hz := hb.size
        have I2 := Lib.hid (RS.below I1.out hb)
        clear hbx hb
        by_cases hkl : k < e.it.length
        · obtain ⟨t, b, o, ht, rfl, hbl, f0, f1, f2, f3, f4, f5, f6⟩ := HS.sev I2.out (k := k) hkl
          have hs := HF.out k t.t (tks_at ht)
          have HT := Lib.hid ht
          have HO := Lib.hid (opN_succ (tks_at ht))
          have HBAD := Lib.hid (show (hdB t && inB t.st (lstN e.it k) e.tot) = false → engB e = false from fun hq => by
            rw [HC.out, HD.out, hdsB_false (j := k + 1) (by omega) (by rw [hdsB_succ ht, hq]; simp)]; rfl)
          have HPV := Lib.hid (show ∀ j, k = j + 1 → wr.cell? ⟨b, o + j * 7 + 5, none⟩ = some (.int .i64 (lstN e.it k)) from fun j hj => by
            have hjl : j < e.it.length := by omega
            have hj2 := List.getElem?_eq_getElem hjl
            rw [hj, lstN_succ hj2]
            exact (HS.get I2.out hj2).2.2.2.2.2.2.1)
          clear ht
          by_cases qk : t.t.k = 2
          · have b2 : (t.t.k == 2) = true := by rw [qk]; rfl
            have QO := Lib.hid (show t.t.opn = 1 by simp [Tk.opn, qk])
            have QK := Lib.hid (show t.t.k = 2 ∨ t.t.k = 1 from .inl qk)
            clear qk
            go_wp2_with fail
            have hX1 := BlkL.new wr 80 (fh t)
            have hB1 := HB.out.alloc hz (.cells (fh t).toArray 80)
            have hBX1 := HBX.out.alloc (.cells (fh t).toArray 80)
            have hPV1 := fun j hj => ((Below.refl wr.heap.size wr).alloc (Nat.le_refl _) (.cells (fh t).toArray 80)).cell (p := ⟨b, o + j * 7 + 5, none⟩) hbl |>.trans (HPV.out j hj)
            change Code.wp _ _ _ _ (wr.alloc (.cells (fh t).toArray 80))
            generalize wr.alloc (.cells (fh t).toArray 80) = w1 at *
            have CT := Lib.hid (fun V => sTokenOk_any t.t.k t.t.s t.t.d t.t.o V hs)
            have y0 := Bw.rd (show w1.cell? ⟨wr.heap.size, 0, none⟩ = some (.int .i64 t.t.k) from (hX1.cell 0).trans rfl)
            have y1 := Bw.rd (show w1.cell? ⟨wr.heap.size, 1, none⟩ = some (.string t.t.s) from (hX1.cell 1).trans rfl)
            have y2 := Bw.rd (show w1.cell? ⟨wr.heap.size, 2, none⟩ = some (.int .i64 t.t.d) from (hX1.cell 2).trans rfl)
            have y3 := Bw.rd (show w1.cell? ⟨wr.heap.size, 3, none⟩ = some (.int .i64 t.t.o) from (hX1.cell 3).trans rfl)
            have y4 := Bw.rd (show w1.cell? ⟨wr.heap.size, 4, none⟩ = some (.int .i64 t.lv) from (hX1.cell 4).trans rfl)
            have y5 := Bw.rd (show w1.cell? ⟨wr.heap.size, 5, none⟩ = some (.int .i64 t.st) from (hX1.cell 5).trans rfl)
            have y6 := Bw.rd (show w1.cell? ⟨wr.heap.size, 6, none⟩ = some (.int .i64 t.sz) from (hX1.cell 6).trans rfl)
            have z4 := Bw.rd (show w1.cell? ⟨w.heap.size, 4, none⟩ = some (.slice (some ⟨b, o, none⟩) e.it.length c2) from (hBX1.cell 4).trans rfl)
            have z5 := Bw.rd (show w1.cell? ⟨w.heap.size, 5, none⟩ = some (.int .i64 e.tot) from (hBX1.cell 5).trans rfl)
            have HXL := hX1.lt
            have HB1 := Lib.hid hB1
            have HBX1 := Lib.hid hBX1
            have HPV1 := Lib.hid hPV1
            clear hX1 hB1 hBX1 hPV1 f0 f1 f2 f3 f4 f5 f6 x4 x5 x6 xl
            refine wp_region_class (Bw w1) (by kernel_rfl) (by kernel_rfl) (Bw.start w1) (fun hne => ?_)
            repeat (go_big_quiet_step (fail))
            refine wpQuiet_step (fun K hK => ?_)
            go_simp
            refine ⟨.bool (tokB t.t.k t.t.s t.t.d t.t.o), Bw.call rfl CT.out, hK _ ?_⟩
            clear hK K
            cases h1 : tokB t.t.k t.t.s t.t.d t.t.o
            · skip
              have HI := Lib.hid (HBAD.out (by simp [hdB, Tk.ok, h1]))
              repeat (go_big_quiet_step (fail))
              refine wpQuiet_nil ?_
              rintro w3 ⟨x, rfl⟩
              have hx := Lib.hid x.ok
              have hz0 := y0 x
              generalize x.W = w3 at *
              clear y0 y1 y2 y3 y4 y5 y6 z4 z5
              go_wp2
              go_ret
              rw [HI.out]
              exact ⟨rfl, HB1.out.trans (hx.out.mono HB1.out.size)⟩
            repeat (go_big_quiet_step (fail))
            refine wpQuiet_step (fun K hK => ?_)
            go_simp
            refine ⟨.bool (inB t.lv 0 12), Bw.call rfl (same_below (l01In_any _ _ _)), hK _ ?_⟩
            clear hK K
            cases h2 : inB t.lv 0 12
            · skip
              have HI := Lib.hid (HBAD.out (by simp [hdB, h2]))
              repeat (go_big_quiet_step (fail))
              refine wpQuiet_nil ?_
              rintro w3 ⟨x, rfl⟩
              have hx := Lib.hid x.ok
              have hz0 := y0 x
              generalize x.W = w3 at *
              clear y0 y1 y2 y3 y4 y5 y6 z4 z5
              go_wp2
              go_ret
              rw [HI.out]
              exact ⟨rfl, HB1.out.trans (hx.out.mono HB1.out.size)⟩
            repeat (go_big_quiet_step (fail))
            refine wpQuiet_step (fun K hK => ?_)
            go_simp
            refine ⟨.bool (inB t.st 0 e.tot), Bw.call rfl (same_below (l01In_any _ _ _)), hK _ ?_⟩
            clear hK K
            cases h3 : inB t.st 0 e.tot
            · skip
              have HI := Lib.hid (HBAD.out (by rw [inB_false.2 (by have := inB_false.1 h3; omega)]; simp))
              repeat (go_big_quiet_step (fail))
              refine wpQuiet_nil ?_
              rintro w3 ⟨x, rfl⟩
              have hx := Lib.hid x.ok
              have hz0 := y0 x
              generalize x.W = w3 at *
              clear y0 y1 y2 y3 y4 y5 y6 z4 z5
              go_wp2
              go_ret
              rw [HI.out]
              exact ⟨rfl, HB1.out.trans (hx.out.mono HB1.out.size)⟩
            have hst := inB_true.1 h3
            by_cases hk0 : k = 0
            · subst hk0
              have HLE := Lib.hid (show inB t.st (lstN e.it 0) e.tot = true from h3)
              repeat (go_big_quiet_step (fail))
              refine wpQuiet_step (fun K hK => ?_)
              go_simp
              refine ⟨.bool (inB t.sz (-1) 1000000), Bw.call rfl (same_below (l01In_any _ _ _)), hK _ ?_⟩
              clear hK K
              cases h5 : inB t.sz (-1) 1000000
              · skip
                have HI := Lib.hid (HBAD.out (by have hq := inB_false.1 h5; unfold hdB; rw [if_neg (by omega), show inB t.sz 0 1000000 = false from inB_false.2 (by omega)]; simp))
                repeat (go_big_quiet_step (fail))
                refine wpQuiet_nil ?_
                rintro w3 ⟨x, rfl⟩
                have hx := Lib.hid x.ok
                have hz0 := y0 x
                generalize x.W = w3 at *
                clear y0 y1 y2 y3 y4 y5 y6 z4 z5
                go_wp2
                go_ret
                rw [HI.out]
                exact ⟨rfl, HB1.out.trans (hx.out.mono HB1.out.size)⟩
              have hsz := inB_true.1 h5
              by_cases h7 : t.sz = -1
              · have d7 : (t.sz == -1) = true := by rw [h7]; rfl
                have HDK := Lib.hid (show hdB t = true from hdB_true.2 ⟨h1, inB_true.1 h2, hsz, fun _ => QK.out⟩)
                clear h7
                repeat (go_big_quiet_step (fail))
                refine wpQuiet_nil ?_
                rintro w3 ⟨x, rfl⟩
                have hx := Lib.hid x.ok
                have hz0 := y0 x
                generalize x.W = w3 at *
                clear y0 y1 y2 y3 y4 y5 y6 z4 z5
                have HOK := Lib.hid (show hdsB e.tot e.it (0 + 1) = true by rw [hdsB_succ HT.out, HA1.out, HLE.out, HDK.out]; rfl)
                cases h8 : inB ((e.ms.length : Int) + opN (tks e.it) 0 + 1) 1 13
                · have HI := Lib.hid (show engB e = false by
                    have : stkN e.ms.length (tks e.it) (0 + 1) = false := by rw [stkN_succ, HO.out, QO.out, show (e.ms.length : Int) + (opN (tks e.it) 0 + 1) = (e.ms.length : Int) + opN (tks e.it) 0 + 1 by omega, h8]; simp
                    rw [HC.out]; unfold stkB; rw [stkN_false (by rw [HL.out]; omega) this]; simp)
                  have H8 := Lib.hid h8
                  clear h8
                  go_wp2_with (go_at_call 70; refine (l01In_any _ _ _ _).mono ?_; rintro e w' ⟨rfl, rfl⟩; rw [H8.out])
                  go_ret
                  rw [HI.out]
                  exact ⟨rfl, HB1.out.trans (hx.out.mono HB1.out.size)⟩
                · have H8 := Lib.hid h8
                  have HST := Lib.hid (show stkN e.ms.length (tks e.it) (0 + 1) = true by rw [stkN_succ, HO.out, QO.out, show (e.ms.length : Int) + (opN (tks e.it) 0 + 1) = (e.ms.length : Int) + opN (tks e.it) 0 + 1 by omega, h8, HA2.out]; rfl)
                  clear h8
                  go_wp2_with (go_at_call 70; refine (l01In_any _ _ _ _).mono ?_; rintro e w' ⟨rfl, rfl⟩; rw [H8.out])
                  go_roundw
                  case rel => exact ⟨0 + 1, by omega, by go_num, by rw [HO.out, QO.out]; (congr 1; try omega), HOK.out, HST.out, by rw [lstN_succ HT.out]; omega, HBX1.out.below hx.out HBX1.out.lt, HB1.out.trans (hx.out.mono HB1.out.size)⟩
                  case measure => simp [intOf]; omega
              · have d7 : (t.sz == -1) = false := by simpa using h7
                have HDK := Lib.hid (show hdB t = true from hdB_true.2 ⟨h1, inB_true.1 h2, hsz, fun hq => absurd hq h7⟩)
                clear h7
                repeat (go_big_quiet_step (fail))
                refine wpQuiet_nil ?_
                rintro w3 ⟨x, rfl⟩
                have hx := Lib.hid x.ok
                have hz0 := y0 x
                generalize x.W = w3 at *
                clear y0 y1 y2 y3 y4 y5 y6 z4 z5
                have HOK := Lib.hid (show hdsB e.tot e.it (0 + 1) = true by rw [hdsB_succ HT.out, HA1.out, HLE.out, HDK.out]; rfl)
                cases h8 : inB ((e.ms.length : Int) + opN (tks e.it) 0 + 1) 1 13
                · have HI := Lib.hid (show engB e = false by
                    have : stkN e.ms.length (tks e.it) (0 + 1) = false := by rw [stkN_succ, HO.out, QO.out, show (e.ms.length : Int) + (opN (tks e.it) 0 + 1) = (e.ms.length : Int) + opN (tks e.it) 0 + 1 by omega, h8]; simp
                    rw [HC.out]; unfold stkB; rw [stkN_false (by rw [HL.out]; omega) this]; simp)
                  have H8 := Lib.hid h8
                  clear h8
                  go_wp2_with (go_at_call 70; refine (l01In_any _ _ _ _).mono ?_; rintro e w' ⟨rfl, rfl⟩; rw [H8.out])
                  go_ret
                  rw [HI.out]
                  exact ⟨rfl, HB1.out.trans (hx.out.mono HB1.out.size)⟩
                · have H8 := Lib.hid h8
                  have HST := Lib.hid (show stkN e.ms.length (tks e.it) (0 + 1) = true by rw [stkN_succ, HO.out, QO.out, show (e.ms.length : Int) + (opN (tks e.it) 0 + 1) = (e.ms.length : Int) + opN (tks e.it) 0 + 1 by omega, h8, HA2.out]; rfl)
                  clear h8
                  go_wp2_with (go_at_call 70; refine (l01In_any _ _ _ _).mono ?_; rintro e w' ⟨rfl, rfl⟩; rw [H8.out])
                  go_roundw
                  case rel => exact ⟨0 + 1, by omega, by go_num, by rw [HO.out, QO.out]; (congr 1; try omega), HOK.out, HST.out, by rw [lstN_succ HT.out]; omega, HBX1.out.below hx.out HBX1.out.lt, HB1.out.trans (hx.out.mono HB1.out.size)⟩
                  case measure => simp [intOf]; omega
            · obtain ⟨j, rfl⟩ : ∃ j, k = j + 1 := ⟨k - 1, by omega⟩
              have pv := Bw.rd (HPV1.out j rfl)
              by_cases h4 : t.st < lstN e.it (j + 1)
              · have hd4 := decide_eq_true h4
                have HI := Lib.hid (HBAD.out (by rw [inB_false.2 (.inl h4)]; simp))
                repeat (go_big_quiet_step (fail))
                refine wpQuiet_nil ?_
                rintro w3 ⟨x, rfl⟩
                have hx := Lib.hid x.ok
                have hz0 := y0 x
                generalize x.W = w3 at *
                clear y0 y1 y2 y3 y4 y5 y6 z4 z5
                go_wp2
                go_ret
                rw [HI.out]
                exact ⟨rfl, HB1.out.trans (hx.out.mono HB1.out.size)⟩
              have HLE := Lib.hid (show inB t.st (lstN e.it (j + 1)) e.tot = true from inB_true.2 (by omega))
              have hd4 := decide_eq_false h4
              repeat (go_big_quiet_step (fail))
              refine wpQuiet_step (fun K hK => ?_)
              go_simp
              refine ⟨.bool (inB t.sz (-1) 1000000), Bw.call rfl (same_below (l01In_any _ _ _)), hK _ ?_⟩
              clear hK K
              cases h5 : inB t.sz (-1) 1000000
              · skip
                have HI := Lib.hid (HBAD.out (by have hq := inB_false.1 h5; unfold hdB; rw [if_neg (by omega), show inB t.sz 0 1000000 = false from inB_false.2 (by omega)]; simp))
                repeat (go_big_quiet_step (fail))
                refine wpQuiet_nil ?_
                rintro w3 ⟨x, rfl⟩
                have hx := Lib.hid x.ok
                have hz0 := y0 x
                generalize x.W = w3 at *
                clear y0 y1 y2 y3 y4 y5 y6 z4 z5
                go_wp2
                go_ret
                rw [HI.out]
                exact ⟨rfl, HB1.out.trans (hx.out.mono HB1.out.size)⟩
              have hsz := inB_true.1 h5
              by_cases h7 : t.sz = -1
              · have d7 : (t.sz == -1) = true := by rw [h7]; rfl
                have HDK := Lib.hid (show hdB t = true from hdB_true.2 ⟨h1, inB_true.1 h2, hsz, fun _ => QK.out⟩)
                clear h7
                repeat (go_big_quiet_step (fail))
                refine wpQuiet_nil ?_
                rintro w3 ⟨x, rfl⟩
                have hx := Lib.hid x.ok
                have hz0 := y0 x
                generalize x.W = w3 at *
                clear y0 y1 y2 y3 y4 y5 y6 z4 z5
                have HOK := Lib.hid (show hdsB e.tot e.it ((j + 1) + 1) = true by rw [hdsB_succ HT.out, HA1.out, HLE.out, HDK.out]; rfl)
                cases h8 : inB ((e.ms.length : Int) + opN (tks e.it) (j + 1) + 1) 1 13
                · have HI := Lib.hid (show engB e = false by
                    have : stkN e.ms.length (tks e.it) ((j + 1) + 1) = false := by rw [stkN_succ, HO.out, QO.out, show (e.ms.length : Int) + (opN (tks e.it) (j + 1) + 1) = (e.ms.length : Int) + opN (tks e.it) (j + 1) + 1 by omega, h8]; simp
                    rw [HC.out]; unfold stkB; rw [stkN_false (by rw [HL.out]; omega) this]; simp)
                  have H8 := Lib.hid h8
                  clear h8
                  go_wp2_with (go_at_call 70; refine (l01In_any _ _ _ _).mono ?_; rintro e w' ⟨rfl, rfl⟩; rw [H8.out])
                  go_ret
                  rw [HI.out]
                  exact ⟨rfl, HB1.out.trans (hx.out.mono HB1.out.size)⟩
                · have H8 := Lib.hid h8
                  have HST := Lib.hid (show stkN e.ms.length (tks e.it) ((j + 1) + 1) = true by rw [stkN_succ, HO.out, QO.out, show (e.ms.length : Int) + (opN (tks e.it) (j + 1) + 1) = (e.ms.length : Int) + opN (tks e.it) (j + 1) + 1 by omega, h8, HA2.out]; rfl)
                  clear h8
                  go_wp2_with (go_at_call 70; refine (l01In_any _ _ _ _).mono ?_; rintro e w' ⟨rfl, rfl⟩; rw [H8.out])
                  go_roundw
                  case rel => exact ⟨(j + 1) + 1, by omega, by go_num, by rw [HO.out, QO.out]; (congr 1; try omega), HOK.out, HST.out, by rw [lstN_succ HT.out]; omega, HBX1.out.below hx.out HBX1.out.lt, HB1.out.trans (hx.out.mono HB1.out.size)⟩
                  case measure => simp [intOf]; omega
              · have d7 : (t.sz == -1) = false := by simpa using h7
                have HDK := Lib.hid (show hdB t = true from hdB_true.2 ⟨h1, inB_true.1 h2, hsz, fun hq => absurd hq h7⟩)
                clear h7
                repeat (go_big_quiet_step (fail))
                refine wpQuiet_nil ?_
                rintro w3 ⟨x, rfl⟩
                have hx := Lib.hid x.ok
                have hz0 := y0 x
                generalize x.W = w3 at *
                clear y0 y1 y2 y3 y4 y5 y6 z4 z5
                have HOK := Lib.hid (show hdsB e.tot e.it ((j + 1) + 1) = true by rw [hdsB_succ HT.out, HA1.out, HLE.out, HDK.out]; rfl)
                cases h8 : inB ((e.ms.length : Int) + opN (tks e.it) (j + 1) + 1) 1 13
                · have HI := Lib.hid (show engB e = false by
                    have : stkN e.ms.length (tks e.it) ((j + 1) + 1) = false := by rw [stkN_succ, HO.out, QO.out, show (e.ms.length : Int) + (opN (tks e.it) (j + 1) + 1) = (e.ms.length : Int) + opN (tks e.it) (j + 1) + 1 by omega, h8]; simp
                    rw [HC.out]; unfold stkB; rw [stkN_false (by rw [HL.out]; omega) this]; simp)
                  have H8 := Lib.hid h8
                  clear h8
                  go_wp2_with (go_at_call 70; refine (l01In_any _ _ _ _).mono ?_; rintro e w' ⟨rfl, rfl⟩; rw [H8.out])
                  go_ret
                  rw [HI.out]
                  exact ⟨rfl, HB1.out.trans (hx.out.mono HB1.out.size)⟩
                · have H8 := Lib.hid h8
                  have HST := Lib.hid (show stkN e.ms.length (tks e.it) ((j + 1) + 1) = true by rw [stkN_succ, HO.out, QO.out, show (e.ms.length : Int) + (opN (tks e.it) (j + 1) + 1) = (e.ms.length : Int) + opN (tks e.it) (j + 1) + 1 by omega, h8, HA2.out]; rfl)
                  clear h8
                  go_wp2_with (go_at_call 70; refine (l01In_any _ _ _ _).mono ?_; rintro e w' ⟨rfl, rfl⟩; rw [H8.out])
                  go_roundw
                  case rel => exact ⟨(j + 1) + 1, by omega, by go_num, by rw [HO.out, QO.out]; (congr 1; try omega), HOK.out, HST.out, by rw [lstN_succ HT.out]; omega, HBX1.out.below hx.out HBX1.out.lt, HB1.out.trans (hx.out.mono HB1.out.size)⟩
                  case measure => simp [intOf]; omega
          · have b2 : (t.t.k == 2) = false := by simpa using qk
            have QN := Lib.hid qk
            obtain ⟨ob, hob⟩ : ∃ ob, (t.t.k == 1) = ob := ⟨_, rfl⟩
            clear qk
            go_wp2_with fail
            have hX1 := BlkL.new wr 80 (fh t)
            have hB1 := HB.out.alloc hz (.cells (fh t).toArray 80)
            have hBX1 := HBX.out.alloc (.cells (fh t).toArray 80)
            have hPV1 := fun j hj => ((Below.refl wr.heap.size wr).alloc (Nat.le_refl _) (.cells (fh t).toArray 80)).cell (p := ⟨b, o + j * 7 + 5, none⟩) hbl |>.trans (HPV.out j hj)
            change Code.wp _ _ _ _ (wr.alloc (.cells (fh t).toArray 80))
            generalize wr.alloc (.cells (fh t).toArray 80) = w1 at *
            have CT := Lib.hid (fun V => sTokenOk_any t.t.k t.t.s t.t.d t.t.o V hs)
            have y0 := Bw.rd (show w1.cell? ⟨wr.heap.size, 0, none⟩ = some (.int .i64 t.t.k) from (hX1.cell 0).trans rfl)
            have y1 := Bw.rd (show w1.cell? ⟨wr.heap.size, 1, none⟩ = some (.string t.t.s) from (hX1.cell 1).trans rfl)
            have y2 := Bw.rd (show w1.cell? ⟨wr.heap.size, 2, none⟩ = some (.int .i64 t.t.d) from (hX1.cell 2).trans rfl)
            have y3 := Bw.rd (show w1.cell? ⟨wr.heap.size, 3, none⟩ = some (.int .i64 t.t.o) from (hX1.cell 3).trans rfl)
            have y4 := Bw.rd (show w1.cell? ⟨wr.heap.size, 4, none⟩ = some (.int .i64 t.lv) from (hX1.cell 4).trans rfl)
            have y5 := Bw.rd (show w1.cell? ⟨wr.heap.size, 5, none⟩ = some (.int .i64 t.st) from (hX1.cell 5).trans rfl)
            have y6 := Bw.rd (show w1.cell? ⟨wr.heap.size, 6, none⟩ = some (.int .i64 t.sz) from (hX1.cell 6).trans rfl)
            have z4 := Bw.rd (show w1.cell? ⟨w.heap.size, 4, none⟩ = some (.slice (some ⟨b, o, none⟩) e.it.length c2) from (hBX1.cell 4).trans rfl)
            have z5 := Bw.rd (show w1.cell? ⟨w.heap.size, 5, none⟩ = some (.int .i64 e.tot) from (hBX1.cell 5).trans rfl)
            have HXL := hX1.lt
            have HB1 := Lib.hid hB1
            have HBX1 := Lib.hid hBX1
            have HPV1 := Lib.hid hPV1
            clear hX1 hB1 hBX1 hPV1 f0 f1 f2 f3 f4 f5 f6 x4 x5 x6 xl
            refine wp_region_class (Bw w1) (by kernel_rfl) (by kernel_rfl) (Bw.start w1) (fun hne => ?_)
            repeat (go_big_quiet_step (fail))
            refine wpQuiet_step (fun K hK => ?_)
            go_simp
            refine ⟨.bool (tokB t.t.k t.t.s t.t.d t.t.o), Bw.call rfl CT.out, hK _ ?_⟩
            clear hK K
            cases h1 : tokB t.t.k t.t.s t.t.d t.t.o
            · skip
              have HI := Lib.hid (HBAD.out (by simp [hdB, Tk.ok, h1]))
              repeat (go_big_quiet_step (fail))
              refine wpQuiet_nil ?_
              rintro w3 ⟨x, rfl⟩
              have hx := Lib.hid x.ok
              have hz0 := y0 x
              generalize x.W = w3 at *
              clear y0 y1 y2 y3 y4 y5 y6 z4 z5
              go_wp2
              go_ret
              rw [HI.out]
              exact ⟨rfl, HB1.out.trans (hx.out.mono HB1.out.size)⟩
            repeat (go_big_quiet_step (fail))
            refine wpQuiet_step (fun K hK => ?_)
            go_simp
            refine ⟨.bool (inB t.lv 0 12), Bw.call rfl (same_below (l01In_any _ _ _)), hK _ ?_⟩
            clear hK K
            cases h2 : inB t.lv 0 12
            · skip
              have HI := Lib.hid (HBAD.out (by simp [hdB, h2]))
              repeat (go_big_quiet_step (fail))
              refine wpQuiet_nil ?_
              rintro w3 ⟨x, rfl⟩
              have hx := Lib.hid x.ok
              have hz0 := y0 x
              generalize x.W = w3 at *
              clear y0 y1 y2 y3 y4 y5 y6 z4 z5
              go_wp2
              go_ret
              rw [HI.out]
              exact ⟨rfl, HB1.out.trans (hx.out.mono HB1.out.size)⟩
            repeat (go_big_quiet_step (fail))
            refine wpQuiet_step (fun K hK => ?_)
            go_simp
            refine ⟨.bool (inB t.st 0 e.tot), Bw.call rfl (same_below (l01In_any _ _ _)), hK _ ?_⟩
            clear hK K
            cases h3 : inB t.st 0 e.tot
            · skip
              have HI := Lib.hid (HBAD.out (by rw [inB_false.2 (by have := inB_false.1 h3; omega)]; simp))
              repeat (go_big_quiet_step (fail))
              refine wpQuiet_nil ?_
              rintro w3 ⟨x, rfl⟩
              have hx := Lib.hid x.ok
              have hz0 := y0 x
              generalize x.W = w3 at *
              clear y0 y1 y2 y3 y4 y5 y6 z4 z5
              go_wp2
              go_ret
              rw [HI.out]
              exact ⟨rfl, HB1.out.trans (hx.out.mono HB1.out.size)⟩
            have hst := inB_true.1 h3
            by_cases hk0 : k = 0
            · subst hk0
              have HLE := Lib.hid (show inB t.st (lstN e.it 0) e.tot = true from h3)
              repeat (go_big_quiet_step (fail))
              refine wpQuiet_step (fun K hK => ?_)
              go_simp
              refine ⟨.bool (inB t.sz (-1) 1000000), Bw.call rfl (same_below (l01In_any _ _ _)), hK _ ?_⟩
              clear hK K
              cases h5 : inB t.sz (-1) 1000000
              · skip
                have HI := Lib.hid (HBAD.out (by have hq := inB_false.1 h5; unfold hdB; rw [if_neg (by omega), show inB t.sz 0 1000000 = false from inB_false.2 (by omega)]; simp))
                repeat (go_big_quiet_step (fail))
                refine wpQuiet_nil ?_
                rintro w3 ⟨x, rfl⟩
                have hx := Lib.hid x.ok
                have hz0 := y0 x
                generalize x.W = w3 at *
                clear y0 y1 y2 y3 y4 y5 y6 z4 z5
                go_wp2
                go_ret
                rw [HI.out]
                exact ⟨rfl, HB1.out.trans (hx.out.mono HB1.out.size)⟩
              have hsz := inB_true.1 h5
              by_cases h7 : t.sz = -1
              · have d7 : (t.sz == -1) = true := by rw [h7]; rfl
                have H7 := Lib.hid h7
                clear h7
                repeat (go_big_quiet_step (fail))
                refine wpQuiet_nil ?_
                rintro w3 ⟨x, rfl⟩
                have hx := Lib.hid x.ok
                have hz0 := y0 x
                generalize x.W = w3 at *
                clear y0 y1 y2 y3 y4 y5 y6 z4 z5
                cases ob
                · have HI := Lib.hid (HBAD.out (by have q1 : ¬ t.t.k = 1 := (by simpa using hob); unfold hdB; rw [if_pos H7.out]; simp [QN.out, q1]))
                  go_wp2
                  go_ret
                  rw [HI.out]
                  exact ⟨rfl, HB1.out.trans (hx.out.mono HB1.out.size)⟩
                · have q1 : t.t.k = 1 := by simpa using hob
                  have HDK := Lib.hid (show hdB t = true from hdB_true.2 ⟨h1, inB_true.1 h2, hsz, fun _ => .inr q1⟩)
                  have b3 : (t.t.k == 3) = false := by rw [q1]; rfl
                  have QO := Lib.hid (show t.t.opn = 0 by simp [Tk.opn, q1])
                  clear q1
                  have HOK := Lib.hid (show hdsB e.tot e.it (0 + 1) = true by rw [hdsB_succ HT.out, HA1.out, HLE.out, HDK.out]; rfl)
                  cases h8 : inB ((e.ms.length : Int) + opN (tks e.it) 0) 1 13
                  · have HI := Lib.hid (show engB e = false by
                      have : stkN e.ms.length (tks e.it) (0 + 1) = false := by rw [stkN_succ, HO.out, QO.out, show (e.ms.length : Int) + (opN (tks e.it) 0 + 0) = (e.ms.length : Int) + opN (tks e.it) 0 by omega, h8]; simp
                      rw [HC.out]; unfold stkB; rw [stkN_false (by rw [HL.out]; omega) this]; simp)
                    have H8 := Lib.hid h8
                    clear h8
                    go_wp2_with (go_at_call 70; refine (l01In_any _ _ _ _).mono ?_; rintro e w' ⟨rfl, rfl⟩; rw [H8.out])
                    go_ret
                    rw [HI.out]
                    exact ⟨rfl, HB1.out.trans (hx.out.mono HB1.out.size)⟩
                  · have H8 := Lib.hid h8
                    have HST := Lib.hid (show stkN e.ms.length (tks e.it) (0 + 1) = true by rw [stkN_succ, HO.out, QO.out, show (e.ms.length : Int) + (opN (tks e.it) 0 + 0) = (e.ms.length : Int) + opN (tks e.it) 0 by omega, h8, HA2.out]; rfl)
                    clear h8
                    go_wp2_with (go_at_call 70; refine (l01In_any _ _ _ _).mono ?_; rintro e w' ⟨rfl, rfl⟩; rw [H8.out])
                    go_roundw
                    case rel => exact ⟨0 + 1, by omega, by go_num, by rw [HO.out, QO.out]; (congr 1; try omega), HOK.out, HST.out, by rw [lstN_succ HT.out]; omega, HBX1.out.below hx.out HBX1.out.lt, HB1.out.trans (hx.out.mono HB1.out.size)⟩
                    case measure => simp [intOf]; omega
              · have d7 : (t.sz == -1) = false := by simpa using h7
                have HDK := Lib.hid (show hdB t = true from hdB_true.2 ⟨h1, inB_true.1 h2, hsz, fun hq => absurd hq h7⟩)
                clear h7
                repeat (go_big_quiet_step (fail))
                refine wpQuiet_nil ?_
                rintro w3 ⟨x, rfl⟩
                have hx := Lib.hid x.ok
                have hz0 := y0 x
                generalize x.W = w3 at *
                clear y0 y1 y2 y3 y4 y5 y6 z4 z5
                by_cases q3 : t.t.k = 3
                · have b3 : (t.t.k == 3) = true := by rw [q3]; rfl
                  have QO := Lib.hid (show t.t.opn = -1 by simp [Tk.opn, q3])
                  clear q3
                  have HOK := Lib.hid (show hdsB e.tot e.it (0 + 1) = true by rw [hdsB_succ HT.out, HA1.out, HLE.out, HDK.out]; rfl)
                  cases h8 : inB ((e.ms.length : Int) + opN (tks e.it) 0 - 1) 1 13
                  · have HI := Lib.hid (show engB e = false by
                      have : stkN e.ms.length (tks e.it) (0 + 1) = false := by rw [stkN_succ, HO.out, QO.out, show (e.ms.length : Int) + (opN (tks e.it) 0 + -1) = (e.ms.length : Int) + opN (tks e.it) 0 - 1 by omega, h8]; simp
                      rw [HC.out]; unfold stkB; rw [stkN_false (by rw [HL.out]; omega) this]; simp)
                    have H8 := Lib.hid h8
                    clear h8
                    go_wp2_with (go_at_call 70; refine (l01In_any _ _ _ _).mono ?_; rintro e w' ⟨rfl, rfl⟩; rw [H8.out])
                    go_ret
                    rw [HI.out]
                    exact ⟨rfl, HB1.out.trans (hx.out.mono HB1.out.size)⟩
                  · have H8 := Lib.hid h8
                    have HST := Lib.hid (show stkN e.ms.length (tks e.it) (0 + 1) = true by rw [stkN_succ, HO.out, QO.out, show (e.ms.length : Int) + (opN (tks e.it) 0 + -1) = (e.ms.length : Int) + opN (tks e.it) 0 - 1 by omega, h8, HA2.out]; rfl)
                    clear h8
                    go_wp2_with (go_at_call 70; refine (l01In_any _ _ _ _).mono ?_; rintro e w' ⟨rfl, rfl⟩; rw [H8.out])
                    go_roundw
                    case rel => exact ⟨0 + 1, by omega, by go_num, by rw [HO.out, QO.out]; (congr 1; try omega), HOK.out, HST.out, by rw [lstN_succ HT.out]; omega, HBX1.out.below hx.out HBX1.out.lt, HB1.out.trans (hx.out.mono HB1.out.size)⟩
                    case measure => simp [intOf]; omega
                · have b3 : (t.t.k == 3) = false := by simpa using q3
                  have QO := Lib.hid (show t.t.opn = 0 by simp [Tk.opn, q3, QN.out])
                  clear q3
                  have HOK := Lib.hid (show hdsB e.tot e.it (0 + 1) = true by rw [hdsB_succ HT.out, HA1.out, HLE.out, HDK.out]; rfl)
                  cases h8 : inB ((e.ms.length : Int) + opN (tks e.it) 0) 1 13
                  · have HI := Lib.hid (show engB e = false by
                      have : stkN e.ms.length (tks e.it) (0 + 1) = false := by rw [stkN_succ, HO.out, QO.out, show (e.ms.length : Int) + (opN (tks e.it) 0 + 0) = (e.ms.length : Int) + opN (tks e.it) 0 by omega, h8]; simp
                      rw [HC.out]; unfold stkB; rw [stkN_false (by rw [HL.out]; omega) this]; simp)
                    have H8 := Lib.hid h8
                    clear h8
                    go_wp2_with (go_at_call 70; refine (l01In_any _ _ _ _).mono ?_; rintro e w' ⟨rfl, rfl⟩; rw [H8.out])
                    go_ret
                    rw [HI.out]
                    exact ⟨rfl, HB1.out.trans (hx.out.mono HB1.out.size)⟩
                  · have H8 := Lib.hid h8
                    have HST := Lib.hid (show stkN e.ms.length (tks e.it) (0 + 1) = true by rw [stkN_succ, HO.out, QO.out, show (e.ms.length : Int) + (opN (tks e.it) 0 + 0) = (e.ms.length : Int) + opN (tks e.it) 0 by omega, h8, HA2.out]; rfl)
                    clear h8
                    go_wp2_with (go_at_call 70; refine (l01In_any _ _ _ _).mono ?_; rintro e w' ⟨rfl, rfl⟩; rw [H8.out])
                    go_roundw
                    case rel => exact ⟨0 + 1, by omega, by go_num, by rw [HO.out, QO.out]; (congr 1; try omega), HOK.out, HST.out, by rw [lstN_succ HT.out]; omega, HBX1.out.below hx.out HBX1.out.lt, HB1.out.trans (hx.out.mono HB1.out.size)⟩
                    case measure => simp [intOf]; omega
            · obtain ⟨j, rfl⟩ : ∃ j, k = j + 1 := ⟨k - 1, by omega⟩
              have pv := Bw.rd (HPV1.out j rfl)
              by_cases h4 : t.st < lstN e.it (j + 1)
              · have hd4 := decide_eq_true h4
                have HI := Lib.hid (HBAD.out (by rw [inB_false.2 (.inl h4)]; simp))
                repeat (go_big_quiet_step (fail))
                refine wpQuiet_nil ?_
                rintro w3 ⟨x, rfl⟩
                have hx := Lib.hid x.ok
                have hz0 := y0 x
                generalize x.W = w3 at *
                clear y0 y1 y2 y3 y4 y5 y6 z4 z5
                go_wp2
                go_ret
                rw [HI.out]
                exact ⟨rfl, HB1.out.trans (hx.out.mono HB1.out.size)⟩
              have HLE := Lib.hid (show inB t.st (lstN e.it (j + 1)) e.tot = true from inB_true.2 (by omega))
              have hd4 := decide_eq_false h4
              repeat (go_big_quiet_step (fail))
              refine wpQuiet_step (fun K hK => ?_)
              go_simp
              refine ⟨.bool (inB t.sz (-1) 1000000), Bw.call rfl (same_below (l01In_any _ _ _)), hK _ ?_⟩
              clear hK K
              cases h5 : inB t.sz (-1) 1000000
              · skip
                have HI := Lib.hid (HBAD.out (by have hq := inB_false.1 h5; unfold hdB; rw [if_neg (by omega), show inB t.sz 0 1000000 = false from inB_false.2 (by omega)]; simp))
                repeat (go_big_quiet_step (fail))
                refine wpQuiet_nil ?_
                rintro w3 ⟨x, rfl⟩
                have hx := Lib.hid x.ok
                have hz0 := y0 x
                generalize x.W = w3 at *
                clear y0 y1 y2 y3 y4 y5 y6 z4 z5
                go_wp2
                go_ret
                rw [HI.out]
                exact ⟨rfl, HB1.out.trans (hx.out.mono HB1.out.size)⟩
              have hsz := inB_true.1 h5
              by_cases h7 : t.sz = -1
              · have d7 : (t.sz == -1) = true := by rw [h7]; rfl
                have H7 := Lib.hid h7
                clear h7
                repeat (go_big_quiet_step (fail))
                refine wpQuiet_nil ?_
                rintro w3 ⟨x, rfl⟩
                have hx := Lib.hid x.ok
                have hz0 := y0 x
                generalize x.W = w3 at *
                clear y0 y1 y2 y3 y4 y5 y6 z4 z5
                cases ob
                · have HI := Lib.hid (HBAD.out (by have q1 : ¬ t.t.k = 1 := (by simpa using hob); unfold hdB; rw [if_pos H7.out]; simp [QN.out, q1]))
                  go_wp2
                  go_ret
                  rw [HI.out]
                  exact ⟨rfl, HB1.out.trans (hx.out.mono HB1.out.size)⟩
                · have q1 : t.t.k = 1 := by simpa using hob
                  have HDK := Lib.hid (show hdB t = true from hdB_true.2 ⟨h1, inB_true.1 h2, hsz, fun _ => .inr q1⟩)
                  have b3 : (t.t.k == 3) = false := by rw [q1]; rfl
                  have QO := Lib.hid (show t.t.opn = 0 by simp [Tk.opn, q1])
                  clear q1
                  have HOK := Lib.hid (show hdsB e.tot e.it ((j + 1) + 1) = true by rw [hdsB_succ HT.out, HA1.out, HLE.out, HDK.out]; rfl)
                  cases h8 : inB ((e.ms.length : Int) + opN (tks e.it) (j + 1)) 1 13
                  · have HI := Lib.hid (show engB e = false by
                      have : stkN e.ms.length (tks e.it) ((j + 1) + 1) = false := by rw [stkN_succ, HO.out, QO.out, show (e.ms.length : Int) + (opN (tks e.it) (j + 1) + 0) = (e.ms.length : Int) + opN (tks e.it) (j + 1) by omega, h8]; simp
                      rw [HC.out]; unfold stkB; rw [stkN_false (by rw [HL.out]; omega) this]; simp)
                    have H8 := Lib.hid h8
                    clear h8
                    go_wp2_with (go_at_call 70; refine (l01In_any _ _ _ _).mono ?_; rintro e w' ⟨rfl, rfl⟩; rw [H8.out])
                    go_ret
                    rw [HI.out]
                    exact ⟨rfl, HB1.out.trans (hx.out.mono HB1.out.size)⟩
                  · have H8 := Lib.hid h8
                    have HST := Lib.hid (show stkN e.ms.length (tks e.it) ((j + 1) + 1) = true by rw [stkN_succ, HO.out, QO.out, show (e.ms.length : Int) + (opN (tks e.it) (j + 1) + 0) = (e.ms.length : Int) + opN (tks e.it) (j + 1) by omega, h8, HA2.out]; rfl)
                    clear h8
                    go_wp2_with (go_at_call 70; refine (l01In_any _ _ _ _).mono ?_; rintro e w' ⟨rfl, rfl⟩; rw [H8.out])
                    go_roundw
                    case rel => exact ⟨(j + 1) + 1, by omega, by go_num, by rw [HO.out, QO.out]; (congr 1; try omega), HOK.out, HST.out, by rw [lstN_succ HT.out]; omega, HBX1.out.below hx.out HBX1.out.lt, HB1.out.trans (hx.out.mono HB1.out.size)⟩
                    case measure => simp [intOf]; omega
              · have d7 : (t.sz == -1) = false := by simpa using h7
                have HDK := Lib.hid (show hdB t = true from hdB_true.2 ⟨h1, inB_true.1 h2, hsz, fun hq => absurd hq h7⟩)
                clear h7
                repeat (go_big_quiet_step (fail))
                refine wpQuiet_nil ?_
                rintro w3 ⟨x, rfl⟩
                have hx := Lib.hid x.ok
                have hz0 := y0 x
                generalize x.W = w3 at *
                clear y0 y1 y2 y3 y4 y5 y6 z4 z5
                by_cases q3 : t.t.k = 3
                · have b3 : (t.t.k == 3) = true := by rw [q3]; rfl
                  have QO := Lib.hid (show t.t.opn = -1 by simp [Tk.opn, q3])
                  clear q3
                  have HOK := Lib.hid (show hdsB e.tot e.it ((j + 1) + 1) = true by rw [hdsB_succ HT.out, HA1.out, HLE.out, HDK.out]; rfl)
                  cases h8 : inB ((e.ms.length : Int) + opN (tks e.it) (j + 1) - 1) 1 13
                  · have HI := Lib.hid (show engB e = false by
                      have : stkN e.ms.length (tks e.it) ((j + 1) + 1) = false := by rw [stkN_succ, HO.out, QO.out, show (e.ms.length : Int) + (opN (tks e.it) (j + 1) + -1) = (e.ms.length : Int) + opN (tks e.it) (j + 1) - 1 by omega, h8]; simp
                      rw [HC.out]; unfold stkB; rw [stkN_false (by rw [HL.out]; omega) this]; simp)
                    have H8 := Lib.hid h8
                    clear h8
                    go_wp2_with (go_at_call 70; refine (l01In_any _ _ _ _).mono ?_; rintro e w' ⟨rfl, rfl⟩; rw [H8.out])
                    go_ret
                    rw [HI.out]
                    exact ⟨rfl, HB1.out.trans (hx.out.mono HB1.out.size)⟩
                  · have H8 := Lib.hid h8
                    have HST := Lib.hid (show stkN e.ms.length (tks e.it) ((j + 1) + 1) = true by rw [stkN_succ, HO.out, QO.out, show (e.ms.length : Int) + (opN (tks e.it) (j + 1) + -1) = (e.ms.length : Int) + opN (tks e.it) (j + 1) - 1 by omega, h8, HA2.out]; rfl)
                    clear h8
                    go_wp2_with (go_at_call 70; refine (l01In_any _ _ _ _).mono ?_; rintro e w' ⟨rfl, rfl⟩; rw [H8.out])
                    go_roundw
                    case rel => exact ⟨(j + 1) + 1, by omega, by go_num, by rw [HO.out, QO.out]; (congr 1; try omega), HOK.out, HST.out, by rw [lstN_succ HT.out]; omega, HBX1.out.below hx.out HBX1.out.lt, HB1.out.trans (hx.out.mono HB1.out.size)⟩
                    case measure => simp [intOf]; omega
                · have b3 : (t.t.k == 3) = false := by simpa using q3
                  have QO := Lib.hid (show t.t.opn = 0 by simp [Tk.opn, q3, QN.out])
                  clear q3
                  have HOK := Lib.hid (show hdsB e.tot e.it ((j + 1) + 1) = true by rw [hdsB_succ HT.out, HA1.out, HLE.out, HDK.out]; rfl)
                  cases h8 : inB ((e.ms.length : Int) + opN (tks e.it) (j + 1)) 1 13
                  · have HI := Lib.hid (show engB e = false by
                      have : stkN e.ms.length (tks e.it) ((j + 1) + 1) = false := by rw [stkN_succ, HO.out, QO.out, show (e.ms.length : Int) + (opN (tks e.it) (j + 1) + 0) = (e.ms.length : Int) + opN (tks e.it) (j + 1) by omega, h8]; simp
                      rw [HC.out]; unfold stkB; rw [stkN_false (by rw [HL.out]; omega) this]; simp)
                    have H8 := Lib.hid h8
                    clear h8
                    go_wp2_with (go_at_call 70; refine (l01In_any _ _ _ _).mono ?_; rintro e w' ⟨rfl, rfl⟩; rw [H8.out])
                    go_ret
                    rw [HI.out]
                    exact ⟨rfl, HB1.out.trans (hx.out.mono HB1.out.size)⟩
                  · have H8 := Lib.hid h8
                    have HST := Lib.hid (show stkN e.ms.length (tks e.it) ((j + 1) + 1) = true by rw [stkN_succ, HO.out, QO.out, show (e.ms.length : Int) + (opN (tks e.it) (j + 1) + 0) = (e.ms.length : Int) + opN (tks e.it) (j + 1) by omega, h8, HA2.out]; rfl)
                    clear h8
                    go_wp2_with (go_at_call 70; refine (l01In_any _ _ _ _).mono ?_; rintro e w' ⟨rfl, rfl⟩; rw [H8.out])
                    go_roundw
                    case rel => exact ⟨(j + 1) + 1, by omega, by go_num, by rw [HO.out, QO.out]; (congr 1; try omega), HOK.out, HST.out, by rw [lstN_succ HT.out]; omega, HBX1.out.below hx.out HBX1.out.lt, HB1.out.trans (hx.out.mono HB1.out.size)⟩
                    case measure => simp [intOf]; omega
        · have HJ := Lib.hid (show engB e = ((e.ms.length : Int) + opN (tks e.it) k == e.lev + 1) by
            have hke : k = e.it.length := by omega
            have hke2 : k = (tks e.it).length := by have := HL.out; omega
            rw [HC.out, HD.out, ← hke, HA1.out, Bool.true_and]
            unfold stkB
            rw [← hke2, HA2.out, Bool.true_and]
            by_cases hq : (e.ms.length : Int) + opN (tks e.it) k = e.lev + 1
            · rw [hq]; simp
            · simp [hq])
          go_wp2
          go_ret
          rw [HJ.out]
          exact ⟨rfl, HB.out⟩
end Go.Proofs.Ytegjgbgnpkncbab
