/-
  The scanner makes a held of a token (under way: its first region is open).
-/
import Derived.Test.YtegjgbgnpkncbabKf38
import Derived.Deep.Cut
namespace Go.Proofs.Ytegjgbgnpkncbab
open Go.RowKit
set_option linter.unusedVariables false
/-- the held that a token becomes. -/
def newH (tot lev : Int) (t : Tk) : Hd := ⟨t, if t.k = 3 then lev - 1 else lev, tot, if t.k = 2 ∨ t.k = 1 then -1 else t.wid⟩
def scB (tot lev : Int) (t : Tk) : Bool := t.ok && (inB (lev + t.opn) 0 12 && decide (tot + t.wid ≤ 1000000))
def ScP (w : World) (q : Nat) (tot lev : Int) (t : Tk) (r : Ending) (w' : World) : Prop :=
  (scB tot lev t = false ∧ r = .returned (.tuple #[.agg (fh zeroH).toArray, .bool false]) ∨
   scB tot lev t = true ∧ r = .returned (.tuple #[.agg (fh (newH tot lev t)).toArray, .bool true])) ∧ w.grownBy w' (some q)
theorem newH_lv {lev mm : Int} {t : Tk} (hm : (if lev + t.opn < lev then lev + t.opn else lev) = mm) : (if t.k = 3 then lev - 1 else lev) = mm := by
  rcases t.opn_cases with ⟨h, e⟩ | ⟨h, e⟩ | ⟨h, h', e⟩
  · rw [e, if_neg (by omega)] at hm; rw [if_neg (by omega)]; exact hm
  · rw [e, if_pos (by omega)] at hm; rw [if_pos h]; omega
  · rw [e, if_neg (by omega)] at hm; rw [if_neg h']; exact hm
theorem newH_no {tot lev mm W : Int} {t : Tk} (hm : (if lev + t.opn < lev then lev + t.opn else lev) = mm) (hW : t.wid = W) (hz : (decide (t.k = 2) || decide (t.k = 1)) = false) : newH tot lev t = ⟨t, mm, tot, W⟩ := by
  simp at hz
  rw [newH, newH_lv hm, hW, if_neg (by omega)]
theorem newH_yes {tot lev mm W : Int} {t : Tk} (hm : (if lev + t.opn < lev then lev + t.opn else lev) = mm) (hW : t.wid = W) (hz : (decide (t.k = 2) || decide (t.k = 1)) = true) : newH tot lev t = ⟨t, mm, tot, -1⟩ := by
  simp at hz
  rw [newH, newH_lv hm, if_pos hz]
theorem grownB {w w' w'' : World} {row : Option Nat} (h : w.grownBy w' row) (hb : Below w.heap.size w' w'') : w.grownBy w'' row := ⟨hb.os.trans h.os, hb.tape.trans h.tape, hb.output.trans h.output, Nat.le_trans h.size hb.size, fun k hk hne => (hb.block k hk).trans (h.block k hk hne)⟩
theorem grownS {w w' : World} (h : Below w.heap.size w w') (row : Option Nat) : w.grownBy w' row := ⟨h.os, h.tape, h.output, h.size, fun k hk _ => h.block k hk⟩
set_option maxHeartbeats 4000000 in
set_option maxRecDepth 100000 in
theorem scan_any (w : World) (q : Nat) (tot lev : Int) (t : Tk) (hs : t.s.size ≤ maxLen) (hq : BlkL w q 86 [.int .i64 tot, .int .i64 lev]) (ht : 0 ≤ tot ∧ tot ≤ 1000000) (hl : 0 ≤ lev ∧ lev ≤ 12) :
    Calls Try.prog 59 #[.pointer (some ⟨q, 0, none⟩), .agg #[.int .i64 t.k, .string t.s, .int .i64 t.d, .int .i64 t.o]] w (ScP w q tot lev t) := by
  have HQ := Lib.hid hq
  have hql := hq.lt
  clear hq
  go_enter Try.func59, Try.ntmps59
  go_wp2_with fail
  have hT0 := BlkL.new w 51 [.int .i64 t.k, .string t.s, .int .i64 t.d, .int .i64 t.o]
  have hT1 := hT0.alloc (.cells (fh zeroH).toArray 80)
  have hR1 := BlkL.new (w.alloc (.cells #[.int .i64 t.k, .string t.s, .int .i64 t.d, .int .i64 t.o] 51)) 80 (fh zeroH)
  rw [show (w.alloc (.cells #[.int .i64 t.k, .string t.s, .int .i64 t.d, .int .i64 t.o] 51)).heap.size = w.heap.size + 1 by simp] at hR1
  have hB1 := ((Below.refl w.heap.size w).alloc (Nat.le_refl _) (.cells #[.int .i64 t.k, .string t.s, .int .i64 t.d, .int .i64 t.o] 51)).alloc (by simp) (.cells (fh zeroH).toArray 80)
  change Calls _ _ _ ((w.alloc (.cells #[.int .i64 t.k, .string t.s, .int .i64 t.d, .int .i64 t.o] 51)).alloc (.cells (fh zeroH).toArray 80)) _
  generalize (w.alloc (.cells #[.int .i64 t.k, .string t.s, .int .i64 t.d, .int .i64 t.o] 51)).alloc (.cells (fh zeroH).toArray 80) = w1 at *
  clear hT0
  refine (WidthOf_any _ _ _ _ w1 hs).mono ?_
  rintro r w2 ⟨rfl, hb2⟩
  have HB2 := Lib.hid (hB1.trans (hb2.mono hB1.size))
  have hT2 := hT1.below hb2 hT1.lt
  have hR2 := hR1.below hb2 hR1.lt
  have HQ2 := Lib.hid (HQ.out.below HB2.out HQ.out.lt)
  clear hb2 hB1 hT1 hR1
  have a1 := Bw.rd (show w2.cell? ⟨q, 1, none⟩ = some (.int .i64 lev) from (HQ2.out.cell 1).trans rfl)
  have t0 := Bw.rd (show w2.cell? ⟨w.heap.size, 0, none⟩ = some (.int .i64 t.k) from (hT2.cell 0).trans rfl)
  have t1 := Bw.rd (show w2.cell? ⟨w.heap.size, 1, none⟩ = some (.string t.s) from (hT2.cell 1).trans rfl)
  have t2 := Bw.rd (show w2.cell? ⟨w.heap.size, 2, none⟩ = some (.int .i64 t.d) from (hT2.cell 2).trans rfl)
  have t3 := Bw.rd (show w2.cell? ⟨w.heap.size, 3, none⟩ = some (.int .i64 t.o) from (hT2.cell 3).trans rfl)
  have HT2 := Lib.hid hT2
  have HR2 := Lib.hid hR2
  clear hT2 hR2
  go_wp2_with fail
  refine wp_region_class (Bw w2) (by kernel_rfl) (by kernel_rfl) (Bw.start w2) (fun hne => ?_)
  repeat (go_big_quiet_step (fail))
  refine wpQuiet_step (fun K hK => ?_)
  go_simp
  refine ⟨.int .i64 t.opn, fun x => calls_class x (Bw.keep w2) (opening_any t _), hK _ ?_⟩
  clear hK K
  have hop : -1 ≤ t.opn ∧ t.opn ≤ 1 := by rcases t.opn_cases with ⟨_, h⟩ | ⟨_, h⟩ | ⟨_, _, h⟩ <;> rw [h] <;> omega
  repeat (go_big_quiet_step (fail))
  refine wpQuiet_nil ?_
  rintro w3 ⟨x, rfl⟩
  have hx := x.ok
  generalize x.W = w3 at *
  clear a1 t0 t1 t2 t3
  have HB3 := Lib.hid (HB2.out.trans (Below.mono hx (HB2.out.size)))
  have HQ3 := Lib.hid (HQ2.out.below hx HQ2.out.lt)
  have HT3 := Lib.hid (HT2.out.below hx HT2.out.lt)
  have HR3 := Lib.hid (HR2.out.below hx HR2.out.lt)
  have q0 : w3.cell? ⟨q, 0, none⟩ = some (.int .i64 tot) := (HQ3.out.cell 0).trans rfl
  have q1 : w3.cell? ⟨q, 1, none⟩ = some (.int .i64 lev) := (HQ3.out.cell 1).trans rfl
  clear hx HB2 HQ2 HT2 HR2
  have f0 := HR3.out.frozen 0
  have f1 := HR3.out.frozen 1
  have f2 := HR3.out.frozen 2
  have f3 := HR3.out.frozen 3
  have f4 := HR3.out.frozen 4
  have f5 := HR3.out.frozen 5
  have f6 := HR3.out.frozen 6
  have r0 : w3.cell? ⟨w.heap.size + 1, 0, none⟩ = some (.int .i64 0) := (HR3.out.cell 0).trans rfl
  have r1 : w3.cell? ⟨w.heap.size + 1, 1, none⟩ = some (.string ByteArray.empty) := (HR3.out.cell 1).trans rfl
  have r2 : w3.cell? ⟨w.heap.size + 1, 2, none⟩ = some (.int .i64 0) := (HR3.out.cell 2).trans rfl
  have r3 : w3.cell? ⟨w.heap.size + 1, 3, none⟩ = some (.int .i64 0) := (HR3.out.cell 3).trans rfl
  have r4 : w3.cell? ⟨w.heap.size + 1, 4, none⟩ = some (.int .i64 0) := (HR3.out.cell 4).trans rfl
  have r5 : w3.cell? ⟨w.heap.size + 1, 5, none⟩ = some (.int .i64 0) := (HR3.out.cell 5).trans rfl
  have r6 : w3.cell? ⟨w.heap.size + 1, 6, none⟩ = some (.int .i64 0) := (HR3.out.cell 6).trans rfl
  by_cases hok : t.ok = true
  · have hw := Tk.wid_bd hok
    have HOK := Lib.hid hok
    clear hok
    rw [show widB t.k t.s t.d t.o = t.wid from rfl]
    obtain ⟨W, hW⟩ : ∃ W, t.wid = W := ⟨_, rfl⟩
    rw [hW] at hw ⊢
    have HW := Lib.hid hW
    clear hW
    go_wp2_with fail
    refine (within_any _ _ _ _).mono ?_
    rintro e w3' ⟨rfl, rfl⟩
    cases hin : inB (lev + t.opn) 0 12
    · have HSC := Lib.hid (show scB tot lev t = false by simp [scB, HOK.out, hin])
      clear hin
      go_wp2
      change bodyPost _ _ _ _ _ (World.setN w3 (w.heap.size + 1) 0 (fh zeroH))
      have hR4 : BlkL (World.setN w3 (w.heap.size + 1) 0 (fh zeroH)) (w.heap.size + 1) 80 (fh zeroH) := BlkL.setN (fh zeroH) w3 (fh zeroH) 0 HR3.out
      have hB4 : Below w.heap.size w (World.setN w3 (w.heap.size + 1) 0 (fh zeroH)) := below_setN (Nat.le_succ _) (fh zeroH) w3 0 HB3.out
      generalize World.setN w3 (w.heap.size + 1) 0 (fh zeroH) = w4 at *
      have k0 : w4.cell? ⟨w.heap.size + 1, 0, none⟩ = some (.int .i64 0) := (hR4.cell 0).trans rfl
      have k1 : w4.cell? ⟨w.heap.size + 1, 1, none⟩ = some (.string ByteArray.empty) := (hR4.cell 1).trans rfl
      have k2 : w4.cell? ⟨w.heap.size + 1, 2, none⟩ = some (.int .i64 0) := (hR4.cell 2).trans rfl
      have k3 : w4.cell? ⟨w.heap.size + 1, 3, none⟩ = some (.int .i64 0) := (hR4.cell 3).trans rfl
      have k4 : w4.cell? ⟨w.heap.size + 1, 4, none⟩ = some (.int .i64 0) := (hR4.cell 4).trans rfl
      have k5 : w4.cell? ⟨w.heap.size + 1, 5, none⟩ = some (.int .i64 0) := (hR4.cell 5).trans rfl
      have k6 : w4.cell? ⟨w.heap.size + 1, 6, none⟩ = some (.int .i64 0) := (hR4.cell 6).trans rfl
      refine bodyPost_ret (v := .tuple #[.agg #[.int .i64 0, .string ByteArray.empty, .int .i64 0, .int .i64 0, .int .i64 0, .int .i64 0, .int .i64 0], .bool false]) (by simp [results, Try.results59, go_sem, k0, k1, k2, k3, k4, k5, k6]) rfl ⟨.inl ⟨HSC.out, rfl⟩, grownS hB4 _⟩
    · have HIN := Lib.hid hin
      clear hin
      by_cases hbig : tot + W ≤ 1000000
      · have HSC := Lib.hid (show scB tot lev t = true by simp [scB, HOK.out, HIN.out, HW.out, hbig])
        have hnb : ¬ (1000000 < tot + W) := by omega
        go_wp2_with fail
        have HX3 := Lib.hid (⟨⟨w3, Below.refl _ _⟩⟩ : Nonempty (Kept w3))
        have a0 := Kept.rd q0
        have a1 := Kept.rd q1
        have t0 := Kept.rd (show w3.cell? ⟨w.heap.size, 0, none⟩ = some (.int .i64 t.k) from (HT3.out.cell 0).trans rfl)
        have t1 := Kept.rd (show w3.cell? ⟨w.heap.size, 1, none⟩ = some (.string t.s) from (HT3.out.cell 1).trans rfl)
        have t2 := Kept.rd (show w3.cell? ⟨w.heap.size, 2, none⟩ = some (.int .i64 t.d) from (HT3.out.cell 2).trans rfl)
        have t3 := Kept.rd (show w3.cell? ⟨w.heap.size, 3, none⟩ = some (.int .i64 t.o) from (HT3.out.cell 3).trans rfl)
        have hne3 := HX3.out
        clear q0 q1 f0 f1 f2 f3 f4 f5 f6 r0 r1 r2 r3 r4 r5 r6
        refine wp_region_chain [true, true, true, true, true, true, true, true, true, true, true, true, true, false, false] (fun w' => ∃ x : Kept w3, w' = x.W) (by kernel_rfl) (by kernel_rfl) (Kept.start w3) ?_
        simp only [Chain.pickM, List.map_cons, List.map_nil, Bool.not_true, Bool.not_false]
        repeat (go_big_quiet_step (fail))
        refine wpQuiet_nil ?_
        clear a0 a1 t0 t1 t2 t3 hne3
        refine chain_step (fun K hK => ?_)
        unfold Chain.mov
        go_simp
        simp only [Chain.movUpon]
        have hB4 : Below w3.heap.size w3 (w3.alloc (.cells (fh zeroH).toArray 80)).drew := ((Below.refl _ w3).alloc (Nat.le_refl _) _).drew
        have hN4 : BlkL (w3.alloc (.cells (fh zeroH).toArray 80)).drew w3.heap.size 80 (fh zeroH) := BlkL.new w3 80 (fh zeroH)
        refine hK _ _ ⟨Kept.mk' hB4, ?_⟩
        clear hK K
        unfold Chain.chainW
        change wpList _ _ _ _ _ (w3.alloc (.cells (fh zeroH).toArray 80)).drew
        generalize (w3.alloc (.cells (fh zeroH).toArray 80)).drew = w4 at *
        have HB4 := Lib.hid (HB3.out.trans (hB4.mono HB3.out.size))
        have HQ4 := Lib.hid (HQ3.out.below hB4 HQ3.out.lt)
        have HT4 := Lib.hid (HT3.out.below hB4 HT3.out.lt)
        have HR4 := Lib.hid (HR3.out.below hB4 HR3.out.lt)
        have HN4 := Lib.hid hN4
        have z0 : w4.cell? ⟨w3.heap.size, 0, none⟩ = some (.int .i64 0) := (hN4.cell 0).trans rfl
        have z1 : w4.cell? ⟨w3.heap.size, 1, none⟩ = some (.string ByteArray.empty) := (hN4.cell 1).trans rfl
        have z2 : w4.cell? ⟨w3.heap.size, 2, none⟩ = some (.int .i64 0) := (hN4.cell 2).trans rfl
        have z3 : w4.cell? ⟨w3.heap.size, 3, none⟩ = some (.int .i64 0) := (hN4.cell 3).trans rfl
        have z4 : w4.cell? ⟨w3.heap.size, 4, none⟩ = some (.int .i64 0) := (hN4.cell 4).trans rfl
        have z5 : w4.cell? ⟨w3.heap.size, 5, none⟩ = some (.int .i64 0) := (hN4.cell 5).trans rfl
        have z6 : w4.cell? ⟨w3.heap.size, 6, none⟩ = some (.int .i64 0) := (hN4.cell 6).trans rfl
        have y0 := hN4.frozen 0
        have y1 := hN4.frozen 1
        have y2 := hN4.frozen 2
        have y3 := hN4.frozen 3
        have y4 := hN4.frozen 4
        have y5 := hN4.frozen 5
        have y6 := hN4.frozen 6
        have zz := HB3.out.size
        have z8 := HT3.out.lt
        have z9 := HR3.out.lt
        clear hN4 hB4 HB3 HQ3 HT3 HR3
        obtain ⟨mm, hmm⟩ : ∃ mm, (if lev + t.opn < lev then lev + t.opn else lev) = mm := ⟨_, rfl⟩
        rw [hmm]
        have HMM := Lib.hid hmm
        clear HX3 hmm
        go_upto_region 6 with (fail)
        change Code.wp _ _ _ _ (World.setN w4 w3.heap.size 0 (fh ⟨t, mm, tot, W⟩))
        have hN5 : BlkL (World.setN w4 w3.heap.size 0 (fh ⟨t, mm, tot, W⟩)) w3.heap.size 80 (fh ⟨t, mm, tot, W⟩) := BlkL.setN (fh ⟨t, mm, tot, W⟩) w4 (fh zeroH) 0 HN4.out
        have hB5 : Below w.heap.size w (World.setN w4 w3.heap.size 0 (fh ⟨t, mm, tot, W⟩)) := below_setN zz _ w4 0 HB4.out
        have hQ5 := BlkL.farN (g := q) (g' := w3.heap.size) (by omega) (fh ⟨t, mm, tot, W⟩) w4 0 HQ4.out
        have hT5 := BlkL.farN (g := w.heap.size) (g' := w3.heap.size) (by omega) (fh ⟨t, mm, tot, W⟩) w4 0 HT4.out
        have hR5 := BlkL.farN (g := w.heap.size + 1) (g' := w3.heap.size) (by omega) (fh ⟨t, mm, tot, W⟩) w4 0 HR4.out
        generalize World.setN w4 w3.heap.size 0 (fh ⟨t, mm, tot, W⟩) = w5 at *
        have HN5 := Lib.hid hN5
        have HB5 := Lib.hid hB5
        have HQ5 := Lib.hid hQ5
        have HT5 := Lib.hid hT5
        have HR5 := Lib.hid hR5
        clear z0 z1 z2 z3 z4 z5 z6 y0 y1 y2 y3 y4 y5 y6 HN4 HB4 HQ4 HT4 HR4 hN5 hB5 hQ5 hR5
        have t0 : w5.cell? ⟨w.heap.size, 0, none⟩ = some (.int .i64 t.k) := (hT5.cell 0).trans rfl
        have t1 : w5.cell? ⟨w.heap.size, 1, none⟩ = some (.string t.s) := (hT5.cell 1).trans rfl
        have t2 : w5.cell? ⟨w.heap.size, 2, none⟩ = some (.int .i64 t.d) := (hT5.cell 2).trans rfl
        have t3 : w5.cell? ⟨w.heap.size, 3, none⟩ = some (.int .i64 t.o) := (hT5.cell 3).trans rfl
        clear hT5
        go_wp2_with fail
        refine (sizedLater_any t _).mono ?_
        rintro e w6 ⟨rfl, hb6⟩
        have HB6 := Lib.hid (HB5.out.trans (hb6.mono HB5.out.size))
        have HN6 := Lib.hid (HN5.out.below hb6 HN5.out.lt)
        have HQ6 := Lib.hid (HQ5.out.below hb6 HQ5.out.lt)
        have HR6 := Lib.hid (HR5.out.below hb6 HR5.out.lt)
        clear hb6 HB5 HN5 HQ5 HR5 HT5 t0 t1 t2 t3
        have n0 : w6.cell? ⟨w3.heap.size, 0, none⟩ = some (.int .i64 t.k) := (HN6.out.cell 0).trans rfl
        have n1 : w6.cell? ⟨w3.heap.size, 1, none⟩ = some (.string t.s) := (HN6.out.cell 1).trans rfl
        have n2 : w6.cell? ⟨w3.heap.size, 2, none⟩ = some (.int .i64 t.d) := (HN6.out.cell 2).trans rfl
        have n3 : w6.cell? ⟨w3.heap.size, 3, none⟩ = some (.int .i64 t.o) := (HN6.out.cell 3).trans rfl
        have n4 : w6.cell? ⟨w3.heap.size, 4, none⟩ = some (.int .i64 mm) := (HN6.out.cell 4).trans rfl
        have n5 : w6.cell? ⟨w3.heap.size, 5, none⟩ = some (.int .i64 tot) := (HN6.out.cell 5).trans rfl
        have n6 : w6.cell? ⟨w3.heap.size, 6, none⟩ = some (.int .i64 W) := (HN6.out.cell 6).trans rfl
        have n7 := HN6.out.frozen 6
        have q0 : w6.cell? ⟨q, 0, none⟩ = some (.int .i64 tot) := (HQ6.out.cell 0).trans rfl
        have q1 : w6.cell? ⟨q, 1, none⟩ = some (.int .i64 lev) := (HQ6.out.cell 1).trans rfl
        have q2 := HQ6.out.frozen 0
        have q3 := HQ6.out.frozen 1
        cases hz : (decide (t.k = 2) || decide (t.k = 1))
        · have HZ := Lib.hid hz
          clear hz
          go_upto_region 10 with (fail)
          change Code.wp _ _ _ _ (World.setN w6 q 0 [.int .i64 (tot + W), .int .i64 (lev + t.opn)])
          have hG7 : w.grownBy (World.setN w6 q 0 [.int .i64 (tot + W), .int .i64 (lev + t.opn)]) (some q) := grown_setN _ w6 0 (grownS HB6.out _)
          have hN7 := BlkL.farN (g := w3.heap.size) (g' := q) (by omega) [.int .i64 (tot + W), .int .i64 (lev + t.opn)] w6 0 HN6.out
          have hR7 := BlkL.farN (g := w.heap.size + 1) (g' := q) (by omega) [.int .i64 (tot + W), .int .i64 (lev + t.opn)] w6 0 HR6.out
          generalize World.setN w6 q 0 [.int .i64 (tot + W), .int .i64 (lev + t.opn)] = w7 at *
          clear n0 n1 n2 n3 n4 n5 n6 n7 q0 q1 q2 q3
          have n0 : w7.cell? ⟨w3.heap.size, 0, none⟩ = some (.int .i64 t.k) := (hN7.cell 0).trans rfl
          have n1 : w7.cell? ⟨w3.heap.size, 1, none⟩ = some (.string t.s) := (hN7.cell 1).trans rfl
          have n2 : w7.cell? ⟨w3.heap.size, 2, none⟩ = some (.int .i64 t.d) := (hN7.cell 2).trans rfl
          have n3 : w7.cell? ⟨w3.heap.size, 3, none⟩ = some (.int .i64 t.o) := (hN7.cell 3).trans rfl
          have n4 : w7.cell? ⟨w3.heap.size, 4, none⟩ = some (.int .i64 mm) := (hN7.cell 4).trans rfl
          have n5 : w7.cell? ⟨w3.heap.size, 5, none⟩ = some (.int .i64 tot) := (hN7.cell 5).trans rfl
          have n6 : w7.cell? ⟨w3.heap.size, 6, none⟩ = some (.int .i64 W) := (hN7.cell 6).trans rfl
          have r0 : w7.cell? ⟨w.heap.size + 1, 0, none⟩ = some (.int .i64 0) := (hR7.cell 0).trans rfl
          have r1 : w7.cell? ⟨w.heap.size + 1, 1, none⟩ = some (.string ByteArray.empty) := (hR7.cell 1).trans rfl
          have r2 : w7.cell? ⟨w.heap.size + 1, 2, none⟩ = some (.int .i64 0) := (hR7.cell 2).trans rfl
          have r3 : w7.cell? ⟨w.heap.size + 1, 3, none⟩ = some (.int .i64 0) := (hR7.cell 3).trans rfl
          have r4 : w7.cell? ⟨w.heap.size + 1, 4, none⟩ = some (.int .i64 0) := (hR7.cell 4).trans rfl
          have r5 : w7.cell? ⟨w.heap.size + 1, 5, none⟩ = some (.int .i64 0) := (hR7.cell 5).trans rfl
          have r6 : w7.cell? ⟨w.heap.size + 1, 6, none⟩ = some (.int .i64 0) := (hR7.cell 6).trans rfl
          have f0 := hR7.frozen 0
          have f1 := hR7.frozen 1
          have f2 := hR7.frozen 2
          have f3 := hR7.frozen 3
          have f4 := hR7.frozen 4
          have f5 := hR7.frozen 5
          have f6 := hR7.frozen 6
          have HG7 := Lib.hid hG7
          have HR7 := Lib.hid hR7
          clear hN7 hR7 hG7
          go_wp2
          clear n0 n1 n2 n3 n4 n5 n6 r0 r1 r2 r3 r4 r5 r6 f0 f1 f2 f3 f4 f5 f6
          change bodyPost _ _ _ _ _ (World.setN w7 (w.heap.size + 1) 0 (fh ⟨t, mm, tot, W⟩))
          have hR8 : BlkL (World.setN w7 (w.heap.size + 1) 0 (fh ⟨t, mm, tot, W⟩)) (w.heap.size + 1) 80 (fh ⟨t, mm, tot, W⟩) := BlkL.setN (fh ⟨t, mm, tot, W⟩) w7 (fh zeroH) 0 HR7.out
          have hG8 : w.grownBy (World.setN w7 (w.heap.size + 1) 0 (fh ⟨t, mm, tot, W⟩)) (some q) := grownB HG7.out (below_setN (Nat.le_succ _) (fh ⟨t, mm, tot, W⟩) w7 0 (Below.refl _ _))
          generalize World.setN w7 (w.heap.size + 1) 0 (fh ⟨t, mm, tot, W⟩) = w8 at *
          have k0 : w8.cell? ⟨w.heap.size + 1, 0, none⟩ = some (.int .i64 t.k) := (hR8.cell 0).trans rfl
          have k1 : w8.cell? ⟨w.heap.size + 1, 1, none⟩ = some (.string t.s) := (hR8.cell 1).trans rfl
          have k2 : w8.cell? ⟨w.heap.size + 1, 2, none⟩ = some (.int .i64 t.d) := (hR8.cell 2).trans rfl
          have k3 : w8.cell? ⟨w.heap.size + 1, 3, none⟩ = some (.int .i64 t.o) := (hR8.cell 3).trans rfl
          have k4 : w8.cell? ⟨w.heap.size + 1, 4, none⟩ = some (.int .i64 mm) := (hR8.cell 4).trans rfl
          have k5 : w8.cell? ⟨w.heap.size + 1, 5, none⟩ = some (.int .i64 tot) := (hR8.cell 5).trans rfl
          have k6 : w8.cell? ⟨w.heap.size + 1, 6, none⟩ = some (.int .i64 W) := (hR8.cell 6).trans rfl
          refine bodyPost_ret (v := .tuple #[.agg #[.int .i64 t.k, .string t.s, .int .i64 t.d, .int .i64 t.o, .int .i64 mm, .int .i64 tot, .int .i64 W], .bool true]) (by simp [results, Try.results59, go_sem, k0, k1, k2, k3, k4, k5, k6]) rfl ⟨.inr ⟨HSC.out, ?_⟩, hG8⟩
          rw [newH_no HMM.out HW.out HZ.out]
          rfl
        · have HZ := Lib.hid hz
          clear hz
          go_upto_region 8 with (fail)
          have hN7 : BlkL (w6.setCell ⟨w3.heap.size, 6, none⟩ (.int .i64 (-1))) w3.heap.size 80 (fh ⟨t, mm, tot, -1⟩) := HN6.out.set 6 (.int .i64 (-1))
          have hQ7 := HQ6.out.far (p := ⟨w3.heap.size, 6, none⟩) (by dsimp only; omega) (.int .i64 (-1))
          have hR7 := HR6.out.far (p := ⟨w3.heap.size, 6, none⟩) (by dsimp only; omega) (.int .i64 (-1))
          have hB7 := HB6.out.setCell (p := ⟨w3.heap.size, 6, none⟩) (by dsimp only; omega) (.int .i64 (-1))
          clear n0 n1 n2 n3 n4 n5 n6 n7 q0 q1 q2 q3 HN6 HQ6 HR6 HB6
          generalize w6.setCell ⟨w3.heap.size, 6, none⟩ (.int .i64 (-1)) = w6 at *
          have HN6 := Lib.hid hN7
          have HQ6 := Lib.hid hQ7
          have HR6 := Lib.hid hR7
          have HB6 := Lib.hid hB7
          clear hN7 hQ7 hR7 hB7
          have n0 := 0
          have n1 := 0
          have n2 := 0
          have n3 := 0
          have n4 := 0
          have n5 := 0
          have n6 := 0
          have n7 := 0
          have q0 : w6.cell? ⟨q, 0, none⟩ = some (.int .i64 tot) := (HQ6.out.cell 0).trans rfl
          have q1 : w6.cell? ⟨q, 1, none⟩ = some (.int .i64 lev) := (HQ6.out.cell 1).trans rfl
          have q2 := HQ6.out.frozen 0
          have q3 := HQ6.out.frozen 1
          go_upto_region 10 with (fail)
          change Code.wp _ _ _ _ (World.setN w6 q 0 [.int .i64 (tot + W), .int .i64 (lev + t.opn)])
          have hG7 : w.grownBy (World.setN w6 q 0 [.int .i64 (tot + W), .int .i64 (lev + t.opn)]) (some q) := grown_setN _ w6 0 (grownS HB6.out _)
          have hN7 := BlkL.farN (g := w3.heap.size) (g' := q) (by omega) [.int .i64 (tot + W), .int .i64 (lev + t.opn)] w6 0 HN6.out
          have hR7 := BlkL.farN (g := w.heap.size + 1) (g' := q) (by omega) [.int .i64 (tot + W), .int .i64 (lev + t.opn)] w6 0 HR6.out
          generalize World.setN w6 q 0 [.int .i64 (tot + W), .int .i64 (lev + t.opn)] = w7 at *
          clear n0 n1 n2 n3 n4 n5 n6 n7 q0 q1 q2 q3
          have n0 : w7.cell? ⟨w3.heap.size, 0, none⟩ = some (.int .i64 t.k) := (hN7.cell 0).trans rfl
          have n1 : w7.cell? ⟨w3.heap.size, 1, none⟩ = some (.string t.s) := (hN7.cell 1).trans rfl
          have n2 : w7.cell? ⟨w3.heap.size, 2, none⟩ = some (.int .i64 t.d) := (hN7.cell 2).trans rfl
          have n3 : w7.cell? ⟨w3.heap.size, 3, none⟩ = some (.int .i64 t.o) := (hN7.cell 3).trans rfl
          have n4 : w7.cell? ⟨w3.heap.size, 4, none⟩ = some (.int .i64 mm) := (hN7.cell 4).trans rfl
          have n5 : w7.cell? ⟨w3.heap.size, 5, none⟩ = some (.int .i64 tot) := (hN7.cell 5).trans rfl
          have n6 : w7.cell? ⟨w3.heap.size, 6, none⟩ = some (.int .i64 (-1)) := (hN7.cell 6).trans rfl
          have r0 : w7.cell? ⟨w.heap.size + 1, 0, none⟩ = some (.int .i64 0) := (hR7.cell 0).trans rfl
          have r1 : w7.cell? ⟨w.heap.size + 1, 1, none⟩ = some (.string ByteArray.empty) := (hR7.cell 1).trans rfl
          have r2 : w7.cell? ⟨w.heap.size + 1, 2, none⟩ = some (.int .i64 0) := (hR7.cell 2).trans rfl
          have r3 : w7.cell? ⟨w.heap.size + 1, 3, none⟩ = some (.int .i64 0) := (hR7.cell 3).trans rfl
          have r4 : w7.cell? ⟨w.heap.size + 1, 4, none⟩ = some (.int .i64 0) := (hR7.cell 4).trans rfl
          have r5 : w7.cell? ⟨w.heap.size + 1, 5, none⟩ = some (.int .i64 0) := (hR7.cell 5).trans rfl
          have r6 : w7.cell? ⟨w.heap.size + 1, 6, none⟩ = some (.int .i64 0) := (hR7.cell 6).trans rfl
          have f0 := hR7.frozen 0
          have f1 := hR7.frozen 1
          have f2 := hR7.frozen 2
          have f3 := hR7.frozen 3
          have f4 := hR7.frozen 4
          have f5 := hR7.frozen 5
          have f6 := hR7.frozen 6
          have HG7 := Lib.hid hG7
          have HR7 := Lib.hid hR7
          clear hN7 hR7 hG7
          go_wp2
          clear n0 n1 n2 n3 n4 n5 n6 r0 r1 r2 r3 r4 r5 r6 f0 f1 f2 f3 f4 f5 f6
          change bodyPost _ _ _ _ _ (World.setN w7 (w.heap.size + 1) 0 (fh ⟨t, mm, tot, (-1)⟩))
          have hR8 : BlkL (World.setN w7 (w.heap.size + 1) 0 (fh ⟨t, mm, tot, (-1)⟩)) (w.heap.size + 1) 80 (fh ⟨t, mm, tot, (-1)⟩) := BlkL.setN (fh ⟨t, mm, tot, (-1)⟩) w7 (fh zeroH) 0 HR7.out
          have hG8 : w.grownBy (World.setN w7 (w.heap.size + 1) 0 (fh ⟨t, mm, tot, (-1)⟩)) (some q) := grownB HG7.out (below_setN (Nat.le_succ _) (fh ⟨t, mm, tot, (-1)⟩) w7 0 (Below.refl _ _))
          generalize World.setN w7 (w.heap.size + 1) 0 (fh ⟨t, mm, tot, (-1)⟩) = w8 at *
          have k0 : w8.cell? ⟨w.heap.size + 1, 0, none⟩ = some (.int .i64 t.k) := (hR8.cell 0).trans rfl
          have k1 : w8.cell? ⟨w.heap.size + 1, 1, none⟩ = some (.string t.s) := (hR8.cell 1).trans rfl
          have k2 : w8.cell? ⟨w.heap.size + 1, 2, none⟩ = some (.int .i64 t.d) := (hR8.cell 2).trans rfl
          have k3 : w8.cell? ⟨w.heap.size + 1, 3, none⟩ = some (.int .i64 t.o) := (hR8.cell 3).trans rfl
          have k4 : w8.cell? ⟨w.heap.size + 1, 4, none⟩ = some (.int .i64 mm) := (hR8.cell 4).trans rfl
          have k5 : w8.cell? ⟨w.heap.size + 1, 5, none⟩ = some (.int .i64 tot) := (hR8.cell 5).trans rfl
          have k6 : w8.cell? ⟨w.heap.size + 1, 6, none⟩ = some (.int .i64 (-1)) := (hR8.cell 6).trans rfl
          refine bodyPost_ret (v := .tuple #[.agg #[.int .i64 t.k, .string t.s, .int .i64 t.d, .int .i64 t.o, .int .i64 mm, .int .i64 tot, .int .i64 (-1)], .bool true]) (by simp [results, Try.results59, go_sem, k0, k1, k2, k3, k4, k5, k6]) rfl ⟨.inr ⟨HSC.out, ?_⟩, hG8⟩
          rw [newH_yes HMM.out HW.out HZ.out]
          rfl
      · have HSC := Lib.hid (show scB tot lev t = false by simp [scB, HOK.out, HIN.out, HW.out, hbig])
        have hnb : 1000000 < tot + W := by omega
        clear hbig
        go_wp2
        change bodyPost _ _ _ _ _ (World.setN w3 (w.heap.size + 1) 0 (fh zeroH))
        have hR4 : BlkL (World.setN w3 (w.heap.size + 1) 0 (fh zeroH)) (w.heap.size + 1) 80 (fh zeroH) := BlkL.setN (fh zeroH) w3 (fh zeroH) 0 HR3.out
        have hB4 : Below w.heap.size w (World.setN w3 (w.heap.size + 1) 0 (fh zeroH)) := below_setN (Nat.le_succ _) (fh zeroH) w3 0 HB3.out
        generalize World.setN w3 (w.heap.size + 1) 0 (fh zeroH) = w4 at *
        have k0 : w4.cell? ⟨w.heap.size + 1, 0, none⟩ = some (.int .i64 0) := (hR4.cell 0).trans rfl
        have k1 : w4.cell? ⟨w.heap.size + 1, 1, none⟩ = some (.string ByteArray.empty) := (hR4.cell 1).trans rfl
        have k2 : w4.cell? ⟨w.heap.size + 1, 2, none⟩ = some (.int .i64 0) := (hR4.cell 2).trans rfl
        have k3 : w4.cell? ⟨w.heap.size + 1, 3, none⟩ = some (.int .i64 0) := (hR4.cell 3).trans rfl
        have k4 : w4.cell? ⟨w.heap.size + 1, 4, none⟩ = some (.int .i64 0) := (hR4.cell 4).trans rfl
        have k5 : w4.cell? ⟨w.heap.size + 1, 5, none⟩ = some (.int .i64 0) := (hR4.cell 5).trans rfl
        have k6 : w4.cell? ⟨w.heap.size + 1, 6, none⟩ = some (.int .i64 0) := (hR4.cell 6).trans rfl
        refine bodyPost_ret (v := .tuple #[.agg #[.int .i64 0, .string ByteArray.empty, .int .i64 0, .int .i64 0, .int .i64 0, .int .i64 0, .int .i64 0], .bool false]) (by simp [results, Try.results59, go_sem, k0, k1, k2, k3, k4, k5, k6]) rfl ⟨.inl ⟨HSC.out, rfl⟩, grownS hB4 _⟩
  · have HSC := Lib.hid (show scB tot lev t = false by simp [scB, hok])
    have hwid : widB t.k t.s t.d t.o = -1 := by
      have : tokB t.k t.s t.d t.o ≠ true := hok
      rw [widB, if_neg this]
    clear hok
    rw [hwid]
    go_wp2
    change bodyPost _ _ _ _ _ (World.setN w3 (w.heap.size + 1) 0 (fh zeroH))
    have hR4 : BlkL (World.setN w3 (w.heap.size + 1) 0 (fh zeroH)) (w.heap.size + 1) 80 (fh zeroH) := BlkL.setN (fh zeroH) w3 (fh zeroH) 0 HR3.out
    have hB4 : Below w.heap.size w (World.setN w3 (w.heap.size + 1) 0 (fh zeroH)) := below_setN (Nat.le_succ _) (fh zeroH) w3 0 HB3.out
    generalize World.setN w3 (w.heap.size + 1) 0 (fh zeroH) = w4 at *
    have k0 : w4.cell? ⟨w.heap.size + 1, 0, none⟩ = some (.int .i64 0) := (hR4.cell 0).trans rfl
    have k1 : w4.cell? ⟨w.heap.size + 1, 1, none⟩ = some (.string ByteArray.empty) := (hR4.cell 1).trans rfl
    have k2 : w4.cell? ⟨w.heap.size + 1, 2, none⟩ = some (.int .i64 0) := (hR4.cell 2).trans rfl
    have k3 : w4.cell? ⟨w.heap.size + 1, 3, none⟩ = some (.int .i64 0) := (hR4.cell 3).trans rfl
    have k4 : w4.cell? ⟨w.heap.size + 1, 4, none⟩ = some (.int .i64 0) := (hR4.cell 4).trans rfl
    have k5 : w4.cell? ⟨w.heap.size + 1, 5, none⟩ = some (.int .i64 0) := (hR4.cell 5).trans rfl
    have k6 : w4.cell? ⟨w.heap.size + 1, 6, none⟩ = some (.int .i64 0) := (hR4.cell 6).trans rfl
    refine bodyPost_ret (v := .tuple #[.agg #[.int .i64 0, .string ByteArray.empty, .int .i64 0, .int .i64 0, .int .i64 0, .int .i64 0, .int .i64 0], .bool false]) (by simp [results, Try.results59, go_sem, k0, k1, k2, k3, k4, k5, k6]) rfl ⟨.inl ⟨HSC.out, rfl⟩, grownS hB4 _⟩
end Go.Proofs.Ytegjgbgnpkncbab
