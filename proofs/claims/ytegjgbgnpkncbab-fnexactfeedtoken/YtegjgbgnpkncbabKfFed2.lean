/-
  FeedToken of the program, whole.
-/
import Derived.Test.YtegjgbgnpkncbabKf47
import Derived.Test.YtegjgbgnpkncbabKf48
namespace Go.Proofs.Ytegjgbgnpkncbab
open Go.RowKit
set_option linter.unusedVariables false
theorem PX.monoB {w : World} {B B' p : Nat} {W : Int} {s : Pr} {vI : Value} {its : List Hd} {tot lev : Int} (h : PX w B p W s vI its tot lev) (hB : B' ≤ B) : PX w B' p W s vI its tot lev := by
  obtain ⟨vW, vM, h1, h2⟩ := h
  exact ⟨vW, vM, ⟨Nat.le_trans hB h1.base, h1.blk, Joins.ownsRow_le h1.own hB, Joins.ownsRow_le h1.mks hB, h1.n1, h1.n2, h1.n3, h1.n4, h1.n5⟩, Joins.ownsRow_le h2 hB⟩
theorem PX.grownQ {w w' : World} {B p q : Nat} {W : Int} {s : Pr} {vI : Value} {its : List Hd} {tot lev : Int} {cs : List Value} (h : PX w B p W s vI its tot lev) (hq : BlkL w q 86 cs) (hg : w.grownBy w' (some q)) : PX w' B p W s vI its tot lev := by
  obtain ⟨vW, vM, h1, h2⟩ := h
  refine ⟨vW, vM, PM.grown h1 hg (fun e => ?_) (.inr (own_blk h1.own hq (by decide))) (.inr (own_blk h1.mks hq (by decide))), h2.kept hg (.inr (own_blk h2 hq (by decide)))⟩
  injection e with e
  subst e
  have h3 := h1.blk
  unfold BlkL at hq h3
  rw [hq] at h3
  injection h3 with h3
  injection h3 with _ h3
  revert h3
  decide
theorem grownN {q : Nat} : ∀ (vs : List Value) (a w : World) (p : Nat), a.grownBy w (some q) → a.grownBy (World.setN w q p vs) (some q)
  | [], _, _, _, h => h
  | v :: vs, a, w, p, h => grownN vs a _ _ (grown_self_set h p v)
set_option maxHeartbeats 4000000 in
set_option maxRecDepth 100000 in
theorem FeedToken_any (e : En) (t : Tk) (v : Value) (w : World) (hm : e.ms.length ≤ 2097152) (hi : e.it.length ≤ 2097152) (hf : Fits (tks e.it)) (hts : t.s.size ≤ maxLen) (h : EngR w v e) :
    Calls Try.prog 28 #[v, .agg #[.int .i64 t.k, .string t.s, .int .i64 t.d, .int .i64 t.o]] w (Ans3 w (fedE e t) (fedT e t) (fedB e t)) := by
  have HE := Lib.hid h
  obtain ⟨A, c, A2, c2, rfl, m1, i1⟩ := h
  have M1 := Lib.hid m1
  have I1 := Lib.hid i1
  have HF := Lib.hid hf
  clear m1 i1 hf
  unfold ev at *
  go_enter Try.func28, Try.ntmps28
  go_wp2_with fail
  have hX0 := BlkL.new w 47 (ecs e (.slice A e.ms.length c) (.slice A2 e.it.length c2))
  have hX1 := (hX0.alloc (.cells #[.int .i64 t.k, .string t.s, .int .i64 t.d, .int .i64 t.o] 51)).alloc (.cells (ecs ⟨0, 0, 0, [], [], 0, 0⟩ (.slice none 0 0) (.slice none 0 0)).toArray 47)
  have hT1 := (BlkL.new (w.alloc (.cells (ecs e (.slice A e.ms.length c) (.slice A2 e.it.length c2)).toArray 47)) 51 [.int .i64 t.k, .string t.s, .int .i64 t.d, .int .i64 t.o]).alloc (.cells (ecs ⟨0, 0, 0, [], [], 0, 0⟩ (.slice none 0 0) (.slice none 0 0)).toArray 47)
  change BlkL (((w.alloc (.cells (ecs e (.slice A e.ms.length c) (.slice A2 e.it.length c2)).toArray 47)).alloc (.cells #[.int .i64 t.k, .string t.s, .int .i64 t.d, .int .i64 t.o] 51)).alloc (.cells (ecs ⟨0, 0, 0, [], [], 0, 0⟩ (.slice none 0 0) (.slice none 0 0)).toArray 47)) _ _ _ at hT1
  rw [show (w.alloc (.cells (ecs e (.slice A e.ms.length c) (.slice A2 e.it.length c2)).toArray 47)).heap.size = w.heap.size + 1 by simp] at hT1
  have hY1 := BlkL.new ((w.alloc (.cells (ecs e (.slice A e.ms.length c) (.slice A2 e.it.length c2)).toArray 47)).alloc (.cells #[.int .i64 t.k, .string t.s, .int .i64 t.d, .int .i64 t.o] 51)) 47 (ecs ⟨0, 0, 0, [], [], 0, 0⟩ (.slice none 0 0) (.slice none 0 0))
  rw [show ((w.alloc (.cells (ecs e (.slice A e.ms.length c) (.slice A2 e.it.length c2)).toArray 47)).alloc (.cells #[.int .i64 t.k, .string t.s, .int .i64 t.d, .int .i64 t.o] 51)).heap.size = w.heap.size + 2 by simp] at hY1
  have hB1 := (((Below.refl w.heap.size w).alloc (Nat.le_refl _) (.cells (ecs e (.slice A e.ms.length c) (.slice A2 e.it.length c2)).toArray 47)).alloc (by simp) (.cells #[.int .i64 t.k, .string t.s, .int .i64 t.d, .int .i64 t.o] 51)).alloc (by simp; omega) (.cells (ecs ⟨0, 0, 0, [], [], 0, 0⟩ (.slice none 0 0) (.slice none 0 0)).toArray 47)
  change Calls _ _ _ (((w.alloc (.cells (ecs e (.slice A e.ms.length c) (.slice A2 e.it.length c2)).toArray 47)).alloc (.cells #[.int .i64 t.k, .string t.s, .int .i64 t.d, .int .i64 t.o] 51)).alloc (.cells (ecs ⟨0, 0, 0, [], [], 0, 0⟩ (.slice none 0 0) (.slice none 0 0)).toArray 47)) _
  change BlkL (((w.alloc (.cells (ecs e (.slice A e.ms.length c) (.slice A2 e.it.length c2)).toArray 47)).alloc (.cells #[.int .i64 t.k, .string t.s, .int .i64 t.d, .int .i64 t.o] 51)).alloc (.cells (ecs ⟨0, 0, 0, [], [], 0, 0⟩ (.slice none 0 0) (.slice none 0 0)).toArray 47)) _ _ _ at hX1
  generalize (((w.alloc (.cells (ecs e (.slice A e.ms.length c) (.slice A2 e.it.length c2)).toArray 47)).alloc (.cells #[.int .i64 t.k, .string t.s, .int .i64 t.d, .int .i64 t.o] 51)).alloc (.cells (ecs ⟨0, 0, 0, [], [], 0, 0⟩ (.slice none 0 0) (.slice none 0 0)).toArray 47)) = w1 at *
  clear hX0
  refine (EngineOk_any e _ w1 (by unfold maxLen; omega) (by unfold maxLen; omega) HF.out (HE.out.below hB1)).mono ?_
  rintro r w2 ⟨rfl, hb2⟩
  have HB2 := Lib.hid (hB1.trans (hb2.mono hB1.size))
  have hX2 := hX1.below hb2 hX1.lt
  have hY2 := hY1.below hb2 hY1.lt
  have HT2 := Lib.hid (hT1.below hb2 hT1.lt)
  have x0 : w2.cell? ⟨w.heap.size, 0, none⟩ = some (.int .i64 e.W) := (hX2.cell 0).trans rfl
  have x1 : w2.cell? ⟨w.heap.size, 1, none⟩ = some (.int .i64 e.col) := (hX2.cell 1).trans rfl
  have x2 : w2.cell? ⟨w.heap.size, 2, none⟩ = some (.int .i64 e.pend) := (hX2.cell 2).trans rfl
  have x3 : w2.cell? ⟨w.heap.size, 3, none⟩ = some (.slice A e.ms.length c) := (hX2.cell 3).trans rfl
  have x4 : w2.cell? ⟨w.heap.size, 4, none⟩ = some (.slice A2 e.it.length c2) := (hX2.cell 4).trans rfl
  have x5 : w2.cell? ⟨w.heap.size, 5, none⟩ = some (.int .i64 e.tot) := (hX2.cell 5).trans rfl
  have x6 : w2.cell? ⟨w.heap.size, 6, none⟩ = some (.int .i64 e.lev) := (hX2.cell 6).trans rfl
  have xl := hX2.lt
  have HX2 := Lib.hid hX2
  have HY2 := Lib.hid hY2
  clear hX1 hY1 hb2 hB1 hX2 hY2 hT1
  cases he : engB e
  · have HBN := Lib.hid (show fedB e t = false by unfold fedB; rw [he]; rfl)
    have HT := Lib.hid (show fedT e t = ByteArray.empty from if_neg (by rw [HBN.out]; decide))
    have HEE := Lib.hid (show fedE e t = e from if_neg (by rw [HBN.out]; decide))
    clear he
    go_wp2_with fail
    clear x0 x1 x2 x3 x4 x5 x6 xl
    refine (sameEngine_any e A c A2 c2 w2 hm hi (RS.below M1.out HB2.out) (RS.below I1.out HB2.out)).mono ?_
    rintro r w8 ⟨v8, rfl, ho8, hb8⟩
    obtain ⟨a0, a1, a2, aS, an, ac, aT, am, ad, a5, a6, rfl⟩ := EngO.shape ho8
    have HO8 := Lib.hid (EngO.lowB ho8 (show w.heap.size ≤ w2.heap.size from HB2.out.size))
    have HB8 := Lib.hid (HB2.out.trans (hb8.mono HB2.out.size))
    have hY8 := HY2.out.below hb8 HY2.out.lt
    have y0 : w8.cell? ⟨w.heap.size + 2, 0, none⟩ = some (.int .i64 0) := (hY8.cell 0).trans rfl
    have y1 : w8.cell? ⟨w.heap.size + 2, 1, none⟩ = some (.int .i64 0) := (hY8.cell 1).trans rfl
    have y2 : w8.cell? ⟨w.heap.size + 2, 2, none⟩ = some (.int .i64 0) := (hY8.cell 2).trans rfl
    have y3 : w8.cell? ⟨w.heap.size + 2, 3, none⟩ = some (.slice none 0 0) := (hY8.cell 3).trans rfl
    have y4 : w8.cell? ⟨w.heap.size + 2, 4, none⟩ = some (.slice none 0 0) := (hY8.cell 4).trans rfl
    have y5 : w8.cell? ⟨w.heap.size + 2, 5, none⟩ = some (.int .i64 0) := (hY8.cell 5).trans rfl
    have y6 : w8.cell? ⟨w.heap.size + 2, 6, none⟩ = some (.int .i64 0) := (hY8.cell 6).trans rfl
    have yf := hY8.frozen
    have yl := hY8.lt
    have HY8 := Lib.hid hY8
    clear ho8 hb8 hY8
    go_wp2
    clear y0 y1 y2 y3 y4 y5 y6 yf yl
    have hO9 := EngO.setN HY8.out (by decide) (by decide) [.int .i64 a0, .int .i64 a1, .int .i64 a2, .slice aS an ac, .slice aT am ad, .int .i64 a5, .int .i64 a6] 0 HO8.out
    have hB9 := below_setN (B := w.heap.size) (a := w) (g := w.heap.size + 2) (by omega) [.int .i64 a0, .int .i64 a1, .int .i64 a2, .slice aS an ac, .slice aT am ad, .int .i64 a5, .int .i64 a6] _ 0 HB8.out
    have hY9 := BlkL.setN [.int .i64 a0, .int .i64 a1, .int .i64 a2, .slice aS an ac, .slice aT am ad, .int .i64 a5, .int .i64 a6] _ _ 0 HY8.out
    change bodyPost _ _ _ _ _ (World.setN w8 (w.heap.size + 2) 0 [.int .i64 a0, .int .i64 a1, .int .i64 a2, .slice aS an ac, .slice aT am ad, .int .i64 a5, .int .i64 a6])
    generalize World.setN w8 (w.heap.size + 2) 0 [.int .i64 a0, .int .i64 a1, .int .i64 a2, .slice aS an ac, .slice aT am ad, .int .i64 a5, .int .i64 a6] = w9 at *
    have k0 : w9.cell? ⟨w.heap.size + 2, 0, none⟩ = some (.int .i64 a0) := (hY9.cell 0).trans rfl
    have k1 : w9.cell? ⟨w.heap.size + 2, 1, none⟩ = some (.int .i64 a1) := (hY9.cell 1).trans rfl
    have k2 : w9.cell? ⟨w.heap.size + 2, 2, none⟩ = some (.int .i64 a2) := (hY9.cell 2).trans rfl
    have k3 : w9.cell? ⟨w.heap.size + 2, 3, none⟩ = some (.slice aS an ac) := (hY9.cell 3).trans rfl
    have k4 : w9.cell? ⟨w.heap.size + 2, 4, none⟩ = some (.slice aT am ad) := (hY9.cell 4).trans rfl
    have k5 : w9.cell? ⟨w.heap.size + 2, 5, none⟩ = some (.int .i64 a5) := (hY9.cell 5).trans rfl
    have k6 : w9.cell? ⟨w.heap.size + 2, 6, none⟩ = some (.int .i64 a6) := (hY9.cell 6).trans rfl
    refine bodyPost_ret (v := .tuple #[.agg #[.int .i64 a0, .int .i64 a1, .int .i64 a2, .slice aS an ac, .slice aT am ad, .int .i64 a5, .int .i64 a6], .string ByteArray.empty, .bool false]) (by simp [results, Try.results28, go_sem, k0, k1, k2, k3, k4, k5, k6] <;> rfl) rfl ⟨.agg #[.int .i64 a0, .int .i64 a1, .int .i64 a2, .slice aS an ac, .slice aT am ad, .int .i64 a5, .int .i64 a6], ?_, ?_, hB9⟩
    · rw [HT.out, HBN.out]
    · rw [HEE.out]; exact hO9
  have HEN := Lib.hid (engB_ok he)
  have HEB := Lib.hid he
  clear he
  go_wp2_with fail
  have htot := HEN.out.tot
  have hlev := HEN.out.lev
  have HPR := Lib.hid (show ∀ V, Bw w2 V → Calls Try.prog 58 #[.agg #[.int .i64 e.W, .int .i64 e.col, .int .i64 e.pend, .slice A e.ms.length c, .slice A2 e.it.length c2, .int .i64 e.tot, .int .i64 e.lev]] V fun r w' => ∃ p vI, r = .returned (.pointer (some ⟨p, 0, none⟩)) ∧ PX w' V.heap.size p e.W (startP e) vI e.it e.tot e.lev ∧ Below V.heap.size V w' from fun V hV => pressOf_any e A c A2 c2 V hm hi (RS.below M1.out (HB2.out.trans (Below.mono hV HB2.out.size))) (RS.below I1.out (HB2.out.trans (Below.mono hV HB2.out.size))) HEN.out.col.1 HEN.out.pend.1)
  have hbA : Bw w2 (w2.alloc (.cells #[.int .i64 0, .int .i64 0] 86)).drew := ((Below.refl _ w2).alloc (Nat.le_refl _) _).drew
  have HBA := Lib.hid hbA
  clear hbA
  go_cut [7, 8] from 9 (fun s7 s8 wc => ∃ q p vI, s7 = .pointer (some ⟨q, 0, none⟩) ∧ s8 = .pointer (some ⟨p, 0, none⟩) ∧ BlkL wc q 86 [.int .i64 e.tot, .int .i64 e.lev] ∧ PX wc w2.heap.size p e.W (startP e) vI e.it e.tot e.lev ∧ Below w2.heap.size w2 wc ∧ w2.heap.size ≤ q)
  case first =>
    have r0 := Bw.rd x0
    have r1 := Bw.rd x1
    have r2 := Bw.rd x2
    have r3 := Bw.rd x3
    have r4 := Bw.rd x4
    have r5 := Bw.rd x5
    have r6 := Bw.rd x6
    clear x0 x1 x2 x3 x4 x5 x6 xl
    have hne : Nonempty (Cl (Bw w2)) := ⟨⟨_, Bw.start w2⟩⟩
    refine wp_region_free [0, 0, 0, 0, 0, 0, 1, 5, 3, 3] 1 7 _ rfl (fun w' => ∃ y : Cl (Bw w2), w' = y.W) (by kernel_rfl) (by kernel_rfl) ⟨⟨_, Bw.start w2⟩, rfl⟩ ?_
    simp only [Stage.stages, Stage.pickC, Nat.reduceBEq, Nat.reduceMul, Nat.reduceAdd, cond_true, cond_false, List.map_cons, List.map_nil]
    refine free_more ?_
    repeat (go_big_quiet_step (fail))
    clear r0 r1 r2 r3 r4 r5 r6
    refine wpQuiet_nil ⟨fun K hK => ?_, fun K hK => ?_⟩
    · unfold Chain.mov
      go_simp
      simp only [Chain.movUpon]
      refine (HPR.out _ (Bw.start w2)).mono ?_
      rintro r w3 ⟨p, vI, rfl, hp3, hb3⟩
      have hb3' : Below w2.heap.size w2 w3 := (Below.refl _ w2).drew.trans (hb3.mono (Nat.le_refl _))
      have HP3 := Lib.hid (show PX w3 w2.heap.size p e.W (startP e) vI e.it e.tot e.lev from hp3)
      have HB3 := Lib.hid hb3'
      refine ⟨_, rfl, hK _ _ ⟨⟨⟨w3, hb3'⟩, rfl⟩, ?_⟩⟩
      clear hK K hp3 hb3 hb3'
      refine free_last ?_
      refine wpQuiet_nil ?_
      intro K hK
      unfold Chain.mov
      go_simp
      refine hK _ _ ⟨⟨⟨_, HB3.out.alloc HB3.out.size _⟩, rfl⟩, ?_⟩
      clear hK K
      go_wp2
      go_meet
      case rel => exact ⟨w3.heap.size, p, vI, rfl, rfl, BlkL.new w3 86 [.int .i64 e.tot, .int .i64 e.lev], HP3.out.below ((Below.refl _ w3).alloc (Nat.le_refl _) _), HB3.out.alloc HB3.out.size _, HB3.out.size⟩
    · unfold Chain.mov
      go_simp
      refine hK _ _ ⟨⟨⟨_, HBA.out⟩, rfl⟩, ?_⟩
      clear hK K
      refine door_more ?_
      intro K hK
      unfold Chain.mov
      go_simp
      simp only [Chain.movUpon]
      refine (HPR.out _ HBA.out).mono ?_
      rintro r w3 ⟨p, vI, rfl, hp3, hb3⟩
      have hz : (w2.alloc (.cells #[.int .i64 0, .int .i64 0] 86)).drew.heap.size = w2.heap.size + 1 := by show (w2.alloc _).heap.size = _; simp
      have hb3' : Below w2.heap.size w2 w3 := Below.trans HBA.out (hb3.mono (by omega))
      have hq3 : BlkL w3 w2.heap.size 86 [.int .i64 0, .int .i64 0] := BlkL.below (BlkL.drew (BlkL.new w2 86 [.int .i64 0, .int .i64 0])) hb3 (by omega)
      have HP3 := Lib.hid (show PX w3 w2.heap.size p e.W (startP e) vI e.it e.tot e.lev from hp3.monoB (by omega))
      have HB3 := Lib.hid hb3'
      have s0 : w3.cell? ⟨w2.heap.size, 0, none⟩ = some (.int .i64 0) := (hq3.cell 0).trans rfl
      have s1 : w3.cell? ⟨w2.heap.size, 1, none⟩ = some (.int .i64 0) := (hq3.cell 1).trans rfl
      have sf := hq3.frozen
      have sl := hq3.lt
      have HQ3 := Lib.hid hq3
      refine ⟨_, rfl, hK _ _ ⟨⟨⟨w3, hb3'⟩, rfl⟩, ?_⟩⟩
      clear hK K hp3 hb3 hb3' hz hq3
      refine stage_last ?_
      refine wpQuiet_nil ?_
      go_wp2
      go_meet
      case rel => exact ⟨w2.heap.size, p, vI, rfl, rfl, BlkL.setN [.int .i64 e.tot, .int .i64 e.lev] _ _ 0 HQ3.out, HP3.out.grownQ HQ3.out (grownN [.int .i64 e.tot, .int .i64 e.lev] _ _ 0 (World.grownBy.refl _ _)), below_setN (Nat.le_refl _) [.int .i64 e.tot, .int .i64 e.lev] _ 0 HB3.out, Nat.le_refl _⟩
  case rest =>
    obtain ⟨q, p, vI, rfl, rfl, hq3, hp3, hb3, hqz⟩ := hcut
    have HP3 := Lib.hid hp3
    have HQ3 := Lib.hid hq3
    have hz3 : w2.heap.size ≤ wc.heap.size := hb3.size
    have HB3 := Lib.hid (HB2.out.trans (hb3.mono HB2.out.size))
    have hX3 := HX2.out.below hb3 HX2.out.lt
    have hY3 := HY2.out.below hb3 HY2.out.lt
    have hT3 := HT2.out.below hb3 HT2.out.lt
    have hx2 := HX2.out.lt
    have hy2 := HY2.out.lt
    clear x0 x1 x2 x3 x4 x5 x6 xl
    have t0 : wc.cell? ⟨w.heap.size + 1, 0, none⟩ = some (.int .i64 t.k) := (hT3.cell 0).trans rfl
    have t1 : wc.cell? ⟨w.heap.size + 1, 1, none⟩ = some (.string t.s) := (hT3.cell 1).trans rfl
    have t2 : wc.cell? ⟨w.heap.size + 1, 2, none⟩ = some (.int .i64 t.d) := (hT3.cell 2).trans rfl
    have t3 : wc.cell? ⟨w.heap.size + 1, 3, none⟩ = some (.int .i64 t.o) := (hT3.cell 3).trans rfl
    have tl := hT3.lt
    have HX3 := Lib.hid hX3
    have HY3 := Lib.hid hY3
    clear hq3 hp3 hb3 hX3 hY3 hT3 HX2 HY2 HT2 HPR HBA
    go_wp2_with fail
    refine (scan_any wc q e.tot e.lev t hts HQ3.out htot hlev).mono ?_
    rintro r ws ⟨hS, hgs⟩
    have hbs : Below w2.heap.size wc ws := (Below.refl _ wc).grown hgs hz3 (fun k hk => by injection hk with hk; omega)
    have HBs := Lib.hid (HB3.out.trans (hbs.mono HB2.out.size))
    have HXs := Lib.hid (HX3.out.below hbs hx2)
    have HYs := Lib.hid (HY3.out.below hbs hy2)
    have HPs := Lib.hid (HP3.out.grownQ HQ3.out hgs)
    have hzs : w2.heap.size ≤ ws.heap.size := Nat.le_trans hz3 hbs.size
    clear hbs hgs t0 t1 t2 t3 tl HX3 HY3 HP3 HQ3
    rcases hS with ⟨hs, hr⟩ | ⟨hs, hr⟩
    · have hr2 : r = .returned (.tuple #[.agg #[.int .i64 0, .string ByteArray.empty, .int .i64 0, .int .i64 0, .int .i64 0, .int .i64 0, .int .i64 0], .bool false]) := hr
      subst hr2
      clear hr
      have HBN := Lib.hid (show fedB e t = false by unfold fedB; rw [hs]; simp)
      have HT := Lib.hid (show fedT e t = ByteArray.empty from if_neg (by rw [HBN.out]; decide))
      have HEE := Lib.hid (show fedE e t = e from if_neg (by rw [HBN.out]; decide))
      clear hs
      have x0 : ws.cell? ⟨w.heap.size, 0, none⟩ = some (.int .i64 e.W) := (HXs.out.cell 0).trans rfl
      have x1 : ws.cell? ⟨w.heap.size, 1, none⟩ = some (.int .i64 e.col) := (HXs.out.cell 1).trans rfl
      have x2 : ws.cell? ⟨w.heap.size, 2, none⟩ = some (.int .i64 e.pend) := (HXs.out.cell 2).trans rfl
      have x3 : ws.cell? ⟨w.heap.size, 3, none⟩ = some (.slice A e.ms.length c) := (HXs.out.cell 3).trans rfl
      have x4 : ws.cell? ⟨w.heap.size, 4, none⟩ = some (.slice A2 e.it.length c2) := (HXs.out.cell 4).trans rfl
      have x5 : ws.cell? ⟨w.heap.size, 5, none⟩ = some (.int .i64 e.tot) := (HXs.out.cell 5).trans rfl
      have x6 : ws.cell? ⟨w.heap.size, 6, none⟩ = some (.int .i64 e.lev) := (HXs.out.cell 6).trans rfl
      have xl := HXs.out.lt
      go_wp2_with fail
      clear x0 x1 x2 x3 x4 x5 x6 xl
      have hba := (Below.refl ws.heap.size ws).alloc (Nat.le_refl _) (.cells #[.int .i64 0, .string ByteArray.empty, .int .i64 0, .int .i64 0, .int .i64 0, .int .i64 0, .int .i64 0] 80)
      change Calls _ _ _ (ws.alloc (.cells #[.int .i64 0, .string ByteArray.empty, .int .i64 0, .int .i64 0, .int .i64 0, .int .i64 0, .int .i64 0] 80)) _
      generalize (ws.alloc (.cells #[.int .i64 0, .string ByteArray.empty, .int .i64 0, .int .i64 0, .int .i64 0, .int .i64 0, .int .i64 0] 80)) = wa at *
      have HBa := Lib.hid (HBs.out.trans (hba.mono HBs.out.size))
      have HXa := Lib.hid (HXs.out.below hba HXs.out.lt)
      have HYa := Lib.hid (HYs.out.below hba HYs.out.lt)
      have HPa := Lib.hid (HPs.out.below hba)
      have hza : w2.heap.size ≤ wa.heap.size := Nat.le_trans hzs hba.size
      clear hba
      refine (sameEngine_any e A c A2 c2 wa hm hi (RS.below M1.out HBa.out) (RS.below I1.out HBa.out)).mono ?_
      rintro r w8 ⟨v8, rfl, ho8, hb8⟩
      obtain ⟨a0, a1, a2, aS, an, ac, aT, am, ad, a5, a6, rfl⟩ := EngO.shape ho8
      have HO8 := Lib.hid (EngO.lowB ho8 (show w.heap.size ≤ wa.heap.size from HBa.out.size))
      have HB8 := Lib.hid (HBa.out.trans (hb8.mono HBa.out.size))
      have hY8 := HYa.out.below hb8 HYa.out.lt
      have y0 : w8.cell? ⟨w.heap.size + 2, 0, none⟩ = some (.int .i64 0) := (hY8.cell 0).trans rfl
      have y1 : w8.cell? ⟨w.heap.size + 2, 1, none⟩ = some (.int .i64 0) := (hY8.cell 1).trans rfl
      have y2 : w8.cell? ⟨w.heap.size + 2, 2, none⟩ = some (.int .i64 0) := (hY8.cell 2).trans rfl
      have y3 : w8.cell? ⟨w.heap.size + 2, 3, none⟩ = some (.slice none 0 0) := (hY8.cell 3).trans rfl
      have y4 : w8.cell? ⟨w.heap.size + 2, 4, none⟩ = some (.slice none 0 0) := (hY8.cell 4).trans rfl
      have y5 : w8.cell? ⟨w.heap.size + 2, 5, none⟩ = some (.int .i64 0) := (hY8.cell 5).trans rfl
      have y6 : w8.cell? ⟨w.heap.size + 2, 6, none⟩ = some (.int .i64 0) := (hY8.cell 6).trans rfl
      have yf := hY8.frozen
      have yl := hY8.lt
      have HY8 := Lib.hid hY8
      clear ho8 hb8 hY8
      go_wp2
      clear y0 y1 y2 y3 y4 y5 y6 yf yl
      have hO9 := EngO.setN HY8.out (by decide) (by decide) [.int .i64 a0, .int .i64 a1, .int .i64 a2, .slice aS an ac, .slice aT am ad, .int .i64 a5, .int .i64 a6] 0 HO8.out
      have hB9 := below_setN (B := w.heap.size) (a := w) (g := w.heap.size + 2) (by omega) [.int .i64 a0, .int .i64 a1, .int .i64 a2, .slice aS an ac, .slice aT am ad, .int .i64 a5, .int .i64 a6] _ 0 HB8.out
      have hY9 := BlkL.setN [.int .i64 a0, .int .i64 a1, .int .i64 a2, .slice aS an ac, .slice aT am ad, .int .i64 a5, .int .i64 a6] _ _ 0 HY8.out
      change bodyPost _ _ _ _ _ (World.setN w8 (w.heap.size + 2) 0 [.int .i64 a0, .int .i64 a1, .int .i64 a2, .slice aS an ac, .slice aT am ad, .int .i64 a5, .int .i64 a6])
      generalize World.setN w8 (w.heap.size + 2) 0 [.int .i64 a0, .int .i64 a1, .int .i64 a2, .slice aS an ac, .slice aT am ad, .int .i64 a5, .int .i64 a6] = w9 at *
      have k0 : w9.cell? ⟨w.heap.size + 2, 0, none⟩ = some (.int .i64 a0) := (hY9.cell 0).trans rfl
      have k1 : w9.cell? ⟨w.heap.size + 2, 1, none⟩ = some (.int .i64 a1) := (hY9.cell 1).trans rfl
      have k2 : w9.cell? ⟨w.heap.size + 2, 2, none⟩ = some (.int .i64 a2) := (hY9.cell 2).trans rfl
      have k3 : w9.cell? ⟨w.heap.size + 2, 3, none⟩ = some (.slice aS an ac) := (hY9.cell 3).trans rfl
      have k4 : w9.cell? ⟨w.heap.size + 2, 4, none⟩ = some (.slice aT am ad) := (hY9.cell 4).trans rfl
      have k5 : w9.cell? ⟨w.heap.size + 2, 5, none⟩ = some (.int .i64 a5) := (hY9.cell 5).trans rfl
      have k6 : w9.cell? ⟨w.heap.size + 2, 6, none⟩ = some (.int .i64 a6) := (hY9.cell 6).trans rfl
      refine bodyPost_ret (v := .tuple #[.agg #[.int .i64 a0, .int .i64 a1, .int .i64 a2, .slice aS an ac, .slice aT am ad, .int .i64 a5, .int .i64 a6], .string ByteArray.empty, .bool false]) (by simp [results, Try.results28, go_sem, k0, k1, k2, k3, k4, k5, k6] <;> rfl) rfl ⟨.agg #[.int .i64 a0, .int .i64 a1, .int .i64 a2, .slice aS an ac, .slice aT am ad, .int .i64 a5, .int .i64 a6], ?_, ?_, hB9⟩
      · rw [HT.out, HBN.out]
      · rw [HEE.out]; exact hO9
    · have HS := Lib.hid hs
      clear hs
      obtain ⟨h, hh⟩ : ∃ h, newH e.tot e.lev t = h := ⟨_, rfl⟩
      rw [hh] at hr
      have hr2 : r = .returned (.tuple #[.agg #[.int .i64 h.t.k, .string h.t.s, .int .i64 h.t.d, .int .i64 h.t.o, .int .i64 h.lv, .int .i64 h.st, .int .i64 h.sz], .bool true]) := hr
      subst hr2
      have HN := Lib.hid hh
      clear hr hh
      by_cases hl : e.it.length = 400
      · have HBN := Lib.hid (show fedB e t = false by unfold fedB; rw [hl]; simp)
        have HT := Lib.hid (show fedT e t = ByteArray.empty from if_neg (by rw [HBN.out]; decide))
        have HEE := Lib.hid (show fedE e t = e from if_neg (by rw [HBN.out]; decide))
        have HL := Lib.hid hl
        clear hl
        go_wp2_with fail
        have hba := (Below.refl ws.heap.size ws).alloc (Nat.le_refl _) (.cells #[.int .i64 h.t.k, .string h.t.s, .int .i64 h.t.d, .int .i64 h.t.o, .int .i64 h.lv, .int .i64 h.st, .int .i64 h.sz] 80)
        change Calls _ _ _ (ws.alloc (.cells #[.int .i64 h.t.k, .string h.t.s, .int .i64 h.t.d, .int .i64 h.t.o, .int .i64 h.lv, .int .i64 h.st, .int .i64 h.sz] 80)) _
        generalize (ws.alloc (.cells #[.int .i64 h.t.k, .string h.t.s, .int .i64 h.t.d, .int .i64 h.t.o, .int .i64 h.lv, .int .i64 h.st, .int .i64 h.sz] 80)) = wa at *
        have HBa := Lib.hid (HBs.out.trans (hba.mono HBs.out.size))
        have HXa := Lib.hid (HXs.out.below hba HXs.out.lt)
        have HYa := Lib.hid (HYs.out.below hba HYs.out.lt)
        have HPa := Lib.hid (HPs.out.below hba)
        have hza : w2.heap.size ≤ wa.heap.size := Nat.le_trans hzs hba.size
        clear hba
        refine (feed_no h HPa.out HL.out).mono ?_
        rintro r w7 ⟨rfl, hb7⟩
        have HB7 := Lib.hid (HBa.out.trans (hb7.mono HBa.out.size))
        have HX7 := Lib.hid (HXa.out.below hb7 HXa.out.lt)
        have HY7 := Lib.hid (HYa.out.below hb7 HYa.out.lt)
        clear hb7
        have x0 : w7.cell? ⟨w.heap.size, 0, none⟩ = some (.int .i64 e.W) := (HX7.out.cell 0).trans rfl
        have x1 : w7.cell? ⟨w.heap.size, 1, none⟩ = some (.int .i64 e.col) := (HX7.out.cell 1).trans rfl
        have x2 : w7.cell? ⟨w.heap.size, 2, none⟩ = some (.int .i64 e.pend) := (HX7.out.cell 2).trans rfl
        have x3 : w7.cell? ⟨w.heap.size, 3, none⟩ = some (.slice A e.ms.length c) := (HX7.out.cell 3).trans rfl
        have x4 : w7.cell? ⟨w.heap.size, 4, none⟩ = some (.slice A2 e.it.length c2) := (HX7.out.cell 4).trans rfl
        have x5 : w7.cell? ⟨w.heap.size, 5, none⟩ = some (.int .i64 e.tot) := (HX7.out.cell 5).trans rfl
        have x6 : w7.cell? ⟨w.heap.size, 6, none⟩ = some (.int .i64 e.lev) := (HX7.out.cell 6).trans rfl
        have xl := HX7.out.lt
        go_wp2_with fail
        clear x0 x1 x2 x3 x4 x5 x6 xl
        refine (sameEngine_any e A c A2 c2 w7 hm hi (RS.below M1.out HB7.out) (RS.below I1.out HB7.out)).mono ?_
        rintro r w8 ⟨v8, rfl, ho8, hb8⟩
        obtain ⟨a0, a1, a2, aS, an, ac, aT, am, ad, a5, a6, rfl⟩ := EngO.shape ho8
        have HO8 := Lib.hid (EngO.lowB ho8 (show w.heap.size ≤ w7.heap.size from HB7.out.size))
        have HB8 := Lib.hid (HB7.out.trans (hb8.mono HB7.out.size))
        have hY8 := HY7.out.below hb8 HY7.out.lt
        have y0 : w8.cell? ⟨w.heap.size + 2, 0, none⟩ = some (.int .i64 0) := (hY8.cell 0).trans rfl
        have y1 : w8.cell? ⟨w.heap.size + 2, 1, none⟩ = some (.int .i64 0) := (hY8.cell 1).trans rfl
        have y2 : w8.cell? ⟨w.heap.size + 2, 2, none⟩ = some (.int .i64 0) := (hY8.cell 2).trans rfl
        have y3 : w8.cell? ⟨w.heap.size + 2, 3, none⟩ = some (.slice none 0 0) := (hY8.cell 3).trans rfl
        have y4 : w8.cell? ⟨w.heap.size + 2, 4, none⟩ = some (.slice none 0 0) := (hY8.cell 4).trans rfl
        have y5 : w8.cell? ⟨w.heap.size + 2, 5, none⟩ = some (.int .i64 0) := (hY8.cell 5).trans rfl
        have y6 : w8.cell? ⟨w.heap.size + 2, 6, none⟩ = some (.int .i64 0) := (hY8.cell 6).trans rfl
        have yf := hY8.frozen
        have yl := hY8.lt
        have HY8 := Lib.hid hY8
        clear ho8 hb8 hY8
        go_wp2
        clear y0 y1 y2 y3 y4 y5 y6 yf yl
        have hO9 := EngO.setN HY8.out (by decide) (by decide) [.int .i64 a0, .int .i64 a1, .int .i64 a2, .slice aS an ac, .slice aT am ad, .int .i64 a5, .int .i64 a6] 0 HO8.out
        have hB9 := below_setN (B := w.heap.size) (a := w) (g := w.heap.size + 2) (by omega) [.int .i64 a0, .int .i64 a1, .int .i64 a2, .slice aS an ac, .slice aT am ad, .int .i64 a5, .int .i64 a6] _ 0 HB8.out
        have hY9 := BlkL.setN [.int .i64 a0, .int .i64 a1, .int .i64 a2, .slice aS an ac, .slice aT am ad, .int .i64 a5, .int .i64 a6] _ _ 0 HY8.out
        change bodyPost _ _ _ _ _ (World.setN w8 (w.heap.size + 2) 0 [.int .i64 a0, .int .i64 a1, .int .i64 a2, .slice aS an ac, .slice aT am ad, .int .i64 a5, .int .i64 a6])
        generalize World.setN w8 (w.heap.size + 2) 0 [.int .i64 a0, .int .i64 a1, .int .i64 a2, .slice aS an ac, .slice aT am ad, .int .i64 a5, .int .i64 a6] = w9 at *
        have k0 : w9.cell? ⟨w.heap.size + 2, 0, none⟩ = some (.int .i64 a0) := (hY9.cell 0).trans rfl
        have k1 : w9.cell? ⟨w.heap.size + 2, 1, none⟩ = some (.int .i64 a1) := (hY9.cell 1).trans rfl
        have k2 : w9.cell? ⟨w.heap.size + 2, 2, none⟩ = some (.int .i64 a2) := (hY9.cell 2).trans rfl
        have k3 : w9.cell? ⟨w.heap.size + 2, 3, none⟩ = some (.slice aS an ac) := (hY9.cell 3).trans rfl
        have k4 : w9.cell? ⟨w.heap.size + 2, 4, none⟩ = some (.slice aT am ad) := (hY9.cell 4).trans rfl
        have k5 : w9.cell? ⟨w.heap.size + 2, 5, none⟩ = some (.int .i64 a5) := (hY9.cell 5).trans rfl
        have k6 : w9.cell? ⟨w.heap.size + 2, 6, none⟩ = some (.int .i64 a6) := (hY9.cell 6).trans rfl
        refine bodyPost_ret (v := .tuple #[.agg #[.int .i64 a0, .int .i64 a1, .int .i64 a2, .slice aS an ac, .slice aT am ad, .int .i64 a5, .int .i64 a6], .string ByteArray.empty, .bool false]) (by simp [results, Try.results28, go_sem, k0, k1, k2, k3, k4, k5, k6] <;> rfl) rfl ⟨.agg #[.int .i64 a0, .int .i64 a1, .int .i64 a2, .slice aS an ac, .slice aT am ad, .int .i64 a5, .int .i64 a6], ?_, ?_, hB9⟩
        · rw [HT.out, HBN.out]
        · rw [HEE.out]; exact hO9
      · have HBN := Lib.hid (show fedB e t = true by unfold fedB; rw [HEB.out, HS.out, decide_eq_true hl]; rfl)
        have HT := Lib.hid (show fedT e t = ⟨(fedF e t).1.out.toArray⟩ from if_pos HBN.out)
        have HEE := Lib.hid (show fedE e t = ⟨e.W, (fedF e t).1.col, (fedF e t).1.pend, (fedF e t).1.ms, (fedF e t).2, e.tot + t.wid, e.lev + t.opn⟩ from if_pos HBN.out)
        have HL := Lib.hid hl
        have hl4 : e.it.length < 400 := by have := HEN.out.nit; omega
        have hw1 := HEN.out.w
        have hok := (scB_true HS.out).1
        have HOK := Lib.hid hok
        clear hl hok
        go_wp2_with fail
        have hba := (Below.refl ws.heap.size ws).alloc (Nat.le_refl _) (.cells #[.int .i64 h.t.k, .string h.t.s, .int .i64 h.t.d, .int .i64 h.t.o, .int .i64 h.lv, .int .i64 h.st, .int .i64 h.sz] 80)
        change Calls _ _ _ (ws.alloc (.cells #[.int .i64 h.t.k, .string h.t.s, .int .i64 h.t.d, .int .i64 h.t.o, .int .i64 h.lv, .int .i64 h.st, .int .i64 h.sz] 80)) _
        generalize (ws.alloc (.cells #[.int .i64 h.t.k, .string h.t.s, .int .i64 h.t.d, .int .i64 h.t.o, .int .i64 h.lv, .int .i64 h.st, .int .i64 h.sz] 80)) = wa at *
        have HBa := Lib.hid (HBs.out.trans (hba.mono HBs.out.size))
        have HXa := Lib.hid (HXs.out.below hba HXs.out.lt)
        have HYa := Lib.hid (HYs.out.below hba HYs.out.lt)
        have HPa := Lib.hid (HPs.out.below hba)
        have hza : w2.heap.size ≤ wa.heap.size := Nat.le_trans hzs hba.size
        clear hba
        obtain rfl := HN.out
        refine (feed_any (newH e.tot e.lev t) HPa.out hza HEN.out.sm0 hl4 HEN.out.colT HOK.out (HEN.out.fineF HS.out HL.out) (by omega) (by omega) htot hlev rfl HEN.out.starts).mono ?_
        rintro r w4 ⟨rfl, ⟨vI4, hp4⟩, hcg4⟩
        have hB4 := hcg4.below hza
        have HP4 := Lib.hid (show PX w4 w2.heap.size p e.W (fedF e t).1 vI4 (fedF e t).2 (e.tot + t.wid) (e.lev + t.opn) from hp4)
        have HB4 := Lib.hid (HBa.out.trans (hB4.mono HB2.out.size))
        have hY4 := HYa.out.below hB4 hy2
        have HY4 := Lib.hid hY4
        clear hp4 hcg4 hB4 hY4 HPs HXs HYs HPa HXa HYa
        obtain ⟨k, hk, hrun⟩ := flu_run e.W (e.tot + t.wid) (startP e) (fedI e.tot (newH e.tot e.lev t) e.it)
        have HSM := Lib.hid (show (fedF e t).1.Sm by unfold fedF; rw [hrun]; exact (HEN.out.fineF HS.out HL.out).sm k hk)
        have HLE := Lib.hid (show (fedF e t).2.length ≤ 401 by unfold fedF; rw [hrun]; have := HEN.out.nit; simp [fedI_length]; omega)
        clear hk hrun
        go_wp2_with fail
        obtain ⟨vW, vM, hpa4, how4⟩ := HP4.out
        obtain ⟨WA, Wc, rfl⟩ := own_form hpa4.own
        have s0 : w4.drew.cell? ⟨p, 2, none⟩ = some (.slice WA (fedF e t).1.out.length Wc) ∧ w4.drew.ownsRow w2.heap.size 5 1 (.slice WA (fedF e t).1.out.length Wc) (fedF e t).1.out.length (Lib.byteCells (fedF e t).1.out) := ⟨(hpa4.blk.cell 2).trans rfl, hpa4.own⟩
        have hWY : (Value.slice WA (fedF e t).1.out.length Wc).ownBlock ≠ some (w.heap.size + 2) := own_blk hpa4.own HY4.out (by decide)
        have hpY : p ≠ w.heap.size + 2 := by have := hpa4.base; omega
        clear hpa4 how4
        have r2 : ∀ x : Cl (fun w' => w'.cell? ⟨p, 2, none⟩ = some (.slice WA (fedF e t).1.out.length Wc) ∧ w'.ownsRow w2.heap.size 5 1 (.slice WA (fedF e t).1.out.length Wc) (fedF e t).1.out.length (Lib.byteCells (fedF e t).1.out)), x.W.cell? ⟨p, 2, none⟩ = some (.slice WA (fedF e t).1.out.length Wc) := fun x => x.ok.1
        have rc : ∀ x : Cl (fun w' => w'.cell? ⟨p, 2, none⟩ = some (.slice WA (fedF e t).1.out.length Wc) ∧ w'.ownsRow w2.heap.size 5 1 (.slice WA (fedF e t).1.out.length Wc) (fedF e t).1.out.length (Lib.byteCells (fedF e t).1.out)), (convert 94 9 (.slice WA (fedF e t).1.out.length Wc)).run Try.prog x.W = .ok (.string ⟨(fedF e t).1.out.toArray⟩) x.W := fun x => conv_own x.ok.2
        have hne : Nonempty (Cl (fun w' => w'.cell? ⟨p, 2, none⟩ = some (.slice WA (fedF e t).1.out.length Wc) ∧ w'.ownsRow w2.heap.size 5 1 (.slice WA (fedF e t).1.out.length Wc) (fedF e t).1.out.length (Lib.byteCells (fedF e t).1.out))) := ⟨⟨_, s0⟩⟩
        refine wp_region_stages [0, 1, 0, 0, 0, 0, 0, 0, 0, 3, 4, 5] 2 (fun w' => ∃ y : Cl (fun w' => w'.cell? ⟨p, 2, none⟩ = some (.slice WA (fedF e t).1.out.length Wc) ∧ w'.ownsRow w2.heap.size 5 1 (.slice WA (fedF e t).1.out.length Wc) (fedF e t).1.out.length (Lib.byteCells (fedF e t).1.out)), w' = y.W) (by kernel_rfl) (by kernel_rfl) ⟨⟨_, s0⟩, rfl⟩ ?_
        simp only [Stage.stages, Stage.pickC, Nat.reduceBEq, Nat.reduceMul, Nat.reduceAdd, cond_true, cond_false, List.map_cons, List.map_nil]
        refine stage_more ?_
        repeat (go_big_quiet_step (fail))
        refine wpQuiet_nil ?_
        intro K hK
        unfold Chain.mov
        go_simp
        simp only [Chain.movUpon]
        clear r2 rc
        refine (engine_any (w := w4.drew) HP4.out.drew HSM.out (by have := HLE.out; omega)).mono ?_
        rintro r w5 ⟨v5, rfl, ho5, hb5⟩
        have hb5' : Below w4.heap.size w4 w5 := (Below.refl _ w4).drew.trans (hb5.mono (Nat.le_refl _))
        obtain ⟨a0, a1, a2, aS, an, ac, aT, am, ad, a5, a6, rfl⟩ := EngO.shape ho5
        have HO5 := Lib.hid (EngO.lowB ho5 (show w.heap.size ≤ w4.drew.heap.size from HB4.out.size))
        have HB5 := Lib.hid (HB4.out.trans (hb5'.mono HB4.out.size))
        have hY5 := HY4.out.below hb5' HY4.out.lt
        have s5 : w5.cell? ⟨p, 2, none⟩ = some (.slice WA (fedF e t).1.out.length Wc) ∧ w5.ownsRow w2.heap.size 5 1 (.slice WA (fedF e t).1.out.length Wc) (fedF e t).1.out.length (Lib.byteCells (fedF e t).1.out) := ⟨(hb5'.cell (World.block_lt_of_cell? _ _ (show w4.cell? ⟨p, 2, none⟩ = _ from s0.1))).trans s0.1, own_keep (show w4.ownsRow _ _ _ _ _ _ from s0.2) hb5'⟩
        refine ⟨_, rfl, hK _ _ ⟨⟨⟨_, s5⟩, rfl⟩, ?_⟩⟩
        clear hK K ho5 hb5 hb5' s0
        have y0 : w5.cell? ⟨w.heap.size + 2, 0, none⟩ = some (.int .i64 0) := (hY5.cell 0).trans rfl
        have y1 : w5.cell? ⟨w.heap.size + 2, 1, none⟩ = some (.int .i64 0) := (hY5.cell 1).trans rfl
        have y2 : w5.cell? ⟨w.heap.size + 2, 2, none⟩ = some (.int .i64 0) := (hY5.cell 2).trans rfl
        have y3 : w5.cell? ⟨w.heap.size + 2, 3, none⟩ = some (.slice none 0 0) := (hY5.cell 3).trans rfl
        have y4 : w5.cell? ⟨w.heap.size + 2, 4, none⟩ = some (.slice none 0 0) := (hY5.cell 4).trans rfl
        have y5 : w5.cell? ⟨w.heap.size + 2, 5, none⟩ = some (.int .i64 0) := (hY5.cell 5).trans rfl
        have y6 : w5.cell? ⟨w.heap.size + 2, 6, none⟩ = some (.int .i64 0) := (hY5.cell 6).trans rfl
        have yf := hY5.frozen
        have yl := hY5.lt
        have HY5 := Lib.hid hY5
        clear hY5
        refine stage_more ?_
        refine wpQuiet_nil ?_
        intro K hK
        unfold Chain.mov
        go_simp
        simp only [Chain.movUpon]
        clear y0 y1 y2 y3 y4 y5 y6 yf yl
        have s6 : (World.setN w5 (w.heap.size + 2) 0 [.int .i64 a0, .int .i64 a1, .int .i64 a2, .slice aS an ac, .slice aT am ad, .int .i64 a5, .int .i64 a6]).cell? ⟨p, 2, none⟩ = some (.slice WA (fedF e t).1.out.length Wc) ∧ (World.setN w5 (w.heap.size + 2) 0 [.int .i64 a0, .int .i64 a1, .int .i64 a2, .slice aS an ac, .slice aT am ad, .int .i64 a5, .int .i64 a6]).ownsRow w2.heap.size 5 1 (.slice WA (fedF e t).1.out.length Wc) (fedF e t).1.out.length (Lib.byteCells (fedF e t).1.out) := ⟨(cell_setN hpY [.int .i64 a0, .int .i64 a1, .int .i64 a2, .slice aS an ac, .slice aT am ad, .int .i64 a5, .int .i64 a6] _ 0 2).trans s5.1, own_setN hWY [.int .i64 a0, .int .i64 a1, .int .i64 a2, .slice aS an ac, .slice aT am ad, .int .i64 a5, .int .i64 a6] _ 0 s5.2⟩
        refine hK _ (World.setN w5 (w.heap.size + 2) 0 [.int .i64 a0, .int .i64 a1, .int .i64 a2, .slice aS an ac, .slice aT am ad, .int .i64 a5, .int .i64 a6]) ⟨⟨⟨_, s6⟩, rfl⟩, ?_⟩
        clear hK K s5 s6 hne
        have hO9 := EngO.setN HY5.out (by decide) (by decide) [.int .i64 a0, .int .i64 a1, .int .i64 a2, .slice aS an ac, .slice aT am ad, .int .i64 a5, .int .i64 a6] 0 HO5.out
        have hB9 := below_setN (B := w.heap.size) (a := w) (g := w.heap.size + 2) (by omega) [.int .i64 a0, .int .i64 a1, .int .i64 a2, .slice aS an ac, .slice aT am ad, .int .i64 a5, .int .i64 a6] _ 0 HB5.out
        have hY9 := BlkL.setN [.int .i64 a0, .int .i64 a1, .int .i64 a2, .slice aS an ac, .slice aT am ad, .int .i64 a5, .int .i64 a6] _ _ 0 HY5.out
        generalize World.setN w5 (w.heap.size + 2) 0 [.int .i64 a0, .int .i64 a1, .int .i64 a2, .slice aS an ac, .slice aT am ad, .int .i64 a5, .int .i64 a6] = w9 at *
        refine stage_last ?_
        repeat (go_big_quiet_step (fail))
        refine wpQuiet_nil ?_
        go_wp2
        have k0 : w9.cell? ⟨w.heap.size + 2, 0, none⟩ = some (.int .i64 a0) := (hY9.cell 0).trans rfl
        have k1 : w9.cell? ⟨w.heap.size + 2, 1, none⟩ = some (.int .i64 a1) := (hY9.cell 1).trans rfl
        have k2 : w9.cell? ⟨w.heap.size + 2, 2, none⟩ = some (.int .i64 a2) := (hY9.cell 2).trans rfl
        have k3 : w9.cell? ⟨w.heap.size + 2, 3, none⟩ = some (.slice aS an ac) := (hY9.cell 3).trans rfl
        have k4 : w9.cell? ⟨w.heap.size + 2, 4, none⟩ = some (.slice aT am ad) := (hY9.cell 4).trans rfl
        have k5 : w9.cell? ⟨w.heap.size + 2, 5, none⟩ = some (.int .i64 a5) := (hY9.cell 5).trans rfl
        have k6 : w9.cell? ⟨w.heap.size + 2, 6, none⟩ = some (.int .i64 a6) := (hY9.cell 6).trans rfl
        refine bodyPost_ret (v := .tuple #[.agg #[.int .i64 a0, .int .i64 a1, .int .i64 a2, .slice aS an ac, .slice aT am ad, .int .i64 a5, .int .i64 a6], .string ⟨(fedF e t).1.out.toArray⟩, .bool true]) (by simp [results, Try.results28, go_sem, k0, k1, k2, k3, k4, k5, k6]) rfl ⟨.agg #[.int .i64 a0, .int .i64 a1, .int .i64 a2, .slice aS an ac, .slice aT am ad, .int .i64 a5, .int .i64 a6], ?_, ?_, hB9⟩
        · rw [HT.out, HBN.out]
        · rw [HEE.out]; exact hO9
end Go.Proofs.Ytegjgbgnpkncbab
