/-
  The model writes the first held one.
-/
import Derived.Test.YtegjgbgnpkncbabKf39
import Derived.Test.YtegjgbgnpkncbabKfXpp
import Derived.Test.YtegjgbgnpkncbabKf43
namespace Go.Proofs.Ytegjgbgnpkncbab
open Go.RowKit
set_option linter.unusedVariables false
theorem PM.boxT {w : World} {B p g : Nat} {tp tm ty : TypeId} {cs bs : List Value} {vW vM : Value} {out : List UInt8} {ms : List (Int × Int)} (h : PM w B p tp tm cs vW vM out ms) (hb : BlkL w g ty bs) (hk : keepT ty = true) (i : Nat) (u : Value) : PM (w.setCell ⟨g, i, none⟩ u) B p tp tm cs vW vM out ms := by
  have hg : w.grownBy (w.setCell ⟨g, i, none⟩ u) (some g) := grown_self_set (World.grownBy.refl _ _) i u
  refine h.grown hg ?_ (.inr (own_blk h.own hb (fun e => by rw [e] at hk; revert hk; decide))) (.inr (own_blk h.mks hb (fun e => by have := h.n5; rw [← e, hk] at this; cases this)))
  intro e
  injection e with e
  subst e
  have hbk := h.blk
  unfold BlkL at hb hbk
  rw [hb] at hbk
  injection hbk with hbk
  injection hbk with _ hbk
  have := h.n4
  rw [← hbk, hk] at this
  cases this
set_option maxHeartbeats 2000000 in
set_option maxRecDepth 100000 in
theorem l05Write_any (w : World) (q : Nat) (W : Int) (s : Pr) (A : Option Addr) (c : Nat) (b o n cap : Nat) (h : Hd) (tot lev : Int) (hq : BlkL w q 47 [.int .i64 W, .int .i64 s.col, .int .i64 s.pend, .slice A s.ms.length c, .slice (some ⟨b, o, none⟩) (n + 1) cap, .int .i64 tot, .int .i64 lev]) (hm : MS w A s.ms) (hs : s.Sm) (ho : s.out = []) (hh : Sev w b o h) (hbw : b < w.heap.size) (htk : h.t.ok = true) (hW0 : 0 ≤ W) (hW1 : W ≤ 1000) (hn : n ≤ 1000) (hcap : n + 1 ≤ cap) :
    Calls Try.prog 77 #[.pointer (some ⟨q, 0, none⟩)] w fun r w' => r = .returned (.string ⟨(s.put W h.t h.sz).1.out.toArray⟩) ∧ (∃ A' c' o', BlkL w' q 47 [.int .i64 W, .int .i64 ((s.put W h.t h.sz).1.col : Int), .int .i64 ((s.put W h.t h.sz).1.pend : Int), .slice A' (s.put W h.t h.sz).1.ms.length c', .slice (some ⟨b, o', none⟩) n (cap - 1), .int .i64 tot, .int .i64 lev] ∧ MS w' A' (s.put W h.t h.sz).1.ms ∧ (n ≠ 0 → o' = o + 7) ∧ (∀ g, A'.map (·.block) = some g → w.heap.size ≤ g)) ∧ w.grownBy w' (some q) := by
  have r0 := Kept.rd (show w.cell? ⟨q, 0, none⟩ = some (.int .i64 W) from (hq.cell 0).trans rfl)
  have r1 := Kept.rd (show w.cell? ⟨q, 1, none⟩ = some (.int .i64 s.col) from (hq.cell 1).trans rfl)
  have r2 := Kept.rd (show w.cell? ⟨q, 2, none⟩ = some (.int .i64 s.pend) from (hq.cell 2).trans rfl)
  have hne : Nonempty (Kept w) := ⟨⟨w, Below.refl _ _⟩⟩
  have HQ := Lib.hid hq
  have HMS := Lib.hid hm
  have HSM := Lib.hid hs
  have HSV := Lib.hid hh
  have HOE := Lib.hid ho
  have HTK := Lib.hid htk
  have hlen := hs.len
  clear hq hm hs hh ho htk
  go_enter Try.func77, Try.ntmps77
  go_wp2_with fail
  refine wp_region_stages [0, 0, 0, 0, 0, 0, 0, 0, 0, 0, 0, 0, 0, 1, 3] 1 (fun w' => ∃ y : Kept w, w' = y.W) (by kernel_rfl) (by kernel_rfl) (Kept.start w) ?_
  simp only [Stage.stages, Stage.pickC, Nat.reduceBEq, Nat.reduceMul, Nat.reduceAdd, cond_true, cond_false, List.map_cons, List.map_nil]
  refine stage_more ?_
  repeat (go_big_quiet_step (fail))
  refine wpQuiet_nil ?_
  intro K hK
  unfold Chain.mov
  go_simp
  simp only [Chain.movUpon]
  refine hK _ _ ⟨Kept.mk' (((Below.refl w.heap.size w).alloc (Nat.le_refl _) _).drew), ?_⟩
  clear hK K r0 r1 r2
  refine stage_last ?_
  refine wpQuiet_nil ?_
  clear hne
  go_wp2_with fail
  change Code.wp _ _ _ _ (w.alloc (.cells #[.int .i64 W, .int .i64 s.col, .int .i64 s.pend, .slice none 0 0, .slice none 0 0] 107)).drew
  have HP1 := Lib.hid ((BlkL.new w 107 [.int .i64 W, .int .i64 s.col, .int .i64 s.pend, .slice none 0 0, .slice none 0 0]).drew)
  have HB1 := Lib.hid (((Below.refl w.heap.size w).alloc (Nat.le_refl _) (.cells #[.int .i64 W, .int .i64 s.col, .int .i64 s.pend, .slice none 0 0, .slice none 0 0] 107)).drew)
  generalize (w.alloc (.cells #[.int .i64 W, .int .i64 s.col, .int .i64 s.pend, .slice none 0 0, .slice none 0 0] 107)).drew = w1 at *
  go_loopw [4] (fun i wr => ∃ (k : Nat) (v : Value), k ≤ s.ms.length ∧ i = .int .i64 k ∧ BlkL wr w.heap.size 107 [.int .i64 W, .int .i64 s.col, .int .i64 s.pend, v, .slice none 0 0] ∧ wr.ownsRow w.heap.size 153 2 v k (fl fm (s.ms.take k)) ∧ Below w.heap.size w wr) (fun i _ => s.ms.length - (intOf i).toNat)
  case atStart => exact ⟨0, .slice none 0 0, Nat.zero_le _, rfl, HP1.out, ⟨by simp [fl], .inl ⟨rfl, rfl⟩⟩, HB1.out⟩
  case round =>
    clear HP1 HB1
    obtain ⟨k, v, hk, rfl, hP, hrow, hb⟩ := hrel
    by_cases hkl : k < s.ms.length
    · obtain ⟨t, mb, mo, ht, rfl, hbl, _⟩ := MS.two HMS.out (k := k) hkl
      obtain ⟨hbl', f0, f1⟩ := MS.get (RS.below HMS.out hb) ht
      obtain ⟨Av, cv, rfl⟩ := own_form hrow
      have HT := Lib.hid ht
      have hql := HQ.out.lt
      have hnQ : (Value.slice Av k cv).ownBlock ≠ some q := fun e' => by have := (hrow.lt q e').1; omega
      have hnP : (Value.slice Av k cv).ownBlock ≠ some w.heap.size := own_blk hrow hP (by decide)
      have hnb : (Value.slice Av k cv).ownBlock ≠ some mb := fun e' => by have := (hrow.lt mb e').1; omega
      have hQ := HQ.out.below hb HQ.out.lt
      have s0 : wr.drew.cell? ⟨q, 3, none⟩ = some (.slice (some ⟨mb, mo, none⟩) s.ms.length c) ∧ wr.drew.cell? ⟨w.heap.size, 3, none⟩ = some (.slice Av k cv) ∧ wr.drew.cell? ⟨mb, mo + k * 2, none⟩ = some (.int .i64 t.1) ∧ wr.drew.cell? ⟨mb, mo + k * 2 + 1, none⟩ = some (.int .i64 t.2) := ⟨(hQ.cell 3).trans rfl, (hP.cell 3).trans rfl, f0, f1⟩
      have hne : Nonempty (Cl (fun w' => w'.cell? ⟨q, 3, none⟩ = some (.slice (some ⟨mb, mo, none⟩) s.ms.length c) ∧ w'.cell? ⟨w.heap.size, 3, none⟩ = some (.slice Av k cv) ∧ w'.cell? ⟨mb, mo + k * 2, none⟩ = some (.int .i64 t.1) ∧ w'.cell? ⟨mb, mo + k * 2 + 1, none⟩ = some (.int .i64 t.2))) := ⟨⟨_, s0⟩⟩
      have rX : ∀ x : Cl (fun w' => w'.cell? ⟨q, 3, none⟩ = some (.slice (some ⟨mb, mo, none⟩) s.ms.length c) ∧ w'.cell? ⟨w.heap.size, 3, none⟩ = some (.slice Av k cv) ∧ w'.cell? ⟨mb, mo + k * 2, none⟩ = some (.int .i64 t.1) ∧ w'.cell? ⟨mb, mo + k * 2 + 1, none⟩ = some (.int .i64 t.2)), x.W.cell? ⟨q, 3, none⟩ = some (.slice (some ⟨mb, mo, none⟩) s.ms.length c) := fun x => x.ok.1
      have rZ : ∀ x : Cl (fun w' => w'.cell? ⟨q, 3, none⟩ = some (.slice (some ⟨mb, mo, none⟩) s.ms.length c) ∧ w'.cell? ⟨w.heap.size, 3, none⟩ = some (.slice Av k cv) ∧ w'.cell? ⟨mb, mo + k * 2, none⟩ = some (.int .i64 t.1) ∧ w'.cell? ⟨mb, mo + k * 2 + 1, none⟩ = some (.int .i64 t.2)), x.W.cell? ⟨w.heap.size, 3, none⟩ = some (.slice Av k cv) := fun x => x.ok.2.1
      have q0 : ∀ x : Cl (fun w' => w'.cell? ⟨q, 3, none⟩ = some (.slice (some ⟨mb, mo, none⟩) s.ms.length c) ∧ w'.cell? ⟨w.heap.size, 3, none⟩ = some (.slice Av k cv) ∧ w'.cell? ⟨mb, mo + k * 2, none⟩ = some (.int .i64 t.1) ∧ w'.cell? ⟨mb, mo + k * 2 + 1, none⟩ = some (.int .i64 t.2)), x.W.cell? ⟨mb, mo + k * 2, none⟩ = some (.int .i64 t.1) := fun x => x.ok.2.2.1
      have q1 : ∀ x : Cl (fun w' => w'.cell? ⟨q, 3, none⟩ = some (.slice (some ⟨mb, mo, none⟩) s.ms.length c) ∧ w'.cell? ⟨w.heap.size, 3, none⟩ = some (.slice Av k cv) ∧ w'.cell? ⟨mb, mo + k * 2, none⟩ = some (.int .i64 t.1) ∧ w'.cell? ⟨mb, mo + k * 2 + 1, none⟩ = some (.int .i64 t.2)), x.W.cell? ⟨mb, mo + k * 2 + 1, none⟩ = some (.int .i64 t.2) := fun x => x.ok.2.2.2
      have x3 : wr.cell? ⟨q, 3, none⟩ = some (.slice (some ⟨mb, mo, none⟩) s.ms.length c) := (hQ.cell 3).trans rfl
      have xl := hQ.lt
      have HP := Lib.hid hP
      have HR := Lib.hid hrow
      have HB := Lib.hid hb
      have hzB := hb.size
      clear hP hrow hb ht f0 f1 hQ
      go_wp2_with fail
      clear x3 xl
      refine wp_region_stages [0, 0, 0, 0, 0, 0, 0, 0, 0, 0, 0, 0, 0, 0, 0, 0, 0, 0, 0, 1, 3, 4, 5] 2 (fun w' => ∃ y : Cl (fun w' => w'.cell? ⟨q, 3, none⟩ = some (.slice (some ⟨mb, mo, none⟩) s.ms.length c) ∧ w'.cell? ⟨w.heap.size, 3, none⟩ = some (.slice Av k cv) ∧ w'.cell? ⟨mb, mo + k * 2, none⟩ = some (.int .i64 t.1) ∧ w'.cell? ⟨mb, mo + k * 2 + 1, none⟩ = some (.int .i64 t.2)), w' = y.W) (by kernel_rfl) (by kernel_rfl) ⟨⟨_, s0⟩, rfl⟩ ?_
      simp only [Stage.stages, Stage.pickC, Nat.reduceBEq, Nat.reduceMul, Nat.reduceAdd, cond_true, cond_false, List.map_cons, List.map_nil]
      refine stage_more ?_
      repeat (go_big_quiet_step (fail))
      refine wpQuiet_nil ?_
      intro K hK
      unfold Chain.mov
      go_simp
      simp only [Chain.movUpon]
      have hbA : Below wr.heap.size wr (wr.alloc (.cells (fm t).toArray 153)).drew := ((Below.refl _ wr).alloc (Nat.le_refl _) (.cells (fm t).toArray 153)).drew
      have s1 : (wr.alloc (.cells (fm t).toArray 153)).drew.cell? ⟨q, 3, none⟩ = some (.slice (some ⟨mb, mo, none⟩) s.ms.length c) ∧ (wr.alloc (.cells (fm t).toArray 153)).drew.cell? ⟨w.heap.size, 3, none⟩ = some (.slice Av k cv) ∧ (wr.alloc (.cells (fm t).toArray 153)).drew.cell? ⟨mb, mo + k * 2, none⟩ = some (.int .i64 t.1) ∧ (wr.alloc (.cells (fm t).toArray 153)).drew.cell? ⟨mb, mo + k * 2 + 1, none⟩ = some (.int .i64 t.2) := ⟨(hbA.cell (World.block_lt_of_cell? wr _ s0.1)).trans s0.1, (hbA.cell (World.block_lt_of_cell? wr _ s0.2.1)).trans s0.2.1, (hbA.cell (World.block_lt_of_cell? wr _ s0.2.2.1)).trans s0.2.2.1, (hbA.cell (World.block_lt_of_cell? wr _ s0.2.2.2)).trans s0.2.2.2⟩
      refine hK _ _ ⟨⟨⟨_, s1⟩, rfl⟩, ?_⟩
      clear hK K rX rZ q0 q1
      have HP5 := Lib.hid (HP.out.below hbA HP.out.lt)
      have HR5 := Lib.hid (own_keep HR.out hbA)
      have HB5 := Lib.hid (HB.out.trans (hbA.mono hzB))
      have hN5 : BlkL (wr.alloc (.cells (fm t).toArray 153)).drew wr.heap.size 153 (fl fm [t]) := by rw [show fl fm [t] = fm t by simp [fl]]; exact BlkL.new wr 153 (fm t)
      have hz5 : w.heap.size ≤ ((wr.alloc (.cells (fm t).toArray 153)).drew).heap.size := HB5.out.size
      clear hbA s0 HP HR HB
      change Stage.stageW _ _ _ _ _ _ (wr.alloc (.cells (fm t).toArray 153)).drew
      generalize (wr.alloc (.cells (fm t).toArray 153)).drew = V5 at *
      obtain ⟨i0, hi0, hz0, hz1, hz2⟩ := info_parts infoSMark
      obtain ⟨v', V6, hrun, how6, hgr6, _, hob6⟩ := run_append_own_at (P := Try.prog) V5 w.heap.size 105 105 153 i0 _ 2 16 Try.underlying105 hi0 hz0 hz1 hz2 rfl (by decide) _ k _ HR5.out ⟨wr.heap.size, 0, none⟩ 1 1 (fl fm [t]) (by rw [fl_length fm_len]; rfl) (fun j u hj => by rw [Addr.add_lit, Nat.zero_add]; exact (hN5.cell j).trans hj) (fm_one _) (by unfold maxLen; omega) (by omega) hz5
      rw [← fl_append, show s.ms.take k ++ [t] = s.ms.take (k + 1) by rw [List.take_add_one, HT.out]; rfl] at how6
      obtain ⟨A6, c6, rfl⟩ := own_form how6
      have HRUN := Lib.hid hrun
      clear hrun
      have HR6 := Lib.hid how6
      have HP6 := Lib.hid (HP5.out.grown hgr6 (fun e' => hnP e'.symm))
      have HB6 := Lib.hid (HB5.out.grown hgr6 hz5 (fun q' hq' => (HR5.out.lt q' hq').1))
      have s6 : V6.cell? ⟨q, 3, none⟩ = some (.slice (some ⟨mb, mo, none⟩) s.ms.length c) ∧ V6.cell? ⟨w.heap.size, 3, none⟩ = some (.slice Av k cv) ∧ V6.cell? ⟨mb, mo + k * 2, none⟩ = some (.int .i64 t.1) ∧ V6.cell? ⟨mb, mo + k * 2 + 1, none⟩ = some (.int .i64 t.2) := ⟨(World.cell?_of_block (hgr6.block q (World.block_lt_of_cell? V5 _ s1.1) (fun e' => hnQ e'.symm))).trans s1.1, (HP6.out.cell 3).trans rfl, (World.cell?_of_block (hgr6.block mb (World.block_lt_of_cell? V5 _ s1.2.2.1) (fun e' => hnb e'.symm))).trans s1.2.2.1, (World.cell?_of_block (hgr6.block mb (World.block_lt_of_cell? V5 _ s1.2.2.1) (fun e' => hnb e'.symm))).trans s1.2.2.2⟩
      clear how6 hgr6 hob6 hN5 HP5 HR5 HB5 s1
      refine stage_more ?_
      refine wpQuiet_nil ?_
      intro K hK
      refine mov_append rfl rfl rfl HRUN.out ?_
      go_simp
      refine hK _ _ ⟨⟨⟨_, s6⟩, rfl⟩, ?_⟩
      clear hK K
      have zc := s6.2.1
      have zf := HP6.out.frozen 3
      have zl := HP6.out.lt
      clear s6
      refine stage_last ?_
      repeat (go_big_quiet_step (fail))
      refine wpQuiet_nil ?_
      clear hne
      have hnP6 : (Value.slice A6 (k + 1) c6).ownBlock ≠ some w.heap.size := own_blk HR6.out HP6.out (by decide)
      go_wp2
      go_roundw
      case rel => exact ⟨k + 1, .slice A6 (k + 1) c6, by omega, by go_num, HP6.out.set 3 _, ownsRow_setCell_other (a := ⟨w.heap.size, 3, none⟩) HR6.out hnP6 _, HB6.out.setCell (p := ⟨w.heap.size, 3, none⟩) (Nat.le_refl _) _⟩
      case measure => simp [intOf]; omega
    · obtain rfl : k = s.ms.length := by omega
      rw [List.take_length] at hrow
      obtain ⟨AM, cM, rfl⟩ := own_form hrow
      have hQ := HQ.out.below hb HQ.out.lt
      have x3 : wr.cell? ⟨q, 3, none⟩ = some (.slice A s.ms.length c) := (hQ.cell 3).trans rfl
      have x4 : wr.cell? ⟨q, 4, none⟩ = some (.slice (some ⟨b, o, none⟩) (n + 1) cap) := (hQ.cell 4).trans rfl
      have xl := hQ.lt
      obtain ⟨g0, g1, g2, g3, g4, g5, g6⟩ := HSV.out.below hbw hb
      have HPM := Lib.hid (show QA wr w.heap.size w.heap.size W s (.slice none 0 0) (.slice AM s.ms.length cM) from
        ⟨Nat.le_refl _, hP, by rw [HOE.out]; exact ⟨rfl, .inl ⟨rfl, rfl⟩⟩, by rw [mf_fl]; exact hrow, by decide, by decide, by decide, by decide, by decide⟩)
      have HB1 := Lib.hid hb
      have hpl := hP.lt
      clear hQ hP hrow hb
      go_wp2_with fail
      refine wp_region_tail 14 (fun w' => ∃ m, w' = wr.drewN m) (by kernel_rfl) (by kernel_rfl) ⟨1, rfl⟩ ?_
      simp only [List.take_succ_cons, List.take_zero, List.drop_succ_cons, List.drop_zero]
      repeat (go_big_quiet_step (fail))
      refine wpQuiet_nil ?_
      rintro w2 ⟨m, rfl⟩
      go_wp2_with fail
      have HB2 := Lib.hid (show Below w.heap.size w (wr.drewN m) from ⟨HB1.out.os, HB1.out.tape, HB1.out.output, HB1.out.size, HB1.out.block⟩)
      have HQ1 := Lib.hid (show BlkL (wr.drewN m) q 47 _ from HQ.out.below HB2.out HQ.out.lt)
      refine (sPut_any (t := h.t) (z := h.sz) (PM.drewN HPM.out m) HSM.out HB2.out.size hW0 hW1 HTK.out).mono ?_
      rintro r w3 ⟨rfl, hc3, vW3, vM3, hq3⟩
      clear x3 x4 xl g0 g1 g2 g3 g4 g5 g6 hpl
      have HQ3 := Lib.hid (show BlkL w3 q 47 _ from (hc3.int q _ _ _ (by decide) HQ1.out).trans HQ1.out)
      have HB3 := Lib.hid (HB2.out.trans (hc3.below HB2.out.size))
      have HP3 := Lib.hid hq3
      clear hc3 hq3 HQ1 HB2 HPM HB1
      have hqP : q ≠ w.heap.size := by have := HQ.out.lt; omega
      have u1 : w3.cell? ⟨w.heap.size, 1, none⟩ = some (.int .i64 ((s.put W h.t h.sz).1.col : Int)) := (HP3.out.blk.cell 1).trans rfl
      have u2 : w3.cell? ⟨w.heap.size, 2, none⟩ = some (.int .i64 ((s.put W h.t h.sz).1.pend : Int)) := (HP3.out.blk.cell 2).trans rfl
      have u3 : w3.cell? ⟨w.heap.size, 3, none⟩ = some vM3 := (HP3.out.blk.cell 3).trans rfl
      have ul := HP3.out.blk.lt
      have z1 : w3.cell? ⟨q, 1, none⟩ = some (.int .i64 s.col) := (HQ3.out.cell 1).trans rfl
      have z2 : w3.cell? ⟨q, 2, none⟩ = some (.int .i64 s.pend) := (HQ3.out.cell 2).trans rfl
      have z3 : w3.cell? ⟨q, 3, none⟩ = some (.slice A s.ms.length c) := (HQ3.out.cell 3).trans rfl
      have zf := HQ3.out.frozen
      have zl := HQ3.out.lt
      go_wp2_with fail
      clear u1 u2 u3 ul z1 z2 z3 zf zl
      have HP4 := Lib.hid (PM.boxT (PM.boxT (PM.boxT HP3.out HQ3.out (by decide) 1 (.int .i64 ((s.put W h.t h.sz).1.col : Int))) (HQ3.out.set 1 _) (by decide) 2 (.int .i64 ((s.put W h.t h.sz).1.pend : Int))) ((HQ3.out.set 1 _).set 2 _) (by decide) 3 (.slice none 0 0))
      have HQ4 := Lib.hid (((HQ3.out.set 1 (.int .i64 ((s.put W h.t h.sz).1.col : Int))).set 2 (.int .i64 ((s.put W h.t h.sz).1.pend : Int))).set 3 (.slice none 0 0))
      have HG4 := Lib.hid (grown_self_set (grown_self_set (grown_self_set (show w.grownBy w3 (some q) from ⟨HB3.out.os, HB3.out.tape, HB3.out.output, HB3.out.size, fun i hi _ => HB3.out.block i hi⟩) 1 (.int .i64 ((s.put W h.t h.sz).1.col : Int))) 2 (.int .i64 ((s.put W h.t h.sz).1.pend : Int))) 3 (.slice none 0 0))
      obtain ⟨AM3, cM3, rfl⟩ := own_form HP3.out.mks
      clear HP3 HQ3 HB3
      generalize ((w3.setCell ⟨q, 1, none⟩ (.int .i64 ((s.put W h.t h.sz).1.col : Int))).setCell ⟨q, 2, none⟩ (.int .i64 ((s.put W h.t h.sz).1.pend : Int))).setCell ⟨q, 3, none⟩ (.slice none 0 0) = w4 at *
      have hml : (s.put W h.t h.sz).1.ms.length ≤ 2000 := by
        have h1 := Pr.put_ms (W := W) (z := h.sz) HSM.out.ne HTK.out
        have h2 := h.t.opn_cases
        omega
      go_loopw [5] (fun i wr => ∃ (k : Nat) (v : Value), k ≤ (s.put W h.t h.sz).1.ms.length ∧ i = .int .i64 k ∧ BlkL wr q 47 [.int .i64 W, .int .i64 ((s.put W h.t h.sz).1.col : Int), .int .i64 ((s.put W h.t h.sz).1.pend : Int), v, .slice (some ⟨b, o, none⟩) (n + 1) cap, .int .i64 tot, .int .i64 lev] ∧ wr.ownsRow w.heap.size 121 2 v k (fl fm ((s.put W h.t h.sz).1.ms.take k)) ∧ (∃ vo, QA wr w.heap.size w.heap.size W (s.put W h.t h.sz).1 vo (.slice AM3 (s.put W h.t h.sz).1.ms.length cM3)) ∧ w.grownBy wr (some q)) (fun i _ => (s.put W h.t h.sz).1.ms.length - (intOf i).toNat)
      case atStart => exact ⟨0, .slice none 0 0, Nat.zero_le _, rfl, HQ4.out, ⟨by simp [fl], .inl ⟨rfl, rfl⟩⟩, ⟨_, HP4.out⟩, HG4.out⟩
      case round =>
        clear HP4 HQ4 HG4
        obtain ⟨k, v, hk2, rfl, hQ, hrow, hqa, hgr⟩ := hrel
        by_cases hkl2 : k < (s.put W h.t h.sz).1.ms.length
        · obtain ⟨vo, hp⟩ := hqa
          have hmsr : MS wr AM3 (s.put W h.t h.sz).1.ms := RS.of_own fm_len rfl (by have := hp.mks; rw [mf_fl] at this; exact this)
          obtain ⟨t, mb, mo, ht, hAe, hbl, f0, f1⟩ := MS.two hmsr (k := k) hkl2
          subst hAe
          clear hmsr
          obtain ⟨Av, cv, rfl⟩ := own_form hrow
          have HT := Lib.hid ht
          have hql := HQ.out.lt
          have hnQ : (Value.slice Av k cv).ownBlock ≠ some q := fun e' => by have := (hrow.lt q e').1; omega
          have hnP : (Value.slice Av k cv).ownBlock ≠ some w.heap.size := own_blk hrow hp.blk (by decide)
          have hnb : (Value.slice Av k cv).ownBlock ≠ some mb := fun e' => by
            have h1 := own_apart hrow hp.mks (by decide)
            rcases h1 with h1 | h1
            · rw [h1] at e'; cases e'
            · exact h1 (by rw [e']; rfl)
          have s0 : wr.drew.cell? ⟨w.heap.size, 3, none⟩ = some (.slice (some ⟨mb, mo, none⟩) (s.put W h.t h.sz).1.ms.length cM3) ∧ wr.drew.cell? ⟨q, 3, none⟩ = some (.slice Av k cv) ∧ wr.drew.cell? ⟨mb, mo + k * 2, none⟩ = some (.int .i64 t.1) ∧ wr.drew.cell? ⟨mb, mo + k * 2 + 1, none⟩ = some (.int .i64 t.2) := ⟨(hp.blk.cell 3).trans rfl, (hQ.cell 3).trans rfl, f0, f1⟩
          have hne : Nonempty (Cl (fun w' => w'.cell? ⟨w.heap.size, 3, none⟩ = some (.slice (some ⟨mb, mo, none⟩) (s.put W h.t h.sz).1.ms.length cM3) ∧ w'.cell? ⟨q, 3, none⟩ = some (.slice Av k cv) ∧ w'.cell? ⟨mb, mo + k * 2, none⟩ = some (.int .i64 t.1) ∧ w'.cell? ⟨mb, mo + k * 2 + 1, none⟩ = some (.int .i64 t.2))) := ⟨⟨_, s0⟩⟩
          have rX : ∀ x : Cl (fun w' => w'.cell? ⟨w.heap.size, 3, none⟩ = some (.slice (some ⟨mb, mo, none⟩) (s.put W h.t h.sz).1.ms.length cM3) ∧ w'.cell? ⟨q, 3, none⟩ = some (.slice Av k cv) ∧ w'.cell? ⟨mb, mo + k * 2, none⟩ = some (.int .i64 t.1) ∧ w'.cell? ⟨mb, mo + k * 2 + 1, none⟩ = some (.int .i64 t.2)), x.W.cell? ⟨w.heap.size, 3, none⟩ = some (.slice (some ⟨mb, mo, none⟩) (s.put W h.t h.sz).1.ms.length cM3) := fun x => x.ok.1
          have rZ : ∀ x : Cl (fun w' => w'.cell? ⟨w.heap.size, 3, none⟩ = some (.slice (some ⟨mb, mo, none⟩) (s.put W h.t h.sz).1.ms.length cM3) ∧ w'.cell? ⟨q, 3, none⟩ = some (.slice Av k cv) ∧ w'.cell? ⟨mb, mo + k * 2, none⟩ = some (.int .i64 t.1) ∧ w'.cell? ⟨mb, mo + k * 2 + 1, none⟩ = some (.int .i64 t.2)), x.W.cell? ⟨q, 3, none⟩ = some (.slice Av k cv) := fun x => x.ok.2.1
          have q0 : ∀ x : Cl (fun w' => w'.cell? ⟨w.heap.size, 3, none⟩ = some (.slice (some ⟨mb, mo, none⟩) (s.put W h.t h.sz).1.ms.length cM3) ∧ w'.cell? ⟨q, 3, none⟩ = some (.slice Av k cv) ∧ w'.cell? ⟨mb, mo + k * 2, none⟩ = some (.int .i64 t.1) ∧ w'.cell? ⟨mb, mo + k * 2 + 1, none⟩ = some (.int .i64 t.2)), x.W.cell? ⟨mb, mo + k * 2, none⟩ = some (.int .i64 t.1) := fun x => x.ok.2.2.1
          have q1 : ∀ x : Cl (fun w' => w'.cell? ⟨w.heap.size, 3, none⟩ = some (.slice (some ⟨mb, mo, none⟩) (s.put W h.t h.sz).1.ms.length cM3) ∧ w'.cell? ⟨q, 3, none⟩ = some (.slice Av k cv) ∧ w'.cell? ⟨mb, mo + k * 2, none⟩ = some (.int .i64 t.1) ∧ w'.cell? ⟨mb, mo + k * 2 + 1, none⟩ = some (.int .i64 t.2)), x.W.cell? ⟨mb, mo + k * 2 + 1, none⟩ = some (.int .i64 t.2) := fun x => x.ok.2.2.2
          have x3 : wr.cell? ⟨w.heap.size, 3, none⟩ = some (.slice (some ⟨mb, mo, none⟩) (s.put W h.t h.sz).1.ms.length cM3) := (hp.blk.cell 3).trans rfl
          have xl := hp.blk.lt
          have HP := Lib.hid hp
          have HQ2 := Lib.hid hQ
          have HR := Lib.hid hrow
          have HG := Lib.hid hgr
          have hzB := hgr.size
          clear hp hQ hrow hgr ht f0 f1
          go_wp2_with fail
          clear x3 xl
          refine wp_region_stages [0, 0, 0, 0, 0, 0, 0, 0, 0, 0, 0, 0, 0, 0, 0, 0, 0, 0, 1, 3, 4, 4, 5] 2 (fun w' => ∃ y : Cl (fun w' => w'.cell? ⟨w.heap.size, 3, none⟩ = some (.slice (some ⟨mb, mo, none⟩) (s.put W h.t h.sz).1.ms.length cM3) ∧ w'.cell? ⟨q, 3, none⟩ = some (.slice Av k cv) ∧ w'.cell? ⟨mb, mo + k * 2, none⟩ = some (.int .i64 t.1) ∧ w'.cell? ⟨mb, mo + k * 2 + 1, none⟩ = some (.int .i64 t.2)), w' = y.W) (by kernel_rfl) (by kernel_rfl) ⟨⟨_, s0⟩, rfl⟩ ?_
          simp only [Stage.stages, Stage.pickC, Nat.reduceBEq, Nat.reduceMul, Nat.reduceAdd, cond_true, cond_false, List.map_cons, List.map_nil]
          refine stage_more ?_
          repeat (go_big_quiet_step (fail))
          refine wpQuiet_nil ?_
          intro K hK
          unfold Chain.mov
          go_simp
          simp only [Chain.movUpon]
          have hbA : Below wr.heap.size wr (wr.alloc (.cells (fm t).toArray 121)).drew := ((Below.refl _ wr).alloc (Nat.le_refl _) (.cells (fm t).toArray 121)).drew
          have s1 : (wr.alloc (.cells (fm t).toArray 121)).drew.cell? ⟨w.heap.size, 3, none⟩ = some (.slice (some ⟨mb, mo, none⟩) (s.put W h.t h.sz).1.ms.length cM3) ∧ (wr.alloc (.cells (fm t).toArray 121)).drew.cell? ⟨q, 3, none⟩ = some (.slice Av k cv) ∧ (wr.alloc (.cells (fm t).toArray 121)).drew.cell? ⟨mb, mo + k * 2, none⟩ = some (.int .i64 t.1) ∧ (wr.alloc (.cells (fm t).toArray 121)).drew.cell? ⟨mb, mo + k * 2 + 1, none⟩ = some (.int .i64 t.2) := ⟨(hbA.cell (World.block_lt_of_cell? wr _ s0.1)).trans s0.1, (hbA.cell (World.block_lt_of_cell? wr _ s0.2.1)).trans s0.2.1, (hbA.cell (World.block_lt_of_cell? wr _ s0.2.2.1)).trans s0.2.2.1, (hbA.cell (World.block_lt_of_cell? wr _ s0.2.2.2)).trans s0.2.2.2⟩
          refine hK _ _ ⟨⟨⟨_, s1⟩, rfl⟩, ?_⟩
          clear hK K rX rZ q0 q1
          have HP5 := Lib.hid (PM.below HP.out hbA)
          have HQ5 := Lib.hid (HQ2.out.below hbA HQ2.out.lt)
          have HR5 := Lib.hid (own_keep HR.out hbA)
          have HG5 := Lib.hid (grown_below HG.out hbA)
          have hN5 : BlkL (wr.alloc (.cells (fm t).toArray 121)).drew wr.heap.size 121 (fl fm [t]) := by rw [show fl fm [t] = fm t by simp [fl]]; exact BlkL.new wr 121 (fm t)
          have hz5 : w.heap.size ≤ ((wr.alloc (.cells (fm t).toArray 121)).drew).heap.size := HG5.out.size
          clear hbA s0 HP HQ2 HR HG
          change Stage.stageW _ _ _ _ _ _ (wr.alloc (.cells (fm t).toArray 121)).drew
          generalize (wr.alloc (.cells (fm t).toArray 121)).drew = V5 at *
          obtain ⟨i0, hi0, hz0, hz1, hz2⟩ := info_parts infoMarkI
          obtain ⟨v', V6, hrun, how6, hgr6, _, hob6⟩ := run_append_own_at (P := Try.prog) V5 w.heap.size 44 44 121 i0 _ 2 16 Try.underlying44 hi0 hz0 hz1 hz2 rfl (by decide) _ k _ HR5.out ⟨wr.heap.size, 0, none⟩ 1 1 (fl fm [t]) (by rw [fl_length fm_len]; rfl) (fun j u hj => by rw [Addr.add_lit, Nat.zero_add]; exact (hN5.cell j).trans hj) (fm_one _) (by unfold maxLen; omega) (by omega) hz5
          rw [← fl_append, show (s.put W h.t h.sz).1.ms.take k ++ [t] = (s.put W h.t h.sz).1.ms.take (k + 1) by rw [List.take_add_one, HT.out]; rfl] at how6
          obtain ⟨A6, c6, rfl⟩ := own_form how6
          have HRUN := Lib.hid hrun
          clear hrun
          have HR6 := Lib.hid how6
          have HP6 := Lib.hid (PM.grown HP5.out hgr6 (fun e' => hnP e'.symm) (own_apart HP5.out.own HR5.out (by decide)) (own_apart HP5.out.mks HR5.out (by decide)))
          have HQ6 := Lib.hid (HQ5.out.grown hgr6 (fun e' => hnQ e'.symm))
          have HG6 := Lib.hid (show w.grownBy V6 (some q) from ⟨hgr6.os.trans HG5.out.os, hgr6.tape.trans HG5.out.tape, hgr6.output.trans HG5.out.output, Nat.le_trans HG5.out.size hgr6.size, fun i hi hne' => (hgr6.block i (Nat.lt_of_lt_of_le hi HG5.out.size) (fun e' => by have := (HR5.out.lt i e'.symm).1; omega)).trans (HG5.out.block i hi hne')⟩)
          have s6 : V6.cell? ⟨w.heap.size, 3, none⟩ = some (.slice (some ⟨mb, mo, none⟩) (s.put W h.t h.sz).1.ms.length cM3) ∧ V6.cell? ⟨q, 3, none⟩ = some (.slice Av k cv) ∧ V6.cell? ⟨mb, mo + k * 2, none⟩ = some (.int .i64 t.1) ∧ V6.cell? ⟨mb, mo + k * 2 + 1, none⟩ = some (.int .i64 t.2) := ⟨(HP6.out.blk.cell 3).trans rfl, (HQ6.out.cell 3).trans rfl, (World.cell?_of_block (hgr6.block mb (World.block_lt_of_cell? V5 _ s1.2.2.1) (fun e' => hnb e'.symm))).trans s1.2.2.1, (World.cell?_of_block (hgr6.block mb (World.block_lt_of_cell? V5 _ s1.2.2.1) (fun e' => hnb e'.symm))).trans s1.2.2.2⟩
          clear how6 hgr6 hob6 hN5 HP5 HQ5 HR5 HG5 s1
          refine stage_more ?_
          refine wpQuiet_nil ?_
          intro K hK
          refine mov_append rfl rfl rfl HRUN.out ?_
          go_simp
          refine hK _ _ ⟨⟨⟨_, s6⟩, rfl⟩, ?_⟩
          clear hK K
          have zc := s6.2.1
          have zf := HQ6.out.frozen 3
          have zl := HQ6.out.lt
          clear s6
          refine stage_last ?_
          repeat (go_big_quiet_step (fail))
          refine wpQuiet_nil ?_
          clear hne
          have hnQ6 : (Value.slice A6 (k + 1) c6).ownBlock ≠ some q := fun e' => by have := (HR6.out.lt q e').1; omega
          go_wp2
          go_roundw
          case rel => exact ⟨k + 1, .slice A6 (k + 1) c6, by omega, by go_num, HQ6.out.set 3 _, ownsRow_setCell_other (a := ⟨q, 3, none⟩) HR6.out hnQ6 _, ⟨_, PM.boxT HP6.out HQ6.out (by decide) 3 _⟩, grown_self_set HG6.out 3 _⟩
          case measure => simp [intOf]; omega
        · obtain rfl : k = (s.put W h.t h.sz).1.ms.length := by omega
          rw [List.take_length] at hrow
          obtain ⟨vo, hp⟩ := hqa
          obtain ⟨A9, c9, rfl⟩ := own_form hrow
          have HQ9 := Lib.hid hQ
          have HR9 := Lib.hid hrow
          have HP9 := Lib.hid hp
          have HG9 := Lib.hid hgr
          have x3 : wr.cell? ⟨w.heap.size, 3, none⟩ = some (.slice AM3 (s.put W h.t h.sz).1.ms.length cM3) := (hp.blk.cell 3).trans rfl
          have x4 : wr.cell? ⟨w.heap.size, 4, none⟩ = some vo := (hp.blk.cell 4).trans rfl
          have xl := hp.blk.lt
          have y4 : wr.cell? ⟨q, 4, none⟩ = some (.slice (some ⟨b, o, none⟩) (n + 1) cap) := (hQ.cell 4).trans rfl
          have yf := hQ.frozen 4
          have yl := hQ.lt
          have hcv : ∀ u : Value, (convert 94 9 vo).run Try.prog (wr.setCell ⟨q, 4, none⟩ u) = .ok (.string ⟨(s.put W h.t h.sz).1.out.toArray⟩) (wr.setCell ⟨q, 4, none⟩ u) := fun u => conv_own (PM.boxT hp hQ (by decide) 4 u).own
          have hnQ9 : (Value.slice A9 (s.put W h.t h.sz).1.ms.length c9).ownBlock ≠ some q := fun e' => by have := (hrow.lt q e').1; have := HQ.out.lt; omega
          clear hQ hrow hp hgr
          by_cases hc1 : cap = 1
          · subst hc1
            obtain rfl : n = 0 := by omega
            go_wp2_with fail
            go_ret
            exact ⟨rfl, ⟨A9, c9, o, HQ9.out.set 4 _, RS.of_own fm_len rfl (ownsRow_setCell_other (a := ⟨q, 4, none⟩) HR9.out hnQ9 _), fun e' => (e' rfl).elim, fun g hg => (HR9.out.lt g (by cases A9 <;> exact hg)).1⟩, grown_self_set HG9.out 4 _⟩
          · go_wp2_with fail
            go_ret
            exact ⟨rfl, ⟨A9, c9, o + 7, HQ9.out.set 4 _, RS.of_own fm_len rfl (ownsRow_setCell_other (a := ⟨q, 4, none⟩) HR9.out hnQ9 _), fun _ => rfl, fun g hg => (HR9.out.lt g (by cases A9 <;> exact hg)).1⟩, grown_self_set HG9.out 4 _⟩
end Go.Proofs.Ytegjgbgnpkncbab
