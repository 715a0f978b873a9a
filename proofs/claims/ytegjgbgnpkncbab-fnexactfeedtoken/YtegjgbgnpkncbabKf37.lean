/-
  The press is fed, and finished.
-/
import Derived.Test.YtegjgbgnpkncbabKf36
namespace Go.Proofs.Ytegjgbgnpkncbab
open Go.RowKit
set_option linter.unusedVariables false

set_option maxHeartbeats 1000000 in
set_option maxRecDepth 100000 in
theorem ready_any {w : World} {B p : Nat} {W : Int} {s : Pr} {vI : Value} {its : List Hd} {tot lev : Int} (h : PX w B p W s vI its tot lev) (hs : s.Sm) :
    Calls Try.prog 89 #[.pointer (some ⟨p, 0, none⟩)] w fun r w' => r = .returned (.bool (colB s.col s.pend s.ms)) ∧ Below w.heap.size w w' := by
  obtain ⟨vW, vM, hpa, hown⟩ := h
  obtain ⟨g, cM, hvM, hgl, h0, _⟩ := PA.last hpa hs.ne
  subst hvM
  have HPA := Lib.hid hpa
  have HS0 := Lib.hid hs
  have hcol := hs.col
  clear hpa hown hs
  have r0 := Bw.rd (HPA.out.cells.1)
  have r1 := Bw.rd (HPA.out.cells.2.1)
  have r4 := Bw.rd (HPA.out.cells.2.2.2.2.1)
  have HMS := Lib.hid (show MS w (some ⟨g, 0, none⟩) s.ms from RS.of_own fm_len rfl (by have := HPA.out.mks; rw [mf_fl] at this; exact this))
  have HLEN := HS0.out.len
  go_enter Try.func89, Try.ntmps89
  go_wp2_with fail
  refine wp_region_class (Bw w) (by kernel_rfl) (by kernel_rfl) (Bw.start w) (fun hne => ?_)
  repeat (go_big_quiet_step (fail))
  refine wpQuiet_step (fun K hK => ?_)
  go_simp
  refine ⟨.int .i64 s.col, fun x => calls_class x (Bw.keep w) (column_any _ p s.col s.ln (by omega) (r0 x)), hK _ ?_⟩
  clear hK K
  repeat (go_big_quiet_step (fail))
  refine wpQuiet_step (fun K hK => ?_)
  go_simp
  refine ⟨.bool (colB s.col s.pend s.ms), fun x => calls_class x (Bw.keep w) (columnsOk_any s.col s.pend (some ⟨g, 0, none⟩) s.ms _ cM _ rfl (by unfold maxLen; omega) (RS.below HMS.out x.ok)), hK _ ?_⟩
  clear hK K
  repeat (go_big_quiet_step (fail))
  refine wpQuiet_nil ?_
  rintro w3 ⟨x, rfl⟩
  have hx := x.ok
  generalize x.W = w3 at *
  clear r0 r1 r4
  go_wp2
  go_ret
  exact ⟨rfl, hx⟩
/-- the helds ahead of the next one. -/
def brk1 (tot : Int) (h : Hd) (its : List Hd) : List Hd := if h.t.brk = true then endS tot h.lv (decide (h.t.k = 4)) its else its
def fedI (tot : Int) (h : Hd) (its : List Hd) : List Hd := brk1 tot h its ++ [h]
theorem brk1_length (tot : Int) (h : Hd) (its : List Hd) : (brk1 tot h its).length = its.length := by unfold brk1; split <;> simp [endS]
theorem fedI_length (tot : Int) (h : Hd) (its : List Hd) : (fedI tot h its).length = its.length + 1 := by simp [fedI, brk1_length]
theorem endH_st (tot lv : Int) (line : Bool) (h : Hd) : (endH tot lv line h).st = h.st := by
  unfold endH; split
  · split
    · rfl
    · split <;> rfl
  · rfl
theorem brk1_at {tot : Int} {h : Hd} {its : List Hd} {i : Nat} {x : Hd} (e : (brk1 tot h its)[i]? = some x) : ∃ y, its[i]? = some y ∧ x.st = y.st ∧ x.t = y.t ∧ x.lv = y.lv := by
  unfold brk1 at e
  split at e
  · simp only [endS, List.getElem?_map, Option.map_eq_some_iff] at e
    obtain ⟨y, hy, rfl⟩ := e
    refine ⟨y, hy, endH_st _ _ _ _, ?_, ?_⟩
    all_goals
      unfold endH; split
      · split
        · rfl
        · split <;> rfl
      · rfl
  · exact ⟨x, e, rfl, rfl, rfl⟩
theorem fedI_st {tot : Int} {h : Hd} {its : List Hd} (hst : ∀ (i : Nat) (h : Hd), its[i]? = some h → 0 ≤ h.st ∧ h.st ≤ tot) (hh : h.st = tot) {wd : Int} (hw : 0 ≤ wd) (i : Nat) (x : Hd) (e : (fedI tot h its)[i]? = some x) (ht : 0 ≤ tot := by omega) : 0 ≤ x.st ∧ x.st ≤ tot + wd := by
  unfold fedI at e
  by_cases hi : i < (brk1 tot h its).length
  · rw [List.getElem?_append_left hi] at e
    obtain ⟨y, hy, h1, _⟩ := brk1_at e
    have := hst i y hy
    omega
  · rw [List.getElem?_append_right (by omega)] at e
    have : i - (brk1 tot h its).length = 0 := by
      rcases Nat.eq_zero_or_pos (i - (brk1 tot h its).length) with h0 | h0
      · exact h0
      · rw [List.getElem?_eq_none (by simp; omega)] at e; cases e
    rw [this] at e
    simp at e
    subst e
    omega
/-- behind a press that was fed. -/
def FedP (w : World) (B p : Nat) (W : Int) (s : Pr) (vI : Value) (its : List Hd) (tot lev : Int) (h : Hd) (r : Ending) (w' : World) : Prop :=
  r = .returned (.bool true) ∧ (∃ vI', PX w' B p W (flu W (tot + h.t.wid) s (fedI tot h its)).1 vI' (flu W (tot + h.t.wid) s (fedI tot h its)).2 (tot + h.t.wid) (lev + h.t.opn)) ∧ CG B vI.ownBlock w w'
theorem PX.below {w w' : World} {B p : Nat} {W : Int} {s : Pr} {vI : Value} {its : List Hd} {tot lev : Int} (h : PX w B p W s vI its tot lev) (hb : Below w.heap.size w w') : PX w' B p W s vI its tot lev := by
  obtain ⟨vW, vM, h1, h2⟩ := h
  exact ⟨vW, vM, PM.below h1 hb, own_keep h2 hb⟩
theorem PX.row {w : World} {B p : Nat} {W : Int} {s : Pr} {vI : Value} {its : List Hd} {tot lev : Int} (h : PX w B p W s vI its tot lev) : ∀ g, vI.ownBlock = some g → B ≤ g ∧ g < w.heap.size := by
  obtain ⟨vW, vM, h1, h2⟩ := h
  exact h2.lt
set_option maxHeartbeats 1000000 in
set_option maxRecDepth 100000 in
theorem feed_any {w : World} {B p : Nat} {W : Int} {s : Pr} {vI : Value} {its : List Hd} {tot lev : Int} (h : Hd) (hx : PX w B p W s vI its tot lev) (hB : B ≤ w.heap.size) (hs : s.Sm) (hl : its.length < 400) (hc : colB s.col s.pend s.ms = true) (htk : h.t.ok = true) (hf : Fine s (fedI tot h its)) (hW0 : 0 ≤ W) (hW1 : W ≤ 1000) (ht : 0 ≤ tot ∧ tot ≤ 1000000) (hlv : 0 ≤ lev ∧ lev ≤ 12) (hh : h.st = tot) (hst : ∀ (i : Nat) (h : Hd), its[i]? = some h → 0 ≤ h.st ∧ h.st ≤ tot) :
    Calls Try.prog 60 #[.pointer (some ⟨p, 0, none⟩), .agg #[.int .i64 h.t.k, .string h.t.s, .int .i64 h.t.d, .int .i64 h.t.o, .int .i64 h.lv, .int .i64 h.st, .int .i64 h.sz]] w (FedP w B p W s vI its tot lev h) := by
  have hszs : h.t.s.size ≤ maxLen := by have := (h.t.s_bd htk).1; unfold maxLen; omega
  have HX := Lib.hid hx
  have HH := Lib.hid hh
  clear hh
  obtain ⟨vW, vM, hpa, hown⟩ := hx
  obtain ⟨AI, cI, rfl⟩ := own_form hown
  have x5 : w.cell? ⟨p, 5, none⟩ = some (.slice AI its.length cI) := (hpa.blk.cell 5).trans rfl
  have xl := hpa.blk.lt
  have HS0 := Lib.hid hs
  have HF := Lib.hid hf
  have HST := Lib.hid hst
  have HC := Lib.hid hc
  have HTK := Lib.hid htk
  clear hpa hown hs hf hst hc htk
  have b4 : ((its.length : Int) == 400) = false := by rw [beq_eq_false_iff_ne]; omega
  go_enter Try.func60, Try.ntmps60
  go_wp2_with fail
  have hX1 := BlkL.new w 80 (fh h)
  have hW1' := (Below.refl w.heap.size w).alloc (Nat.le_refl _) (.cells (fh h).toArray 80)
  change Calls _ _ _ (w.alloc (.cells (fh h).toArray 80)) _
  generalize w.alloc (.cells (fh h).toArray 80) = w1 at *
  clear x5 xl
  refine (ready_any (HX.out.below hW1') HS0.out).mono ?_
  rintro r w2 ⟨rfl, hb2⟩
  rw [HC.out]
  have hbx2 := hX1.below hb2 hX1.lt
  have HW2 := Lib.hid (hW1'.trans (hb2.mono hW1'.size))
  clear hb2 hX1 hW1'
  have HX2 := Lib.hid (HX.out.below HW2.out)
  have y0 : w2.cell? ⟨w.heap.size, 0, none⟩ = some (.int .i64 h.t.k) := (hbx2.cell 0).trans rfl
  have y1 : w2.cell? ⟨w.heap.size, 1, none⟩ = some (.string h.t.s) := (hbx2.cell 1).trans rfl
  have y2 : w2.cell? ⟨w.heap.size, 2, none⟩ = some (.int .i64 h.t.d) := (hbx2.cell 2).trans rfl
  have y3 : w2.cell? ⟨w.heap.size, 3, none⟩ = some (.int .i64 h.t.o) := (hbx2.cell 3).trans rfl
  have yl := hbx2.lt
  have HBX2 := Lib.hid hbx2
  clear hbx2
  go_wp2_with fail
  refine (IsBreak_any _ _ _ _ w2 hszs).mono ?_
  rintro r w3 ⟨rfl, hb3⟩
  have hbx3 := HBX2.out.below hb3 HBX2.out.lt
  have HW3 := Lib.hid (HW2.out.trans (hb3.mono HW2.out.size))
  have HX3 := Lib.hid (HX.out.below HW3.out)
  clear hb3 HBX2 HX2 HW2 y0 y1 y2 y3 yl
  have y0 : w3.cell? ⟨w.heap.size, 0, none⟩ = some (.int .i64 h.t.k) := (hbx3.cell 0).trans rfl
  have y4 : w3.cell? ⟨w.heap.size, 4, none⟩ = some (.int .i64 h.lv) := (hbx3.cell 4).trans rfl
  have yl := hbx3.lt
  have HBX3 := Lib.hid hbx3
  clear hbx3
  cases hbk : brkB h.t.k h.t.s h.t.d h.t.o
  · have HX4 := Lib.hid (show PX w3 B p W s (.slice AI its.length cI) (brk1 tot h its) tot lev by
      unfold brk1; rw [if_neg (by unfold Tk.brk; rw [hbk]; decide)]; exact HX3.out)
    have HCG := Lib.hid (CG.of_chg (B := B) (row := (Value.slice AI its.length cI).ownBlock) (Chg.of_below HW3.out))
    clear hbk y0 y4
    have x5 : w3.cell? ⟨p, 5, none⟩ = some (.slice AI its.length cI) := by obtain ⟨a, b, c, _⟩ := HX3.out; exact (c.blk.cell 5).trans rfl
    have HBX4 := HBX3
    clear HBX3
    go_wp2_with fail
    clear x5
    have hlb : (brk1 tot h its).length = its.length := brk1_length tot h its
    obtain ⟨vW4, vM4, hpa4, how4⟩ := HX4.out
    rw [hlb] at how4
    have HPA4 := Lib.hid hpa4
    have HOW4 := Lib.hid how4
    have hnI : (Value.slice AI its.length cI).ownBlock ≠ some p := own_blk how4 hpa4.blk (by decide)
    have hnX : (Value.slice AI its.length cI).ownBlock ≠ some w.heap.size := fun e => by have := (PX.row HX.out w.heap.size e).2; omega
    have hpx : p ≠ w.heap.size := fun e => by subst e; have h1 := hpa4.blk; have h2 := HBX4.out; unfold BlkL at h1 h2; rw [h1] at h2; injection h2 with h2; injection h2 with _ h2; revert h2; decide
    have s0 : BlkL w3.drew w.heap.size 80 (fh h) ∧ w3.drew.cell? ⟨p, 5, none⟩ = some (.slice AI its.length cI) := ⟨HBX4.out, (hpa4.blk.cell 5).trans rfl⟩
    have r5 : ∀ x : Cl (fun w' => BlkL w' w.heap.size 80 (fh h) ∧ w'.cell? ⟨p, 5, none⟩ = some (.slice AI its.length cI)), x.W.cell? ⟨p, 5, none⟩ = some (.slice AI its.length cI) := fun x => x.ok.2
    have q0 : ∀ x : Cl (fun w' => BlkL w' w.heap.size 80 (fh h) ∧ w'.cell? ⟨p, 5, none⟩ = some (.slice AI its.length cI)), x.W.cell? ⟨w.heap.size, 0, none⟩ = some (.int .i64 h.t.k) := fun x => (x.ok.1.cell 0).trans rfl
    have q1 : ∀ x : Cl (fun w' => BlkL w' w.heap.size 80 (fh h) ∧ w'.cell? ⟨p, 5, none⟩ = some (.slice AI its.length cI)), x.W.cell? ⟨w.heap.size, 1, none⟩ = some (.string h.t.s) := fun x => (x.ok.1.cell 1).trans rfl
    have q2 : ∀ x : Cl (fun w' => BlkL w' w.heap.size 80 (fh h) ∧ w'.cell? ⟨p, 5, none⟩ = some (.slice AI its.length cI)), x.W.cell? ⟨w.heap.size, 2, none⟩ = some (.int .i64 h.t.d) := fun x => (x.ok.1.cell 2).trans rfl
    have q3 : ∀ x : Cl (fun w' => BlkL w' w.heap.size 80 (fh h) ∧ w'.cell? ⟨p, 5, none⟩ = some (.slice AI its.length cI)), x.W.cell? ⟨w.heap.size, 3, none⟩ = some (.int .i64 h.t.o) := fun x => (x.ok.1.cell 3).trans rfl
    have q4 : ∀ x : Cl (fun w' => BlkL w' w.heap.size 80 (fh h) ∧ w'.cell? ⟨p, 5, none⟩ = some (.slice AI its.length cI)), x.W.cell? ⟨w.heap.size, 4, none⟩ = some (.int .i64 h.lv) := fun x => (x.ok.1.cell 4).trans rfl
    have q5 : ∀ x : Cl (fun w' => BlkL w' w.heap.size 80 (fh h) ∧ w'.cell? ⟨p, 5, none⟩ = some (.slice AI its.length cI)), x.W.cell? ⟨w.heap.size, 5, none⟩ = some (.int .i64 h.st) := fun x => (x.ok.1.cell 5).trans rfl
    have q6 : ∀ x : Cl (fun w' => BlkL w' w.heap.size 80 (fh h) ∧ w'.cell? ⟨p, 5, none⟩ = some (.slice AI its.length cI)), x.W.cell? ⟨w.heap.size, 6, none⟩ = some (.int .i64 h.sz) := fun x => (x.ok.1.cell 6).trans rfl
    have hne : Nonempty (Cl (fun w' => BlkL w' w.heap.size 80 (fh h) ∧ w'.cell? ⟨p, 5, none⟩ = some (.slice AI its.length cI))) := ⟨⟨_, s0⟩⟩
    have hzV : B ≤ w3.heap.size := Nat.le_trans hB HCG.out.size
    have hzW : w.heap.size ≤ w3.heap.size := HCG.out.size
    clear hpa4 how4 hlb
    refine wp_region_stages [0, 0, 0, 0, 0, 0, 1, 3, 4, 4, 5] 2 (fun w' => ∃ y : Cl (fun w' => BlkL w' w.heap.size 80 (fh h) ∧ w'.cell? ⟨p, 5, none⟩ = some (.slice AI its.length cI)), w' = y.W) (by kernel_rfl) (by kernel_rfl) ⟨⟨_, s0⟩, rfl⟩ ?_
    simp only [Stage.stages, Stage.pickC, Nat.reduceBEq, Nat.reduceMul, Nat.reduceAdd, cond_true, cond_false, List.map_cons, List.map_nil]
    refine stage_more ?_
    repeat (go_big_quiet_step (fail))
    refine wpQuiet_nil ?_
    intro K hK
    unfold Chain.mov
    go_simp
    simp only [Chain.movUpon]
    have s1 : BlkL (w3.alloc (.cells (fh h).toArray 80)).drew w.heap.size 80 (fh h) ∧ (w3.alloc (.cells (fh h).toArray 80)).drew.cell? ⟨p, 5, none⟩ = some (.slice AI its.length cI) := ⟨(HBX4.out.alloc _), ((PM.alloc HPA4.out _).blk.cell 5).trans rfl⟩
    refine hK _ _ ⟨⟨⟨_, s1⟩, rfl⟩, ?_⟩
    clear hK K r5 q0 q1 q2 q3 q4 q5 q6
    have HPA5 := Lib.hid (PM.drew (PM.alloc HPA4.out (.cells (fh h).toArray 80)))
    have HOW5 := Lib.hid ((HOW4.out.alloc (.cells (fh h).toArray 80)).drew)
    have HBX5 := Lib.hid (show BlkL (w3.alloc (.cells (fh h).toArray 80)).drew w.heap.size 80 (fh h) from HBX4.out.alloc _)
    have hN5 : BlkL (w3.alloc (.cells (fh h).toArray 80)).drew w3.heap.size 80 (fl fh [h]) := by rw [show fl fh [h] = fh h by simp [fl]]; exact BlkL.new w3 80 (fh h)
    have HCG5 := Lib.hid (HCG.out.trans (CG.of_chg (row := none) (Chg.drew (Chg.alloc (Chg.refl B w3) (.cells (fh h).toArray 80)))) (fun g e => by cases e))
    have hz5 : w3.heap.size < (w3.alloc (.cells (fh h).toArray 80)).drew.heap.size := hN5.lt
    clear HPA4 HOW4 HBX4 HCG s0 s1 HX4
    change Stage.stageW _ _ _ _ _ _ (w3.alloc (.cells (fh h).toArray 80)).drew
    generalize (w3.alloc (.cells (fh h).toArray 80)).drew = V5 at *
    obtain ⟨i0, hi0, hz0, hz1, hz2⟩ := info_parts infoHeldI
    obtain ⟨v', V6, hrun, how6, hgr6, _, hob6⟩ := run_append_own_at (P := Try.prog) V5 B 45 45 80 i0 _ 7 64 Try.underlying45 hi0 hz0 hz1 hz2 rfl (by decide) _ its.length _ HOW5.out ⟨w3.heap.size, 0, none⟩ 1 1 (fl fh [h]) (by rw [fl_length fh_len]; rfl) (fun j u hj => by rw [Addr.add_lit, Nat.zero_add]; exact (hN5.cell j).trans hj) (fh_one _) (by unfold maxLen; omega) (by omega) (by omega)
    rw [← fl_append] at how6
    obtain ⟨A6, c6, rfl⟩ := own_form how6
    have HRUN := Lib.hid hrun
    clear hrun
    have HOW6 := Lib.hid how6
    have HPA6 := Lib.hid (PM.grown HPA5.out hgr6 (fun e => hnI e.symm) (own_apart HPA5.out.own HOW5.out (by decide)) (own_apart HPA5.out.mks HOW5.out (by decide)))
    have HBX6 := Lib.hid (HBX5.out.grown hgr6 (fun e => hnX e.symm))
    have HCG6 := Lib.hid (HCG5.out.trans (CG.of_grown hgr6 (fun g e => (PX.row HX.out g e).1)) (fun g e => .inl e))
    have HOB := Lib.hid (show ∀ g, (Value.slice A6 (its.length + 1) c6).ownBlock = some g → (Value.slice AI its.length cI).ownBlock = some g ∨ w.heap.size ≤ g from fun g e => by rcases hob6 with h1 | h1; exact .inl (h1 ▸ e); rw [h1] at e; injection e with e; exact .inr (by omega))
    clear how6 hgr6 hob6 hN5 HPA5 HOW5 HBX5 HCG5 hnI hnX
    refine stage_more ?_
    refine wpQuiet_nil ?_
    intro K hK
    refine mov_append rfl rfl rfl HRUN.out ?_
    go_simp
    have s6 : BlkL V6 w.heap.size 80 (fh h) ∧ V6.cell? ⟨p, 5, none⟩ = some (.slice AI its.length cI) := ⟨HBX6.out, (HPA6.out.blk.cell 5).trans rfl⟩
    refine hK _ _ ⟨⟨⟨_, s6⟩, rfl⟩, ?_⟩
    clear hK K
    have x5 := s6.2
    have xf := HPA6.out.blk.frozen 5
    have xl := HPA6.out.blk.lt
    clear s6
    refine stage_last ?_
    repeat (go_big_quiet_step (fail))
    refine wpQuiet_nil ?_
    go_wp2_with fail
    clear x5 xf xl
    have HPA7 := Lib.hid (PM.set HPA6.out 5 (.slice A6 (its.length + 1) c6))
    have hn6 : (Value.slice A6 (its.length + 1) c6).ownBlock ≠ some p := own_blk HOW6.out HPA6.out.blk (by decide)
    have HOW7 := Lib.hid (ownsRow_setCell_other (a := ⟨p, 5, none⟩) HOW6.out hn6 (.slice A6 (its.length + 1) c6))
    have HBX7 := Lib.hid (HBX6.out.far (p := ⟨p, 5, none⟩) (fun e => hpx e.symm) (.slice A6 (its.length + 1) c6))
    have HCG7 := Lib.hid (HCG6.out.trans (CG.of_chg (row := none) (PM.chg_set HPA6.out 5 (.slice A6 (its.length + 1) c6))) (fun g e => by cases e))
    clear HPA6 HOW6 HBX6 HCG6 hn6 HRUN
    generalize V6.setCell ⟨p, 5, none⟩ (.slice A6 (its.length + 1) c6) = V7 at *
    have hwb := h.t.wid_bd HTK.out
    have hob := h.t.opn_cases
    have hop1 : -1 ≤ h.t.opn ∧ h.t.opn ≤ 1 := by omega
    clear hob
    have r6 := Bw.rd (show V7.cell? ⟨p, 6, none⟩ = some (.int .i64 tot) from (HPA7.out.blk.cell 6).trans rfl)
    have q0 := Bw.rd (show V7.cell? ⟨w.heap.size, 0, none⟩ = some (.int .i64 h.t.k) from (HBX7.out.cell 0).trans rfl)
    have q1 := Bw.rd (show V7.cell? ⟨w.heap.size, 1, none⟩ = some (.string h.t.s) from (HBX7.out.cell 1).trans rfl)
    have q2 := Bw.rd (show V7.cell? ⟨w.heap.size, 2, none⟩ = some (.int .i64 h.t.d) from (HBX7.out.cell 2).trans rfl)
    have q3 := Bw.rd (show V7.cell? ⟨w.heap.size, 3, none⟩ = some (.int .i64 h.t.o) from (HBX7.out.cell 3).trans rfl)
    have hne : Nonempty (Cl (Bw V7)) := ⟨⟨_, Bw.start V7⟩⟩
    refine wp_region_tail 10 (fun w' => ∃ x : Cl (Bw V7), w' = x.W) (by kernel_rfl) (by kernel_rfl) ⟨⟨_, Bw.start V7⟩, rfl⟩ ?_
    simp only [List.take_succ_cons, List.take_zero, List.drop_succ_cons, List.drop_zero]
    repeat (go_big_quiet_step (fail))
    refine wpQuiet_step (fun K hK => ?_)
    go_simp
    refine ⟨.int .i64 h.t.wid, fun x => calls_class x (Bw.keep V7) (WidthOf_any h.t.k h.t.s h.t.d h.t.o _ hszs), hK _ ?_⟩
    clear hK K
    repeat (go_big_quiet_step (fail))
    refine wpQuiet_nil ?_
    rintro w8 ⟨x, rfl⟩
    have hx8 := x.ok
    generalize x.W = w8 at *
    clear r6 q0 q1 q2 q3 hne x
    have hp8 := PM.below HPA7.out hx8
    have x6 : w8.cell? ⟨p, 6, none⟩ = some (.int .i64 tot) := (hp8.blk.cell 6).trans rfl
    have xf := hp8.blk.frozen 6
    have xl := hp8.blk.lt
    have hn6 : (Value.slice A6 (its.length + 1) c6).ownBlock ≠ some p := own_blk HOW7.out HPA7.out.blk (by decide)
    have HPA7n := Lib.hid (PM.set hp8 6 (.int .i64 (tot + h.t.wid)))
    have HOW7n := Lib.hid (ownsRow_setCell_other (a := ⟨p, 6, none⟩) (own_keep HOW7.out hx8) hn6 (.int .i64 (tot + h.t.wid)))
    have HBX7n := Lib.hid ((HBX7.out.below hx8 HBX7.out.lt).far (p := ⟨p, 6, none⟩) (fun e => hpx e.symm) (.int .i64 (tot + h.t.wid)))
    have HCG7n := Lib.hid (HCG7.out.trans (CG.of_chg (row := none) ((Chg.of_below hx8).trans (PM.chg_set hp8 6 (.int .i64 (tot + h.t.wid))))) (fun g e => by cases e))
    clear hp8 hx8 hn6 HPA7 HOW7 HBX7 HCG7
    go_wp2_with fail
    clear x6 xf xl
    change Code.wp _ _ _ _ (w8.setCell ⟨p, 6, none⟩ (.int .i64 (tot + h.t.wid)))
    generalize w8.setCell ⟨p, 6, none⟩ (.int .i64 (tot + h.t.wid)) = V8 at *
    have r6 := Bw.rd (show V8.cell? ⟨p, 7, none⟩ = some (.int .i64 lev) from (HPA7n.out.blk.cell 7).trans rfl)
    have q0 := Bw.rd (show V8.cell? ⟨w.heap.size, 0, none⟩ = some (.int .i64 h.t.k) from (HBX7n.out.cell 0).trans rfl)
    have q1 := Bw.rd (show V8.cell? ⟨w.heap.size, 1, none⟩ = some (.string h.t.s) from (HBX7n.out.cell 1).trans rfl)
    have q2 := Bw.rd (show V8.cell? ⟨w.heap.size, 2, none⟩ = some (.int .i64 h.t.d) from (HBX7n.out.cell 2).trans rfl)
    have q3 := Bw.rd (show V8.cell? ⟨w.heap.size, 3, none⟩ = some (.int .i64 h.t.o) from (HBX7n.out.cell 3).trans rfl)
    have hne : Nonempty (Cl (Bw V8)) := ⟨⟨_, Bw.start V8⟩⟩
    refine wp_region_tail 10 (fun w' => ∃ x : Cl (Bw V8), w' = x.W) (by kernel_rfl) (by kernel_rfl) ⟨⟨_, Bw.start V8⟩, rfl⟩ ?_
    simp only [List.take_succ_cons, List.take_zero, List.drop_succ_cons, List.drop_zero]
    repeat (go_big_quiet_step (fail))
    refine wpQuiet_step (fun K hK => ?_)
    go_simp
    refine ⟨.int .i64 h.t.opn, fun x => calls_class x (Bw.keep V8) (opening_any h.t _), hK _ ?_⟩
    clear hK K
    repeat (go_big_quiet_step (fail))
    refine wpQuiet_nil ?_
    rintro w9 ⟨x, rfl⟩
    have hx8 := x.ok
    generalize x.W = w9 at *
    clear r6 q0 q1 q2 q3 hne x
    have hp8 := PM.below HPA7n.out hx8
    have x6 : w9.cell? ⟨p, 7, none⟩ = some (.int .i64 lev) := (hp8.blk.cell 7).trans rfl
    have xf := hp8.blk.frozen 7
    have xl := hp8.blk.lt
    have hn6 : (Value.slice A6 (its.length + 1) c6).ownBlock ≠ some p := own_blk HOW7n.out HPA7n.out.blk (by decide)
    have HPA7nn := Lib.hid (PM.set hp8 7 (.int .i64 (lev + h.t.opn)))
    have HOW7nn := Lib.hid (ownsRow_setCell_other (a := ⟨p, 7, none⟩) (own_keep HOW7n.out hx8) hn6 (.int .i64 (lev + h.t.opn)))
    have HBX7nn := Lib.hid ((HBX7n.out.below hx8 HBX7n.out.lt).far (p := ⟨p, 7, none⟩) (fun e => hpx e.symm) (.int .i64 (lev + h.t.opn)))
    have HCG7nn := Lib.hid (HCG7n.out.trans (CG.of_chg (row := none) ((Chg.of_below hx8).trans (PM.chg_set hp8 7 (.int .i64 (lev + h.t.opn))))) (fun g e => by cases e))
    clear hp8 hx8 hn6 HPA7n HOW7n HBX7n HCG7n
    go_wp2_with fail
    clear x6 xf xl
    change Calls _ _ _ (w9.setCell ⟨p, 7, none⟩ (.int .i64 (lev + h.t.opn))) _
    generalize w9.setCell ⟨p, 7, none⟩ (.int .i64 (lev + h.t.opn)) = V9 at *
    refine (writeSized_any (vI := .slice A6 (its.length + 1) c6) (its := fedI tot h its) ⟨_, _, HPA7nn.out, by rw [fedI_length]; exact HOW7nn.out⟩ (Nat.le_trans hB HCG7nn.out.size) HF.out hW0 hW1 (by omega) (fun i x e => fedI_st HST.out HH.out hwb.1 i x e ht.1)).mono ?_
    rintro r w10 ⟨rfl, hp10, hcg10⟩
    have HP10 := Lib.hid hp10
    have HC10 := Lib.hid hcg10
    clear hp10 hcg10
    go_wp2
    go_ret
    exact ⟨rfl, HP10.out, HCG7nn.out.trans HC10.out HOB.out⟩
  · go_wp2_with fail
    refine (endSizes_any (lev := lev) h.lv (h.t.k == 4) HX3.out (by omega) ht HST.out).mono ?_
    rintro r w4 ⟨rfl, hp4, hg4⟩
    have hnX3 : (Value.slice AI its.length cI).ownBlock ≠ some w.heap.size := fun e => by have := (PX.row HX.out w.heap.size e).2; omega
    have HX4 := Lib.hid (show PX w4 B p W s (.slice AI its.length cI) (brk1 tot h its) tot lev by
      unfold brk1; rw [if_pos (by unfold Tk.brk; exact hbk), show decide (h.t.k = 4) = (h.t.k == 4) by rw [Bool.eq_iff_iff]; simp]; exact hp4)
    have HCG := Lib.hid ((CG.of_chg (B := B) (row := (Value.slice AI its.length cI).ownBlock) (Chg.of_below HW3.out)).trans (CG.of_grown hg4 (fun g e => (PX.row HX.out g e).1)) (fun g e => .inl e))
    have HBX4 := Lib.hid (HBX3.out.grown hg4 (fun e => hnX3 e.symm))
    clear hbk y0 y4 yl hp4 hg4 hnX3 HBX3
    go_wp2_with fail
    have hlb : (brk1 tot h its).length = its.length := brk1_length tot h its
    obtain ⟨vW4, vM4, hpa4, how4⟩ := HX4.out
    rw [hlb] at how4
    have HPA4 := Lib.hid hpa4
    have HOW4 := Lib.hid how4
    have hnI : (Value.slice AI its.length cI).ownBlock ≠ some p := own_blk how4 hpa4.blk (by decide)
    have hnX : (Value.slice AI its.length cI).ownBlock ≠ some w.heap.size := fun e => by have := (PX.row HX.out w.heap.size e).2; omega
    have hpx : p ≠ w.heap.size := fun e => by subst e; have h1 := hpa4.blk; have h2 := HBX4.out; unfold BlkL at h1 h2; rw [h1] at h2; injection h2 with h2; injection h2 with _ h2; revert h2; decide
    have s0 : BlkL w4.drew w.heap.size 80 (fh h) ∧ w4.drew.cell? ⟨p, 5, none⟩ = some (.slice AI its.length cI) := ⟨HBX4.out, (hpa4.blk.cell 5).trans rfl⟩
    have r5 : ∀ x : Cl (fun w' => BlkL w' w.heap.size 80 (fh h) ∧ w'.cell? ⟨p, 5, none⟩ = some (.slice AI its.length cI)), x.W.cell? ⟨p, 5, none⟩ = some (.slice AI its.length cI) := fun x => x.ok.2
    have q0 : ∀ x : Cl (fun w' => BlkL w' w.heap.size 80 (fh h) ∧ w'.cell? ⟨p, 5, none⟩ = some (.slice AI its.length cI)), x.W.cell? ⟨w.heap.size, 0, none⟩ = some (.int .i64 h.t.k) := fun x => (x.ok.1.cell 0).trans rfl
    have q1 : ∀ x : Cl (fun w' => BlkL w' w.heap.size 80 (fh h) ∧ w'.cell? ⟨p, 5, none⟩ = some (.slice AI its.length cI)), x.W.cell? ⟨w.heap.size, 1, none⟩ = some (.string h.t.s) := fun x => (x.ok.1.cell 1).trans rfl
    have q2 : ∀ x : Cl (fun w' => BlkL w' w.heap.size 80 (fh h) ∧ w'.cell? ⟨p, 5, none⟩ = some (.slice AI its.length cI)), x.W.cell? ⟨w.heap.size, 2, none⟩ = some (.int .i64 h.t.d) := fun x => (x.ok.1.cell 2).trans rfl
    have q3 : ∀ x : Cl (fun w' => BlkL w' w.heap.size 80 (fh h) ∧ w'.cell? ⟨p, 5, none⟩ = some (.slice AI its.length cI)), x.W.cell? ⟨w.heap.size, 3, none⟩ = some (.int .i64 h.t.o) := fun x => (x.ok.1.cell 3).trans rfl
    have q4 : ∀ x : Cl (fun w' => BlkL w' w.heap.size 80 (fh h) ∧ w'.cell? ⟨p, 5, none⟩ = some (.slice AI its.length cI)), x.W.cell? ⟨w.heap.size, 4, none⟩ = some (.int .i64 h.lv) := fun x => (x.ok.1.cell 4).trans rfl
    have q5 : ∀ x : Cl (fun w' => BlkL w' w.heap.size 80 (fh h) ∧ w'.cell? ⟨p, 5, none⟩ = some (.slice AI its.length cI)), x.W.cell? ⟨w.heap.size, 5, none⟩ = some (.int .i64 h.st) := fun x => (x.ok.1.cell 5).trans rfl
    have q6 : ∀ x : Cl (fun w' => BlkL w' w.heap.size 80 (fh h) ∧ w'.cell? ⟨p, 5, none⟩ = some (.slice AI its.length cI)), x.W.cell? ⟨w.heap.size, 6, none⟩ = some (.int .i64 h.sz) := fun x => (x.ok.1.cell 6).trans rfl
    have hne : Nonempty (Cl (fun w' => BlkL w' w.heap.size 80 (fh h) ∧ w'.cell? ⟨p, 5, none⟩ = some (.slice AI its.length cI))) := ⟨⟨_, s0⟩⟩
    have hzV : B ≤ w4.heap.size := Nat.le_trans hB HCG.out.size
    have hzW : w.heap.size ≤ w4.heap.size := HCG.out.size
    clear hpa4 how4 hlb
    refine wp_region_stages [0, 0, 0, 0, 0, 0, 1, 3, 4, 4, 5] 2 (fun w' => ∃ y : Cl (fun w' => BlkL w' w.heap.size 80 (fh h) ∧ w'.cell? ⟨p, 5, none⟩ = some (.slice AI its.length cI)), w' = y.W) (by kernel_rfl) (by kernel_rfl) ⟨⟨_, s0⟩, rfl⟩ ?_
    simp only [Stage.stages, Stage.pickC, Nat.reduceBEq, Nat.reduceMul, Nat.reduceAdd, cond_true, cond_false, List.map_cons, List.map_nil]
    refine stage_more ?_
    repeat (go_big_quiet_step (fail))
    refine wpQuiet_nil ?_
    intro K hK
    unfold Chain.mov
    go_simp
    simp only [Chain.movUpon]
    have s1 : BlkL (w4.alloc (.cells (fh h).toArray 80)).drew w.heap.size 80 (fh h) ∧ (w4.alloc (.cells (fh h).toArray 80)).drew.cell? ⟨p, 5, none⟩ = some (.slice AI its.length cI) := ⟨(HBX4.out.alloc _), ((PM.alloc HPA4.out _).blk.cell 5).trans rfl⟩
    refine hK _ _ ⟨⟨⟨_, s1⟩, rfl⟩, ?_⟩
    clear hK K r5 q0 q1 q2 q3 q4 q5 q6
    have HPA5 := Lib.hid (PM.drew (PM.alloc HPA4.out (.cells (fh h).toArray 80)))
    have HOW5 := Lib.hid ((HOW4.out.alloc (.cells (fh h).toArray 80)).drew)
    have HBX5 := Lib.hid (show BlkL (w4.alloc (.cells (fh h).toArray 80)).drew w.heap.size 80 (fh h) from HBX4.out.alloc _)
    have hN5 : BlkL (w4.alloc (.cells (fh h).toArray 80)).drew w4.heap.size 80 (fl fh [h]) := by rw [show fl fh [h] = fh h by simp [fl]]; exact BlkL.new w4 80 (fh h)
    have HCG5 := Lib.hid (HCG.out.trans (CG.of_chg (row := none) (Chg.drew (Chg.alloc (Chg.refl B w4) (.cells (fh h).toArray 80)))) (fun g e => by cases e))
    have hz5 : w4.heap.size < (w4.alloc (.cells (fh h).toArray 80)).drew.heap.size := hN5.lt
    clear HPA4 HOW4 HBX4 HCG s0 s1 HX4
    change Stage.stageW _ _ _ _ _ _ (w4.alloc (.cells (fh h).toArray 80)).drew
    generalize (w4.alloc (.cells (fh h).toArray 80)).drew = V5 at *
    obtain ⟨i0, hi0, hz0, hz1, hz2⟩ := info_parts infoHeldI
    obtain ⟨v', V6, hrun, how6, hgr6, _, hob6⟩ := run_append_own_at (P := Try.prog) V5 B 45 45 80 i0 _ 7 64 Try.underlying45 hi0 hz0 hz1 hz2 rfl (by decide) _ its.length _ HOW5.out ⟨w4.heap.size, 0, none⟩ 1 1 (fl fh [h]) (by rw [fl_length fh_len]; rfl) (fun j u hj => by rw [Addr.add_lit, Nat.zero_add]; exact (hN5.cell j).trans hj) (fh_one _) (by unfold maxLen; omega) (by omega) (by omega)
    rw [← fl_append] at how6
    obtain ⟨A6, c6, rfl⟩ := own_form how6
    have HRUN := Lib.hid hrun
    clear hrun
    have HOW6 := Lib.hid how6
    have HPA6 := Lib.hid (PM.grown HPA5.out hgr6 (fun e => hnI e.symm) (own_apart HPA5.out.own HOW5.out (by decide)) (own_apart HPA5.out.mks HOW5.out (by decide)))
    have HBX6 := Lib.hid (HBX5.out.grown hgr6 (fun e => hnX e.symm))
    have HCG6 := Lib.hid (HCG5.out.trans (CG.of_grown hgr6 (fun g e => (PX.row HX.out g e).1)) (fun g e => .inl e))
    have HOB := Lib.hid (show ∀ g, (Value.slice A6 (its.length + 1) c6).ownBlock = some g → (Value.slice AI its.length cI).ownBlock = some g ∨ w.heap.size ≤ g from fun g e => by rcases hob6 with h1 | h1; exact .inl (h1 ▸ e); rw [h1] at e; injection e with e; exact .inr (by omega))
    clear how6 hgr6 hob6 hN5 HPA5 HOW5 HBX5 HCG5 hnI hnX
    refine stage_more ?_
    refine wpQuiet_nil ?_
    intro K hK
    refine mov_append rfl rfl rfl HRUN.out ?_
    go_simp
    have s6 : BlkL V6 w.heap.size 80 (fh h) ∧ V6.cell? ⟨p, 5, none⟩ = some (.slice AI its.length cI) := ⟨HBX6.out, (HPA6.out.blk.cell 5).trans rfl⟩
    refine hK _ _ ⟨⟨⟨_, s6⟩, rfl⟩, ?_⟩
    clear hK K
    have x5 := s6.2
    have xf := HPA6.out.blk.frozen 5
    have xl := HPA6.out.blk.lt
    clear s6
    refine stage_last ?_
    repeat (go_big_quiet_step (fail))
    refine wpQuiet_nil ?_
    go_wp2_with fail
    clear x5 xf xl
    have HPA7 := Lib.hid (PM.set HPA6.out 5 (.slice A6 (its.length + 1) c6))
    have hn6 : (Value.slice A6 (its.length + 1) c6).ownBlock ≠ some p := own_blk HOW6.out HPA6.out.blk (by decide)
    have HOW7 := Lib.hid (ownsRow_setCell_other (a := ⟨p, 5, none⟩) HOW6.out hn6 (.slice A6 (its.length + 1) c6))
    have HBX7 := Lib.hid (HBX6.out.far (p := ⟨p, 5, none⟩) (fun e => hpx e.symm) (.slice A6 (its.length + 1) c6))
    have HCG7 := Lib.hid (HCG6.out.trans (CG.of_chg (row := none) (PM.chg_set HPA6.out 5 (.slice A6 (its.length + 1) c6))) (fun g e => by cases e))
    clear HPA6 HOW6 HBX6 HCG6 hn6 HRUN
    generalize V6.setCell ⟨p, 5, none⟩ (.slice A6 (its.length + 1) c6) = V7 at *
    have hwb := h.t.wid_bd HTK.out
    have hob := h.t.opn_cases
    have hop1 : -1 ≤ h.t.opn ∧ h.t.opn ≤ 1 := by omega
    clear hob
    have r6 := Bw.rd (show V7.cell? ⟨p, 6, none⟩ = some (.int .i64 tot) from (HPA7.out.blk.cell 6).trans rfl)
    have q0 := Bw.rd (show V7.cell? ⟨w.heap.size, 0, none⟩ = some (.int .i64 h.t.k) from (HBX7.out.cell 0).trans rfl)
    have q1 := Bw.rd (show V7.cell? ⟨w.heap.size, 1, none⟩ = some (.string h.t.s) from (HBX7.out.cell 1).trans rfl)
    have q2 := Bw.rd (show V7.cell? ⟨w.heap.size, 2, none⟩ = some (.int .i64 h.t.d) from (HBX7.out.cell 2).trans rfl)
    have q3 := Bw.rd (show V7.cell? ⟨w.heap.size, 3, none⟩ = some (.int .i64 h.t.o) from (HBX7.out.cell 3).trans rfl)
    have hne : Nonempty (Cl (Bw V7)) := ⟨⟨_, Bw.start V7⟩⟩
    refine wp_region_tail 10 (fun w' => ∃ x : Cl (Bw V7), w' = x.W) (by kernel_rfl) (by kernel_rfl) ⟨⟨_, Bw.start V7⟩, rfl⟩ ?_
    simp only [List.take_succ_cons, List.take_zero, List.drop_succ_cons, List.drop_zero]
    repeat (go_big_quiet_step (fail))
    refine wpQuiet_step (fun K hK => ?_)
    go_simp
    refine ⟨.int .i64 h.t.wid, fun x => calls_class x (Bw.keep V7) (WidthOf_any h.t.k h.t.s h.t.d h.t.o _ hszs), hK _ ?_⟩
    clear hK K
    repeat (go_big_quiet_step (fail))
    refine wpQuiet_nil ?_
    rintro w8 ⟨x, rfl⟩
    have hx8 := x.ok
    generalize x.W = w8 at *
    clear r6 q0 q1 q2 q3 hne x
    have hp8 := PM.below HPA7.out hx8
    have x6 : w8.cell? ⟨p, 6, none⟩ = some (.int .i64 tot) := (hp8.blk.cell 6).trans rfl
    have xf := hp8.blk.frozen 6
    have xl := hp8.blk.lt
    have hn6 : (Value.slice A6 (its.length + 1) c6).ownBlock ≠ some p := own_blk HOW7.out HPA7.out.blk (by decide)
    have HPA7n := Lib.hid (PM.set hp8 6 (.int .i64 (tot + h.t.wid)))
    have HOW7n := Lib.hid (ownsRow_setCell_other (a := ⟨p, 6, none⟩) (own_keep HOW7.out hx8) hn6 (.int .i64 (tot + h.t.wid)))
    have HBX7n := Lib.hid ((HBX7.out.below hx8 HBX7.out.lt).far (p := ⟨p, 6, none⟩) (fun e => hpx e.symm) (.int .i64 (tot + h.t.wid)))
    have HCG7n := Lib.hid (HCG7.out.trans (CG.of_chg (row := none) ((Chg.of_below hx8).trans (PM.chg_set hp8 6 (.int .i64 (tot + h.t.wid))))) (fun g e => by cases e))
    clear hp8 hx8 hn6 HPA7 HOW7 HBX7 HCG7
    go_wp2_with fail
    clear x6 xf xl
    change Code.wp _ _ _ _ (w8.setCell ⟨p, 6, none⟩ (.int .i64 (tot + h.t.wid)))
    generalize w8.setCell ⟨p, 6, none⟩ (.int .i64 (tot + h.t.wid)) = V8 at *
    have r6 := Bw.rd (show V8.cell? ⟨p, 7, none⟩ = some (.int .i64 lev) from (HPA7n.out.blk.cell 7).trans rfl)
    have q0 := Bw.rd (show V8.cell? ⟨w.heap.size, 0, none⟩ = some (.int .i64 h.t.k) from (HBX7n.out.cell 0).trans rfl)
    have q1 := Bw.rd (show V8.cell? ⟨w.heap.size, 1, none⟩ = some (.string h.t.s) from (HBX7n.out.cell 1).trans rfl)
    have q2 := Bw.rd (show V8.cell? ⟨w.heap.size, 2, none⟩ = some (.int .i64 h.t.d) from (HBX7n.out.cell 2).trans rfl)
    have q3 := Bw.rd (show V8.cell? ⟨w.heap.size, 3, none⟩ = some (.int .i64 h.t.o) from (HBX7n.out.cell 3).trans rfl)
    have hne : Nonempty (Cl (Bw V8)) := ⟨⟨_, Bw.start V8⟩⟩
    refine wp_region_tail 10 (fun w' => ∃ x : Cl (Bw V8), w' = x.W) (by kernel_rfl) (by kernel_rfl) ⟨⟨_, Bw.start V8⟩, rfl⟩ ?_
    simp only [List.take_succ_cons, List.take_zero, List.drop_succ_cons, List.drop_zero]
    repeat (go_big_quiet_step (fail))
    refine wpQuiet_step (fun K hK => ?_)
    go_simp
    refine ⟨.int .i64 h.t.opn, fun x => calls_class x (Bw.keep V8) (opening_any h.t _), hK _ ?_⟩
    clear hK K
    repeat (go_big_quiet_step (fail))
    refine wpQuiet_nil ?_
    rintro w9 ⟨x, rfl⟩
    have hx8 := x.ok
    generalize x.W = w9 at *
    clear r6 q0 q1 q2 q3 hne x
    have hp8 := PM.below HPA7n.out hx8
    have x6 : w9.cell? ⟨p, 7, none⟩ = some (.int .i64 lev) := (hp8.blk.cell 7).trans rfl
    have xf := hp8.blk.frozen 7
    have xl := hp8.blk.lt
    have hn6 : (Value.slice A6 (its.length + 1) c6).ownBlock ≠ some p := own_blk HOW7n.out HPA7n.out.blk (by decide)
    have HPA7nn := Lib.hid (PM.set hp8 7 (.int .i64 (lev + h.t.opn)))
    have HOW7nn := Lib.hid (ownsRow_setCell_other (a := ⟨p, 7, none⟩) (own_keep HOW7n.out hx8) hn6 (.int .i64 (lev + h.t.opn)))
    have HBX7nn := Lib.hid ((HBX7n.out.below hx8 HBX7n.out.lt).far (p := ⟨p, 7, none⟩) (fun e => hpx e.symm) (.int .i64 (lev + h.t.opn)))
    have HCG7nn := Lib.hid (HCG7n.out.trans (CG.of_chg (row := none) ((Chg.of_below hx8).trans (PM.chg_set hp8 7 (.int .i64 (lev + h.t.opn))))) (fun g e => by cases e))
    clear hp8 hx8 hn6 HPA7n HOW7n HBX7n HCG7n
    go_wp2_with fail
    clear x6 xf xl
    change Calls _ _ _ (w9.setCell ⟨p, 7, none⟩ (.int .i64 (lev + h.t.opn))) _
    generalize w9.setCell ⟨p, 7, none⟩ (.int .i64 (lev + h.t.opn)) = V9 at *
    refine (writeSized_any (vI := .slice A6 (its.length + 1) c6) (its := fedI tot h its) ⟨_, _, HPA7nn.out, by rw [fedI_length]; exact HOW7nn.out⟩ (Nat.le_trans hB HCG7nn.out.size) HF.out hW0 hW1 (by omega) (fun i x e => fedI_st HST.out HH.out hwb.1 i x e ht.1)).mono ?_
    rintro r w10 ⟨rfl, hp10, hcg10⟩
    have HP10 := Lib.hid hp10
    have HC10 := Lib.hid hcg10
    clear hp10 hcg10
    go_wp2
    go_ret
    exact ⟨rfl, HP10.out, HCG7nn.out.trans HC10.out HOB.out⟩
end Go.Proofs.Ytegjgbgnpkncbab
