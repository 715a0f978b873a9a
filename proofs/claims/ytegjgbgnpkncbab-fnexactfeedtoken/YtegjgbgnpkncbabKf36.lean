/-
  The press writes what can be written.
-/
import Derived.Test.YtegjgbgnpkncbabKf35
namespace Go.Proofs.Ytegjgbgnpkncbab
open Go.RowKit
set_option linter.unusedVariables false

def szF (h : Hd) : Int := if h.sz = -1 then 1000000 else h.sz
def stopB (W tot : Int) (s : Pr) (h : Hd) : Bool := decide (h.sz = -1) && s.room W (tot - h.st)
/-- what can be written is; the printer then, and what is still held. -/
def flu (W tot : Int) : Pr → List Hd → Pr × List Hd
  | s, [] => (s, [])
  | s, h :: r => if stopB W tot s h = true then (s, h :: r) else flu W tot (s.put W h.t (szF h)).1 r
def runP (W : Int) (s : Pr) (l : List Hd) : Nat → Pr
  | 0 => s
  | k + 1 => match l[k]? with | some h => ((runP W s l k).put W h.t (szF h)).1 | none => runP W s l k
theorem runP_succ {W : Int} {s : Pr} {l : List Hd} {k : Nat} {h : Hd} (e : l[k]? = some h) : runP W s l (k + 1) = ((runP W s l k).put W h.t (szF h)).1 := by simp [runP, e]
theorem flu_stop {W tot : Int} {s : Pr} {l : List Hd} {k : Nat} {h : Hd} (e : l[k]? = some h) (hs : stopB W tot s h = true) : flu W tot s (l.drop k) = (s, l.drop k) := by
  obtain ⟨hk, rfl⟩ := List.getElem?_eq_some_iff.1 e
  rw [List.drop_eq_getElem_cons hk, flu, if_pos hs]
theorem flu_go {W tot : Int} {s : Pr} {l : List Hd} {k : Nat} {h : Hd} (e : l[k]? = some h) (hs : stopB W tot s h = false) : flu W tot s (l.drop k) = flu W tot (s.put W h.t (szF h)).1 (l.drop (k + 1)) := by
  obtain ⟨hk, rfl⟩ := List.getElem?_eq_some_iff.1 e
  rw [List.drop_eq_getElem_cons hk, flu, if_neg (by rw [hs]; decide)]
theorem flu_end {W tot : Int} {s : Pr} {l : List Hd} {k : Nat} (hk : ¬ k < l.length) : flu W tot s (l.drop k) = (s, l.drop k) := by
  rw [List.drop_eq_nil_of_le (by omega)]; rfl
/-- what a press that is worked on keeps to. -/
structure Fine (s : Pr) (l : List Hd) : Prop where
  bd : s.Bd 0
  len : l.length ≤ 401
  tok : ∀ (i : Nat) (h : Hd), l[i]? = some h → h.t.ok = true
  stack : ∀ i, i ≤ l.length → 1 ≤ (s.ms.length : Int) + opN (tks l) i ∧ (s.ms.length : Int) + opN (tks l) i ≤ 14
theorem Fine.run {W : Int} {s : Pr} {l : List Hd} (h : Fine s l) (k : Nat) (hk : k ≤ l.length) : (runP W s l k).Bd k ∧ ((runP W s l k).ms.length : Int) = s.ms.length + opN (tks l) k := by
  induction k with
  | zero => exact ⟨h.bd, by rw [opN_zero]; simp [runP]⟩
  | succ k ih =>
    obtain ⟨h1, h2⟩ := ih (by omega)
    have ht := List.getElem?_eq_getElem (show k < l.length by omega)
    have hn : (runP W s l k).ms ≠ [] := by
      intro e
      have := (h.stack k (by omega)).1
      rw [e] at h2
      simp at h2
      omega
    rw [runP_succ ht]
    have hl := h.len
    exact ⟨Pr.put_bd h1 (by omega) hn (h.tok k _ ht), by rw [Pr.put_ms hn (h.tok k _ ht), opN_succ (tks_at ht), h2]; omega⟩
theorem Fine.sm {W : Int} {s : Pr} {l : List Hd} (h : Fine s l) (k : Nat) (hk : k ≤ l.length) : (runP W s l k).Sm := by
  obtain ⟨h1, h2⟩ := h.run (W := W) k hk
  have hs := h.stack k hk
  have hl := h.len
  have hn : (runP W s l k).ms ≠ [] := by intro e; rw [e] at h2; simp at h2; omega
  have ht := (runP W s l k).top_mem hn
  have h3 := h1.ms _ ht
  have h4 := h1.kind _ ht
  have h5 := h1.ln
  have h6 := h1.reach
  have h7 := h1.out
  exact ⟨by omega, by omega, by omega, hn, by omega, by omega, h4, by omega⟩
theorem Chg.rowT {B C z : Nat} {e : TypeId} {w w' : World} {v : Value} {n : Nat} {xs : List Value} (h : Chg B w w') (hk : keepT e = true) (hi : w.ownsRow C e z v n xs) : w'.ownsRow C e z v n xs := by
  refine ⟨hi.1, ?_⟩
  rcases hi.2 with hn | ⟨g, cap, cur, rfl, hb, hgg, rest⟩
  · exact .inl hn
  · exact .inr ⟨g, cap, cur, rfl, hb, (h.int g cur _ _ hk hgg).trans hgg, rest⟩
theorem Chg.drewN {B : Nat} {a b : World} (h : Chg B a b) (m : Nat) : Chg B a (b.drewN m) := ⟨h.os, h.tape, h.output, h.size, h.low, h.int⟩
theorem PM.box {w : World} {B p g : Nat} {tp tm : TypeId} {cs bs : List Value} {vW vM : Value} {out : List UInt8} {ms : List (Int × Int)} (h : PM w B p tp tm cs vW vM out ms) (hb : BlkL w g 80 bs) (i : Nat) (u : Value) : PM (w.setCell ⟨g, i, none⟩ u) B p tp tm cs vW vM out ms := by
  have hg : w.grownBy (w.setCell ⟨g, i, none⟩ u) (some g) := grown_self_set (World.grownBy.refl _ _) i u
  refine h.grown hg ?_ (.inr (own_blk h.own hb (by decide))) (.inr (own_blk h.mks hb (fun e => by have := h.n5; rw [← e] at this; revert this; decide)))
  intro e
  injection e with e
  subst e
  have hbk := h.blk
  unfold BlkL at hb hbk
  rw [hb] at hbk
  injection hbk with hbk
  injection hbk with _ hbk
  have := h.n4
  rw [← hbk] at this
  revert this
  decide
theorem Chg.box {B g : Nat} {a w : World} (h : Chg B a w) (hg : a.heap.size ≤ g) (i : Nat) (u : Value) : Chg B a (w.setCell ⟨g, i, none⟩ u) :=
  ⟨h.os, h.tape, h.output, by simpa [World.setCell] using h.size, fun q hq hB => (Below.heap_setCell w ⟨g, i, none⟩ u q (by show q ≠ g; omega)).trans (h.low q hq hB), fun q cur ty fz hk hh => (Below.heap_setCell w ⟨g, i, none⟩ u q (by show q ≠ g; have := (Array.getElem?_eq_some_iff.1 hh).1; omega)).trans (h.int q cur ty fz hk hh)⟩
/-- behind a press that wrote. -/
def WrP (w : World) (B p : Nat) (W : Int) (s : Pr) (vI : Value) (its : List Hd) (tot lev : Int) (r : Ending) (w' : World) : Prop :=
  r = .returned (.tuple #[]) ∧ (∃ vI', PX w' B p W (flu W tot s its).1 vI' (flu W tot s its).2 tot lev) ∧ CG B vI.ownBlock w w'
theorem PX.delete {w w' : World} {B p : Nat} {W : Int} {s : Pr} {vW vM vI v : Value} {its l : List Hd} {tot lev : Int} {n : Nat} (hpa : PA w B p 100 [vI, .int .i64 tot, .int .i64 lev] W s vW vM) (hown : w.ownsRow B 80 7 vI n (fl fh l)) (ho : w'.ownsRow B 80 7 v its.length (fl fh its)) (hg : w.grownBy w' v.ownBlock) (hv : v.ownBlock = vI.ownBlock) :
    PX (w'.setCell ⟨p, 5, none⟩ v) B p W s v its tot lev ∧ CG B vI.ownBlock w (w'.setCell ⟨p, 5, none⟩ v) := by
  have hne : vI.ownBlock ≠ some p := own_blk hown hpa.blk (by decide)
  have hp' : PA w' B p 100 [vI, .int .i64 tot, .int .i64 lev] W s vW vM :=
    PM.grown hpa hg (by rw [hv]; exact fun e => hne e.symm) (by rw [hv]; exact own_apart hpa.own hown (by decide)) (by rw [hv]; exact own_apart hpa.mks hown (by decide))
  refine ⟨⟨vW, vM, PM.set hp' 5 v, ownsRow_setCell_other ho (by rw [hv]; exact hne) v⟩, ?_⟩
  refine (CG.of_grown (by rw [← hv]; exact hg) (fun g e => (hown.lt g e).1)).trans (CG.of_chg (row := none) (PM.chg_set hp' 5 v)) (fun g e => by cases e)
set_option maxHeartbeats 2000000 in
set_option maxRecDepth 100000 in
theorem writeSized_any {w : World} {B p : Nat} {W : Int} {s : Pr} {vI : Value} {its : List Hd} {tot lev : Int} (h : PX w B p W s vI its tot lev) (hB : B ≤ w.heap.size) (hf : Fine s its) (hW0 : 0 ≤ W) (hW1 : W ≤ 1000) (ht : 0 ≤ tot ∧ tot ≤ 1000100) (hst : ∀ (i : Nat) (h : Hd), its[i]? = some h → 0 ≤ h.st ∧ h.st ≤ tot) :
    Calls Try.prog 91 #[.pointer (some ⟨p, 0, none⟩)] w (WrP w B p W s vI its tot lev) := by
  obtain ⟨vW, vM, hpa, hown⟩ := h
  obtain ⟨AI, cI, rfl⟩ := own_form hown
  have x5 : w.cell? ⟨p, 5, none⟩ = some (.slice AI its.length cI) := (hpa.blk.cell 5).trans rfl
  have HPA := Lib.hid hpa
  have HOW := Lib.hid hown
  have HST := Lib.hid hst
  have HF := Lib.hid hf
  have hil := hf.len
  clear hpa hown hst hf
  go_enter Try.func91, Try.ntmps91
  go_wp2_with fail
  clear x5
  go_loopw [2, 10] (fun cnt i wr => ∃ k : Nat, k ≤ its.length ∧ i = .int .i64 k ∧ cnt = .int .i64 k ∧ (∃ vW vM, PA wr B p 100 [.slice AI its.length cI, .int .i64 tot, .int .i64 lev] W (runP W s its k) vW vM) ∧ wr.ownsRow B 80 7 (.slice AI its.length cI) its.length (fl fh its) ∧ Chg B w wr ∧ flu W tot s its = flu W tot (runP W s its k) (its.drop k)) (fun _ i _ => its.length - (intOf i).toNat)
  case atStart => exact ⟨0, Nat.zero_le _, rfl, rfl, ⟨vW, vM, HPA.out⟩, HOW.out, Chg.refl _ _, rfl⟩
  case round =>
    obtain ⟨k, hk, rfl, rfl, ⟨vW2, vM2, hpa⟩, hown, hch, hflu⟩ := hrel
    clear HPA HOW
    have HPA := Lib.hid hpa
    have HOW := Lib.hid hown
    have HCH := Lib.hid hch
    have HFL := Lib.hid hflu
    have hSm := HF.out.sm (W := W) k hk
    have HSM := Lib.hid hSm
    clear hpa hown hch hflu hSm
    by_cases hkl : k < its.length
    · have hte := List.getElem?_eq_getElem hkl
      obtain ⟨t, ht⟩ : ∃ t, its[k]? = some t := ⟨_, hte⟩
      clear hte
      have hbd := HST.out k t ht
      have htk := HF.out.tok k t ht
      obtain ⟨b, o, hA, hh⟩ := RS.of_own fh_len rfl HOW.out k t ht
      subst hA
      clear hh
      have hrs : HS wr (some ⟨b, o, none⟩) its := RS.of_own fh_len rfl HOW.out
      obtain ⟨hgl, f0, f1, f2, f3, f4, f5, f6⟩ := HS.get hrs ht
      clear hrs
      have HT := Lib.hid ht
      have HTK := Lib.hid htk
      clear ht htk
      have hX1 := BlkL.new wr 80 (fh t)
      have HX1 := Lib.hid hX1
      have HW1 := Lib.hid ((Below.refl wr.heap.size wr).alloc (Nat.le_refl _) (.cells (fh t).toArray 80))
      clear hX1
      by_cases h1 : t.sz = -1
      · have b1 : (t.sz == -1) = true := by rw [h1]; rfl
        have H1 := Lib.hid h1
        clear h1
        go_wp2_with fail
        change Code.wp _ _ _ _ (wr.alloc (.cells (fh t).toArray 80))
        have hP1 := PM.alloc HPA.out (.cells (fh t).toArray 80)
        have hO1 := HOW.out.alloc (.cells (fh t).toArray 80)
        have hC1 := HCH.out.alloc (.cells (fh t).toArray 80)
        generalize wr.alloc (.cells (fh t).toArray 80) = w1 at *
        have r6 := Bw.rd (show w1.cell? ⟨p, 6, none⟩ = some (.int .i64 tot) from (hP1.blk.cell 6).trans rfl)
        have q5 := Bw.rd (show w1.cell? ⟨wr.heap.size, 5, none⟩ = some (.int .i64 t.st) from (HX1.out.cell 5).trans rfl)
        have HP1 := Lib.hid hP1
        have HO1 := Lib.hid hO1
        have HC1 := Lib.hid hC1
        clear hP1 hO1 hC1 f0 f1 f2 f3 f4 f5 f6
        refine wp_region_class (Bw w1) (by kernel_rfl) (by kernel_rfl) (Bw.start w1) (fun hne => ?_)
        repeat (go_big_quiet_step (fail))
        refine wpQuiet_step (fun K hK => ?_)
        go_simp
        refine ⟨.bool ((runP W s its k).room W (tot - t.st)), fun x => calls_class x (Bw.keep w1) (PA.room (z := tot - t.st) (PM.below HP1.out x.ok) HSM.out hW0 hW1), hK _ ?_⟩
        clear hK K
        repeat (go_big_quiet_step (fail))
        refine wpQuiet_nil ?_
        rintro w4 ⟨x, rfl⟩
        have hx := x.ok
        generalize x.W = w4 at *
        clear r6 q5 hne
        have HPA4 := Lib.hid (PM.below HP1.out hx)
        have HOW4 := Lib.hid (own_keep HO1.out hx)
        have HCH4 := Lib.hid (HC1.out.trans (Chg.of_below hx))
        have hBX4 := HX1.out.below hx HX1.out.lt
        clear hx HP1 HO1 HC1 HX1 HW1
        cases hrm : (runP W s its k).room W (tot - t.st)
        · have HGO := Lib.hid (show stopB W tot (runP W s its k) t = false by unfold stopB; rw [hrm]; simp)
          have y6 : w4.cell? ⟨wr.heap.size, 6, none⟩ = some (.int .i64 t.sz) := (hBX4.cell 6).trans rfl
          have yf := hBX4.frozen 6
          have yl := hBX4.lt
          have HBX4 := Lib.hid hBX4
          clear hBX4 hrm
          go_wp2_with fail
          clear y6 yf yl
          have hOg : (Value.slice (some ⟨b, o, none⟩) its.length cI).ownBlock ≠ some wr.heap.size := by
            intro e
            have := (HOW.out.lt wr.heap.size e).2
            omega
          have HPV := Lib.hid (PM.box HPA4.out HBX4.out 6 (.int .i64 1000000))
          have HOV := Lib.hid (ownsRow_setCell_other (a := ⟨wr.heap.size, 6, none⟩) HOW4.out hOg (.int .i64 1000000))
          have HCV := Lib.hid (HCH4.out.box (g := wr.heap.size) HCH.out.size 6 (.int .i64 1000000))
          have HBX := Lib.hid (HBX4.out.set 6 (.int .i64 1000000))
          have HSZ := Lib.hid (show szF t = 1000000 from if_pos H1.out)
          clear hOg HPA4 HOW4 HCH4 HBX4 HPA HOW HCH
          generalize w4.setCell ⟨wr.heap.size, 6, none⟩ (.int .i64 1000000) = w5 at *
          have y0 : w5.cell? ⟨wr.heap.size, 0, none⟩ = some (.int .i64 t.t.k) := (HBX.out.cell 0).trans rfl
          have y1 : w5.cell? ⟨wr.heap.size, 1, none⟩ = some (.string t.t.s) := (HBX.out.cell 1).trans rfl
          have y2 : w5.cell? ⟨wr.heap.size, 2, none⟩ = some (.int .i64 t.t.d) := (HBX.out.cell 2).trans rfl
          have y3 : w5.cell? ⟨wr.heap.size, 3, none⟩ = some (.int .i64 t.t.o) := (HBX.out.cell 3).trans rfl
          have y6 : w5.cell? ⟨wr.heap.size, 6, none⟩ = some (.int .i64 1000000) := (HBX.out.cell 6).trans rfl
          have hzV : B ≤ w5.heap.size := Nat.le_trans hB HCV.out.size
          refine wp_region_tail 7 (fun w' => ∃ m, w' = w5.drewN m) (by kernel_rfl) (by kernel_rfl) ⟨1, rfl⟩ ?_
          simp only [List.take_succ_cons, List.take_zero, List.drop_succ_cons, List.drop_zero]
          repeat (go_big_quiet_step (fail))
          refine wpQuiet_nil ?_
          rintro w2 ⟨m, rfl⟩
          go_wp2_with fail
          refine (put_any (t := t.t) (PM.drewN HPV.out m) HSM.out hzV hW0 hW1 HTK.out).mono ?_
          rintro r w3 ⟨rfl, hc3, vW3, vM3, hp3⟩
          have HC3 := Lib.hid hc3
          have HP3 := Lib.hid hp3
          clear hc3 hp3 y0 y1 y2 y3 y6
          go_wp2
          go_roundw
          case rel =>
            refine ⟨k + 1, by omega, by go_num, by go_num, ⟨vW3, vM3, ?_⟩, HC3.out.rowT (by decide) (own_drewN HOV.out m), (HCV.out.drewN m).trans HC3.out, ?_⟩
            · rw [runP_succ HT.out, HSZ.out]; exact HP3.out
            · rw [HFL.out, flu_go HT.out HGO.out, runP_succ HT.out]
          case measure => simp [intOf]; omega
        · have HEQ := Lib.hid (show flu W tot s its = (runP W s its k, its.drop k) by rw [HFL.out, flu_stop HT.out (by unfold stopB; rw [hrm, decide_eq_true H1.out]; rfl)])
          clear hrm hBX4 HPA HOW HCH
          have HPA := HPA4
          have HOW := HOW4
          have HCH := HCH4
          clear HPA4 HOW4 HCH4
          have x5 := (show w4.cell? ⟨p, 5, none⟩ = some (.slice (some ⟨b, o, none⟩) its.length cI) from (HPA.out.blk.cell 5).trans rfl)
          have xl := HPA.out.blk.lt
          go_wp2_with fail
          refine (deleteH_any _ _ k B its w4 rfl (by omega) hk HOW.out).mono ?_
          rintro r w2 ⟨v, rfl, ho2, hg2, hv2⟩
          obtain ⟨A3, c3, rfl⟩ := own_form ho2
          have hne : (Value.slice (some ⟨b, o, none⟩) its.length cI).ownBlock ≠ some p := own_blk HOW.out HPA.out.blk (by decide)
          have hP2 := HPA.out.blk.grown hg2 (by rw [hv2]; exact fun e => hne e.symm)
          have y5 : w2.cell? ⟨p, 5, none⟩ = some (.slice (some ⟨b, o, none⟩) its.length cI) := (hP2.cell 5).trans rfl
          have yf := hP2.frozen 5
          have yl := hP2.lt
          have HD := Lib.hid (PX.delete HPA.out HOW.out ho2 hg2 hv2)
          rw [List.length_drop] at HD
          clear hne hP2 ho2 hg2 hv2 x5 xl
          go_wp2
          refine bodyPost_end (results_none rfl _ _ _) rfl ?_
          refine ⟨rfl, ⟨.slice A3 (its.length - k) c3, ?_⟩, (CG.of_chg HCH.out).trans HD.out.2 (fun g e => .inl e)⟩
          rw [HEQ.out]
          exact HD.out.1
      · have b1 : (t.sz == -1) = false := by simpa using h1
        have HGO := Lib.hid (show stopB W tot (runP W s its k) t = false by unfold stopB; rw [decide_eq_false h1]; rfl)
        have HSZ := Lib.hid (show szF t = t.sz from if_neg h1)
        clear h1
        go_wp2_with fail
        change Code.wp _ _ _ _ (wr.alloc (.cells (fh t).toArray 80))
        have HPV := Lib.hid (PM.alloc HPA.out (.cells (fh t).toArray 80))
        have HOV := Lib.hid (HOW.out.alloc (.cells (fh t).toArray 80))
        have HCV := Lib.hid (HCH.out.alloc (.cells (fh t).toArray 80))
        have HBX := HX1
        clear HX1 HW1 HPA HOW HCH f0 f1 f2 f3 f4 f5 f6
        generalize wr.alloc (.cells (fh t).toArray 80) = w1 at *
        have y0 : w1.cell? ⟨wr.heap.size, 0, none⟩ = some (.int .i64 t.t.k) := (HBX.out.cell 0).trans rfl
        have y1 : w1.cell? ⟨wr.heap.size, 1, none⟩ = some (.string t.t.s) := (HBX.out.cell 1).trans rfl
        have y2 : w1.cell? ⟨wr.heap.size, 2, none⟩ = some (.int .i64 t.t.d) := (HBX.out.cell 2).trans rfl
        have y3 : w1.cell? ⟨wr.heap.size, 3, none⟩ = some (.int .i64 t.t.o) := (HBX.out.cell 3).trans rfl
        have y6 : w1.cell? ⟨wr.heap.size, 6, none⟩ = some (.int .i64 t.sz) := (HBX.out.cell 6).trans rfl
        have hzV : B ≤ w1.heap.size := Nat.le_trans hB HCV.out.size
        refine wp_region_tail 7 (fun w' => ∃ m, w' = w1.drewN m) (by kernel_rfl) (by kernel_rfl) ⟨1, rfl⟩ ?_
        simp only [List.take_succ_cons, List.take_zero, List.drop_succ_cons, List.drop_zero]
        repeat (go_big_quiet_step (fail))
        refine wpQuiet_nil ?_
        rintro w2 ⟨m, rfl⟩
        go_wp2_with fail
        refine (put_any (t := t.t) (PM.drewN HPV.out m) HSM.out hzV hW0 hW1 HTK.out).mono ?_
        rintro r w3 ⟨rfl, hc3, vW3, vM3, hp3⟩
        have HC3 := Lib.hid hc3
        have HP3 := Lib.hid hp3
        clear hc3 hp3 y0 y1 y2 y3 y6
        go_wp2
        go_roundw
        case rel =>
          refine ⟨k + 1, by omega, by go_num, by go_num, ⟨vW3, vM3, ?_⟩, HC3.out.rowT (by decide) (own_drewN HOV.out m), (HCV.out.drewN m).trans HC3.out, ?_⟩
          · rw [runP_succ HT.out, HSZ.out]; exact HP3.out
          · rw [HFL.out, flu_go HT.out HGO.out, runP_succ HT.out]
        case measure => simp [intOf]; omega
    · have HEQ := Lib.hid (show flu W tot s its = (runP W s its k, its.drop k) by rw [HFL.out, flu_end hkl])
      have x5 := (show wr.cell? ⟨p, 5, none⟩ = some (.slice AI its.length cI) from (HPA.out.blk.cell 5).trans rfl)
      have xl := HPA.out.blk.lt
      go_wp2_with fail
      refine (deleteH_any _ _ k B its wr rfl (by omega) hk HOW.out).mono ?_
      rintro r w2 ⟨v, rfl, ho2, hg2, hv2⟩
      obtain ⟨A3, c3, rfl⟩ := own_form ho2
      have hne : (Value.slice AI its.length cI).ownBlock ≠ some p := own_blk HOW.out HPA.out.blk (by decide)
      have hP2 := HPA.out.blk.grown hg2 (by rw [hv2]; exact fun e => hne e.symm)
      have y5 : w2.cell? ⟨p, 5, none⟩ = some (.slice AI its.length cI) := (hP2.cell 5).trans rfl
      have yf := hP2.frozen 5
      have yl := hP2.lt
      have HD := Lib.hid (PX.delete HPA.out HOW.out ho2 hg2 hv2)
      rw [List.length_drop] at HD
      clear hne hP2 ho2 hg2 hv2 x5 xl
      go_wp2
      refine bodyPost_end (results_none rfl _ _ _) rfl ?_
      refine ⟨rfl, ⟨.slice A3 (its.length - k) c3, ?_⟩, (CG.of_chg HCH.out).trans HD.out.2 (fun g e => .inl e)⟩
      rw [HEQ.out]
      exact HD.out.1
end Go.Proofs.Ytegjgbgnpkncbab
