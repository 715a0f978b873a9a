/-
  The program's press: an engine that is worked on.
-/
import Derived.Test.YtegjgbgnpkncbabKf15
import Derived.Test.YtegjgbgnpkncbabKf21
import Derived.Test.YtegjgbgnpkncbabKf29
import Derived.Test.YtegjgbgnpkncbabKf33
namespace Go.Proofs.Ytegjgbgnpkncbab
open Go.RowKit
set_option linter.unusedVariables false
theorem own_keep {w w' : World} {B z : Nat} {e : TypeId} {v : Value} {n : Nat} {xs : List Value} (h : w.ownsRow B e z v n xs) (hb : Below w.heap.size w w') : w'.ownsRow B e z v n xs :=
  h.kept (World.grownBy.mk hb.os hb.tape hb.output hb.size (fun i hi _ => hb.block i hi) : w.grownBy w' none) (by cases v.ownBlock <;> simp)
theorem own_low {w : World} {B C z : Nat} {e : TypeId} {v : Value} {n : Nat} {xs : List Value} (h : w.ownsRow B e z v n xs) (hc : C ≤ B) : w.ownsRow C e z v n xs := by
  refine ⟨h.1, ?_⟩
  rcases h.2 with h2 | ⟨g, cap, cur, hv, hB, r⟩
  · exact .inl h2
  · exact .inr ⟨g, cap, cur, hv, Nat.le_trans hc hB, r⟩
theorem mf_fl (l : List (Int × Int)) : mf l = fl fm l := by
  induction l with
  | nil => rfl
  | cons m r ih => rw [fl_cons, mf, ih]; rfl
/-- the press in memory: the printer's fields, and the helds in a row of their own. -/
def PX (w : World) (B p : Nat) (W : Int) (s : Pr) (vI : Value) (its : List Hd) (tot lev : Int) : Prop :=
  ∃ vW vM, PA w B p 100 [vI, .int .i64 tot, .int .i64 lev] W s vW vM ∧ w.ownsRow B 80 7 vI its.length (fl fh its)
def startP (e : En) : Pr := ⟨0, e.col.toNat, e.pend.toNat, e.ms, []⟩
theorem own_form {w : World} {B z : Nat} {e : TypeId} {v : Value} {n : Nat} {xs : List Value} (h : w.ownsRow B e z v n xs) : ∃ A c, v = .slice A n c := by
  rcases h.2 with ⟨rfl, rfl⟩ | ⟨g, cap, cur, rfl, _⟩
  · exact ⟨none, 0, rfl⟩
  · exact ⟨_, _, rfl⟩
set_option maxHeartbeats 1000000 in
set_option maxRecDepth 100000 in
theorem pressOf_any (e : En) (A : Option Addr) (c : Nat) (A2 : Option Addr) (c2 : Nat) (w : World) (hm : e.ms.length ≤ 2097152) (hi : e.it.length ≤ 2097152) (h1 : MS w A e.ms) (h2 : HS w A2 e.it) (hc0 : 0 ≤ e.col) (hd0 : 0 ≤ e.pend) :
    Calls Try.prog 58 #[.agg #[.int .i64 e.W, .int .i64 e.col, .int .i64 e.pend, .slice A e.ms.length c, .slice A2 e.it.length c2, .int .i64 e.tot, .int .i64 e.lev]] w fun r w' => ∃ p vI, r = .returned (.pointer (some ⟨p, 0, none⟩)) ∧ PX w' w.heap.size p e.W (startP e) vI e.it e.tot e.lev ∧ Below w.heap.size w w' := by
  have H1 := Lib.hid h1
  have H2 := Lib.hid h2
  clear h1 h2
  go_enter Try.func58, Try.ntmps58
  go_wp2_with fail
  have hX1 := BlkL.new w 47 (ecs e (.slice A e.ms.length c) (.slice A2 e.it.length c2))
  have hB1 := (Below.refl w.heap.size w).alloc (Nat.le_refl _) (.cells (ecs e (.slice A e.ms.length c) (.slice A2 e.it.length c2)).toArray 47)
  change Code.wp _ _ _ _ (w.alloc (.cells (ecs e (.slice A e.ms.length c) (.slice A2 e.it.length c2)).toArray 47))
  generalize w.alloc (.cells (ecs e (.slice A e.ms.length c) (.slice A2 e.it.length c2)).toArray 47) = w1 at *
  have p4 := Kept.rd (show w1.cell? ⟨w.heap.size, 4, none⟩ = some (.slice A2 e.it.length c2) from (hX1.cell 4).trans rfl)
  have p5 := Kept.rd (show w1.cell? ⟨w.heap.size, 5, none⟩ = some (.int .i64 e.tot) from (hX1.cell 5).trans rfl)
  have p6 := Kept.rd (show w1.cell? ⟨w.heap.size, 6, none⟩ = some (.int .i64 e.lev) from (hX1.cell 6).trans rfl)
  have hne : Nonempty (Kept w1) := ⟨⟨w1, Below.refl _ _⟩⟩
  have HX := Lib.hid hX1
  have HB := Lib.hid hB1
  clear hX1 hB1
  refine wp_region_chain [true, true, false, true, true, true, true, false, false, false] (fun w' => ∃ x : Kept w1, w' = x.W) (by kernel_rfl) (by kernel_rfl) (Kept.start w1) ?_
  simp only [Chain.pickM, List.map_cons, List.map_nil, Bool.not_true, Bool.not_false]
  repeat (go_big_quiet_step (fail))
  refine wpQuiet_nil ?_
  refine chain_step (fun K hK => ?_)
  unfold Chain.mov
  go_simp
  simp only [Chain.movUpon]
  clear p4 p5 p6
  refine (cloneH_any A2 e.it _ c2 w1.drew rfl hi (RS.below H2.out HB.out.drew)).mono ?_
  rintro r w2 ⟨vI, rfl, hI, hb0⟩
  have hb2 : Below w1.heap.size w1 w2 := (Below.refl _ w1).drew.trans (hb0.mono (Nat.le_refl _))
  have HK2 := Lib.hid hb2
  have HI := Lib.hid hI
  clear hb2 hb0 hI
  obtain ⟨AI, cI, rfl⟩ := own_form HI.out
  refine ⟨_, rfl, hK _ _ ⟨Kept.mk' HK2.out, ?_⟩⟩
  clear hK K
  refine chain_step (fun K hK => ?_)
  unfold Chain.mov
  go_simp
  simp only [Chain.movUpon]
  refine hK _ _ ⟨Kept.mk' HK2.out, ?_⟩
  clear hK K
  refine chain_step (fun K hK => ?_)
  unfold Chain.mov
  go_simp
  simp only [Chain.movUpon]
  refine hK _ _ ⟨Kept.mk' (HK2.out.alloc HK2.out.size _), ?_⟩
  clear hK K hne
  unfold Chain.chainW
  have hP3 := BlkL.new w2 100 [.complex .f64 0 0, .int .i64 0, .slice none 0 0, .int .i64 0, .slice none 0 0, .slice AI e.it.length cI, .int .i64 e.tot, .int .i64 e.lev]
  have hI3 := HI.out.alloc (.cells #[.complex .f64 0 0, .int .i64 0, .slice none 0 0, .int .i64 0, .slice none 0 0, .slice AI e.it.length cI, .int .i64 e.tot, .int .i64 e.lev] 100)
  have hX3 := (HX.out.below HK2.out HX.out.lt).alloc (.cells #[.complex .f64 0 0, .int .i64 0, .slice none 0 0, .int .i64 0, .slice none 0 0, .slice AI e.it.length cI, .int .i64 e.tot, .int .i64 e.lev] 100)
  have hB3 := ((HB.out.trans (HK2.out.mono HB.out.size))).alloc (Nat.le_trans HB.out.size HK2.out.size) (.cells #[.complex .f64 0 0, .int .i64 0, .slice none 0 0, .int .i64 0, .slice none 0 0, .slice AI e.it.length cI, .int .i64 e.tot, .int .i64 e.lev] 100)
  have hw1z : w.heap.size ≤ w1.drew.heap.size := HB.out.size
  have hwz : w.heap.size ≤ w2.heap.size := Nat.le_trans HB.out.size HK2.out.size
  generalize w2.alloc (.cells #[.complex .f64 0 0, .int .i64 0, .slice none 0 0, .int .i64 0, .slice none 0 0, .slice AI e.it.length cI, .int .i64 e.tot, .int .i64 e.lev] 100) = w3 at *
  have HI3 := Lib.hid hI3
  have HB3 := Lib.hid hB3
  have HX3 := Lib.hid hX3
  have HP3 := Lib.hid hP3
  have hpw : w.heap.size < w2.heap.size := Nat.lt_of_lt_of_le HX.out.lt HK2.out.size
  have p0 := KB.rd (B := w2.heap.size) (show w3.cell? ⟨w.heap.size, 0, none⟩ = some (.int .i64 e.W) from (hX3.cell 0).trans rfl) hpw
  have p3 := KB.rd (B := w2.heap.size) (show w3.cell? ⟨w.heap.size, 3, none⟩ = some (.slice A e.ms.length c) from (hX3.cell 3).trans rfl) hpw
  have hne : Nonempty (KB w2.heap.size w3) := ⟨⟨w3, Below.refl _ _⟩⟩
  clear hI3 hB3 hX3 hP3 HX HB HK2 HI
  generalize w2.heap.size = p at *
  go_wp2_with fail
  refine wp_region_stages [0, 0, 0, 0, 0, 0, 1, 2, 2, 2, 3, 4, 4, 4, 5] 2 (fun w' => ∃ y : KB p w3, w' = y.W) (by kernel_rfl) (by kernel_rfl) (KB.start p w3) ?_
  simp only [Stage.stages, Stage.pickC, Nat.reduceBEq, Nat.reduceMul, Nat.reduceAdd, cond_true, cond_false, List.map_cons, List.map_nil]
  refine stage_more ?_
  repeat (go_big_quiet_step (fail))
  refine wpQuiet_nil ?_
  intro K hK
  unfold Chain.mov
  go_simp
  simp only [Chain.movUpon]
  clear p0 p3
  refine (cloneM_any A e.ms _ c w3.drew rfl hm (RS.below H1.out HB3.out.drew)).mono ?_
  rintro r w4 ⟨vM, rfl, hM, hb0⟩
  have hb4 : Below w3.heap.size w3 w4 := (Below.refl _ w3).drew.trans (hb0.mono (Nat.le_refl _))
  have hpl := HP3.out.lt
  have HM4 := Lib.hid (show w4.ownsRow w3.heap.size 121 2 vM e.ms.length (fl fm e.ms) from hM)
  have hP4 := HP3.out.below hb4 HP3.out.lt
  have HI4 := Lib.hid (own_keep HI3.out hb4)
  have HX4 := Lib.hid (HX3.out.below hb4 HX3.out.lt)
  have HB4 := Lib.hid (HB3.out.trans (hb4.mono HB3.out.size))
  have HK4 := Lib.hid (hb4.mono (Nat.le_of_lt hpl))
  have hz4 := hb4.size
  clear hb4 hb0 hM HI3 HX3 HB3 HP3
  obtain ⟨AM, cM, rfl⟩ := own_form HM4.out
  refine ⟨_, rfl, hK _ _ ⟨KB.mk' HK4.out, ?_⟩⟩
  clear hK K
  have x3 : w4.cell? ⟨p, 3, none⟩ = some (.int .i64 0) := (hP4.cell 3).trans rfl
  have xf := hP4.frozen
  have HP4 := Lib.hid hP4
  clear hP4
  refine stage_more ?_
  repeat (go_big_quiet_step (fail))
  refine wpQuiet_nil ?_
  intro K hK
  unfold Chain.mov
  go_simp
  simp only [Chain.movUpon]
  refine hK _ _ ⟨KB.mk' (HK4.out.setCell (p := ⟨p, 3, none⟩) (Nat.le_refl _) _), ?_⟩
  clear hK K x3 xf
  have hP5 := HP4.out.set 3 (.int .i64 e.W)
  have x4 : (w4.setCell ⟨p, 3, none⟩ (.int .i64 e.W)).cell? ⟨p, 4, none⟩ = some (.slice none 0 0) := (hP5.cell 4).trans rfl
  have xf := hP5.frozen
  have HP5 := Lib.hid hP5
  clear hP5
  refine stage_last ?_
  repeat (go_big_quiet_step (fail))
  refine wpQuiet_nil ?_
  go_wp2_with fail
  clear x4 xf hne
  have hP6 := HP5.out.set 4 (.slice AM e.ms.length cM)
  have hX6 := (HX4.out.far (p := ⟨p, 3, none⟩) (by show w.heap.size ≠ p; omega) (.int .i64 e.W)).far (p := ⟨p, 4, none⟩) (by show w.heap.size ≠ p; omega) (.slice AM e.ms.length cM)
  have hpI : (Value.slice AI e.it.length cI).ownBlock ≠ some p := own_blk HI4.out HP4.out (by decide)
  have hpM : (Value.slice AM e.ms.length cM).ownBlock ≠ some p := own_blk HM4.out HP4.out (by decide)
  have HI6 := Lib.hid (ownsRow_setCell_other (a := ⟨p, 4, none⟩) (ownsRow_setCell_other (a := ⟨p, 3, none⟩) HI4.out hpI (.int .i64 e.W)) hpI (.slice AM e.ms.length cM))
  have HM6 := Lib.hid (ownsRow_setCell_other (a := ⟨p, 4, none⟩) (ownsRow_setCell_other (a := ⟨p, 3, none⟩) HM4.out hpM (.int .i64 e.W)) hpM (.slice AM e.ms.length cM))
  have HB6 := Lib.hid ((HB4.out.setCell (p := ⟨p, 3, none⟩) hwz (.int .i64 e.W)).setCell (p := ⟨p, 4, none⟩) hwz (.slice AM e.ms.length cM))
  clear HX4 HP4 HI4 HM4 HB4 HK4 HP5
  generalize (w4.setCell ⟨p, 3, none⟩ (.int .i64 e.W)).setCell ⟨p, 4, none⟩ (.slice AM e.ms.length cM) = w6 at *
  have p1 := KB.rd (B := p) (show w6.cell? ⟨w.heap.size, 1, none⟩ = some (.int .i64 e.col) from (hX6.cell 1).trans rfl) hpw
  have p2 := KB.rd (B := p) (show w6.cell? ⟨w.heap.size, 2, none⟩ = some (.int .i64 e.pend) from (hX6.cell 2).trans rfl) hpw
  have hne : Nonempty (KB p w6) := ⟨⟨w6, Below.refl _ _⟩⟩
  have HP6 := Lib.hid hP6
  have x0 : w6.drew.cell? ⟨p, 0, none⟩ = some (.complex .f64 0 0) := (hP6.cell 0).trans rfl
  have xf := hP6.drew.frozen
  have hst := st_complex
  clear hX6 hP6
  refine wp_region_stages [0, 0, 0, 0, 0, 1, 0, 0, 2, 2, 2, 2, 3, 4, 4, 4, 4, 5] 2 (fun w' => ∃ y : KB p w6, w' = y.W) (by kernel_rfl) (by kernel_rfl) (KB.start p w6) ?_
  simp only [Stage.stages, Stage.pickC, Nat.reduceBEq, Nat.reduceMul, Nat.reduceAdd, cond_true, cond_false, List.map_cons, List.map_nil]
  refine stage_more ?_
  repeat (go_big_quiet_step (fail))
  refine wpQuiet_nil ?_
  intro K hK
  unfold Chain.mov
  go_simp
  simp only [Chain.movUpon]
  refine hK _ _ ⟨KB.mk' (Below.refl _ _).drew, ?_⟩
  clear hK K p1 p2
  refine stage_more ?_
  repeat (go_big_quiet_step (fail))
  refine wpQuiet_nil ?_
  intro K hK
  unfold Chain.mov
  go_simp
  simp only [Chain.movUpon]
  refine hK _ _ ⟨KB.mk' ((Below.refl p w6).setCell (p := ⟨p, 0, none⟩) (Nat.le_refl _) _).drew, ?_⟩
  clear hK K x0 xf
  have hP7 := (HP6.out.set 0 (.complex .f64 0 (floatOfInt .f64 e.col))).drew
  have x1 : (w6.setCell ⟨p, 0, none⟩ (.complex .f64 0 (floatOfInt .f64 e.col))).drew.cell? ⟨p, 1, none⟩ = some (.int .i64 0) := (hP7.cell 1).trans rfl
  have xf := hP7.frozen
  have HP7 := Lib.hid (hP7.set 1 (.int .i64 e.pend))
  have HI7 := Lib.hid ((ownsRow_setCell_other (a := ⟨p, 0, none⟩) HI6.out hpI (.complex .f64 0 (floatOfInt .f64 e.col))).drew)
  have HM7 := Lib.hid ((ownsRow_setCell_other (a := ⟨p, 0, none⟩) HM6.out hpM (.complex .f64 0 (floatOfInt .f64 e.col))).drew)
  have HB7 := Lib.hid ((HB6.out.setCell (p := ⟨p, 0, none⟩) hwz (.complex .f64 0 (floatOfInt .f64 e.col))).drew)
  have hpl7 := hP7.lt
  clear hP7 HI6 HM6 HB6 HP6
  generalize (w6.setCell ⟨p, 0, none⟩ (.complex .f64 0 (floatOfInt .f64 e.col))).drew = w7 at *
  refine stage_last ?_
  repeat (go_big_quiet_step (fail))
  refine wpQuiet_nil ?_
  go_wp2
  go_ret
  have hcol : (0 : Int) ≤ e.col := hc0
  have hpend : (0 : Int) ≤ e.pend := hd0
  refine ⟨p, .slice AI e.it.length cI, rfl, ⟨.slice none 0 0, .slice AM e.ms.length cM, ⟨hwz, ?_, ⟨rfl, .inl ⟨rfl, rfl⟩⟩, ?_, by decide, by decide, by decide, by decide, by decide⟩, ?_⟩, HB7.out.setCell (p := ⟨p, 1, none⟩) hwz _⟩
  · have e1 : fN e.col.toNat = floatOfInt .f64 e.col := by simp only [fN, floatOfInt]; rw [Int.toNat_of_nonneg hcol]
    have e2 : ((e.pend.toNat : Nat) : Int) = e.pend := Int.toNat_of_nonneg hpend
    have := HP7.out
    show BlkL _ p _ [.complex .f64 (fN 0) (fN e.col.toNat), .int .i64 (e.pend.toNat : Int), .slice none 0 0, .int .i64 e.W, .slice AM e.ms.length cM, .slice AI e.it.length cI, .int .i64 e.tot, .int .i64 e.lev]
    rw [fN_zero, e1, e2]
    exact this
  · show World.ownsRow _ _ _ 2 _ e.ms.length (mf e.ms)
    rw [mf_fl]
    exact own_low (ownsRow_setCell_other (a := ⟨p, 1, none⟩) HM7.out hpM _) (by omega)
  · exact own_low (ownsRow_setCell_other (a := ⟨p, 1, none⟩) HI7.out hpI _) hw1z
end Go.Proofs.Ytegjgbgnpkncbab
