/-
  The press is finished; it becomes an engine again; a scanner makes a held of a token.
-/
import Derived.Test.YtegjgbgnpkncbabKf37
namespace Go.Proofs.Ytegjgbgnpkncbab
open Go.RowKit
set_option linter.unusedVariables false
theorem own_setN {g' : Nat} {B z : Nat} {e : TypeId} {v : Value} {n : Nat} {xs : List Value} (hne : v.ownBlock ≠ some g') : ∀ (vs : List Value) (w : World) (p : Nat), w.ownsRow B e z v n xs → (World.setN w g' p vs).ownsRow B e z v n xs
  | [], _, _, h => h
  | u :: vs, w, p, h => own_setN hne vs _ _ (ownsRow_setCell_other (a := ⟨g', p, none⟩) h hne u)
set_option maxHeartbeats 1000000 in
set_option maxRecDepth 100000 in
theorem engine_any {w : World} {B p : Nat} {W : Int} {s : Pr} {vI : Value} {its : List Hd} {tot lev : Int} (hx : PX w B p W s vI its tot lev) (hs : s.Sm) (hl : its.length ≤ 1000) :
    Calls Try.prog 61 #[.pointer (some ⟨p, 0, none⟩)] w fun r w' => ∃ v, r = .returned v ∧ EngO w' w.heap.size v ⟨W, s.col, s.pend, s.ms, its, tot, lev⟩ ∧ Below w.heap.size w w' := by
  obtain ⟨vW, vM, hpa, hown⟩ := hx
  obtain ⟨AI, cI, rfl⟩ := own_form hown
  obtain ⟨AM, cM, rfl⟩ := own_form hpa.mks
  have HMS := Lib.hid (show MS w AM s.ms from RS.of_own fm_len rfl (by have := hpa.mks; rw [mf_fl] at this; exact this))
  have HHS := Lib.hid (show HS w AI its from RS.of_own fh_len rfl hown)
  have hlen := hs.len
  have hcol := hs.col
  have HPA := Lib.hid hpa
  clear hpa hown hs
  go_enter Try.func61, Try.ntmps61
  go_wp2_with fail
  have hZ1 := BlkL.new w 47 (ecs ⟨0, 0, 0, [], [], 0, 0⟩ (.slice none 0 0) (.slice none 0 0))
  have hB1 := (Below.refl w.heap.size w).alloc (Nat.le_refl _) (.cells (ecs ⟨0, 0, 0, [], [], 0, 0⟩ (.slice none 0 0) (.slice none 0 0)).toArray 47)
  change Code.wp _ _ _ _ (w.alloc (.cells (ecs ⟨0, 0, 0, [], [], 0, 0⟩ (.slice none 0 0) (.slice none 0 0)).toArray 47))
  generalize w.alloc (.cells (ecs ⟨0, 0, 0, [], [], 0, 0⟩ (.slice none 0 0) (.slice none 0 0)).toArray 47) = w1 at *
  have hp1 := PM.below HPA.out hB1
  have r1 := Kept.rd (show w1.cell? ⟨p, 1, none⟩ = some (.int .i64 s.pend) from (hp1.blk.cell 1).trans rfl)
  have r3 := Kept.rd (show w1.cell? ⟨p, 3, none⟩ = some (.int .i64 W) from (hp1.blk.cell 3).trans rfl)
  have r4 := Kept.rd (show w1.cell? ⟨p, 4, none⟩ = some (.slice AM s.ms.length cM) from (hp1.blk.cell 4).trans rfl)
  have r5 := Kept.rd (show w1.cell? ⟨p, 5, none⟩ = some (.slice AI its.length cI) from (hp1.blk.cell 5).trans rfl)
  have r6 := Kept.rd (show w1.cell? ⟨p, 6, none⟩ = some (.int .i64 tot) from (hp1.blk.cell 6).trans rfl)
  have r7 := Kept.rd (show w1.cell? ⟨p, 7, none⟩ = some (.int .i64 lev) from (hp1.blk.cell 7).trans rfl)
  have hne : Nonempty (Kept w1) := ⟨⟨w1, Below.refl _ _⟩⟩
  have HZ1 := Lib.hid hZ1
  have HB1 := Lib.hid hB1
  have HP1 := Lib.hid hp1
  clear hZ1 hB1 hp1
  refine wp_region_chain [true, true, true, true, true, true, true, true, true, false, true, true, true, true, true, true, true, true, true, true, true, false, true, true, true, true, false, true, true, true, true, true, true, true, true, false, false] (fun w' => ∃ x : Kept w1, w' = x.W) (by kernel_rfl) (by kernel_rfl) (Kept.start w1) ?_
  simp only [Chain.pickM, List.map_cons, List.map_nil, Bool.not_true, Bool.not_false]
  repeat (go_big_quiet_step (fail))
  refine wpQuiet_nil ?_
  clear r1 r3 r4 r5 r6 r7
  refine chain_step (fun K hK => ?_)
  unfold Chain.mov
  go_simp
  simp only [Chain.movUpon]
  refine (column_any w1.drew p s.col s.ln (by omega) (HP1.out.blk.cell 0)).mono ?_
  rintro r w2 ⟨rfl, hb0⟩
  have HK2 := Lib.hid (show Below w1.heap.size w1 w2 from (Below.refl _ w1).drew.trans (hb0.mono (Nat.le_refl _)))
  clear hb0
  refine ⟨_, rfl, hK _ _ ⟨Kept.mk' HK2.out, ?_⟩⟩
  clear hK K
  refine chain_step (fun K hK => ?_)
  unfold Chain.mov
  go_simp
  simp only [Chain.movUpon]
  have HB2 := Lib.hid (HB1.out.trans (HK2.out.mono HB1.out.size))
  refine (cloneM_any AM s.ms _ cM w2 rfl (by omega) (RS.below HMS.out HB2.out)).mono ?_
  rintro r w3 ⟨vM3, rfl, hM3, hb3⟩
  obtain ⟨A3, c3, rfl⟩ := own_form hM3
  have HM3 := Lib.hid (own_low hM3 (show w.heap.size ≤ w2.heap.size from HB2.out.size))
  have HK3 := Lib.hid (HK2.out.trans (hb3.mono HK2.out.size))
  clear hM3 hb3
  refine ⟨_, rfl, hK _ _ ⟨Kept.mk' HK3.out, ?_⟩⟩
  clear hK K
  refine chain_step (fun K hK => ?_)
  unfold Chain.mov
  go_simp
  simp only [Chain.movUpon]
  have HB3 := Lib.hid (HB1.out.trans (HK3.out.mono HB1.out.size))
  refine (cloneH_any AI its _ cI w3 rfl (by omega) (RS.below HHS.out HB3.out)).mono ?_
  rintro r w4 ⟨vI4, rfl, hI4, hb4⟩
  obtain ⟨A4, c4, rfl⟩ := own_form hI4
  have HI4 := Lib.hid (own_low hI4 (show w.heap.size ≤ w3.heap.size from HB3.out.size))
  have HM4 := Lib.hid (own_keep HM3.out hb4)
  have HK4 := Lib.hid (HK3.out.trans (hb4.mono HK3.out.size))
  clear hI4 hb4
  refine ⟨_, rfl, hK _ _ ⟨Kept.mk' HK4.out, ?_⟩⟩
  clear hK K
  refine chain_step (fun K hK => ?_)
  unfold Chain.mov
  go_simp
  simp only [Chain.movUpon]
  refine hK _ _ ⟨Kept.mk' HK4.out, ?_⟩
  clear hK K hne
  unfold Chain.chainW
  have hZ4 := HZ1.out.below HK4.out HZ1.out.lt
  have HZ4 := Lib.hid hZ4
  have HB4 := Lib.hid (HB1.out.trans (HK4.out.mono HB1.out.size))
  have z0 : w4.cell? ⟨w.heap.size, 0, none⟩ = some (.int .i64 0) := (hZ4.cell 0).trans rfl
  have z1 : w4.cell? ⟨w.heap.size, 1, none⟩ = some (.int .i64 0) := (hZ4.cell 1).trans rfl
  have z2 : w4.cell? ⟨w.heap.size, 2, none⟩ = some (.int .i64 0) := (hZ4.cell 2).trans rfl
  have z3 : w4.cell? ⟨w.heap.size, 3, none⟩ = some (.slice none 0 0) := (hZ4.cell 3).trans rfl
  have z4 : w4.cell? ⟨w.heap.size, 4, none⟩ = some (.slice none 0 0) := (hZ4.cell 4).trans rfl
  have z5 : w4.cell? ⟨w.heap.size, 5, none⟩ = some (.int .i64 0) := (hZ4.cell 5).trans rfl
  have z6 : w4.cell? ⟨w.heap.size, 6, none⟩ = some (.int .i64 0) := (hZ4.cell 6).trans rfl
  have zf := hZ4.frozen
  have zl := hZ4.lt
  clear hZ4
  go_wp2
  have hnM : (Value.slice A3 s.ms.length c3).ownBlock ≠ some w.heap.size := own_blk HM4.out HZ4.out (by decide)
  have hnI : (Value.slice A4 its.length c4).ownBlock ≠ some w.heap.size := own_blk HI4.out HZ4.out (by decide)
  have hb5 := below_setN (B := w.heap.size) (a := w) (g := w.heap.size) (Nat.le_refl _) (ecs ⟨W, s.col, s.pend, s.ms, its, tot, lev⟩ (.slice A3 s.ms.length c3) (.slice A4 its.length c4)) _ 0 HB4.out
  have hZ5 := BlkL.setN (ecs ⟨W, s.col, s.pend, s.ms, its, tot, lev⟩ (.slice A3 s.ms.length c3) (.slice A4 its.length c4)) _ _ 0 HZ4.out
  have hM5 := own_setN hnM (ecs ⟨W, s.col, s.pend, s.ms, its, tot, lev⟩ (.slice A3 s.ms.length c3) (.slice A4 its.length c4)) _ 0 HM4.out
  have hI5 := own_setN hnI (ecs ⟨W, s.col, s.pend, s.ms, its, tot, lev⟩ (.slice A3 s.ms.length c3) (.slice A4 its.length c4)) _ 0 HI4.out
  change bodyPost _ _ _ _ _ (World.setN w4 w.heap.size 0 (ecs ⟨W, s.col, s.pend, s.ms, its, tot, lev⟩ (.slice A3 s.ms.length c3) (.slice A4 its.length c4)))
  clear z0 z1 z2 z3 z4 z5 z6 zf zl
  generalize World.setN w4 w.heap.size 0 (ecs ⟨W, s.col, s.pend, s.ms, its, tot, lev⟩ (.slice A3 s.ms.length c3) (.slice A4 its.length c4)) = w5 at *
  have k0 : w5.cell? ⟨w.heap.size, 0, none⟩ = some (.int .i64 W) := (hZ5.cell 0).trans rfl
  have k1 : w5.cell? ⟨w.heap.size, 1, none⟩ = some (.int .i64 s.col) := (hZ5.cell 1).trans rfl
  have k2 : w5.cell? ⟨w.heap.size, 2, none⟩ = some (.int .i64 s.pend) := (hZ5.cell 2).trans rfl
  have k3 : w5.cell? ⟨w.heap.size, 3, none⟩ = some (.slice A3 s.ms.length c3) := (hZ5.cell 3).trans rfl
  have k4 : w5.cell? ⟨w.heap.size, 4, none⟩ = some (.slice A4 its.length c4) := (hZ5.cell 4).trans rfl
  have k5 : w5.cell? ⟨w.heap.size, 5, none⟩ = some (.int .i64 tot) := (hZ5.cell 5).trans rfl
  have k6 : w5.cell? ⟨w.heap.size, 6, none⟩ = some (.int .i64 lev) := (hZ5.cell 6).trans rfl
  refine bodyPost_ret (v := ev ⟨W, s.col, s.pend, s.ms, its, tot, lev⟩ A3 c3 A4 c4) (by simp [results, Try.results61, go_sem, k0, k1, k2, k3, k4, k5, k6, ev]) rfl ⟨_, rfl, ?_, hb5⟩
  exact ⟨_, _, _, _, rfl, OR.of_own fm_len rfl hM5, OR.of_own fh_len rfl hI5⟩
end Go.Proofs.Ytegjgbgnpkncbab
