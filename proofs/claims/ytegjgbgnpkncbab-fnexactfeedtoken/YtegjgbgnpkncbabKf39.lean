/-
  The model's copy of an engine.
-/
import Derived.Test.YtegjgbgnpkncbabKf38
namespace Go.Proofs.Ytegjgbgnpkncbab
open Go.RowKit
set_option linter.unusedVariables false
theorem own_cap {w : World} {B z : Nat} {e : TypeId} {A : Option Addr} {m n c : Nat} {xs : List Value} (h : w.ownsRow B e z (.slice A m c) n xs) : n ≤ c := by
  rcases h.2 with ⟨_, h0⟩ | ⟨g, cap, cur, hv, _, _, h1, _⟩
  · omega
  · injection hv with _ _ hv; omega
set_option maxHeartbeats 2000000 in
set_option maxRecDepth 100000 in
theorem l05Copy_own (e : En) (A : Option Addr) (c : Nat) (A2 : Option Addr) (c2 : Nat) (w : World) (hm : e.ms.length ≤ 2097152) (hi : e.it.length ≤ 2097152) (h1 : MS w A e.ms) (h2 : HS w A2 e.it) :
    Calls Try.prog 52 #[.agg #[.int .i64 e.W, .int .i64 e.col, .int .i64 e.pend, .slice A e.ms.length c, .slice A2 e.it.length c2, .int .i64 e.tot, .int .i64 e.lev]] w fun r w' => ∃ A c A2 c2, r = .returned (ev e A c A2 c2) ∧ w'.ownsRow w.heap.size 121 2 (.slice A e.ms.length c) e.ms.length (fl fm e.ms) ∧ w'.ownsRow w.heap.size 80 7 (.slice A2 e.it.length c2) e.it.length (fl fh e.it) ∧ e.it.length ≤ c2 ∧ Below w.heap.size w w' := by
  have H1 := Lib.hid h1
  have H2 := Lib.hid h2
  clear h1 h2
  go_enter Try.func52, Try.ntmps52
  go_wp2_with fail
  have hX0 := BlkL.new w 47 (ecs e (.slice A e.ms.length c) (.slice A2 e.it.length c2))
  have hX1 := (hX0.alloc (.cells (ecs ⟨0, 0, 0, [], [], 0, 0⟩ (.slice none 0 0) (.slice none 0 0)).toArray 47)).alloc (.cells (ecs e (.slice none 0 0) (.slice none 0 0)).toArray 47)
  have hY0 := BlkL.new (w.alloc (.cells (ecs e (.slice A e.ms.length c) (.slice A2 e.it.length c2)).toArray 47)) 47 (ecs ⟨0, 0, 0, [], [], 0, 0⟩ (.slice none 0 0) (.slice none 0 0))
  have hY1 := hY0.alloc (.cells (ecs e (.slice none 0 0) (.slice none 0 0)).toArray 47)
  have hZ1 := BlkL.new ((w.alloc (.cells (ecs e (.slice A e.ms.length c) (.slice A2 e.it.length c2)).toArray 47)).alloc (.cells (ecs ⟨0, 0, 0, [], [], 0, 0⟩ (.slice none 0 0) (.slice none 0 0)).toArray 47)) 47 (ecs e (.slice none 0 0) (.slice none 0 0))
  have hB1 := (((Below.refl w.heap.size w).alloc (Nat.le_refl _) (.cells (ecs e (.slice A e.ms.length c) (.slice A2 e.it.length c2)).toArray 47)).alloc (by simp) (.cells (ecs ⟨0, 0, 0, [], [], 0, 0⟩ (.slice none 0 0) (.slice none 0 0)).toArray 47)).alloc (by simp; omega) (.cells (ecs e (.slice none 0 0) (.slice none 0 0)).toArray 47)
  rw [show (w.alloc (.cells (ecs e (.slice A e.ms.length c) (.slice A2 e.it.length c2)).toArray 47)).heap.size = w.heap.size + 1 by simp] at hY1
  rw [show ((w.alloc (.cells (ecs e (.slice A e.ms.length c) (.slice A2 e.it.length c2)).toArray 47)).alloc (.cells (ecs ⟨0, 0, 0, [], [], 0, 0⟩ (.slice none 0 0) (.slice none 0 0)).toArray 47)).heap.size = w.heap.size + 1 + 1 by simp] at hZ1
  change Code.wp _ _ _ _ (((w.alloc (.cells (ecs e (.slice A e.ms.length c) (.slice A2 e.it.length c2)).toArray 47)).alloc (.cells (ecs ⟨0, 0, 0, [], [], 0, 0⟩ (.slice none 0 0) (.slice none 0 0)).toArray 47)).alloc (.cells (ecs e (.slice none 0 0) (.slice none 0 0)).toArray 47))
  generalize ((w.alloc (.cells (ecs e (.slice A e.ms.length c) (.slice A2 e.it.length c2)).toArray 47)).alloc (.cells (ecs ⟨0, 0, 0, [], [], 0, 0⟩ (.slice none 0 0) (.slice none 0 0)).toArray 47)).alloc (.cells (ecs e (.slice none 0 0) (.slice none 0 0)).toArray 47) = w1 at *
  have HX1 := Lib.hid hX1
  have HY1 := Lib.hid hY1
  have HZ1 := Lib.hid hZ1
  have HB1 := Lib.hid hB1
  clear hX0 hY0 hX1 hY1 hZ1 hB1
  go_loopw [4] (fun i wr => ∃ (k : Nat) (v : Value), k ≤ e.ms.length ∧ i = .int .i64 k ∧ BlkL wr w.heap.size 47 (ecs e (.slice A e.ms.length c) (.slice A2 e.it.length c2)) ∧ BlkL wr (w.heap.size + 1) 47 (ecs ⟨0, 0, 0, [], [], 0, 0⟩ (.slice none 0 0) (.slice none 0 0)) ∧ BlkL wr (w.heap.size + 1 + 1) 47 (ecs e v (.slice none 0 0)) ∧ wr.ownsRow w.heap.size 121 2 v k (fl fm (e.ms.take k)) ∧ Below w.heap.size w wr) (fun i _ => e.ms.length - (intOf i).toNat)
  case atStart => exact ⟨0, .slice none 0 0, Nat.zero_le _, rfl, HX1.out, HY1.out, HZ1.out, ⟨by simp [fl], .inl ⟨rfl, rfl⟩⟩, HB1.out⟩
  case round =>
    clear HX1 HY1 HZ1 HB1
    obtain ⟨k, v, hk, rfl, hX, hY, hZ, hrow, hb⟩ := hrel
    by_cases hkl : k < e.ms.length
    · obtain ⟨t, b, o, ht, rfl, hbl, _⟩ := H1.out.two (k := k) hkl
      obtain ⟨hbl', f0, f1⟩ := MS.get (RS.below H1.out hb) ht
      obtain ⟨Av, cv, rfl⟩ := own_form hrow
      have HT := Lib.hid ht
      have hnX : (Value.slice Av k cv).ownBlock ≠ some w.heap.size := own_blk hrow hX (by decide)
      have hnY : (Value.slice Av k cv).ownBlock ≠ some (w.heap.size + 1) := own_blk hrow hY (by decide)
      have hnZ : (Value.slice Av k cv).ownBlock ≠ some (w.heap.size + 1 + 1) := own_blk hrow hZ (by decide)
      have hnb : (Value.slice Av k cv).ownBlock ≠ some b := fun e' => by have := (hrow.lt b e').1; omega
      have s0 : wr.drew.cell? ⟨w.heap.size, 3, none⟩ = some (.slice (some ⟨b, o, none⟩) e.ms.length c) ∧ wr.drew.cell? ⟨w.heap.size + 1 + 1, 3, none⟩ = some (.slice Av k cv) ∧ wr.drew.cell? ⟨b, o + k * 2, none⟩ = some (.int .i64 t.1) ∧ wr.drew.cell? ⟨b, o + k * 2 + 1, none⟩ = some (.int .i64 t.2) := ⟨(hX.cell 3).trans rfl, (hZ.cell 3).trans rfl, f0, f1⟩
      have hne : Nonempty (Cl (fun w' => w'.cell? ⟨w.heap.size, 3, none⟩ = some (.slice (some ⟨b, o, none⟩) e.ms.length c) ∧ w'.cell? ⟨w.heap.size + 1 + 1, 3, none⟩ = some (.slice Av k cv) ∧ w'.cell? ⟨b, o + k * 2, none⟩ = some (.int .i64 t.1) ∧ w'.cell? ⟨b, o + k * 2 + 1, none⟩ = some (.int .i64 t.2))) := ⟨⟨_, s0⟩⟩
      have rX : ∀ x : Cl (fun w' => w'.cell? ⟨w.heap.size, 3, none⟩ = some (.slice (some ⟨b, o, none⟩) e.ms.length c) ∧ w'.cell? ⟨w.heap.size + 1 + 1, 3, none⟩ = some (.slice Av k cv) ∧ w'.cell? ⟨b, o + k * 2, none⟩ = some (.int .i64 t.1) ∧ w'.cell? ⟨b, o + k * 2 + 1, none⟩ = some (.int .i64 t.2)), x.W.cell? ⟨w.heap.size, 3, none⟩ = some (.slice (some ⟨b, o, none⟩) e.ms.length c) := fun x => x.ok.1
      have rZ : ∀ x : Cl (fun w' => w'.cell? ⟨w.heap.size, 3, none⟩ = some (.slice (some ⟨b, o, none⟩) e.ms.length c) ∧ w'.cell? ⟨w.heap.size + 1 + 1, 3, none⟩ = some (.slice Av k cv) ∧ w'.cell? ⟨b, o + k * 2, none⟩ = some (.int .i64 t.1) ∧ w'.cell? ⟨b, o + k * 2 + 1, none⟩ = some (.int .i64 t.2)), x.W.cell? ⟨w.heap.size + 1 + 1, 3, none⟩ = some (.slice Av k cv) := fun x => x.ok.2.1
      have q0 : ∀ x : Cl (fun w' => w'.cell? ⟨w.heap.size, 3, none⟩ = some (.slice (some ⟨b, o, none⟩) e.ms.length c) ∧ w'.cell? ⟨w.heap.size + 1 + 1, 3, none⟩ = some (.slice Av k cv) ∧ w'.cell? ⟨b, o + k * 2, none⟩ = some (.int .i64 t.1) ∧ w'.cell? ⟨b, o + k * 2 + 1, none⟩ = some (.int .i64 t.2)), x.W.cell? ⟨b, o + k * 2, none⟩ = some (.int .i64 t.1) := fun x => x.ok.2.2.1
      have q1 : ∀ x : Cl (fun w' => w'.cell? ⟨w.heap.size, 3, none⟩ = some (.slice (some ⟨b, o, none⟩) e.ms.length c) ∧ w'.cell? ⟨w.heap.size + 1 + 1, 3, none⟩ = some (.slice Av k cv) ∧ w'.cell? ⟨b, o + k * 2, none⟩ = some (.int .i64 t.1) ∧ w'.cell? ⟨b, o + k * 2 + 1, none⟩ = some (.int .i64 t.2)), x.W.cell? ⟨b, o + k * 2 + 1, none⟩ = some (.int .i64 t.2) := fun x => x.ok.2.2.2
      have x3 : wr.cell? ⟨w.heap.size, 3, none⟩ = some (.slice (some ⟨b, o, none⟩) e.ms.length c) := (hX.cell 3).trans rfl
      have xl := hX.lt
      have HX := Lib.hid hX
      have HY := Lib.hid hY
      have HZ := Lib.hid hZ
      have HR := Lib.hid hrow
      have HB := Lib.hid hb

      have hzB := hb.size
      clear hX hY hZ hrow hb ht f0 f1
      go_wp2_with fail
      clear x3 xl
      refine wp_region_stages [0, 0, 0, 0, 0, 0, 0, 1, 3, 4, 5] 2 (fun w' => ∃ y : Cl (fun w' => w'.cell? ⟨w.heap.size, 3, none⟩ = some (.slice (some ⟨b, o, none⟩) e.ms.length c) ∧ w'.cell? ⟨w.heap.size + 1 + 1, 3, none⟩ = some (.slice Av k cv) ∧ w'.cell? ⟨b, o + k * 2, none⟩ = some (.int .i64 t.1) ∧ w'.cell? ⟨b, o + k * 2 + 1, none⟩ = some (.int .i64 t.2)), w' = y.W) (by kernel_rfl) (by kernel_rfl) ⟨⟨_, s0⟩, rfl⟩ ?_
      simp only [Stage.stages, Stage.pickC, Nat.reduceBEq, Nat.reduceMul, Nat.reduceAdd, cond_true, cond_false, List.map_cons, List.map_nil]
      refine stage_more ?_
      repeat (go_big_quiet_step (fail))
      refine wpQuiet_nil ?_
      intro K hK
      unfold Chain.mov
      go_simp
      simp only [Chain.movUpon]
      have hbA : Below wr.heap.size wr (wr.alloc (.cells (fm t).toArray 121)).drew := ((Below.refl _ wr).alloc (Nat.le_refl _) (.cells (fm t).toArray 121)).drew
      have s1 : (wr.alloc (.cells (fm t).toArray 121)).drew.cell? ⟨w.heap.size, 3, none⟩ = some (.slice (some ⟨b, o, none⟩) e.ms.length c) ∧ (wr.alloc (.cells (fm t).toArray 121)).drew.cell? ⟨w.heap.size + 1 + 1, 3, none⟩ = some (.slice Av k cv) ∧ (wr.alloc (.cells (fm t).toArray 121)).drew.cell? ⟨b, o + k * 2, none⟩ = some (.int .i64 t.1) ∧ (wr.alloc (.cells (fm t).toArray 121)).drew.cell? ⟨b, o + k * 2 + 1, none⟩ = some (.int .i64 t.2) := ⟨(hbA.cell (World.block_lt_of_cell? wr _ s0.1)).trans s0.1, (hbA.cell (World.block_lt_of_cell? wr _ s0.2.1)).trans s0.2.1, (hbA.cell (World.block_lt_of_cell? wr _ s0.2.2.1)).trans s0.2.2.1, (hbA.cell (World.block_lt_of_cell? wr _ s0.2.2.2)).trans s0.2.2.2⟩
      refine hK _ _ ⟨⟨⟨_, s1⟩, rfl⟩, ?_⟩
      clear hK K rX rZ q0 q1
      have HX5 := Lib.hid (HX.out.below hbA HX.out.lt)
      have HY5 := Lib.hid (HY.out.below hbA HY.out.lt)
      have HZ5 := Lib.hid (HZ.out.below hbA HZ.out.lt)
      have HR5 := Lib.hid (own_keep HR.out hbA)

      have HB5 := Lib.hid (HB.out.trans (hbA.mono hzB))
      have hN5 : BlkL (wr.alloc (.cells (fm t).toArray 121)).drew wr.heap.size 121 (fl fm [t]) := by rw [show fl fm [t] = fm t by simp [fl]]; exact BlkL.new wr 121 (fm t)
      have hz5 : w.heap.size ≤ ((wr.alloc (.cells (fm t).toArray 121)).drew).heap.size := HB5.out.size
      clear hbA s0 HX HY HZ HR HB
      change Stage.stageW _ _ _ _ _ _ (wr.alloc (.cells (fm t).toArray 121)).drew
      generalize (wr.alloc (.cells (fm t).toArray 121)).drew = V5 at *
      obtain ⟨i0, hi0, hz0, hz1, hz2⟩ := info_parts infoMarkI
      obtain ⟨v', V6, hrun, how6, hgr6, _, hob6⟩ := run_append_own_at (P := Try.prog) V5 w.heap.size 44 44 121 i0 _ 2 16 Try.underlying44 hi0 hz0 hz1 hz2 rfl (by decide) _ k _ HR5.out ⟨wr.heap.size, 0, none⟩ 1 1 (fl fm [t]) (by rw [fl_length fm_len]; rfl) (fun j u hj => by rw [Addr.add_lit, Nat.zero_add]; exact (hN5.cell j).trans hj) (fm_one _) (by unfold maxLen; omega) (by omega) hz5
      rw [← fl_append, show e.ms.take k ++ [t] = e.ms.take (k + 1) by rw [List.take_add_one, HT.out]; rfl] at how6
      obtain ⟨A6, c6, rfl⟩ := own_form how6
      have HRUN := Lib.hid hrun
      clear hrun
      have HR6 := Lib.hid how6
      have HX6 := Lib.hid (HX5.out.grown hgr6 (fun e' => hnX e'.symm))
      have HY6 := Lib.hid (HY5.out.grown hgr6 (fun e' => hnY e'.symm))
      have HZ6 := Lib.hid (HZ5.out.grown hgr6 (fun e' => hnZ e'.symm))

      have HB6 := Lib.hid (HB5.out.grown hgr6 hz5 (fun q hq => (HR5.out.lt q hq).1))
      have s6 : V6.cell? ⟨w.heap.size, 3, none⟩ = some (.slice (some ⟨b, o, none⟩) e.ms.length c) ∧ V6.cell? ⟨w.heap.size + 1 + 1, 3, none⟩ = some (.slice Av k cv) ∧ V6.cell? ⟨b, o + k * 2, none⟩ = some (.int .i64 t.1) ∧ V6.cell? ⟨b, o + k * 2 + 1, none⟩ = some (.int .i64 t.2) := ⟨(HX6.out.cell 3).trans rfl, (HZ6.out.cell 3).trans rfl, (World.cell?_of_block (hgr6.block b (World.block_lt_of_cell? V5 _ s1.2.2.1) (fun e' => hnb e'.symm))).trans s1.2.2.1, (World.cell?_of_block (hgr6.block b (World.block_lt_of_cell? V5 _ s1.2.2.1) (fun e' => hnb e'.symm))).trans s1.2.2.2⟩
      clear how6 hgr6 hob6 hN5 HX5 HY5 HZ5 HR5 HB5 s1
      refine stage_more ?_
      refine wpQuiet_nil ?_
      intro K hK
      refine mov_append rfl rfl rfl HRUN.out ?_
      go_simp
      refine hK _ _ ⟨⟨⟨_, s6⟩, rfl⟩, ?_⟩
      clear hK K
      have zc := s6.2.1
      have zf := HZ6.out.frozen 3
      have zl := HZ6.out.lt
      clear s6
      refine stage_last ?_
      repeat (go_big_quiet_step (fail))
      refine wpQuiet_nil ?_
      clear hne
      have hnZ6 : (Value.slice A6 (k + 1) c6).ownBlock ≠ some (w.heap.size + 1 + 1) := own_blk HR6.out HZ6.out (by decide)

      go_wp2
      go_roundw
      case rel =>
        exact ⟨k + 1, .slice A6 (k + 1) c6, by omega, by go_num, HX6.out.far (p := ⟨w.heap.size + 1 + 1, 3, none⟩) (by show w.heap.size ≠ w.heap.size + 1 + 1; omega) _, HY6.out.far (p := ⟨w.heap.size + 1 + 1, 3, none⟩) (by show w.heap.size + 1 ≠ w.heap.size + 1 + 1; omega) _, HZ6.out.set 3 _, ownsRow_setCell_other (a := ⟨w.heap.size + 1 + 1, 3, none⟩) HR6.out hnZ6 _, HB6.out.setCell (p := ⟨w.heap.size + 1 + 1, 3, none⟩) (by show w.heap.size ≤ w.heap.size + 1 + 1; omega) _⟩
      case measure => simp [intOf]; omega
    · obtain rfl : k = e.ms.length := by omega
      rw [List.take_length] at hrow
      obtain ⟨AM, cM, rfl⟩ := own_form hrow
      have x3 : wr.cell? ⟨w.heap.size, 3, none⟩ = some (.slice A e.ms.length c) := (hX.cell 3).trans rfl
      have xl := hX.lt
      have HX1 := Lib.hid hX
      have HY1 := Lib.hid hY
      have HZ1 := Lib.hid hZ
      have HB1 := Lib.hid hb
      have HM1 := Lib.hid hrow
      clear hX hY hZ hb hrow hk hkl
      go_wp2_with fail
      clear x3 xl
      go_loopw [5] (fun i wr => ∃ (k : Nat) (v : Value), k ≤ e.it.length ∧ i = .int .i64 k ∧ BlkL wr w.heap.size 47 (ecs e (.slice A e.ms.length c) (.slice A2 e.it.length c2)) ∧ BlkL wr (w.heap.size + 1) 47 (ecs ⟨0, 0, 0, [], [], 0, 0⟩ (.slice none 0 0) (.slice none 0 0)) ∧ BlkL wr (w.heap.size + 1 + 1) 47 (ecs e (.slice AM e.ms.length cM) v) ∧ wr.ownsRow w.heap.size 80 7 v k (fl fh (e.it.take k)) ∧ wr.ownsRow w.heap.size 121 2 (.slice AM e.ms.length cM) e.ms.length (fl fm e.ms) ∧ Below w.heap.size w wr) (fun i _ => e.it.length - (intOf i).toNat)
      case atStart => exact ⟨0, .slice none 0 0, Nat.zero_le _, rfl, HX1.out, HY1.out, HZ1.out, ⟨by simp [fl], .inl ⟨rfl, rfl⟩⟩, HM1.out, HB1.out⟩
      case round =>
        clear HX1 HY1 HZ1 HB1 HM1
        obtain ⟨k, v, hk, rfl, hX, hY, hZ, hrow, hmr, hb⟩ := hrel
        by_cases hkl : k < e.it.length
        · obtain ⟨t, b, o, ht, rfl, hbl, _⟩ := H2.out.sev (k := k) hkl
          obtain ⟨hbl', f0, f1, f2, f3, f4, f5, f6⟩ := HS.get (RS.below H2.out hb) ht
          obtain ⟨Av, cv, rfl⟩ := own_form hrow
          have HT := Lib.hid ht
          have hnX : (Value.slice Av k cv).ownBlock ≠ some w.heap.size := own_blk hrow hX (by decide)
          have hnY : (Value.slice Av k cv).ownBlock ≠ some (w.heap.size + 1) := own_blk hrow hY (by decide)
          have hnZ : (Value.slice Av k cv).ownBlock ≠ some (w.heap.size + 1 + 1) := own_blk hrow hZ (by decide)
          have hnb : (Value.slice Av k cv).ownBlock ≠ some b := fun e' => by have := (hrow.lt b e').1; omega
          have s0 : wr.drew.cell? ⟨w.heap.size, 4, none⟩ = some (.slice (some ⟨b, o, none⟩) e.it.length c2) ∧ wr.drew.cell? ⟨w.heap.size + 1 + 1, 4, none⟩ = some (.slice Av k cv) ∧ wr.drew.cell? ⟨b, o + k * 7, none⟩ = some (.int .i64 t.t.k) ∧ wr.drew.cell? ⟨b, o + k * 7 + 1, none⟩ = some (.string t.t.s) ∧ wr.drew.cell? ⟨b, o + k * 7 + 2, none⟩ = some (.int .i64 t.t.d) ∧ wr.drew.cell? ⟨b, o + k * 7 + 3, none⟩ = some (.int .i64 t.t.o) ∧ wr.drew.cell? ⟨b, o + k * 7 + 4, none⟩ = some (.int .i64 t.lv) ∧ wr.drew.cell? ⟨b, o + k * 7 + 5, none⟩ = some (.int .i64 t.st) ∧ wr.drew.cell? ⟨b, o + k * 7 + 6, none⟩ = some (.int .i64 t.sz) := ⟨(hX.cell 4).trans rfl, (hZ.cell 4).trans rfl, f0, f1, f2, f3, f4, f5, f6⟩
          have hne : Nonempty (Cl (fun w' => w'.cell? ⟨w.heap.size, 4, none⟩ = some (.slice (some ⟨b, o, none⟩) e.it.length c2) ∧ w'.cell? ⟨w.heap.size + 1 + 1, 4, none⟩ = some (.slice Av k cv) ∧ w'.cell? ⟨b, o + k * 7, none⟩ = some (.int .i64 t.t.k) ∧ w'.cell? ⟨b, o + k * 7 + 1, none⟩ = some (.string t.t.s) ∧ w'.cell? ⟨b, o + k * 7 + 2, none⟩ = some (.int .i64 t.t.d) ∧ w'.cell? ⟨b, o + k * 7 + 3, none⟩ = some (.int .i64 t.t.o) ∧ w'.cell? ⟨b, o + k * 7 + 4, none⟩ = some (.int .i64 t.lv) ∧ w'.cell? ⟨b, o + k * 7 + 5, none⟩ = some (.int .i64 t.st) ∧ w'.cell? ⟨b, o + k * 7 + 6, none⟩ = some (.int .i64 t.sz))) := ⟨⟨_, s0⟩⟩
          have rX : ∀ x : Cl (fun w' => w'.cell? ⟨w.heap.size, 4, none⟩ = some (.slice (some ⟨b, o, none⟩) e.it.length c2) ∧ w'.cell? ⟨w.heap.size + 1 + 1, 4, none⟩ = some (.slice Av k cv) ∧ w'.cell? ⟨b, o + k * 7, none⟩ = some (.int .i64 t.t.k) ∧ w'.cell? ⟨b, o + k * 7 + 1, none⟩ = some (.string t.t.s) ∧ w'.cell? ⟨b, o + k * 7 + 2, none⟩ = some (.int .i64 t.t.d) ∧ w'.cell? ⟨b, o + k * 7 + 3, none⟩ = some (.int .i64 t.t.o) ∧ w'.cell? ⟨b, o + k * 7 + 4, none⟩ = some (.int .i64 t.lv) ∧ w'.cell? ⟨b, o + k * 7 + 5, none⟩ = some (.int .i64 t.st) ∧ w'.cell? ⟨b, o + k * 7 + 6, none⟩ = some (.int .i64 t.sz)), x.W.cell? ⟨w.heap.size, 4, none⟩ = some (.slice (some ⟨b, o, none⟩) e.it.length c2) := fun x => x.ok.1
          have rZ : ∀ x : Cl (fun w' => w'.cell? ⟨w.heap.size, 4, none⟩ = some (.slice (some ⟨b, o, none⟩) e.it.length c2) ∧ w'.cell? ⟨w.heap.size + 1 + 1, 4, none⟩ = some (.slice Av k cv) ∧ w'.cell? ⟨b, o + k * 7, none⟩ = some (.int .i64 t.t.k) ∧ w'.cell? ⟨b, o + k * 7 + 1, none⟩ = some (.string t.t.s) ∧ w'.cell? ⟨b, o + k * 7 + 2, none⟩ = some (.int .i64 t.t.d) ∧ w'.cell? ⟨b, o + k * 7 + 3, none⟩ = some (.int .i64 t.t.o) ∧ w'.cell? ⟨b, o + k * 7 + 4, none⟩ = some (.int .i64 t.lv) ∧ w'.cell? ⟨b, o + k * 7 + 5, none⟩ = some (.int .i64 t.st) ∧ w'.cell? ⟨b, o + k * 7 + 6, none⟩ = some (.int .i64 t.sz)), x.W.cell? ⟨w.heap.size + 1 + 1, 4, none⟩ = some (.slice Av k cv) := fun x => x.ok.2.1
          have q0 : ∀ x : Cl (fun w' => w'.cell? ⟨w.heap.size, 4, none⟩ = some (.slice (some ⟨b, o, none⟩) e.it.length c2) ∧ w'.cell? ⟨w.heap.size + 1 + 1, 4, none⟩ = some (.slice Av k cv) ∧ w'.cell? ⟨b, o + k * 7, none⟩ = some (.int .i64 t.t.k) ∧ w'.cell? ⟨b, o + k * 7 + 1, none⟩ = some (.string t.t.s) ∧ w'.cell? ⟨b, o + k * 7 + 2, none⟩ = some (.int .i64 t.t.d) ∧ w'.cell? ⟨b, o + k * 7 + 3, none⟩ = some (.int .i64 t.t.o) ∧ w'.cell? ⟨b, o + k * 7 + 4, none⟩ = some (.int .i64 t.lv) ∧ w'.cell? ⟨b, o + k * 7 + 5, none⟩ = some (.int .i64 t.st) ∧ w'.cell? ⟨b, o + k * 7 + 6, none⟩ = some (.int .i64 t.sz)), x.W.cell? ⟨b, o + k * 7, none⟩ = some (.int .i64 t.t.k) := fun x => x.ok.2.2.1
          have q1 : ∀ x : Cl (fun w' => w'.cell? ⟨w.heap.size, 4, none⟩ = some (.slice (some ⟨b, o, none⟩) e.it.length c2) ∧ w'.cell? ⟨w.heap.size + 1 + 1, 4, none⟩ = some (.slice Av k cv) ∧ w'.cell? ⟨b, o + k * 7, none⟩ = some (.int .i64 t.t.k) ∧ w'.cell? ⟨b, o + k * 7 + 1, none⟩ = some (.string t.t.s) ∧ w'.cell? ⟨b, o + k * 7 + 2, none⟩ = some (.int .i64 t.t.d) ∧ w'.cell? ⟨b, o + k * 7 + 3, none⟩ = some (.int .i64 t.t.o) ∧ w'.cell? ⟨b, o + k * 7 + 4, none⟩ = some (.int .i64 t.lv) ∧ w'.cell? ⟨b, o + k * 7 + 5, none⟩ = some (.int .i64 t.st) ∧ w'.cell? ⟨b, o + k * 7 + 6, none⟩ = some (.int .i64 t.sz)), x.W.cell? ⟨b, o + k * 7 + 1, none⟩ = some (.string t.t.s) := fun x => x.ok.2.2.2.1
          have q2 : ∀ x : Cl (fun w' => w'.cell? ⟨w.heap.size, 4, none⟩ = some (.slice (some ⟨b, o, none⟩) e.it.length c2) ∧ w'.cell? ⟨w.heap.size + 1 + 1, 4, none⟩ = some (.slice Av k cv) ∧ w'.cell? ⟨b, o + k * 7, none⟩ = some (.int .i64 t.t.k) ∧ w'.cell? ⟨b, o + k * 7 + 1, none⟩ = some (.string t.t.s) ∧ w'.cell? ⟨b, o + k * 7 + 2, none⟩ = some (.int .i64 t.t.d) ∧ w'.cell? ⟨b, o + k * 7 + 3, none⟩ = some (.int .i64 t.t.o) ∧ w'.cell? ⟨b, o + k * 7 + 4, none⟩ = some (.int .i64 t.lv) ∧ w'.cell? ⟨b, o + k * 7 + 5, none⟩ = some (.int .i64 t.st) ∧ w'.cell? ⟨b, o + k * 7 + 6, none⟩ = some (.int .i64 t.sz)), x.W.cell? ⟨b, o + k * 7 + 2, none⟩ = some (.int .i64 t.t.d) := fun x => x.ok.2.2.2.2.1
          have q3 : ∀ x : Cl (fun w' => w'.cell? ⟨w.heap.size, 4, none⟩ = some (.slice (some ⟨b, o, none⟩) e.it.length c2) ∧ w'.cell? ⟨w.heap.size + 1 + 1, 4, none⟩ = some (.slice Av k cv) ∧ w'.cell? ⟨b, o + k * 7, none⟩ = some (.int .i64 t.t.k) ∧ w'.cell? ⟨b, o + k * 7 + 1, none⟩ = some (.string t.t.s) ∧ w'.cell? ⟨b, o + k * 7 + 2, none⟩ = some (.int .i64 t.t.d) ∧ w'.cell? ⟨b, o + k * 7 + 3, none⟩ = some (.int .i64 t.t.o) ∧ w'.cell? ⟨b, o + k * 7 + 4, none⟩ = some (.int .i64 t.lv) ∧ w'.cell? ⟨b, o + k * 7 + 5, none⟩ = some (.int .i64 t.st) ∧ w'.cell? ⟨b, o + k * 7 + 6, none⟩ = some (.int .i64 t.sz)), x.W.cell? ⟨b, o + k * 7 + 3, none⟩ = some (.int .i64 t.t.o) := fun x => x.ok.2.2.2.2.2.1
          have q4 : ∀ x : Cl (fun w' => w'.cell? ⟨w.heap.size, 4, none⟩ = some (.slice (some ⟨b, o, none⟩) e.it.length c2) ∧ w'.cell? ⟨w.heap.size + 1 + 1, 4, none⟩ = some (.slice Av k cv) ∧ w'.cell? ⟨b, o + k * 7, none⟩ = some (.int .i64 t.t.k) ∧ w'.cell? ⟨b, o + k * 7 + 1, none⟩ = some (.string t.t.s) ∧ w'.cell? ⟨b, o + k * 7 + 2, none⟩ = some (.int .i64 t.t.d) ∧ w'.cell? ⟨b, o + k * 7 + 3, none⟩ = some (.int .i64 t.t.o) ∧ w'.cell? ⟨b, o + k * 7 + 4, none⟩ = some (.int .i64 t.lv) ∧ w'.cell? ⟨b, o + k * 7 + 5, none⟩ = some (.int .i64 t.st) ∧ w'.cell? ⟨b, o + k * 7 + 6, none⟩ = some (.int .i64 t.sz)), x.W.cell? ⟨b, o + k * 7 + 4, none⟩ = some (.int .i64 t.lv) := fun x => x.ok.2.2.2.2.2.2.1
          have q5 : ∀ x : Cl (fun w' => w'.cell? ⟨w.heap.size, 4, none⟩ = some (.slice (some ⟨b, o, none⟩) e.it.length c2) ∧ w'.cell? ⟨w.heap.size + 1 + 1, 4, none⟩ = some (.slice Av k cv) ∧ w'.cell? ⟨b, o + k * 7, none⟩ = some (.int .i64 t.t.k) ∧ w'.cell? ⟨b, o + k * 7 + 1, none⟩ = some (.string t.t.s) ∧ w'.cell? ⟨b, o + k * 7 + 2, none⟩ = some (.int .i64 t.t.d) ∧ w'.cell? ⟨b, o + k * 7 + 3, none⟩ = some (.int .i64 t.t.o) ∧ w'.cell? ⟨b, o + k * 7 + 4, none⟩ = some (.int .i64 t.lv) ∧ w'.cell? ⟨b, o + k * 7 + 5, none⟩ = some (.int .i64 t.st) ∧ w'.cell? ⟨b, o + k * 7 + 6, none⟩ = some (.int .i64 t.sz)), x.W.cell? ⟨b, o + k * 7 + 5, none⟩ = some (.int .i64 t.st) := fun x => x.ok.2.2.2.2.2.2.2.1
          have q6 : ∀ x : Cl (fun w' => w'.cell? ⟨w.heap.size, 4, none⟩ = some (.slice (some ⟨b, o, none⟩) e.it.length c2) ∧ w'.cell? ⟨w.heap.size + 1 + 1, 4, none⟩ = some (.slice Av k cv) ∧ w'.cell? ⟨b, o + k * 7, none⟩ = some (.int .i64 t.t.k) ∧ w'.cell? ⟨b, o + k * 7 + 1, none⟩ = some (.string t.t.s) ∧ w'.cell? ⟨b, o + k * 7 + 2, none⟩ = some (.int .i64 t.t.d) ∧ w'.cell? ⟨b, o + k * 7 + 3, none⟩ = some (.int .i64 t.t.o) ∧ w'.cell? ⟨b, o + k * 7 + 4, none⟩ = some (.int .i64 t.lv) ∧ w'.cell? ⟨b, o + k * 7 + 5, none⟩ = some (.int .i64 t.st) ∧ w'.cell? ⟨b, o + k * 7 + 6, none⟩ = some (.int .i64 t.sz)), x.W.cell? ⟨b, o + k * 7 + 6, none⟩ = some (.int .i64 t.sz) := fun x => x.ok.2.2.2.2.2.2.2.2
          have x4 : wr.cell? ⟨w.heap.size, 4, none⟩ = some (.slice (some ⟨b, o, none⟩) e.it.length c2) := (hX.cell 4).trans rfl
          have xl := hX.lt
          have HX := Lib.hid hX
          have HY := Lib.hid hY
          have HZ := Lib.hid hZ
          have HR := Lib.hid hrow
          have HB := Lib.hid hb
          have HMR := Lib.hid hmr
          have hzB := hb.size
          clear hX hY hZ hrow hb ht f0 f1 f2 f3 f4 f5 f6 hmr
          go_wp2_with fail
          clear x4 xl
          refine wp_region_stages [0, 0, 0, 0, 0, 0, 0, 1, 3, 4, 5] 2 (fun w' => ∃ y : Cl (fun w' => w'.cell? ⟨w.heap.size, 4, none⟩ = some (.slice (some ⟨b, o, none⟩) e.it.length c2) ∧ w'.cell? ⟨w.heap.size + 1 + 1, 4, none⟩ = some (.slice Av k cv) ∧ w'.cell? ⟨b, o + k * 7, none⟩ = some (.int .i64 t.t.k) ∧ w'.cell? ⟨b, o + k * 7 + 1, none⟩ = some (.string t.t.s) ∧ w'.cell? ⟨b, o + k * 7 + 2, none⟩ = some (.int .i64 t.t.d) ∧ w'.cell? ⟨b, o + k * 7 + 3, none⟩ = some (.int .i64 t.t.o) ∧ w'.cell? ⟨b, o + k * 7 + 4, none⟩ = some (.int .i64 t.lv) ∧ w'.cell? ⟨b, o + k * 7 + 5, none⟩ = some (.int .i64 t.st) ∧ w'.cell? ⟨b, o + k * 7 + 6, none⟩ = some (.int .i64 t.sz)), w' = y.W) (by kernel_rfl) (by kernel_rfl) ⟨⟨_, s0⟩, rfl⟩ ?_
          simp only [Stage.stages, Stage.pickC, Nat.reduceBEq, Nat.reduceMul, Nat.reduceAdd, cond_true, cond_false, List.map_cons, List.map_nil]
          refine stage_more ?_
          repeat (go_big_quiet_step (fail))
          refine wpQuiet_nil ?_
          intro K hK
          unfold Chain.mov
          go_simp
          simp only [Chain.movUpon]
          have hbA : Below wr.heap.size wr (wr.alloc (.cells (fh t).toArray 80)).drew := ((Below.refl _ wr).alloc (Nat.le_refl _) (.cells (fh t).toArray 80)).drew
          have s1 : (wr.alloc (.cells (fh t).toArray 80)).drew.cell? ⟨w.heap.size, 4, none⟩ = some (.slice (some ⟨b, o, none⟩) e.it.length c2) ∧ (wr.alloc (.cells (fh t).toArray 80)).drew.cell? ⟨w.heap.size + 1 + 1, 4, none⟩ = some (.slice Av k cv) ∧ (wr.alloc (.cells (fh t).toArray 80)).drew.cell? ⟨b, o + k * 7, none⟩ = some (.int .i64 t.t.k) ∧ (wr.alloc (.cells (fh t).toArray 80)).drew.cell? ⟨b, o + k * 7 + 1, none⟩ = some (.string t.t.s) ∧ (wr.alloc (.cells (fh t).toArray 80)).drew.cell? ⟨b, o + k * 7 + 2, none⟩ = some (.int .i64 t.t.d) ∧ (wr.alloc (.cells (fh t).toArray 80)).drew.cell? ⟨b, o + k * 7 + 3, none⟩ = some (.int .i64 t.t.o) ∧ (wr.alloc (.cells (fh t).toArray 80)).drew.cell? ⟨b, o + k * 7 + 4, none⟩ = some (.int .i64 t.lv) ∧ (wr.alloc (.cells (fh t).toArray 80)).drew.cell? ⟨b, o + k * 7 + 5, none⟩ = some (.int .i64 t.st) ∧ (wr.alloc (.cells (fh t).toArray 80)).drew.cell? ⟨b, o + k * 7 + 6, none⟩ = some (.int .i64 t.sz) := ⟨(hbA.cell (World.block_lt_of_cell? wr _ s0.1)).trans s0.1, (hbA.cell (World.block_lt_of_cell? wr _ s0.2.1)).trans s0.2.1, (hbA.cell (World.block_lt_of_cell? wr _ s0.2.2.1)).trans s0.2.2.1, (hbA.cell (World.block_lt_of_cell? wr _ s0.2.2.2.1)).trans s0.2.2.2.1, (hbA.cell (World.block_lt_of_cell? wr _ s0.2.2.2.2.1)).trans s0.2.2.2.2.1, (hbA.cell (World.block_lt_of_cell? wr _ s0.2.2.2.2.2.1)).trans s0.2.2.2.2.2.1, (hbA.cell (World.block_lt_of_cell? wr _ s0.2.2.2.2.2.2.1)).trans s0.2.2.2.2.2.2.1, (hbA.cell (World.block_lt_of_cell? wr _ s0.2.2.2.2.2.2.2.1)).trans s0.2.2.2.2.2.2.2.1, (hbA.cell (World.block_lt_of_cell? wr _ s0.2.2.2.2.2.2.2.2)).trans s0.2.2.2.2.2.2.2.2⟩
          refine hK _ _ ⟨⟨⟨_, s1⟩, rfl⟩, ?_⟩
          clear hK K rX rZ q0 q1 q2 q3 q4 q5 q6
          have HX5 := Lib.hid (HX.out.below hbA HX.out.lt)
          have HY5 := Lib.hid (HY.out.below hbA HY.out.lt)
          have HZ5 := Lib.hid (HZ.out.below hbA HZ.out.lt)
          have HR5 := Lib.hid (own_keep HR.out hbA)
          have HMR5 := Lib.hid (own_keep HMR.out hbA)
          have HB5 := Lib.hid (HB.out.trans (hbA.mono hzB))
          have hN5 : BlkL (wr.alloc (.cells (fh t).toArray 80)).drew wr.heap.size 80 (fl fh [t]) := by rw [show fl fh [t] = fh t by simp [fl]]; exact BlkL.new wr 80 (fh t)
          have hz5 : w.heap.size ≤ ((wr.alloc (.cells (fh t).toArray 80)).drew).heap.size := HB5.out.size
          clear hbA s0 HX HY HZ HR HB HMR
          change Stage.stageW _ _ _ _ _ _ (wr.alloc (.cells (fh t).toArray 80)).drew
          generalize (wr.alloc (.cells (fh t).toArray 80)).drew = V5 at *
          obtain ⟨i0, hi0, hz0, hz1, hz2⟩ := info_parts infoHeldI
          obtain ⟨v', V6, hrun, how6, hgr6, _, hob6⟩ := run_append_own_at (P := Try.prog) V5 w.heap.size 45 45 80 i0 _ 7 64 Try.underlying45 hi0 hz0 hz1 hz2 rfl (by decide) _ k _ HR5.out ⟨wr.heap.size, 0, none⟩ 1 1 (fl fh [t]) (by rw [fl_length fh_len]; rfl) (fun j u hj => by rw [Addr.add_lit, Nat.zero_add]; exact (hN5.cell j).trans hj) (fh_one _) (by unfold maxLen; omega) (by omega) hz5
          rw [← fl_append, show e.it.take k ++ [t] = e.it.take (k + 1) by rw [List.take_add_one, HT.out]; rfl] at how6
          obtain ⟨A6, c6, rfl⟩ := own_form how6
          have HRUN := Lib.hid hrun
          clear hrun
          have HR6 := Lib.hid how6
          have HX6 := Lib.hid (HX5.out.grown hgr6 (fun e' => hnX e'.symm))
          have HY6 := Lib.hid (HY5.out.grown hgr6 (fun e' => hnY e'.symm))
          have HZ6 := Lib.hid (HZ5.out.grown hgr6 (fun e' => hnZ e'.symm))
          have HMR6 := Lib.hid (HMR5.out.kept hgr6 (own_apart HMR5.out HR5.out (by decide)))
          have HB6 := Lib.hid (HB5.out.grown hgr6 hz5 (fun q hq => (HR5.out.lt q hq).1))
          have s6 : V6.cell? ⟨w.heap.size, 4, none⟩ = some (.slice (some ⟨b, o, none⟩) e.it.length c2) ∧ V6.cell? ⟨w.heap.size + 1 + 1, 4, none⟩ = some (.slice Av k cv) ∧ V6.cell? ⟨b, o + k * 7, none⟩ = some (.int .i64 t.t.k) ∧ V6.cell? ⟨b, o + k * 7 + 1, none⟩ = some (.string t.t.s) ∧ V6.cell? ⟨b, o + k * 7 + 2, none⟩ = some (.int .i64 t.t.d) ∧ V6.cell? ⟨b, o + k * 7 + 3, none⟩ = some (.int .i64 t.t.o) ∧ V6.cell? ⟨b, o + k * 7 + 4, none⟩ = some (.int .i64 t.lv) ∧ V6.cell? ⟨b, o + k * 7 + 5, none⟩ = some (.int .i64 t.st) ∧ V6.cell? ⟨b, o + k * 7 + 6, none⟩ = some (.int .i64 t.sz) := ⟨(HX6.out.cell 4).trans rfl, (HZ6.out.cell 4).trans rfl, (World.cell?_of_block (hgr6.block b (World.block_lt_of_cell? V5 _ s1.2.2.1) (fun e' => hnb e'.symm))).trans s1.2.2.1, (World.cell?_of_block (hgr6.block b (World.block_lt_of_cell? V5 _ s1.2.2.1) (fun e' => hnb e'.symm))).trans s1.2.2.2.1, (World.cell?_of_block (hgr6.block b (World.block_lt_of_cell? V5 _ s1.2.2.1) (fun e' => hnb e'.symm))).trans s1.2.2.2.2.1, (World.cell?_of_block (hgr6.block b (World.block_lt_of_cell? V5 _ s1.2.2.1) (fun e' => hnb e'.symm))).trans s1.2.2.2.2.2.1, (World.cell?_of_block (hgr6.block b (World.block_lt_of_cell? V5 _ s1.2.2.1) (fun e' => hnb e'.symm))).trans s1.2.2.2.2.2.2.1, (World.cell?_of_block (hgr6.block b (World.block_lt_of_cell? V5 _ s1.2.2.1) (fun e' => hnb e'.symm))).trans s1.2.2.2.2.2.2.2.1, (World.cell?_of_block (hgr6.block b (World.block_lt_of_cell? V5 _ s1.2.2.1) (fun e' => hnb e'.symm))).trans s1.2.2.2.2.2.2.2.2⟩
          clear how6 hgr6 hob6 hN5 HX5 HY5 HZ5 HR5 HB5 s1 HMR5
          refine stage_more ?_
          refine wpQuiet_nil ?_
          intro K hK
          refine mov_append rfl rfl rfl HRUN.out ?_
          go_simp
          refine hK _ _ ⟨⟨⟨_, s6⟩, rfl⟩, ?_⟩
          clear hK K
          have zc := s6.2.1
          have zf := HZ6.out.frozen 4
          have zl := HZ6.out.lt
          clear s6
          refine stage_last ?_
          repeat (go_big_quiet_step (fail))
          refine wpQuiet_nil ?_
          clear hne
          have hnZ6 : (Value.slice A6 (k + 1) c6).ownBlock ≠ some (w.heap.size + 1 + 1) := own_blk HR6.out HZ6.out (by decide)
          have hmZ6 := own_blk HMR6.out HZ6.out (by decide)
          go_wp2
          go_roundw
          case rel =>
            exact ⟨k + 1, .slice A6 (k + 1) c6, by omega, by go_num, HX6.out.far (p := ⟨w.heap.size + 1 + 1, 4, none⟩) (by show w.heap.size ≠ w.heap.size + 1 + 1; omega) _, HY6.out.far (p := ⟨w.heap.size + 1 + 1, 4, none⟩) (by show w.heap.size + 1 ≠ w.heap.size + 1 + 1; omega) _, HZ6.out.set 4 _, ownsRow_setCell_other (a := ⟨w.heap.size + 1 + 1, 4, none⟩) HR6.out hnZ6 _, ownsRow_setCell_other (a := ⟨w.heap.size + 1 + 1, 4, none⟩) HMR6.out hmZ6 _, HB6.out.setCell (p := ⟨w.heap.size + 1 + 1, 4, none⟩) (by show w.heap.size ≤ w.heap.size + 1 + 1; omega) _⟩
          case measure => simp [intOf]; omega
        · obtain rfl : k = e.it.length := by omega
          rw [List.take_length] at hrow
          obtain ⟨AI, cI, rfl⟩ := own_form hrow
          have x4 : wr.cell? ⟨w.heap.size, 4, none⟩ = some (.slice A2 e.it.length c2) := (hX.cell 4).trans rfl
          have xl := hX.lt
          have HY4 := Lib.hid hY
          have HM4 := Lib.hid hmr
          have HI4 := Lib.hid hrow
          have HB4 := Lib.hid hb
          have z0 : wr.cell? ⟨w.heap.size + 1 + 1, 0, none⟩ = some (.int .i64 e.W) := (hZ.cell 0).trans rfl
          have z1 : wr.cell? ⟨w.heap.size + 1 + 1, 1, none⟩ = some (.int .i64 e.col) := (hZ.cell 1).trans rfl
          have z2 : wr.cell? ⟨w.heap.size + 1 + 1, 2, none⟩ = some (.int .i64 e.pend) := (hZ.cell 2).trans rfl
          have z3 : wr.cell? ⟨w.heap.size + 1 + 1, 3, none⟩ = some (.slice AM e.ms.length cM) := (hZ.cell 3).trans rfl
          have z4 : wr.cell? ⟨w.heap.size + 1 + 1, 4, none⟩ = some (.slice AI e.it.length cI) := (hZ.cell 4).trans rfl
          have z5 : wr.cell? ⟨w.heap.size + 1 + 1, 5, none⟩ = some (.int .i64 e.tot) := (hZ.cell 5).trans rfl
          have z6 : wr.cell? ⟨w.heap.size + 1 + 1, 6, none⟩ = some (.int .i64 e.lev) := (hZ.cell 6).trans rfl
          have y0 : wr.cell? ⟨w.heap.size + 1, 0, none⟩ = some (.int .i64 0) := (hY.cell 0).trans rfl
          have y1 : wr.cell? ⟨w.heap.size + 1, 1, none⟩ = some (.int .i64 0) := (hY.cell 1).trans rfl
          have y2 : wr.cell? ⟨w.heap.size + 1, 2, none⟩ = some (.int .i64 0) := (hY.cell 2).trans rfl
          have y3 : wr.cell? ⟨w.heap.size + 1, 3, none⟩ = some (.slice none 0 0) := (hY.cell 3).trans rfl
          have y4 : wr.cell? ⟨w.heap.size + 1, 4, none⟩ = some (.slice none 0 0) := (hY.cell 4).trans rfl
          have y5 : wr.cell? ⟨w.heap.size + 1, 5, none⟩ = some (.int .i64 0) := (hY.cell 5).trans rfl
          have y6 : wr.cell? ⟨w.heap.size + 1, 6, none⟩ = some (.int .i64 0) := (hY.cell 6).trans rfl
          have yf := hY.frozen
          have yl := hY.lt
          have zl := hZ.lt
          clear hX hY hZ hrow hmr hb
          go_wp2
          clear z0 z1 z2 z3 z4 z5 z6 y0 y1 y2 y3 y4 y5 y6 yf yl zl x4 xl
          have hnM : (Value.slice AM e.ms.length cM).ownBlock ≠ some (w.heap.size + 1) := own_blk HM4.out HY4.out (by decide)
          have hnI : (Value.slice AI e.it.length cI).ownBlock ≠ some (w.heap.size + 1) := own_blk HI4.out HY4.out (by decide)
          have hb5 := below_setN (B := w.heap.size) (a := w) (g := w.heap.size + 1) (by omega) (ecs e (.slice AM e.ms.length cM) (.slice AI e.it.length cI)) _ 0 HB4.out
          have hZ5 := BlkL.setN (ecs e (.slice AM e.ms.length cM) (.slice AI e.it.length cI)) _ _ 0 HY4.out
          have hM5 := own_setN hnM (ecs e (.slice AM e.ms.length cM) (.slice AI e.it.length cI)) _ 0 HM4.out
          have hI5 := own_setN hnI (ecs e (.slice AM e.ms.length cM) (.slice AI e.it.length cI)) _ 0 HI4.out
          change bodyPost _ _ _ _ _ (World.setN wr (w.heap.size + 1) 0 (ecs e (.slice AM e.ms.length cM) (.slice AI e.it.length cI)))
          generalize World.setN wr (w.heap.size + 1) 0 (ecs e (.slice AM e.ms.length cM) (.slice AI e.it.length cI)) = w5 at *
          have k0 : w5.cell? ⟨w.heap.size + 1, 0, none⟩ = some (.int .i64 e.W) := (hZ5.cell 0).trans rfl
          have k1 : w5.cell? ⟨w.heap.size + 1, 1, none⟩ = some (.int .i64 e.col) := (hZ5.cell 1).trans rfl
          have k2 : w5.cell? ⟨w.heap.size + 1, 2, none⟩ = some (.int .i64 e.pend) := (hZ5.cell 2).trans rfl
          have k3 : w5.cell? ⟨w.heap.size + 1, 3, none⟩ = some (.slice AM e.ms.length cM) := (hZ5.cell 3).trans rfl
          have k4 : w5.cell? ⟨w.heap.size + 1, 4, none⟩ = some (.slice AI e.it.length cI) := (hZ5.cell 4).trans rfl
          have k5 : w5.cell? ⟨w.heap.size + 1, 5, none⟩ = some (.int .i64 e.tot) := (hZ5.cell 5).trans rfl
          have k6 : w5.cell? ⟨w.heap.size + 1, 6, none⟩ = some (.int .i64 e.lev) := (hZ5.cell 6).trans rfl
          refine bodyPost_ret (v := ev e AM cM AI cI) (by simp [results, Try.results52, go_sem, k0, k1, k2, k3, k4, k5, k6, ev]) rfl ⟨AM, cM, AI, cI, rfl, hM5, hI5, ?_, hb5⟩
          exact own_cap hI5
theorem l05Copy_any (e : En) (A : Option Addr) (c : Nat) (A2 : Option Addr) (c2 : Nat) (w : World) (hm : e.ms.length ≤ 2097152) (hi : e.it.length ≤ 2097152) (h1 : MS w A e.ms) (h2 : HS w A2 e.it) :
    Calls Try.prog 52 #[.agg #[.int .i64 e.W, .int .i64 e.col, .int .i64 e.pend, .slice A e.ms.length c, .slice A2 e.it.length c2, .int .i64 e.tot, .int .i64 e.lev]] w fun r w' => ∃ A c A2 c2, r = .returned (ev e A c A2 c2) ∧ OR fm 121 w' w.heap.size (.slice A e.ms.length c) e.ms ∧ OR fh 80 w' w.heap.size (.slice A2 e.it.length c2) e.it ∧ e.it.length ≤ c2 ∧ Below w.heap.size w w' :=
  (l05Copy_own e A c A2 c2 w hm hi h1 h2).mono (by rintro r w' ⟨A, c, A2, c2, h, a, b, d⟩; exact ⟨A, c, A2, c2, h, OR.of_own fm_len rfl a, OR.of_own fh_len rfl b, d⟩)
end Go.Proofs.Ytegjgbgnpkncbab
