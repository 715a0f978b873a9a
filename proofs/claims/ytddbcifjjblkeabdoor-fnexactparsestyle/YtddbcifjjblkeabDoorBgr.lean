/-
  (*strings.Builder).Grow at a builder that has not been written.
-/
import Derived.Test.YtddbcifjjblkeabDoorBlw
import Derived.Test.YtddbcifjjblkeabDoorBwd
import Derived.Test.YtddbcifjjblkeabDoorStm
import Derived.Lib.MakeNoZero
import Derived.RegionTactic
namespace Go.Proofs.YtddbcifjjblkeabDoor
open Go.RowKit
set_option linter.unusedVariables false

set_option maxHeartbeats 2000000 in
set_option maxRecDepth 100000 in
theorem grow_new (B b n : Nat) (w : World) (hB : B ≤ b) (hbk : BlkL w b 44 [.pointer (some ⟨b, 0, none⟩), .slice none 0 0]) (hBw : B ≤ w.heap.size) (hn : n ≤ 1000000000) :
    Calls Tryd.prog 27 #[.pointer (some ⟨b, 0, none⟩), .int .i64 n] w fun e w' => e = .returned (.tuple #[]) ∧ (Lib.BuilderAt 44 5 B b (.pointer (some ⟨b, 0, none⟩)) [] w' ∧ Below B w w') := by
  obtain ⟨cs, hrun, hle, hmax⟩ := Lib.run_makeNoZero (P := Tryd.prog) w.drew #[3] 41 5 Tryd.underlying41 n (by omega)
  have hcall : (callFunc 33 #[.int .i64 n]).run Tryd.prog w.drew = .ok (.value (.slice (some ⟨w.heap.size, 0, none⟩) n cs.size)) (w.drew.drew.drew.alloc (.cells cs 5)) := by
    rw [run_callFunc_extern Tryd.func33 (by kernel_rfl) (by kernel_rfl) (by kernel_rfl) (e := Extern.BytealgMakeNoZero.makeNoZero #[3] #[41]) (by kernel_rfl), hrun]
    rfl
  have hcl := hmax (by unfold maxLen; omega)
  have HCL := Lib.hid hcl
  have c1 := (hbk.cell 1).trans rfl
  have r1 := Bw.rd c1
  have HBK := Lib.hid hbk
  have HCALL := Lib.hid hcall
  have hne : Nonempty (Cl (Bw w)) := ⟨⟨_, Bw.start w⟩⟩
  clear hcall hrun hmax hbk c1 hcl
  go_enter Tryd.func27, Tryd.ntmps27
  go_wp2
  refine wp_region_stages [0, 0, 0, 0, 0, 0, 0, 0, 1, 0, 0, 0, 0, 0, 2, 3] 1 (fun w' => ∃ y : Cl (Bw w), w' = y.W) (by kernel_rfl) (by kernel_rfl) ⟨⟨_, Bw.start w⟩, rfl⟩ ?_
  simp only [Stage.stages, Stage.pickC, Nat.reduceBEq, Nat.reduceMul, Nat.reduceAdd, cond_true, cond_false, List.map_cons, List.map_nil]
  refine stage_more ?_
  repeat (go_big_quiet_step (fail))
  refine wpQuiet_nil ?_
  intro K hK
  unfold Chain.mov
  go_simp
  rw [HCALL.out]
  simp only [Chain.movUpon]
  have hb5 : Below w.heap.size w (w.drew.drew.drew.alloc (.cells cs 5)) := (((Below.refl w.heap.size w).drew.drew).drew).alloc (Nat.le_refl _) _
  refine hK _ _ ⟨⟨⟨_, hb5⟩, rfl⟩, ?_⟩
  clear hK K r1
  have hk5 := HBK.out.below hb5 HBK.out.lt
  have hrow : (w.drew.drew.drew.alloc (.cells cs 5)).heap[w.heap.size]? = some (.cells cs 5 (0, 0)) := by
    show (w.heap.push _)[w.heap.size]? = _
    simp
  have hsz5 : w.heap.size < (w.drew.drew.drew.alloc (.cells cs 5)).heap.size := by simp
  have HB5 := Lib.hid (show Below B w (w.drew.drew.drew.alloc (.cells cs 5)) from (((Below.refl B w).drew.drew).drew).alloc hBw _)
  generalize w.drew.drew.drew.alloc (.cells cs 5) = W5 at *
  refine stage_last ?_
  repeat (go_big_quiet_step (fail))
  refine wpQuiet_nil ?_
  have c1 := (hk5.cell 1).trans rfl
  have f1 := hk5.frozen 1
  have hbl := hk5.lt
  have hc : ∀ V : World, (Builtin.copy_ #[41, 41] 3 #[.slice (some ⟨w.heap.size, 0, none⟩) 0 cs.size, .slice none 0 0]).run Tryd.prog V = .ok (goInt 0) V := fun V => run_copy_none V 41 41 3 5 _ _ 0 cs.size 0 0 Tryd.underlying41 (by kernel_rfl) rfl
  go_wp2
  go_end0
  have hown : W5.ownsRow B 5 1 (.slice (some ⟨w.heap.size, 0, none⟩) 0 cs.size) ([] : List Value).length [] :=
    ⟨rfl, .inr ⟨w.heap.size, cs.size, cs, rfl, hBw, hrow, Nat.zero_le _, HCL.out, by simp, by simp⟩⟩
  exact ⟨rfl, Lib.BuilderAt.put hB hk5 hown (by decide), HB5.out.setCell (p := ⟨b, 1, none⟩) hB _⟩
set_option maxHeartbeats 2000000 in
set_option maxRecDepth 100000 in
theorem Grow_new (B b n : Nat) (w : World) (hB : B ≤ b) (hbk : BlkL w b 44 [.pointer none, .slice none 0 0]) (hBw : B ≤ w.heap.size) (h0 : 0 < n) (hn : n ≤ 1000000000) :
    Calls Tryd.prog 22 #[.pointer (some ⟨b, 0, none⟩), .int .i64 n] w fun e w' => e = .returned (.tuple #[]) ∧ (Lib.BuilderAt 44 5 B b (.pointer (some ⟨b, 0, none⟩)) [] w' ∧ Below B w w') := by
  have hblt := hbk.lt
  have hk1 := hbk.set 0 (.pointer (some ⟨b, 0, none⟩))
  have hb1 := (Below.refl B w).setCell (p := ⟨b, 0, none⟩) hB (.pointer (some ⟨b, 0, none⟩))
  have hz1 : (w.setCell ⟨b, 0, none⟩ (.pointer (some ⟨b, 0, none⟩))).heap.size = w.heap.size := by simp [World.setCell]
  have hsh : w.shape? b = some (44, 2) := by
    unfold BlkL at hbk
    simp [World.shape?, hbk]
  go_enter Tryd.func22, Tryd.ntmps22
  go_wp2_with fail
  refine (copyCheck_new b w ((hbk.cell 0).trans rfl) hsh (hbk.frozen 0)).mono ?_
  rintro e w1 ⟨rfl, rfl⟩
  simp only [List.set_cons_zero] at hk1
  have HB1 := Lib.hid hb1
  have hW1 : B ≤ (w.setCell ⟨b, 0, none⟩ (.pointer (some ⟨b, 0, none⟩))).heap.size := by omega
  clear hb1 hsh hz1
  generalize w.setCell ⟨b, 0, none⟩ (.pointer (some ⟨b, 0, none⟩)) = W1 at *
  have r1 := Bw.rd ((hk1.cell 1).trans rfl)
  have hn0 : decide ((n : Int) < 0) = false := by simp
  have hlt0 : decide ((0 : Int) < (n : Int)) = true := by simp; omega
  have hlt1 : (0 : Int) < (n : Int) := by omega
  go_wp2_with fail
  refine wp_region_class (Bw W1) (by kernel_rfl) (by kernel_rfl) (Bw.start W1) (fun hne => ?_)
  repeat (go_big_quiet_step (fail))
  refine wpQuiet_nil ?_
  rintro w3 ⟨x, rfl⟩
  have hx : Below W1.heap.size W1 x.W := x.ok
  have hk3 := hk1.below hx hk1.lt
  have HB3 := Lib.hid (HB1.out.trans (hx.mono hW1))
  have hz3 : B ≤ x.W.heap.size := Nat.le_trans hW1 hx.size
  clear r1 hk1 hx
  generalize x.W = W3 at *
  go_wp2_with fail
  refine (grow_new B b n W3 hB hk3 hz3 hn).mono ?_
  rintro e w4 ⟨rfl, h4, hb4⟩
  have HB4 := Lib.hid (HB3.out.trans hb4)
  clear hb4
  go_wp2
  go_end0
  exact ⟨rfl, h4, HB4.out⟩
end Go.Proofs.YtddbcifjjblkeabDoor
