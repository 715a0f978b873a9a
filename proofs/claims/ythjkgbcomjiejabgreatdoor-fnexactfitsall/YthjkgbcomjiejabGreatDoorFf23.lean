/-
  (*strings.Builder).Grow at a builder that has not been written.
-/
import Derived.Test.YthjkgbcomjiejabGreatDoorFf22
import Derived.Test.YthjkgbcomjiejabGreatDoorFf18
import Derived.Test.YthjkgbcomjiejabGreatDoorFf19
import Derived.Lib.MakeNoZero
import Derived.RegionTactic
namespace Go.Proofs.YthjkgbcomjiejabGreatDoor
open Go.RowKit
set_option linter.unusedVariables false
theorem quiet_mono {P : Program} {ops : Array Oper} {S : World → Prop} : ∀ (l0 : List Oper) (a0 : Act) (A B : Act → Prop), (∀ x, A x → B x) → wpQuiet P ops S A l0 a0 → wpQuiet P ops S B l0 a0
  | [], a0, A, B, h1, h2 => h1 _ h2
  | o :: l0, a0, A, B, h1, h2 => by
    unfold wpQuiet at h2 ⊢
    split
    · rename_i hw
      rw [if_pos hw] at h2
      exact Oper.quiet_mono (fun a1 h3 => quiet_mono l0 _ A B h1 h3) h2
    · rename_i hw
      rw [if_neg hw] at h2
      exact quiet_mono l0 _ A B h1 h2
theorem stage_more {P : Program} {S : World → Prop} {ops : Array Oper} {Q : Exit → Act → World → Prop} {H : List Oper} {t : Oper} {x : List Oper × List Oper} {rest : List (List Oper × List Oper)} {a : Act} {w : World}
    (h : wpQuiet P ops S (fun a' => ∀ K : Act → World → Prop, (∀ a w, S w ∧ Stage.stageW P S ops Q (x :: rest) a w → K a w) → Chain.mov P t a' w (fun v w2 => K (a'.put t.dst v) w2)) H a) : Stage.stageW P S ops Q ((H, [t]) :: x :: rest) a w := by
  unfold Stage.stageW
  exact quiet_mono _ _ _ _ (fun a' h => h (fun a w => S w ∧ Stage.stageW P S ops Q (x :: rest) a w) (fun _ _ h => h)) h
theorem stage_last {P : Program} {S : World → Prop} {ops : Array Oper} {Q : Exit → Act → World → Prop} {H T : List Oper} {a : Act} {w : World} (h : wpQuiet P ops S (fun a' => wpList P ops Q T a' w) H a) : Stage.stageW P S ops Q [(H, T)] a w := by
  unfold Stage.stageW
  exact h
theorem mov_append {P : Program} {o : Oper} {a : Act} {V V2 : World} {G : Value → World → Prop} {s x : Operand} {t : TypeId} {v u v' : Value} (hop : o.op = .call { callee := .builtin .append, args := #[s, x], argTypes := #[t, t] }) (hs : a.eval s = v) (hx : a.eval x = u)
    (hrun : (Builtin.append_ #[t, t] o.type #[v, u]).run P V = .ok v' V2) (h : G v' V2) : Chain.mov P o a V G := by
  have e : (execOp a.eval o).run P V = .ok (.value v') V2 := by simp [execOp, hop, resolve, invoke, builtin, hs, hx, hrun, Result.andThen]
  unfold Chain.mov
  rw [e]
  exact h
/-- a world in which all of w below B is as it was. -/
structure KB (B : Nat) (w : World) where
  W : World
  ok : Below B w W
theorem KB.rd {B : Nat} {w : World} {a : Addr} {v : Value} (h : w.cell? a = some v) (hB : a.block < B) : ∀ x : KB B w, x.W.cell? a = some v := fun x => (x.ok.cell hB).trans h
theorem KB.start (B : Nat) (w : World) : ∃ x : KB B w, w.drew = x.W := ⟨⟨w.drew, (Below.refl _ _).drew⟩, rfl⟩
theorem KB.mk' {B : Nat} {w w' : World} (h : Below B w w') : ∃ x : KB B w, w' = x.W := ⟨⟨w', h⟩, rfl⟩
end Go.Proofs.YthjkgbcomjiejabGreatDoor
namespace Go.Proofs.YthjkgbcomjiejabGreatDoor
open Go.RowKit
set_option linter.unusedVariables false

set_option maxHeartbeats 2000000 in
set_option maxRecDepth 100000 in
theorem grow_new (B b n : Nat) (w : World) (hB : B ≤ b) (hbk : BlkL w b 97 [.pointer (some ⟨b, 0, none⟩), .slice none 0 0]) (hBw : B ≤ w.heap.size) (hn : n ≤ 1000000000) :
    Calls Tryz.prog 111 #[.pointer (some ⟨b, 0, none⟩), .int .i64 n] w fun e w' => e = .returned (.tuple #[]) ∧ (Lib.BuilderAt 97 5 B b (.pointer (some ⟨b, 0, none⟩)) [] w' ∧ Below B w w') := by
  obtain ⟨cs, hrun, hle, hmax⟩ := Lib.run_makeNoZero (P := Tryz.prog) w.drew #[3] 54 5 Tryz.underlying54 n (by omega)
  have hcall : (callFunc 151 #[.int .i64 n]).run Tryz.prog w.drew = .ok (.value (.slice (some ⟨w.heap.size, 0, none⟩) n cs.size)) (w.drew.drew.drew.alloc (.cells cs 5)) := by
    rw [run_callFunc_extern Tryz.func151 (by kernel_rfl) (by kernel_rfl) (by kernel_rfl) (e := Extern.BytealgMakeNoZero.makeNoZero #[3] #[54]) (by kernel_rfl), hrun]
    rfl
  have hcl := hmax (by unfold maxLen; omega)
  have HCL := Lib.hid hcl
  have c1 := (hbk.cell 1).trans rfl
  have r1 := Bw.rd c1
  have HBK := Lib.hid hbk
  have HCALL := Lib.hid hcall
  have hne : Nonempty (Cl (Bw w)) := ⟨⟨_, Bw.start w⟩⟩
  clear hcall hrun hmax hbk c1 hcl
  go_enter Tryz.func111, Tryz.ntmps111
  go_wp2
  refine wp_region_stages [0, 0, 0, 0, 0, 0, 0, 0, 1, 0, 0, 0, 0, 0, 2, 3] 1 (fun w' => ∃ y : Cl (Bw w), w' = y.W) (by kernel_rfl) (by kernel_rfl) ⟨⟨_, Bw.start w⟩, rfl⟩ ?_
  simp only [Stage.stages, Stage.pickC, Nat.reduceBEq, Nat.reduceMul, Nat.reduceAdd, cond_true, cond_false, List.map_cons, List.map_nil]
  refine stage_more ?_
  repeat (go_big_quiet_step (fail))
  refine wpQuiet_nil ?_
  intro K hK
  unfold Chain.mov
  go_simp
  rw [HCALL.out]
  simp only [Chain.movUpon]
  have hb5 : Below w.heap.size w (w.drew.drew.drew.alloc (.cells cs 5)) := (((Below.refl w.heap.size w).drew.drew).drew).alloc (Nat.le_refl _) _
  refine hK _ _ ⟨⟨⟨_, hb5⟩, rfl⟩, ?_⟩
  clear hK K r1
  have hk5 := HBK.out.below hb5 HBK.out.lt
  have hrow : (w.drew.drew.drew.alloc (.cells cs 5)).heap[w.heap.size]? = some (.cells cs 5 (0, 0)) := by
    show (w.heap.push _)[w.heap.size]? = _
    simp
  have hsz5 : w.heap.size < (w.drew.drew.drew.alloc (.cells cs 5)).heap.size := by simp
  have HB5 := Lib.hid (show Below B w (w.drew.drew.drew.alloc (.cells cs 5)) from (((Below.refl B w).drew.drew).drew).alloc hBw _)
  generalize w.drew.drew.drew.alloc (.cells cs 5) = W5 at *
  refine stage_last ?_
  repeat (go_big_quiet_step (fail))
  refine wpQuiet_nil ?_
  have c1 := (hk5.cell 1).trans rfl
  have f1 := hk5.frozen 1
  have hbl := hk5.lt
  have hc : ∀ V : World, (Builtin.copy_ #[54, 54] 3 #[.slice (some ⟨w.heap.size, 0, none⟩) 0 cs.size, .slice none 0 0]).run Tryz.prog V = .ok (goInt 0) V := fun V => run_copy_none V 54 54 3 5 _ _ 0 cs.size 0 0 Tryz.underlying54 (by kernel_rfl) rfl
  go_wp2
  go_end0
  have hown : W5.ownsRow B 5 1 (.slice (some ⟨w.heap.size, 0, none⟩) 0 cs.size) ([] : List Value).length [] :=
    ⟨rfl, .inr ⟨w.heap.size, cs.size, cs, rfl, hBw, hrow, Nat.zero_le _, HCL.out, by simp, by simp⟩⟩
  exact ⟨rfl, Lib.BuilderAt.put hB hk5 hown (by decide), HB5.out.setCell (p := ⟨b, 1, none⟩) hB _⟩
set_option maxHeartbeats 2000000 in
set_option maxRecDepth 100000 in
theorem Grow_new (B b n : Nat) (w : World) (hB : B ≤ b) (hbk : BlkL w b 97 [.pointer none, .slice none 0 0]) (hBw : B ≤ w.heap.size) (h0 : 0 < n) (hn : n ≤ 1000000000) :
    Calls Tryz.prog 70 #[.pointer (some ⟨b, 0, none⟩), .int .i64 n] w fun e w' => e = .returned (.tuple #[]) ∧ (Lib.BuilderAt 97 5 B b (.pointer (some ⟨b, 0, none⟩)) [] w' ∧ Below B w w') := by
  have hblt := hbk.lt
  have hk1 := hbk.set 0 (.pointer (some ⟨b, 0, none⟩))
  have hb1 := (Below.refl B w).setCell (p := ⟨b, 0, none⟩) hB (.pointer (some ⟨b, 0, none⟩))
  have hz1 : (w.setCell ⟨b, 0, none⟩ (.pointer (some ⟨b, 0, none⟩))).heap.size = w.heap.size := by simp [World.setCell]
  have hsh : w.shape? b = some (97, 2) := by
    unfold BlkL at hbk
    simp [World.shape?, hbk]
  go_enter Tryz.func70, Tryz.ntmps70
  go_wp2_with fail
  refine (copyCheck_new b w ((hbk.cell 0).trans rfl) hsh (hbk.frozen 0)).mono ?_
  rintro e w1 ⟨rfl, rfl⟩
  simp only [List.set_cons_zero] at hk1
  have HB1 := Lib.hid hb1
  have hW1 : B ≤ (w.setCell ⟨b, 0, none⟩ (.pointer (some ⟨b, 0, none⟩))).heap.size := by omega
  clear hb1 hsh hz1
  generalize w.setCell ⟨b, 0, none⟩ (.pointer (some ⟨b, 0, none⟩)) = W1 at *
  have r1 := Bw.rd ((hk1.cell 1).trans rfl)
  have hn0 : decide ((n : Int) < 0) = false := by simp
  have hlt0 : decide ((0 : Int) < (n : Int)) = true := by simp; omega
  have hlt1 : (0 : Int) < (n : Int) := by omega
  go_wp2_with fail
  refine wp_region_class (Bw W1) (by kernel_rfl) (by kernel_rfl) (Bw.start W1) (fun hne => ?_)
  repeat (go_big_quiet_step (fail))
  refine wpQuiet_nil ?_
  rintro w3 ⟨x, rfl⟩
  have hx : Below W1.heap.size W1 x.W := x.ok
  have hk3 := hk1.below hx hk1.lt
  have HB3 := Lib.hid (HB1.out.trans (hx.mono hW1))
  have hz3 : B ≤ x.W.heap.size := Nat.le_trans hW1 hx.size
  clear r1 hk1 hx
  generalize x.W = W3 at *
  go_wp2_with fail
  refine (grow_new B b n W3 hB hk3 hz3 hn).mono ?_
  rintro e w4 ⟨rfl, h4, hb4⟩
  have HB4 := Lib.hid (HB3.out.trans hb4)
  clear hb4
  go_wp2
  go_end0
  exact ⟨rfl, h4, HB4.out⟩
end Go.Proofs.YthjkgbcomjiejabGreatDoor
