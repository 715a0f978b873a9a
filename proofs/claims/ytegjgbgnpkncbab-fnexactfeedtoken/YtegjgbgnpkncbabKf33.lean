/-
  Stages of a region, opened one by one; a class of worlds in which all below a bound stays.
-/
import Derived.Test.YtegjgbgnpkncbabKf32
namespace Go.Proofs.Ytegjgbgnpkncbab
open Go.RowKit
set_option linter.unusedVariables false
theorem quiet_mono {P : Program} {ops : Array Oper} {S : World → Prop} : ∀ (l0 : List Oper) (a0 : Act) (A B : Act → Prop), (∀ x, A x → B x) → wpQuiet P ops S A l0 a0 → wpQuiet P ops S B l0 a0
  | [], a0, A, B, h1, h2 => h1 _ h2
  | o :: l0, a0, A, B, h1, h2 => by
    unfold wpQuiet at h2 ⊢
    split
    · rename_i hw
      rw [if_pos hw] at h2
      exact Oper.quiet_mono (fun a1 h3 => quiet_mono l0 _ A B h1 h3) h2
    · rename_i hw
      rw [if_neg hw] at h2
      exact quiet_mono l0 _ A B h1 h2
theorem stage_more {P : Program} {S : World → Prop} {ops : Array Oper} {Q : Exit → Act → World → Prop} {H : List Oper} {t : Oper} {x : List Oper × List Oper} {rest : List (List Oper × List Oper)} {a : Act} {w : World}
    (h : wpQuiet P ops S (fun a' => ∀ K : Act → World → Prop, (∀ a w, S w ∧ Stage.stageW P S ops Q (x :: rest) a w → K a w) → Chain.mov P t a' w (fun v w2 => K (a'.put t.dst v) w2)) H a) : Stage.stageW P S ops Q ((H, [t]) :: x :: rest) a w := by
  unfold Stage.stageW
  exact quiet_mono _ _ _ _ (fun a' h => h (fun a w => S w ∧ Stage.stageW P S ops Q (x :: rest) a w) (fun _ _ h => h)) h
theorem stage_last {P : Program} {S : World → Prop} {ops : Array Oper} {Q : Exit → Act → World → Prop} {H T : List Oper} {a : Act} {w : World} (h : wpQuiet P ops S (fun a' => wpList P ops Q T a' w) H a) : Stage.stageW P S ops Q [(H, T)] a w := by
  unfold Stage.stageW
  exact h
theorem mov_append {P : Program} {o : Oper} {a : Act} {V V2 : World} {G : Value → World → Prop} {s x : Operand} {t : TypeId} {v u v' : Value} (hop : o.op = .call { callee := .builtin .append, args := #[s, x], argTypes := #[t, t] }) (hs : a.eval s = v) (hx : a.eval x = u)
    (hrun : (Builtin.append_ #[t, t] o.type #[v, u]).run P V = .ok v' V2) (h : G v' V2) : Chain.mov P o a V G := by
  have e : (execOp a.eval o).run P V = .ok (.value v') V2 := by simp [execOp, hop, resolve, invoke, builtin, hs, hx, hrun, Result.andThen]
  unfold Chain.mov
  rw [e]
  exact h
/-- a world in which all of w below B is as it was. -/
structure KB (B : Nat) (w : World) where
  W : World
  ok : Below B w W
theorem KB.rd {B : Nat} {w : World} {a : Addr} {v : Value} (h : w.cell? a = some v) (hB : a.block < B) : ∀ x : KB B w, x.W.cell? a = some v := fun x => (x.ok.cell hB).trans h
theorem KB.start (B : Nat) (w : World) : ∃ x : KB B w, w.drew = x.W := ⟨⟨w.drew, (Below.refl _ _).drew⟩, rfl⟩
theorem KB.mk' {B : Nat} {w w' : World} (h : Below B w w') : ∃ x : KB B w, w' = x.W := ⟨⟨w', h⟩, rfl⟩
end Go.Proofs.Ytegjgbgnpkncbab
