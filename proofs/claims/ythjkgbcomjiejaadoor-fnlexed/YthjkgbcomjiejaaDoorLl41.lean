/-
  The model's levels: what l02Levels gives at every list of tokens.
-/
import Derived.Test.YthjkgbcomjiejaaDoorLl07
import Derived.Maps.AppendAt
namespace Go.Proofs.YthjkgbcomjiejaaDoor
open Go.RowKit

/-- the levels of the first k places. -/
def levsTo (l : List Tk) (k : Nat) : List Int := (List.range k).map (levI l)
theorem levsTo_succ (l : List Tk) (k : Nat) : levsTo l (k + 1) = levsTo l k ++ [levI l k] := by
  simp [levsTo, List.range_succ]
theorem levsTo_length (l : List Tk) (k : Nat) : (levsTo l k).length = k := by simp [levsTo]
theorem levsTo_all (l : List Tk) : levsTo l l.length = levs l := rfl

def LevPost (w : World) (l : List Tk) (e : Ending) (w' : World) : Prop :=
  ∃ (A : Option Addr) (m c : Nat) (d : Int), e = .returned (.tuple #[.slice A m c, .int .i64 d, .bool (strB l)]) ∧ Below w.heap.size w w' ∧
    (strB l = true → d = mxN l l.length ∧ m = l.length ∧ w'.ownsRow w.heap.size 3 1 (.slice A m c) m (nums (levs l)))

theorem own_slice1 {w : World} {base : Nat} {e : TypeId} {v : Value} {n : Nat} {xs : List Value} (h : w.ownsRow base e 1 v n xs) : ∃ A c, v = .slice A n c ∧ (∀ b, A.map (·.block) = some b → base ≤ b ∧ b < w.heap.size) := by
  have hlt := h.lt
  rcases h.2 with ⟨rfl, rfl⟩ | ⟨g, cap, cur, rfl, _⟩
  · exact ⟨none, 0, rfl, fun b hb => by simp at hb⟩
  · exact ⟨_, cap, rfl, fun b hb => by simp at hb; subst hb; exact hlt g rfl⟩

theorem lev_no {w w' : World} {l : List Tk} (hS : strB l = false) (hB : Below w.heap.size w w') : LevPost w l (.returned (.tuple #[.slice none 0 0, .int .i64 0, .bool false])) w' :=
  ⟨none, 0, 0, 0, by rw [hS], hB, fun h => absurd h (by rw [hS]; simp)⟩
theorem lev_yes {w w' : World} {l : List Tk} {v : Value} {n : Nat} {d : Int} {b : Bool} (hn : l.length = n) (h4 : n ≤ 400) (hok : okN l n = true) (hd : mxN l n = d) (hb : decide (opN l n = 0) = b) (hB : Below w.heap.size w w') (hO : w'.ownsRow w.heap.size 3 1 v n (nums (levsTo l n))) : LevPost w l (.returned (.tuple #[v, .int .i64 d, .bool b])) w' := by
  subst hn
  obtain ⟨A, c, rfl, _⟩ := own_slice1 hO
  refine ⟨A, l.length, c, d, ?_, hB, fun _ => ⟨hd.symm, rfl, hO⟩⟩
  rw [strB_end h4 hok, hb]
theorem ownsRow_keep {w w' : World} {B : Nat} {e : TypeId} {v : Value} {n : Nat} {xs : List Value} (h : w.ownsRow B e 1 v n xs) (hb : Below w.heap.size w w') : w'.ownsRow B e 1 v n xs :=
  h.kept (World.grownBy.mk hb.os hb.tape hb.output hb.size (fun i hi _ => hb.block i hi) : w.grownBy w' none) (by cases v.ownBlock <;> simp)
theorem nums_snoc {l : List Tk} {k : Nat} {x : Int} (h : levI l k = x) : nums (levsTo l k) ++ [Value.int .i64 x] = nums (levsTo l (k + 1)) := by
  rw [levsTo_succ, h]; simp [nums]
/-- behind the append: the old memory is as it was. -/
theorem lev_below {w w2 w3 : World} {o : Obj} {e : TypeId} {v : Value} {n : Nat} {xs : List Value} (hB : Below w.heap.size w w2) (hown : w2.ownsRow w.heap.size e 1 v n xs) (hg : (w2.alloc o).grownBy w3 v.ownBlock) : Below w.heap.size w w3 :=
  (hB.alloc hB.size o).grown hg (Nat.le_trans hB.size (by simp)) (fun k hk => (hown.lt k hk).1)

end Go.Proofs.YthjkgbcomjiejaaDoor
