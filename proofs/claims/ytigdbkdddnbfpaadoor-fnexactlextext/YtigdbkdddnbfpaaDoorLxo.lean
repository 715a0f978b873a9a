/-
  The answer of LexText in memory of its own: marked, and read again.
-/
import Derived.Test.YtigdbkdddnbfpaaDoorOrw
import Derived.Test.YtigdbkdddnbfpaaDoorLxz
namespace Go.Proofs.YtigdbkdddnbfpaaDoor
open Go.RowKit
set_option linter.unusedVariables false

theorem lxG_len (s : ByteArray) (f : Nat) : ∀ (a : Nat) (out : List Lx), out.length ≤ 200 → (lxG s f a out).1.length ≤ 200 := by
  induction f with
  | zero => intro a out h; exact h
  | succ f ih =>
    intro a out h
    simp only [lxG]
    split
    · exact h
    · split
      · exact ih _ _ h
      · split
        · simp
        · rename_i hr
          have := rd_cnt hr
          exact ih _ _ (by simp; omega)
theorem lxA_len (s : ByteArray) : (lxA s).1.length ≤ 200 := by
  unfold lxA
  split
  · simp
  · exact lxG_len s _ _ _ (by simp)
theorem markLexemeS_nil (A : Option Addr) (c : Nat) (x : Int) (w : World) : Calls Tryd.prog 8 #[.slice A 0 c, .int .i64 x] w fun r w' => r = .returned (.int .i64 x) ∧ Below w.heap.size w w' := by
  go_enter Tryd.func8, Tryd.ntmps8
  go_wp2
  go_loopw [1, 5] (fun y i wr => i = .int .i64 0 ∧ y = .int .i64 x ∧ Below w.heap.size w wr) (fun _ i _ => 0)
  case atStart => exact ⟨rfl, rfl, Below.refl _ _⟩
  case round =>
    obtain ⟨rfl, rfl, hb⟩ := hrel
    go_wp2
    go_ret
    exact ⟨rfl, hb⟩
theorem markLexemeS_or (A : Option Addr) (c B : Nat) (l : List Lx) (x : Int) (w : World) (hB : B ≤ w.heap.size) (hm : l.length ≤ 2097152) (hx0 : 0 ≤ x) (hx1 : x ≤ 900000000) (h : OR fx 34 w B (.slice A l.length c) l) :
    Calls Tryd.prog 8 #[.slice A l.length c, .int .i64 x] w fun r w' => r = .returned (.int .i64 (x + 3 * l.length)) ∧ OR fx 34 w' B (.slice A l.length c) (mkF (mkLx x) l l.length) ∧ Below B w w' := by
  rcases h with ⟨⟨A', c', hv⟩, rfl⟩ | ⟨g, c', rest, hv, hg, hk⟩
  · refine (markLexemeS_nil A c x w).mono ?_
    rintro r w' ⟨rfl, hb⟩
    exact ⟨by simp, .inl ⟨⟨_, _, rfl⟩, rfl⟩, hb.mono hB⟩
  · injection hv with hA _ _
    subst hA
    refine (markLexemeS_blk g l rest _ c x w rfl hm hx0 hx1 hk).mono ?_
    rintro r w' ⟨rfl, hb, hgr⟩
    exact ⟨rfl, .mk hg (mkF_length _ _ _) hb, (Below.refl B w).grown hgr hB (fun k hk => by injection hk with hk; omega)⟩
end Go.Proofs.YtigdbkdddnbfpaaDoor
