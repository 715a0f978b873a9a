/-
  Rows of a call's own, by other names (for seats without the lexemes' texts).
-/
import Derived.Test.YthjkgbcomjiejaaGreatDoorKk04
import Derived.Test.YthjkgbcomjiejaaGreatDoorKk03
import Derived.Maps.AppendAt
namespace Go.Proofs.YthjkgbcomjiejaaGreatDoor
open Go.RowKit
set_option linter.unusedVariables false

set_option maxHeartbeats 1000000 in
set_option maxRecDepth 100000 in
theorem l01New_any (A : Option Addr) (n c : Nat) (w : World) (hm : n ≤ 1048576) (hb : BS w A n) :
    Calls Tryz.prog 23 #[.slice A n c] w fun e w' => ∃ p, w.heap.size ≤ p ∧ e = .returned (.pointer (some ⟨p, 0, none⟩)) ∧ Cur w' p A n c ∧ Below w.heap.size w w' := by
  go_enter Tryz.func23, Tryz.ntmps23
  go_wp2
  go_loopw [3, 4] (fun hv iv wr => ∃ (i : Nat) (h : Int), i ≤ n ∧ hv = .int .i64 h ∧ iv = .int .i64 i ∧ BS wr A n ∧ Below w.heap.size w wr) (fun _ iv _ => n - (intOf iv).toNat)
  case atStart => exact ⟨0, _, Nat.zero_le _, rfl, rfl, hb, Below.refl _ _⟩
  case round =>
    obtain ⟨i, h, hi, rfl, rfl, hbs, hbw⟩ := hrel
    have HBS := Lib.hid hbs
    have HBW := Lib.hid hbw
    clear hbw
    by_cases hlt : i < n
    · obtain ⟨b, o, x, rfl, hbl, cx, hx0, hx1⟩ := hbs i hlt
      clear hbs
      by_cases h4 : i < 4000
      · go_wp2
        try go_region
        try go_wp2
        go_roundw
        case rel => exact ⟨i + 1, _, by omega, rfl, by go_num, HBS.out, HBW.out⟩
        case measure => simp [intOf]; omega
      · go_wp2
        go_ret
        exact ⟨wr.heap.size, HBW.out.size, rfl, ⟨0, h, Nat.zero_le _, BlkL.new wr _ [_, _, _]⟩, HBW.out.alloc HBW.out.size _⟩
    · clear hbs
      go_wp2
      go_ret
      exact ⟨wr.heap.size, HBW.out.size, rfl, ⟨0, h, Nat.zero_le _, BlkL.new wr _ [_, _, _]⟩, HBW.out.alloc HBW.out.size _⟩

set_option maxHeartbeats 1000000 in
theorem l01Size_any (A : Option Addr) (n c m : Nat) (w : World) (hm : n ≤ 1048576) (hm2 : m ≤ 256) (hm1 : 2 ≤ m) :
    Calls Tryz.prog 53 #[.slice A n c, .int .i64 m] w fun e w' => (∃ x : Nat, e = .returned (.int .i64 x) ∧ 1 ≤ x ∧ x ≤ m) ∧ w = w' := by
  go_enter Tryz.func53, Tryz.ntmps53
  by_cases h : (m : Int) < 2 + (n : Int) / 16
  · go_wp2
    go_ret
    exact ⟨⟨m, rfl, by omega, by omega⟩, rfl⟩
  · go_wp2
    go_ret
    refine ⟨⟨2 + n / 16, ?_, by omega, by omega⟩, rfl⟩
    go_num

theorem Cur.alloc {w : World} {p : Nat} {A : Option Addr} {n c : Nat} (h : Cur w p A n c) (o : Obj) : Cur (w.alloc o) p A n c := by
  obtain ⟨i, x, hi, hb⟩ := h
  exact ⟨i, x, hi, hb.alloc o⟩
theorem BS.alloc {w : World} {A : Option Addr} {n : Nat} (h : BS w A n) (o : Obj) : BS (w.alloc o) A n := by
  intro i hi
  obtain ⟨b, off, x, rfl, hb, hc, hx⟩ := h i hi
  exact ⟨b, off, x, rfl, by simp; omega, (World.cell?_of_block (Below.heap_alloc w o b hb)).trans hc, hx⟩
theorem gB_alloc {A B : World} {p : Nat} (h : A.grownBy B (some p)) (o : Obj) : A.grownBy (B.alloc o) (some p) := gB_tr h (gB_below p ((Below.refl _ B).alloc (Nat.le_refl _) o))
theorem Cur.lt {w : World} {p : Nat} {A : Option Addr} {n c : Nat} (h : Cur w p A n c) : p < w.heap.size := by obtain ⟨i, x, hi, hb⟩ := h; exact hb.lt
end Go.Proofs.YthjkgbcomjiejaaGreatDoor
namespace Go.Proofs.YthjkgbcomjiejaaGreatDoor
open Go.RowKit
set_option linter.unusedVariables false
theorem os_below {w w' : World} {B z n : Nat} {e : TypeId} {v : Value} {xs : List Value} (h : w.ownsRow B e z v n xs) (hb : Below w.heap.size w w') : w'.ownsRow B e z v n xs := by
  rcases h.2 with hn | ⟨g, cap, cur, hv, hbg, hg, rest⟩
  · exact ⟨h.1, .inl hn⟩
  · exact ⟨h.1, .inr ⟨g, cap, cur, hv, hbg, (hb.block g (Array.getElem?_eq_some_iff.1 hg).1).trans hg, rest⟩⟩
theorem os_slice {w : World} {B z : Nat} {e : TypeId} {v : Value} {n : Nat} {xs : List Value} (h : w.ownsRow B e z v n xs) : ∃ A c, v = .slice A n c := by
  rcases h.2 with ⟨rfl, rfl⟩ | ⟨g, cap, cur, rfl, _⟩
  · exact ⟨none, 0, rfl⟩
  · exact ⟨_, _, rfl⟩
theorem os_lit0 (w : World) (e : TypeId) : (w.alloc (.cells #[] e)).ownsRow w.heap.size e 1 (.slice (some ⟨w.heap.size, 0, none⟩) 0 0) 0 [] := by
  refine ⟨rfl, .inr ⟨w.heap.size, 0, #[], rfl, Nat.le_refl _, BlkL.new w e [], Nat.le_refl _, by unfold maxLen; omega, rfl, rfl⟩⟩
theorem os_nil (w : World) (B z : Nat) (e : TypeId) : w.ownsRow B e z (.slice none 0 0) 0 [] := ⟨by simp, .inl ⟨rfl, rfl⟩⟩
theorem os_str (s : ByteArray) : ∀ u ∈ [Value.string s], u.oneCell' = true := by
  intro u hu
  simp at hu
  subst hu
  rfl
theorem os_int (x : Int) : ∀ u ∈ [Value.int .i64 x], u.oneCell' = true := by
  intro u hu
  simp at hu
  subst hu
  rfl
end Go.Proofs.YthjkgbcomjiejaaGreatDoor
