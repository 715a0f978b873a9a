/-
  The draws: a new cursor, a drawn token.
-/
import Derived.Test.YteoigpohmgjcbaaDrw
import Derived.Test.YteoigpohmgjcbaaInts
namespace Go.Proofs.Yteoigpohmgjcbaa
open Go.RowKit
set_option linter.unusedVariables false

set_option maxHeartbeats 1000000 in
set_option maxRecDepth 100000 in
theorem l01New_any (A : Option Addr) (n c : Nat) (w : World) (hm : n ≤ 1048576) (hb : BS w A n) :
    Calls Try.prog 68 #[.slice A n c] w fun e w' => ∃ p, w.heap.size ≤ p ∧ e = .returned (.pointer (some ⟨p, 0, none⟩)) ∧ Cur w' p A n c ∧ Below w.heap.size w w' := by
  go_enter Try.func68, Try.ntmps68
  go_wp2
  go_loopw [3, 4] (fun hv iv wr => ∃ (i : Nat) (h : Int), i ≤ n ∧ hv = .int .i64 h ∧ iv = .int .i64 i ∧ BS wr A n ∧ Below w.heap.size w wr) (fun _ iv _ => n - (intOf iv).toNat)
  case atStart => exact ⟨0, _, Nat.zero_le _, rfl, rfl, hb, Below.refl _ _⟩
  case round =>
    obtain ⟨i, h, hi, rfl, rfl, hbs, hbw⟩ := hrel
    have HBS := Lib.hid hbs
    have HBW := Lib.hid hbw
    clear hbw
    by_cases hlt : i < n
    · obtain ⟨b, o, x, rfl, hbl, cx, hx0, hx1⟩ := hbs i hlt
      clear hbs
      by_cases h4 : i < 4000
      · go_wp2
        try go_region
        try go_wp2
        go_roundw
        case rel => exact ⟨i + 1, _, by omega, rfl, by go_num, HBS.out, HBW.out⟩
        case measure => simp [intOf]; omega
      · go_wp2
        go_ret
        exact ⟨wr.heap.size, HBW.out.size, rfl, ⟨0, h, Nat.zero_le _, BlkL.new wr _ [_, _, _]⟩, HBW.out.alloc HBW.out.size _⟩
    · clear hbs
      go_wp2
      go_ret
      exact ⟨wr.heap.size, HBW.out.size, rfl, ⟨0, h, Nat.zero_le _, BlkL.new wr _ [_, _, _]⟩, HBW.out.alloc HBW.out.size _⟩

set_option maxHeartbeats 1000000 in
theorem l01Size_any (A : Option Addr) (n c m : Nat) (w : World) (hm : n ≤ 1048576) (hm2 : m ≤ 256) (hm1 : 2 ≤ m) :
    Calls Try.prog 87 #[.slice A n c, .int .i64 m] w fun e w' => (∃ x : Nat, e = .returned (.int .i64 x) ∧ 1 ≤ x ∧ x ≤ m) ∧ w = w' := by
  go_enter Try.func87, Try.ntmps87
  by_cases h : (m : Int) < 2 + (n : Int) / 16
  · go_wp2
    go_ret
    exact ⟨⟨m, rfl, by omega, by omega⟩, rfl⟩
  · go_wp2
    go_ret
    refine ⟨⟨2 + n / 16, ?_, by omega, by omega⟩, rfl⟩
    go_num

/-- a token in a block of its own, beside the cursor. -/
structure St (w0 : World) (tb p : Nat) (A : Option Addr) (n c : Nat) (t : Tk) (W : World) : Prop where
  tok : BlkL W tb 45 [.int .i64 t.k, .string t.s, .int .i64 t.d, .int .i64 t.o]
  cur : Cur W p A n c
  bytes : BS W A n
  ne : ∀ b, A.map (·.block) = some b → b ≠ p
  grown : w0.grownBy W (some p)
  late : w0.heap.size ≤ tb
  old : p < w0.heap.size
theorem Cur.alloc {w : World} {p : Nat} {A : Option Addr} {n c : Nat} (h : Cur w p A n c) (o : Obj) : Cur (w.alloc o) p A n c := by
  obtain ⟨i, x, hi, hb⟩ := h
  exact ⟨i, x, hi, hb.alloc o⟩
theorem BS.alloc {w : World} {A : Option Addr} {n : Nat} (h : BS w A n) (o : Obj) : BS (w.alloc o) A n := by
  intro i hi
  obtain ⟨b, off, x, rfl, hb, hc, hx⟩ := h i hi
  exact ⟨b, off, x, rfl, by simp; omega, (World.cell?_of_block (Below.heap_alloc w o b hb)).trans hc, hx⟩
theorem gB_alloc {A B : World} {p : Nat} (h : A.grownBy B (some p)) (o : Obj) : A.grownBy (B.alloc o) (some p) := gB_tr h (gB_below p ((Below.refl _ B).alloc (Nat.le_refl _) o))
theorem Cur.lt {w : World} {p : Nat} {A : Option Addr} {n c : Nat} (h : Cur w p A n c) : p < w.heap.size := by obtain ⟨i, x, hi, hb⟩ := h; exact hb.lt
/-- one cell of the token is written. -/
theorem St.set {w0 : World} {tb p : Nat} {A : Option Addr} {n c : Nat} {t t' : Tk} {W : World} (h : St w0 tb p A n c t W) (j : Nat) (v : Value)
    (he : [Value.int .i64 t.k, .string t.s, .int .i64 t.d, .int .i64 t.o].set j v = [.int .i64 t'.k, .string t'.s, .int .i64 t'.d, .int .i64 t'.o])
    (hA : ∀ b, A.map (·.block) = some b → b < w0.heap.size) : St w0 tb p A n c t' (W.setCell ⟨tb, j, none⟩ v) := by
  have htp : p ≠ tb := by have := h.late; have := h.old; omega
  have h1 := h.tok.set j v
  rw [he] at h1
  obtain ⟨i, x, hi, hb⟩ := h.cur
  have hg := gB_set W ⟨tb, j, none⟩ v
  refine ⟨h1, ⟨i, x, hi, hb.far (p := ⟨tb, j, none⟩) htp v⟩, h.bytes.grown (p := tb) (fun b hb => by have := hA b hb; have := h.late; omega) hg, h.ne, ?_, h.late, h.old⟩
  have g := h.grown
  exact ⟨hg.os.trans g.os, hg.tape.trans g.tape, hg.output.trans g.output, Nat.le_trans g.size hg.size, fun q hq hne => (hg.block q (Nat.lt_of_lt_of_le hq g.size) (fun e => by injection e with e; have e' : q = tb := e; have := h.late; omega)).trans (g.block q hq hne)⟩

theorem St.go {w0 : World} {tb p : Nat} {A : Option Addr} {n c : Nat} {t : Tk} {W w' : World} (h : St w0 tb p A n c t W) (hc : Cur w' p A n c) (hg : W.grownBy w' (some p)) : St w0 tb p A n c t w' :=
  ⟨h.tok.grown hg (fun e => by injection e with e; have := h.late; have := h.old; omega), hc, h.bytes.grown h.ne hg, h.ne, gB_tr h.grown hg, h.late, h.old⟩
theorem St.alloc {w0 : World} {tb p : Nat} {A : Option Addr} {n c : Nat} {t : Tk} {W : World} (h : St w0 tb p A n c t W) (o : Obj) : St w0 tb p A n c t (W.alloc o) :=
  h.go (h.cur.alloc o) (gB_below p ((Below.refl _ W).alloc (Nat.le_refl _) o))
theorem St.new {w0 : World} {tb p : Nat} {A : Option Addr} {n c : Nat} {t : Tk} {W : World} (h : St w0 tb p A n c t W) (t' : Tk) : St w0 W.heap.size p A n c t' (W.alloc (.cells #[.int .i64 t'.k, .string t'.s, .int .i64 t'.d, .int .i64 t'.o] 45)) :=
  ⟨BlkL.new W _ [_, _, _, _], (h.alloc _).cur, (h.alloc _).bytes, h.ne, (h.alloc _).grown, h.grown.size, h.old⟩
/-- the result's token and one's own. -/
def Tw (w0 : World) (rb tb p : Nat) (A : Option Addr) (n c : Nat) (r t : Tk) (W : World) : Prop := St w0 rb p A n c r W ∧ St w0 tb p A n c t W
theorem Tw.pick {w0 : World} {rb tb p : Nat} {A : Option Addr} {n c : Nat} {r t : Tk} {W : World} (hm : n ≤ 1048576) (h : Tw w0 rb tb p A n c r t W) (xs : List Int) (m : Nat) (hxs : xs.length = m) (hm1 : 1 ≤ m) (hm2 : m ≤ 256) :
    Calls Try.prog 103 #[.pointer (some ⟨p, 0, none⟩), .slice (some ⟨W.heap.size, 0, none⟩) m m] (W.alloc (.cells (nums xs).toArray 3)) fun e w' => ∃ x, x ∈ xs ∧ e = .returned (.int .i64 x) ∧ Tw w0 rb tb p A n c r t w' := by
  have hp := h.1.cur.lt
  have ha := h.1.alloc (.cells (nums xs).toArray 3)
  have hb := h.2.alloc (.cells (nums xs).toArray 3)
  refine (l01PickInt_any xs _ m m p A n c _ hm hxs hm1 hm2 ha.bytes ha.ne ha.cur (IS.of_blk (BlkL.new W 3 (nums xs))) (fun b hb => by simp at hb; omega)).mono ?_
  rintro e w' ⟨⟨v, ⟨x, rfl, hx⟩, rfl⟩, hc, hg⟩
  exact ⟨x, hx, rfl, ha.go hc hg, hb.go hc hg⟩
theorem Tw.pickT {w0 : World} {rb tb p : Nat} {A : Option Addr} {n c : Nat} {r t : Tk} {W : World} (hm : n ≤ 1048576) (h : Tw w0 rb tb p A n c r t W) (xs : List ByteArray) (m : Nat) (hxs : xs.length = m) (hm1 : 1 ≤ m) (hm2 : m ≤ 256) :
    Calls Try.prog 108 #[.pointer (some ⟨p, 0, none⟩), .slice (some ⟨W.heap.size, 0, none⟩) m m] (W.alloc (.cells (xs.map Value.string).toArray 9)) fun e w' => ∃ s, s ∈ xs ∧ e = .returned (.string s) ∧ Tw w0 rb tb p A n c r t w' := by
  have hp := h.1.cur.lt
  have ha := h.1.alloc (.cells (xs.map Value.string).toArray 9)
  have hb := h.2.alloc (.cells (xs.map Value.string).toArray 9)
  have hN := BlkL.new W 9 (xs.map Value.string)
  refine (l01PickText_any xs _ m m p A n c _ hm hxs hm1 hm2 ha.bytes ha.ne ha.cur (fun i s hs => ⟨_, rfl, hN.lt, (hN.cell i).trans (by simp [hs])⟩) (fun b hb => by simp at hb; omega)).mono ?_
  rintro e w' ⟨⟨v, ⟨x, rfl, hx⟩, rfl⟩, hc, hg⟩
  exact ⟨x, hx, rfl, ha.go hc hg, hb.go hc hg⟩
theorem Tw.below {w0 : World} {rb tb p : Nat} {A : Option Addr} {n c : Nat} {r t : Tk} {W : World} (hm : n ≤ 1048576) (h : Tw w0 rb tb p A n c r t W) (m : Nat) (hm1 : 1 ≤ m) (hm2 : m ≤ 256) :
    Calls Try.prog 86 #[.pointer (some ⟨p, 0, none⟩), .int .i64 m] W fun e w' => ∃ x : Nat, x < m ∧ e = .returned (.int .i64 x) ∧ Tw w0 rb tb p A n c r t w' := by
  refine (l01Below_any m p A n c W hm hm1 hm2 h.1.bytes h.1.ne h.1.cur).mono ?_
  rintro e w' ⟨⟨v, ⟨x, rfl, hx⟩, rfl⟩, hc, hg⟩
  exact ⟨x, hx, rfl, h.1.go hc hg, h.2.go hc hg⟩
end Go.Proofs.Yteoigpohmgjcbaa
