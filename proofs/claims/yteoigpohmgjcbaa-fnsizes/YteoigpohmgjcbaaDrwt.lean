/-
  The draws: a drawn token.
-/
import Derived.Test.YteoigpohmgjcbaaDrwn
namespace Go.Proofs.Yteoigpohmgjcbaa
open Go.RowKit
set_option linter.unusedVariables false

theorem Tw.cells {w0 : World} {rb tb p : Nat} {A : Option Addr} {n c : Nat} {r t : Tk} {W : World} (h : Tw w0 rb tb p A n c r t W) :
    (W.cell? ⟨tb, 0, none⟩ = some (.int .i64 t.k) ∧ W.cell? ⟨tb, 1, none⟩ = some (.string t.s) ∧ W.cell? ⟨tb, 2, none⟩ = some (.int .i64 t.d) ∧ W.cell? ⟨tb, 3, none⟩ = some (.int .i64 t.o)) ∧
    (W.frozen? ⟨tb, 0, none⟩ = false ∧ W.frozen? ⟨tb, 1, none⟩ = false ∧ W.frozen? ⟨tb, 2, none⟩ = false ∧ W.frozen? ⟨tb, 3, none⟩ = false) ∧
    (W.cell? ⟨rb, 0, none⟩ = some (.int .i64 r.k) ∧ W.cell? ⟨rb, 1, none⟩ = some (.string r.s) ∧ W.cell? ⟨rb, 2, none⟩ = some (.int .i64 r.d) ∧ W.cell? ⟨rb, 3, none⟩ = some (.int .i64 r.o)) ∧
    (W.frozen? ⟨rb, 0, none⟩ = false ∧ W.frozen? ⟨rb, 1, none⟩ = false ∧ W.frozen? ⟨rb, 2, none⟩ = false ∧ W.frozen? ⟨rb, 3, none⟩ = false) :=
  ⟨⟨(h.2.tok.cell 0).trans rfl, (h.2.tok.cell 1).trans rfl, (h.2.tok.cell 2).trans rfl, (h.2.tok.cell 3).trans rfl⟩, ⟨h.2.tok.frozen 0, h.2.tok.frozen 1, h.2.tok.frozen 2, h.2.tok.frozen 3⟩,
   ⟨(h.1.tok.cell 0).trans rfl, (h.1.tok.cell 1).trans rfl, (h.1.tok.cell 2).trans rfl, (h.1.tok.cell 3).trans rfl⟩, ⟨h.1.tok.frozen 0, h.1.tok.frozen 1, h.1.tok.frozen 2, h.1.tok.frozen 3⟩⟩

theorem St.far {w0 : World} {rb p : Nat} {A : Option Addr} {n c : Nat} {r : Tk} {W : World} (h : St w0 rb p A n c r W) {tb : Nat} (j : Nat) (v : Value) (hne : rb ≠ tb) (hl : w0.heap.size ≤ tb)
    (hA : ∀ b, A.map (·.block) = some b → b < w0.heap.size) : St w0 rb p A n c r (W.setCell ⟨tb, j, none⟩ v) := by
  have htp : p ≠ tb := by have := h.old; omega
  obtain ⟨i, x, hi, hb⟩ := h.cur
  have hg := gB_set W ⟨tb, j, none⟩ v
  refine ⟨h.tok.far (p := ⟨tb, j, none⟩) hne v, ⟨i, x, hi, hb.far (p := ⟨tb, j, none⟩) htp v⟩, h.bytes.grown (p := tb) (fun b hb => by have := hA b hb; omega) hg, h.ne, ?_, h.late, h.old⟩
  have g := h.grown
  exact ⟨hg.os.trans g.os, hg.tape.trans g.tape, hg.output.trans g.output, Nat.le_trans g.size hg.size, fun q hq hne => (hg.block q (Nat.lt_of_lt_of_le hq g.size) (fun e => by injection e with e; have e' : q = tb := e; omega)).trans (g.block q hq hne)⟩
theorem Tw.set {w0 : World} {rb tb p : Nat} {A : Option Addr} {n c : Nat} {r t t' : Tk} {W : World} (h : Tw w0 rb tb p A n c r t W) (j : Nat) (v : Value) (hne : rb ≠ tb)
    (he : [Value.int .i64 t.k, .string t.s, .int .i64 t.d, .int .i64 t.o].set j v = [.int .i64 t'.k, .string t'.s, .int .i64 t'.d, .int .i64 t'.o])
    (hA : ∀ b, A.map (·.block) = some b → b < w0.heap.size) : Tw w0 rb tb p A n c r t' (W.setCell ⟨tb, j, none⟩ v) :=
  ⟨h.1.far j v hne h.2.late hA, h.2.set j v he hA⟩
theorem St.fin {w0 : World} {rb p : Nat} {A : Option Addr} {n c : Nat} {r : Tk} {W : World} (h : St w0 rb p A n c r W) (t : Tk) (hA : ∀ b, A.map (·.block) = some b → b < w0.heap.size) :
    ∃ w9, w9 = ((((W.setCell ⟨rb, 0, none⟩ (.int .i64 t.k)).setCell ⟨rb, 1, none⟩ (.string t.s)).setCell ⟨rb, 2, none⟩ (.int .i64 t.d)).setCell ⟨rb, 3, none⟩ (.int .i64 t.o)) ∧ Cur w9 p A n c ∧ w0.grownBy w9 (some p) ∧
    w9.cell? ⟨rb, 0, none⟩ = some (.int .i64 t.k) ∧ w9.cell? ⟨rb, 1, none⟩ = some (.string t.s) ∧ w9.cell? ⟨rb, 2, none⟩ = some (.int .i64 t.d) ∧ w9.cell? ⟨rb, 3, none⟩ = some (.int .i64 t.o) := by
  have h4 := (((h.set (t' := ⟨t.k, r.s, r.d, r.o⟩) 0 (.int .i64 t.k) rfl hA).set (t' := ⟨t.k, t.s, r.d, r.o⟩) 1 (.string t.s) rfl hA).set (t' := ⟨t.k, t.s, t.d, r.o⟩) 2 (.int .i64 t.d) rfl hA).set (t' := t) 3 (.int .i64 t.o) rfl hA
  exact ⟨_, rfl, h4.cur, h4.grown, (h4.tok.cell 0).trans rfl, (h4.tok.cell 1).trans rfl, (h4.tok.cell 2).trans rfl, (h4.tok.cell 3).trans rfl⟩

set_option maxHeartbeats 1000000 in
set_option maxRecDepth 100000 in
theorem l01DrawToken_any (p : Nat) (A : Option Addr) (n c : Nat) (w : World) (hm : n ≤ 1048576) (hb : BS w A n) (hne : ∀ b, A.map (·.block) = some b → b ≠ p) (hAlt : ∀ b, A.map (·.block) = some b → b < w.heap.size) (hc : Cur w p A n c) :
    Calls Try.prog 101 #[.pointer (some ⟨p, 0, none⟩)] w (Drawn w p A n c fun v => ∃ t : Tk, v = .agg #[.int .i64 t.k, .string t.s, .int .i64 t.d, .int .i64 t.o] ∧ t.s.size ≤ 40) := by
  have hst0 : St w w.heap.size p A n c ⟨0, ByteArray.empty, 0, 0⟩ (w.alloc (.cells #[.int .i64 0, .string ByteArray.empty, .int .i64 0, .int .i64 0] 45)) :=
    ⟨BlkL.new w _ [_, _, _, _], hc.alloc _, hb.alloc _, hne, gB_alloc (World.grownBy.refl _ _) _, Nat.le_refl _, hc.lt⟩
  have hp0 := Tw.pick hm ⟨hst0, hst0⟩ [0, 0, 0, 1, 1, 2, 3, 4] 8 rfl (by decide) (by decide)
  simp only [World.size_alloc, nums, List.map_cons, List.map_nil] at hp0
  have HP0 := Lib.hid hp0
  clear hp0 hst0 hb hc hne
  go_enter Try.func101, Try.ntmps101
  go_wp2_with fail
  refine HP0.out.mono ?_
  clear HP0
  rintro e w1 ⟨x, hx, rfl, hst1, hst1b⟩
  have HS1 := Lib.hid hst1b
  clear hst1b
  have htw : Tw w w.heap.size w1.heap.size p A n c ⟨0, ByteArray.empty, 0, 0⟩ ⟨x, ByteArray.empty, 0, 0⟩ (w1.alloc (.cells #[.int .i64 x, .string ByteArray.empty, .int .i64 0, .int .i64 0] 45)) := ⟨hst1.alloc _, hst1.new ⟨x, ByteArray.empty, 0, 0⟩⟩
  have hz1 : w.heap.size < w1.heap.size := hst1.tok.lt
  have hz2 : w.heap.size ≠ w1.heap.size := by omega
  have hz3 : w1.heap.size ≠ w.heap.size := by omega
  clear hst1
  simp only [List.mem_cons, List.not_mem_nil, or_false] at hx
  have hx' : x = 0 ∨ x = 1 ∨ x = 2 ∨ x = 3 ∨ x = 4 := by omega
  clear hx
  rcases hx' with rfl | rfl | rfl | rfl | rfl
  · have hp := htw.pickT hm [⟨#[97]⟩, ⟨#[98, 99]⟩, ⟨#[100, 101, 102]⟩, ⟨#[103, 104, 105, 106]⟩, ⟨#[107, 108, 109, 110, 111, 112]⟩, ⟨#[120, 32, 121]⟩] 6 rfl (by decide) (by decide)
    simp only [World.size_alloc, List.map_cons, List.map_nil] at hp
    have HP := Lib.hid hp
    clear hp htw
    go_wp2_with fail
    refine HP.out.mono ?_
    clear HP
    rintro e w2 ⟨s, hs, rfl, htw2⟩
    obtain ⟨⟨c0, c1, c2, c3⟩, ⟨f0, f1, f2, f3⟩, ⟨d0, d1, d2, d3⟩, ⟨g0, g1, g2, g3⟩⟩ := htw2.cells
    have HT := Lib.hid htw2
    have hs40 : s.size ≤ 40 := by
      simp only [List.mem_cons, List.not_mem_nil, or_false] at hs
      rcases hs with rfl | rfl | rfl | rfl | rfl | rfl <;> decide
    clear htw2 hs
    go_wp2
    obtain ⟨w9, hw9, k1, k2, e0, e1, e2, e3⟩ := (HT.out.set (t' := ⟨0, s, 0, 0⟩) 1 (.string s) hz2 rfl hAlt).1.fin ⟨0, s, 0, 0⟩ hAlt
    simp only at hw9 e0 e1 e2 e3
    rw [← hw9]
    refine bodyPost_ret (v := .agg #[.int .i64 0, .string s, .int .i64 0, .int .i64 0]) (by simp [results, Try.results101, go_sem, e0, e1, e2, e3]) rfl ?_
    exact ⟨⟨_, ⟨⟨0, s, 0, 0⟩, rfl, hs40⟩, rfl⟩, k1, k2⟩
  · have hp := htw.pick hm [1, 1, 1, 0, 2] 5 rfl (by decide) (by decide)
    simp only [World.size_alloc, nums, List.map_cons, List.map_nil] at hp
    have HP := Lib.hid hp
    clear hp htw
    go_wp2_with fail
    refine HP.out.mono ?_
    clear HP
    rintro e w2 ⟨x, _, rfl, htw2⟩
    obtain ⟨⟨c0, c1, c2, c3⟩, ⟨f0, f1, f2, f3⟩, ⟨d0, d1, d2, d3⟩, ⟨g0, g1, g2, g3⟩⟩ := htw2.cells
    have hp := (htw2.set (t' := ⟨1, ByteArray.empty, x, 0⟩) 2 (.int .i64 x) hz2 rfl hAlt).pick hm [0, 0, 2, -1] 4 rfl (by decide) (by decide)
    have hzz : (w2.setCell ⟨w1.heap.size, 2, none⟩ (.int .i64 x)).heap.size = w2.heap.size := by simp [World.setCell]
    simp only [hzz, nums, List.map_cons, List.map_nil] at hp
    have HP := Lib.hid hp
    clear hp htw2
    go_wp2_with fail
    refine HP.out.mono ?_
    clear HP c0 c1 c2 c3 f0 f1 f2 f3 d0 d1 d2 d3 g0 g1 g2 g3
    rintro e w3 ⟨y, _, rfl, htw3⟩
    obtain ⟨⟨c0, c1, c2, c3⟩, ⟨f0, f1, f2, f3⟩, ⟨d0, d1, d2, d3⟩, ⟨g0, g1, g2, g3⟩⟩ := htw3.cells
    have HT := Lib.hid htw3
    clear htw3
    go_wp2
    obtain ⟨w9, hw9, k1, k2, e0, e1, e2, e3⟩ := (HT.out.set (t' := ⟨1, ByteArray.empty, x, y⟩) 3 (.int .i64 y) hz2 rfl hAlt).1.fin ⟨1, ByteArray.empty, x, y⟩ hAlt
    simp only at hw9 e0 e1 e2 e3
    rw [← hw9]
    refine bodyPost_ret (v := .agg #[.int .i64 1, .string ByteArray.empty, .int .i64 x, .int .i64 y]) (by simp [results, Try.results101, go_sem, e0, e1, e2, e3]) rfl ?_
    exact ⟨⟨_, ⟨⟨1, ByteArray.empty, x, y⟩, rfl, (show ByteArray.empty.size ≤ 40 by decide)⟩, rfl⟩, k1, k2⟩
  · have HP := Lib.hid (htw.below hm 2 (by decide) (by decide))
    clear htw
    go_wp2_with fail
    refine HP.out.mono ?_
    clear HP
    rintro e w2 ⟨x, _, rfl, htw2⟩
    obtain ⟨⟨c0, c1, c2, c3⟩, ⟨f0, f1, f2, f3⟩, ⟨d0, d1, d2, d3⟩, ⟨g0, g1, g2, g3⟩⟩ := htw2.cells
    have hp := (htw2.set (t' := ⟨2, ByteArray.empty, x, 0⟩) 2 (.int .i64 x) hz2 rfl hAlt).pick hm [0, 1, 2, 4] 4 rfl (by decide) (by decide)
    have hzz : (w2.setCell ⟨w1.heap.size, 2, none⟩ (.int .i64 x)).heap.size = w2.heap.size := by simp [World.setCell]
    simp only [hzz, nums, List.map_cons, List.map_nil] at hp
    have HP := Lib.hid hp
    clear hp htw2
    go_wp2_with fail
    refine HP.out.mono ?_
    clear HP c0 c1 c2 c3 f0 f1 f2 f3 d0 d1 d2 d3 g0 g1 g2 g3
    rintro e w3 ⟨y, _, rfl, htw3⟩
    obtain ⟨⟨c0, c1, c2, c3⟩, ⟨f0, f1, f2, f3⟩, ⟨d0, d1, d2, d3⟩, ⟨g0, g1, g2, g3⟩⟩ := htw3.cells
    have HT := Lib.hid htw3
    clear htw3
    go_wp2
    obtain ⟨w9, hw9, k1, k2, e0, e1, e2, e3⟩ := (HT.out.set (t' := ⟨2, ByteArray.empty, x, y⟩) 3 (.int .i64 y) hz2 rfl hAlt).1.fin ⟨2, ByteArray.empty, x, y⟩ hAlt
    simp only at hw9 e0 e1 e2 e3
    rw [← hw9]
    refine bodyPost_ret (v := .agg #[.int .i64 2, .string ByteArray.empty, .int .i64 x, .int .i64 y]) (by simp [results, Try.results101, go_sem, e0, e1, e2, e3]) rfl ?_
    exact ⟨⟨_, ⟨⟨2, ByteArray.empty, x, y⟩, rfl, (show ByteArray.empty.size ≤ 40 by decide)⟩, rfl⟩, k1, k2⟩
  · have htw : Tw w w.heap.size w1.heap.size p A n c ⟨0, ⟨#[]⟩, 0, 0⟩ ⟨3, ⟨#[]⟩, 0, 0⟩ (w1.alloc (.cells #[.int .i64 3, .string ⟨#[]⟩, .int .i64 0, .int .i64 0] 45)) := htw
    have d0 : w1.cell? ⟨w.heap.size, 0, none⟩ = some (.int .i64 0) := (HS1.out.tok.cell 0).trans rfl
    have d1 : w1.cell? ⟨w.heap.size, 1, none⟩ = some (.string ⟨#[]⟩) := (HS1.out.tok.cell 1).trans rfl
    have d2 : w1.cell? ⟨w.heap.size, 2, none⟩ = some (.int .i64 0) := (HS1.out.tok.cell 2).trans rfl
    have d3 : w1.cell? ⟨w.heap.size, 3, none⟩ = some (.int .i64 0) := (HS1.out.tok.cell 3).trans rfl
    have g0 := HS1.out.tok.frozen 0
    have g1 := HS1.out.tok.frozen 1
    have g2 := HS1.out.tok.frozen 2
    have g3 := HS1.out.tok.frozen 3
    have HT := Lib.hid htw
    clear htw
    go_wp2
    obtain ⟨w9, hw9, k1, k2, e0, e1, e2, e3⟩ := HS1.out.fin ⟨3, ⟨#[]⟩, 0, 0⟩ hAlt
    simp only at hw9 e0 e1 e2 e3
    have hlt9 : w.heap.size < w9.heap.size := by rw [hw9]; simpa [World.setCell] using hz1
    rw [← hw9]
    clear hw9
    refine bodyPost_ret (v := .agg #[.int .i64 3, .string ⟨#[]⟩, .int .i64 0, .int .i64 0]) (by simp [results, Try.results101, go_sem, e0, e1, e2, e3, hlt9]) rfl ?_
    exact ⟨⟨_, ⟨⟨3, ⟨#[]⟩, 0, 0⟩, rfl, (show ByteArray.empty.size ≤ 40 by decide)⟩, rfl⟩, k1.alloc _, gB_alloc k2 _⟩
  · have hp := htw.pick hm [0, 0, 2, -1] 4 rfl (by decide) (by decide)
    simp only [World.size_alloc, nums, List.map_cons, List.map_nil] at hp
    have HP := Lib.hid hp
    clear hp htw
    go_wp2_with fail
    refine HP.out.mono ?_
    clear HP
    rintro e w2 ⟨x, _, rfl, htw2⟩
    obtain ⟨⟨c0, c1, c2, c3⟩, ⟨f0, f1, f2, f3⟩, ⟨d0, d1, d2, d3⟩, ⟨g0, g1, g2, g3⟩⟩ := htw2.cells
    have HT := Lib.hid htw2
    clear htw2
    go_wp2
    obtain ⟨w9, hw9, k1, k2, e0, e1, e2, e3⟩ := (HT.out.set (t' := ⟨4, ByteArray.empty, 0, x⟩) 3 (.int .i64 x) hz2 rfl hAlt).1.fin ⟨4, ByteArray.empty, 0, x⟩ hAlt
    simp only at hw9 e0 e1 e2 e3
    rw [← hw9]
    refine bodyPost_ret (v := .agg #[.int .i64 4, .string ByteArray.empty, .int .i64 0, .int .i64 x]) (by simp [results, Try.results101, go_sem, e0, e1, e2, e3]) rfl ?_
    exact ⟨⟨_, ⟨⟨4, ByteArray.empty, 0, x⟩, rfl, (show ByteArray.empty.size ≤ 40 by decide)⟩, rfl⟩, k1, k2⟩
end Go.Proofs.Yteoigpohmgjcbaa
