/-
  The draws: a text, and a token that may be none.
-/
import Derived.Test.YteoigpohmgjcbaaDrws
namespace Go.Proofs.Yteoigpohmgjcbaa
open Go.RowKit
set_option linter.unusedVariables false

theorem pickText_at (xs : List ByteArray) (m : Nat) {w0 W : World} {p n c : Nat} {A : Option Addr} (hm : n ≤ 1048576) (hb : BS w0 A n) (hne : ∀ b, A.map (·.block) = some b → b ≠ p) (hc : Cur W p A n c) (hg : w0.grownBy W (some p)) (hxs : xs.length = m) (hm1 : 1 ≤ m) (hm2 : m ≤ 256) :
    Calls Try.prog 108 #[.pointer (some ⟨p, 0, none⟩), .slice (some ⟨W.heap.size, 0, none⟩) m m] (W.alloc (.cells (xs.map Value.string).toArray 9)) fun e w' => ∃ s, s ∈ xs ∧ e = .returned (.string s) ∧ Cur w' p A n c ∧ w0.grownBy w' (some p) := by
  have hp := hc.lt
  have hN := BlkL.new W 9 (xs.map Value.string)
  refine (l01PickText_any xs _ m m p A n c _ hm hxs hm1 hm2 ((hb.grown hne hg).alloc _) hne (hc.alloc _) (fun i s hs => ⟨_, rfl, hN.lt, (hN.cell i).trans (by simp [hs])⟩) (fun b hb => by simp at hb; omega)).mono ?_
  rintro e w' ⟨⟨v, ⟨x, rfl, hx⟩, rfl⟩, hc', hg'⟩
  exact ⟨x, hx, rfl, hc', gB_tr (gB_alloc hg _) hg'⟩

set_option maxHeartbeats 1000000 in
set_option maxRecDepth 100000 in
theorem l01DrawText_any (p : Nat) (A : Option Addr) (n c : Nat) (w : World) (hm : n ≤ 1048576) (hb : BS w A n) (hne : ∀ b, A.map (·.block) = some b → b ≠ p) (hc : Cur w p A n c) :
    Calls Try.prog 104 #[.pointer (some ⟨p, 0, none⟩)] w (Drawn w p A n c fun v => ∃ s : ByteArray, v = .string s ∧ s.size ≤ 41) := by
  have hp := pickText_at [⟨#[97]⟩, ⟨#[98, 99]⟩, ⟨#[100, 101, 102]⟩, ⟨#[103, 104, 105, 106]⟩, ⟨#[107, 108, 109, 110, 111, 112]⟩, ⟨#[120, 32, 121]⟩, ⟨#[34, 113, 34]⟩, ⟨#[40]⟩, ⟨#[41]⟩, ⟨#[108, 111, 110, 103, 45, 119, 111, 114, 100, 45, 104, 101, 114, 101]⟩] 10 hm hb hne hc (World.grownBy.refl _ _) rfl (by decide) (by decide)
  simp only [List.map_cons, List.map_nil] at hp
  have HP := Lib.hid hp
  have HB := Lib.hid hb
  have HNE := Lib.hid hne
  clear hp hb hne hc
  go_enter Try.func104, Try.ntmps104
  go_wp2_with fail
  refine HP.out.mono ?_
  clear HP
  rintro e w1 ⟨s, hs, rfl, hc1, hg1⟩
  have hs41 : s.size ≤ 41 := by
    simp only [List.mem_cons, List.not_mem_nil, or_false] at hs
    rcases hs with rfl | rfl | rfl | rfl | rfl | rfl | rfl | rfl | rfl | rfl <;> decide
  have HC1 := Lib.hid hc1
  have HG1 := Lib.hid hg1
  clear hs hc1 hg1
  go_wp2_with fail
  refine (l01Once_any 25 p A n c w1 hm (by decide) (by decide) (HB.out.grown HNE.out HG1.out) HNE.out HC1.out).mono ?_
  rintro e w2 ⟨⟨v, ⟨x, rfl⟩, rfl⟩, hc2, hg2⟩
  have HC2 := Lib.hid hc2
  have HG2 := Lib.hid (gB_tr HG1.out hg2)
  clear hc2 hg2 HC1 HG1
  cases x
  · go_wp2
    go_ret
    exact ⟨⟨_, ⟨s, rfl, hs41⟩, rfl⟩, HC2.out, HG2.out⟩
  · have hp := pickText_at [⟨#[]⟩, ⟨#[32, 97]⟩, ⟨#[97, 32]⟩, ⟨#[10]⟩, ⟨#[102, 111, 114, 116, 121, 45, 115, 105, 103, 110, 115, 45, 102, 111, 114, 116, 121, 45, 115, 105, 103, 110, 115, 45, 102, 111, 114, 116, 121, 45, 115, 105, 103, 110, 115, 45, 52, 48, 45, 115]⟩, ⟨#[102, 111, 114, 116, 121, 45, 115, 105, 103, 110, 115, 45, 102, 111, 114, 116, 121, 45, 115, 105, 103, 110, 115, 45, 102, 111, 114, 116, 121, 45, 115, 105, 103, 110, 115, 45, 52, 49, 45, 115, 105]⟩] 6 hm HB.out HNE.out HC2.out HG2.out rfl (by decide) (by decide)
    simp only [List.map_cons, List.map_nil] at hp
    have HP := Lib.hid hp
    clear hp
    go_wp2_with fail
    refine HP.out.mono ?_
    clear HP
    rintro e w3 ⟨s', hs', rfl, hc3, hg3⟩
    have hs41' : s'.size ≤ 41 := by
      simp only [List.mem_cons, List.not_mem_nil, or_false] at hs'
      rcases hs' with rfl | rfl | rfl | rfl | rfl | rfl <;> decide
    have HC3 := Lib.hid hc3
    have HG3 := Lib.hid hg3
    clear hc3 hg3 hs'
    go_wp2
    go_ret
    exact ⟨⟨_, ⟨s', rfl, hs41'⟩, rfl⟩, HC3.out, HG3.out⟩

theorem Tw.once {w0 : World} {rb tb p : Nat} {A : Option Addr} {n c : Nat} {r t : Tk} {W : World} (hm : n ≤ 1048576) (h : Tw w0 rb tb p A n c r t W) (m : Nat) (hm1 : 1 ≤ m) (hm2 : m ≤ 256) :
    Calls Try.prog 88 #[.pointer (some ⟨p, 0, none⟩), .int .i64 m] W fun e w' => ∃ x : Bool, e = .returned (.bool x) ∧ Tw w0 rb tb p A n c r t w' := by
  refine (l01Once_any m p A n c W hm hm1 hm2 h.1.bytes h.1.ne h.1.cur).mono ?_
  rintro e w' ⟨⟨v, ⟨x, rfl⟩, rfl⟩, hc, hg⟩
  exact ⟨x, rfl, h.1.go hc hg, h.2.go hc hg⟩
theorem Tw.text {w0 : World} {rb tb p : Nat} {A : Option Addr} {n c : Nat} {r t : Tk} {W : World} (hm : n ≤ 1048576) (h : Tw w0 rb tb p A n c r t W) :
    Calls Try.prog 104 #[.pointer (some ⟨p, 0, none⟩)] W fun e w' => ∃ s : ByteArray, e = .returned (.string s) ∧ s.size ≤ 41 ∧ Tw w0 rb tb p A n c r t w' := by
  refine (l01DrawText_any p A n c W hm h.1.bytes h.1.ne h.1.cur).mono ?_
  rintro e w' ⟨⟨v, ⟨s, rfl, hs⟩, rfl⟩, hc, hg⟩
  exact ⟨s, rfl, hs, h.1.go hc hg, h.2.go hc hg⟩

set_option maxHeartbeats 2000000 in
set_option maxRecDepth 100000 in
theorem l01DrawLoose_any (p : Nat) (A : Option Addr) (n c : Nat) (w : World) (hm : n ≤ 1048576) (hb : BS w A n) (hne : ∀ b, A.map (·.block) = some b → b ≠ p) (hAlt : ∀ b, A.map (·.block) = some b → b < w.heap.size) (hc : Cur w p A n c) :
    Calls Try.prog 89 #[.pointer (some ⟨p, 0, none⟩)] w (Drawn w p A n c fun v => ∃ t : Tk, v = .agg #[.int .i64 t.k, .string t.s, .int .i64 t.d, .int .i64 t.o] ∧ t.s.size ≤ 41) := by
  have hst0 : St w w.heap.size p A n c ⟨0, ByteArray.empty, 0, 0⟩ (w.alloc (.cells #[.int .i64 0, .string ByteArray.empty, .int .i64 0, .int .i64 0] 45)) :=
    ⟨BlkL.new w _ [_, _, _, _], hc.alloc _, hb.alloc _, hne, gB_alloc (World.grownBy.refl _ _) _, Nat.le_refl _, hc.lt⟩
  have HS0 := Lib.hid hst0
  clear hst0 hb hc hne
  go_enter Try.func89, Try.ntmps89
  go_wp2_with fail
  refine (l01DrawToken_any p A n c _ hm HS0.out.bytes HS0.out.ne (fun b hb => Nat.lt_of_lt_of_le (hAlt b hb) (by simp)) HS0.out.cur).mono ?_
  rintro e w1 ⟨⟨v, ⟨t, rfl, ht40⟩, rfl⟩, hc1, hg1⟩
  have hst1 := HS0.out.go hc1 hg1
  have ht41 : t.s.size ≤ 41 := by omega
  have htw : Tw w w.heap.size w1.heap.size p A n c ⟨0, ByteArray.empty, 0, 0⟩ t (w1.alloc (.cells #[.int .i64 t.k, .string t.s, .int .i64 t.d, .int .i64 t.o] 45)) := ⟨hst1.alloc _, hst1.new t⟩
  have hz1 : w.heap.size < w1.heap.size := hst1.tok.lt
  have hz2 : w.heap.size ≠ w1.heap.size := by omega
  have hz3 : w1.heap.size ≠ w.heap.size := by omega
  have HP := Lib.hid (htw.once hm 6 (by decide) (by decide))
  clear hst1 hc1 hg1 HS0 htw ht40
  go_wp2_with fail
  refine HP.out.mono ?_
  clear HP
  rintro e w2 ⟨x, rfl, htw2⟩
  cases x
  · obtain ⟨⟨c0, c1, c2, c3⟩, ⟨f0, f1, f2, f3⟩, ⟨d0, d1, d2, d3⟩, ⟨g0, g1, g2, g3⟩⟩ := htw2.cells
    have HT := Lib.hid htw2
    clear htw2
    go_wp2
    obtain ⟨w9, hw9, k1, k2, e0, e1, e2, e3⟩ := HT.out.1.fin t hAlt
    try simp only at hw9 e0 e1 e2 e3
    rw [← hw9]
    refine bodyPost_ret (v := .agg #[.int .i64 (t : Tk).k, .string (t : Tk).s, .int .i64 (t : Tk).d, .int .i64 (t : Tk).o]) (by simp [results, Try.results89, go_sem, e0, e1, e2, e3]) rfl ?_
    exact ⟨⟨_, ⟨t, rfl, by first | exact hs41 | exact ht41⟩, rfl⟩, k1, k2⟩
  · have HP := Lib.hid (htw2.below hm 4 (by decide) (by decide))
    clear htw2
    go_wp2_with fail
    refine HP.out.mono ?_
    clear HP
    rintro e w3 ⟨x, hx, rfl, htw3⟩
    have hx' : x = 0 ∨ x = 1 ∨ x = 2 ∨ x = 3 := by omega
    clear hx
    rcases hx' with rfl | rfl | rfl | rfl
    · have hp := htw3.pick hm [-1, 0, 1, 2, 3, 4, 5] 7 rfl (by decide) (by decide)
      simp only [nums, List.map_cons, List.map_nil] at hp
      have HPK := Lib.hid hp
      clear hp htw3
      go_wp2_with fail
      refine HPK.out.mono ?_
      clear HPK
      rintro e w4 ⟨y, hy, rfl, htw4⟩
      obtain ⟨⟨c0, c1, c2, c3⟩, ⟨f0, f1, f2, f3⟩, ⟨d0, d1, d2, d3⟩, ⟨g0, g1, g2, g3⟩⟩ := htw4.cells
      have HT := Lib.hid htw4
      clear htw4 hy
      go_wp2
      obtain ⟨w9, hw9, k1, k2, e0, e1, e2, e3⟩ := (HT.out.set (t' := ⟨y, t.s, t.d, t.o⟩) 0 (.int .i64 y) hz2 rfl hAlt).1.fin ⟨y, t.s, t.d, t.o⟩ hAlt
      try simp only at hw9 e0 e1 e2 e3
      rw [← hw9]
      refine bodyPost_ret (v := .agg #[.int .i64 (⟨y, t.s, t.d, t.o⟩ : Tk).k, .string (⟨y, t.s, t.d, t.o⟩ : Tk).s, .int .i64 (⟨y, t.s, t.d, t.o⟩ : Tk).d, .int .i64 (⟨y, t.s, t.d, t.o⟩ : Tk).o]) (by simp [results, Try.results89, go_sem, e0, e1, e2, e3]) rfl ?_
      exact ⟨⟨_, ⟨⟨y, t.s, t.d, t.o⟩, rfl, by first | exact hs41 | exact ht41⟩, rfl⟩, k1, k2⟩
    · have HP := Lib.hid (htw3.text hm)
      clear htw3
      go_wp2_with fail
      refine HP.out.mono ?_
      clear HP
      rintro e w4 ⟨s, rfl, hs41, htw4⟩
      obtain ⟨⟨c0, c1, c2, c3⟩, ⟨f0, f1, f2, f3⟩, ⟨d0, d1, d2, d3⟩, ⟨g0, g1, g2, g3⟩⟩ := htw4.cells
      have HT := Lib.hid htw4
      clear htw4
      go_wp2
      obtain ⟨w9, hw9, k1, k2, e0, e1, e2, e3⟩ := (HT.out.set (t' := ⟨t.k, s, t.d, t.o⟩) 1 (.string s) hz2 rfl hAlt).1.fin ⟨t.k, s, t.d, t.o⟩ hAlt
      try simp only at hw9 e0 e1 e2 e3
      rw [← hw9]
      refine bodyPost_ret (v := .agg #[.int .i64 (⟨t.k, s, t.d, t.o⟩ : Tk).k, .string (⟨t.k, s, t.d, t.o⟩ : Tk).s, .int .i64 (⟨t.k, s, t.d, t.o⟩ : Tk).d, .int .i64 (⟨t.k, s, t.d, t.o⟩ : Tk).o]) (by simp [results, Try.results89, go_sem, e0, e1, e2, e3]) rfl ?_
      exact ⟨⟨_, ⟨⟨t.k, s, t.d, t.o⟩, rfl, by first | exact hs41 | exact ht41⟩, rfl⟩, k1, k2⟩
    · have hp := htw3.pick hm [-1, 0, 1, 9, 10] 5 rfl (by decide) (by decide)
      simp only [nums, List.map_cons, List.map_nil] at hp
      have HPK := Lib.hid hp
      clear hp htw3
      go_wp2_with fail
      refine HPK.out.mono ?_
      clear HPK
      rintro e w4 ⟨y, hy, rfl, htw4⟩
      obtain ⟨⟨c0, c1, c2, c3⟩, ⟨f0, f1, f2, f3⟩, ⟨d0, d1, d2, d3⟩, ⟨g0, g1, g2, g3⟩⟩ := htw4.cells
      have HT := Lib.hid htw4
      clear htw4 hy
      go_wp2
      obtain ⟨w9, hw9, k1, k2, e0, e1, e2, e3⟩ := (HT.out.set (t' := ⟨t.k, t.s, y, t.o⟩) 2 (.int .i64 y) hz2 rfl hAlt).1.fin ⟨t.k, t.s, y, t.o⟩ hAlt
      try simp only at hw9 e0 e1 e2 e3
      rw [← hw9]
      refine bodyPost_ret (v := .agg #[.int .i64 (⟨t.k, t.s, y, t.o⟩ : Tk).k, .string (⟨t.k, t.s, y, t.o⟩ : Tk).s, .int .i64 (⟨t.k, t.s, y, t.o⟩ : Tk).d, .int .i64 (⟨t.k, t.s, y, t.o⟩ : Tk).o]) (by simp [results, Try.results89, go_sem, e0, e1, e2, e3]) rfl ?_
      exact ⟨⟨_, ⟨⟨t.k, t.s, y, t.o⟩, rfl, by first | exact hs41 | exact ht41⟩, rfl⟩, k1, k2⟩
    · have hp := htw3.pick hm [-10, -9, 9, 10, 1] 5 rfl (by decide) (by decide)
      simp only [nums, List.map_cons, List.map_nil] at hp
      have HPK := Lib.hid hp
      clear hp htw3
      go_wp2_with fail
      refine HPK.out.mono ?_
      clear HPK
      rintro e w4 ⟨y, hy, rfl, htw4⟩
      obtain ⟨⟨c0, c1, c2, c3⟩, ⟨f0, f1, f2, f3⟩, ⟨d0, d1, d2, d3⟩, ⟨g0, g1, g2, g3⟩⟩ := htw4.cells
      have HT := Lib.hid htw4
      clear htw4 hy
      go_wp2
      obtain ⟨w9, hw9, k1, k2, e0, e1, e2, e3⟩ := (HT.out.set (t' := ⟨t.k, t.s, t.d, y⟩) 3 (.int .i64 y) hz2 rfl hAlt).1.fin ⟨t.k, t.s, t.d, y⟩ hAlt
      try simp only at hw9 e0 e1 e2 e3
      rw [← hw9]
      refine bodyPost_ret (v := .agg #[.int .i64 (⟨t.k, t.s, t.d, y⟩ : Tk).k, .string (⟨t.k, t.s, t.d, y⟩ : Tk).s, .int .i64 (⟨t.k, t.s, t.d, y⟩ : Tk).d, .int .i64 (⟨t.k, t.s, t.d, y⟩ : Tk).o]) (by simp [results, Try.results89, go_sem, e0, e1, e2, e3]) rfl ?_
      exact ⟨⟨_, ⟨⟨t.k, t.s, t.d, y⟩, rfl, by first | exact hs41 | exact ht41⟩, rfl⟩, k1, k2⟩
end Go.Proofs.Yteoigpohmgjcbaa
