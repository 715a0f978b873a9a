/-
  The draws: a drawn stream.
-/
import Derived.Test.YteoigpohmgjcbaaDrwt
import Derived.Test.YteoigpohmgjcbaaJoin
namespace Go.Proofs.Yteoigpohmgjcbaa
open Go.RowKit
set_option linter.unusedVariables false

/-- tokens drawn so far: a row of one's own, each text short. -/
structure Dr (w : World) (p : Nat) (A : Option Addr) (n c : Nat) (v : Value) (l : List Tk) (wr : World) : Prop where
  own : wr.ownsRow w.heap.size 45 4 v l.length (flat l)
  short : ∀ t, t ∈ l → t.s.size ≤ 41
  cur : Cur wr p A n c
  grown : w.grownBy wr (some p)
theorem Dr.go {w : World} {p : Nat} {A : Option Addr} {n c : Nat} {v : Value} {l : List Tk} {wr w' : World} (hp : p < w.heap.size) (h : Dr w p A n c v l wr) (hc : Cur w' p A n c) (hg : wr.grownBy w' (some p)) : Dr w p A n c v l w' :=
  ⟨h.own.kept hg (by
    cases hv : v.ownBlock with
    | none => exact .inl rfl
    | some q => exact .inr fun e => by injection e with e; have := (h.own.lt q hv).1; omega), h.short, hc, gB_tr h.grown hg⟩
theorem Dr.alloc {w : World} {p : Nat} {A : Option Addr} {n c : Nat} {v : Value} {l : List Tk} {wr : World} (hp : p < w.heap.size) (h : Dr w p A n c v l wr) (o : Obj) : Dr w p A n c v l (wr.alloc o) :=
  h.go hp (h.cur.alloc o) (gB_below p ((Below.refl _ wr).alloc (Nat.le_refl _) o))
theorem Dr.app {w : World} {p : Nat} {A : Option Addr} {n c : Nat} {v v' : Value} {l : List Tk} {t : Tk} {wr w3 : World} {o : Obj} (hp : p < w.heap.size) (h : Dr w p A n c v l wr) (ht : t.s.size ≤ 41)
    (hown : w3.ownsRow w.heap.size 45 4 v' (l.length + 1) (flat l ++ [.int .i64 t.k, .string t.s, .int .i64 t.d, .int .i64 t.o])) (hg : (wr.alloc o).grownBy w3 v.ownBlock) : Dr w p A n c v' (l ++ [t]) w3 := by
  have hlt := h.own.lt
  refine ⟨by rw [List.length_append, flat_append]; exact hown, fun x hx => ?_, ?_, ?_⟩
  · rcases List.mem_append.1 hx with hx | hx
    · exact h.short x hx
    · rw [List.mem_singleton.1 hx]; exact ht
  · obtain ⟨i, x, hi, hb⟩ := h.cur
    exact ⟨i, x, hi, (hb.alloc o).grown hg (fun e => by have := (hlt p e.symm).1; omega)⟩
  · have g := gB_alloc h.grown o
    exact ⟨hg.os.trans g.os, hg.tape.trans g.tape, hg.output.trans g.output, Nat.le_trans g.size hg.size, fun q hq hne => (hg.block q (Nat.lt_of_lt_of_le hq g.size) (fun e => by have := (hlt q e.symm).1; omega)).trans (g.block q hq hne)⟩
theorem Dr.far {w : World} {p q : Nat} {A : Option Addr} {n c : Nat} {v : Value} {l : List Tk} {wr : World} (hp : p < w.heap.size) (h : Dr w p A n c v l wr) (hq : w.heap.size ≤ q) (hv : v.ownBlock ≠ some q) (j : Nat) (u : Value) : Dr w p A n c v l (wr.setCell ⟨q, j, none⟩ u) := by
  have hg := gB_set wr ⟨q, j, none⟩ u
  obtain ⟨i, x, hi, hb⟩ := h.cur
  have g := h.grown
  refine ⟨h.own.kept hg (by cases hv' : v.ownBlock with
    | none => exact .inl rfl
    | some b => exact .inr fun e => hv (by rw [hv', e])), h.short, ⟨i, x, hi, hb.far (p := ⟨q, j, none⟩) (by show p ≠ q; omega) u⟩, ?_⟩
  exact ⟨hg.os.trans g.os, hg.tape.trans g.tape, hg.output.trans g.output, Nat.le_trans g.size hg.size, fun b hb' hne => (hg.block b (Nat.lt_of_lt_of_le hb' g.size) (fun e => by injection e with e; have e' : b = q := e; omega)).trans (g.block b hb' hne)⟩
theorem Dr.bs {w : World} {p : Nat} {A : Option Addr} {n c : Nat} {v : Value} {l : List Tk} {wr : World} (h : Dr w p A n c v l wr) (hb : BS w A n) (hne : ∀ b, A.map (·.block) = some b → b ≠ p) : BS wr A n := hb.grown hne h.grown
theorem cell_four_at (w : World) (q : Nat) (hq : q = w.heap.size) (x0 x1 x2 x3 : Value) (t : TypeId) : ∀ j u, [x0, x1, x2, x3][j]? = some u → (w.alloc (.cells #[x0, x1, x2, x3] t)).cell? ((⟨q, 0, none⟩ : Addr).add j) = some u := by
  subst hq
  exact cell_four_new w x0 x1 x2 x3 t
def StrPost (w : World) (p : Nat) (A : Option Addr) (n c m : Nat) (e : Ending) (w' : World) : Prop := ∃ v l, e = .returned v ∧ l.length ≤ m ∧ Dr w p A n c v l w'

set_option maxHeartbeats 1000000 in
set_option maxRecDepth 100000 in
theorem l02DrawStream_any (m p : Nat) (A : Option Addr) (n c : Nat) (w : World) (hm : n ≤ 1048576) (hmm : m ≤ 256) (hb : BS w A n) (hne : ∀ b, A.map (·.block) = some b → b ≠ p) (hAlt : ∀ b, A.map (·.block) = some b → b < w.heap.size) (hc : Cur w p A n c) :
    Calls Try.prog 85 #[.pointer (some ⟨p, 0, none⟩), .int .i64 m] w (StrPost w p A n c (m + 12)) := by
  have hp := hc.lt
  have HB := Lib.hid hb
  have HNE := Lib.hid hne
  have HAL := Lib.hid hAlt
  have HC := Lib.hid hc
  clear hb hne hAlt hc
  have hmk : ∀ w : World, (Instr.buildSlice 26 0 #[]).run Try.prog w = .ok (.slice (some ⟨w.heap.size, 0, none⟩) 0 0) (w.alloc (.cells #[] 45)) := fun _ => by kernel_rfl
  obtain ⟨i0, hi, hz0, hz1, hz2⟩ := info_parts infoTok
  go_enter Try.func85, Try.ntmps85
  go_wp2_with fail
  clear hmk
  go_loopw [5, 6, 7] (fun v ov iv wr => ∃ (i : Nat) (op : Int) (l : List Tk), i ≤ m ∧ iv = .int .i64 i ∧ ov = .int .i64 op ∧ 0 ≤ op ∧ op ≤ 12 ∧ l.length ≤ i ∧ Dr w p A n c v l wr) (fun _ _ iv _ => m - (intOf iv).toNat)
  case atStart =>
    refine ⟨0, 0, [], Nat.zero_le _, rfl, rfl, by omega, by omega, Nat.le_refl _, ?_⟩
    exact ⟨by simpa [flat] using World.ownsRow_lit (base := w.heap.size) (e := 45) (size := 4) w #[] 0 (Nat.le_refl _) (Nat.zero_le _) rfl, fun t ht => by simp at ht, HC.out.alloc _, gB_alloc (World.grownBy.refl _ _) _⟩
  case round =>
    obtain ⟨i, op, l, hil, rfl, rfl, ho0, ho1, hll, hdr⟩ := hrel
    have HD := Lib.hid hdr
    have hgs := hdr.grown.size
    clear hdr
    by_cases hlt : i < m
    · go_wp2_with fail
      refine (l01DrawToken_any p A n c wr hm (HD.out.bs HB.out HNE.out) HNE.out (fun b hb => Nat.lt_of_lt_of_le (HAL.out b hb) hgs) HD.out.cur).mono ?_
      rintro e w1 ⟨⟨v1, ⟨t, rfl, ht40⟩, rfl⟩, hc1, hg1⟩
      have HD1 := Lib.hid (HD.out.go hp hc1 hg1)
      have hg1s := hg1.size
      clear hc1 hg1 HD
      have hD2 := Dr.alloc hp HD1.out (.cells #[.int .i64 t.k, .string t.s, .int .i64 t.d, .int .i64 t.o] 45)
      have hTB := BlkL.new w1 45 [.int .i64 t.k, .string t.s, .int .i64 t.d, .int .i64 t.o]
      have hob : u5.ownBlock ≠ some w1.heap.size := fun e => by have := (HD1.out.own.lt _ e).2; omega
      have HD2 := Lib.hid hD2
      have HTB := Lib.hid hTB
      have hs41 : t.s.size ≤ 41 := by omega
      have hz3 : w.heap.size ≤ w1.heap.size := by omega
      clear hD2 hTB
      by_cases h4 : t.k = 4
      · have b4 : (t.k == 4) = true := by rw [h4]; rfl
        have b3 : (t.k == 3) = false := by rw [h4]; rfl
        have b2 : (t.k == 2) = false := by rw [h4]; rfl
        clear h4
        go_wp2_with fail
        refine (l01Once_any 4 p A n c _ hm (by decide) (by decide) (HD2.out.bs HB.out HNE.out) HNE.out HD2.out.cur).mono ?_
        rintro e w2 ⟨⟨v2, ⟨x, rfl⟩, rfl⟩, hc2, hg2⟩
        have HD4 := Lib.hid (Dr.go hp HD2.out hc2 hg2)
        have hTB2 := HTB.out.grown hg2 (fun e => by injection e; omega)
        have hz4 : w1.heap.size < w2.heap.size := hTB2.lt
        have q0 : w2.cell? ⟨w1.heap.size, 0, none⟩ = some (.int .i64 t.k) := (hTB2.cell 0).trans rfl
        have q1 : w2.cell? ⟨w1.heap.size, 1, none⟩ = some (.string t.s) := (hTB2.cell 1).trans rfl
        have q2 : w2.cell? ⟨w1.heap.size, 2, none⟩ = some (.int .i64 t.d) := (hTB2.cell 2).trans rfl
        have q3 : w2.cell? ⟨w1.heap.size, 3, none⟩ = some (.int .i64 t.o) := (hTB2.cell 3).trans rfl
        have qf := hTB2.frozen
        clear hc2 hg2 hTB2
        cases x
        · have HD5 := Lib.hid ((((HD4.out.far hp hz3 hob 0 (.int .i64 1)).far hp hz3 hob 1 (.string ⟨#[]⟩)).far hp hz3 hob 2 (.int .i64 1)).far hp hz3 hob 3 (.int .i64 0))
          go_wp2_with (at_builtin; refine wpList_append_own _ rfl _ _ 26 rfl w.heap.size 45 i0 (.agg #[.int .i64 0, .string ByteArray.empty, .int .i64 0, .int .i64 0]) 4 40 Try.underlying26 hi hz0 hz1 hz2 rfl (by decide) u5 l.length _ rfl (HD5.out.own.alloc _) ⟨w2.heap.size, 0, none⟩ 1 1 [.int .i64 (⟨1, ⟨#[]⟩, 1, 0⟩ : Tk).k, .string (⟨1, ⟨#[]⟩, 1, 0⟩ : Tk).s, .int .i64 (⟨1, ⟨#[]⟩, 1, 0⟩ : Tk).d, .int .i64 (⟨1, ⟨#[]⟩, 1, 0⟩ : Tk).o] rfl rfl (cell_four_at ((((w2.setCell ⟨w1.heap.size, 0, none⟩ (.int .i64 1)).setCell ⟨w1.heap.size, 1, none⟩ (.string ⟨#[]⟩)).setCell ⟨w1.heap.size, 2, none⟩ (.int .i64 1)).setCell ⟨w1.heap.size, 3, none⟩ (.int .i64 0)) _ (by simp [World.setCell]) _ _ _ _ _) (by simp [Value.oneCell']) (by simp only [maxLen]; omega) (by omega) (by simp [World.setCell]; omega) ?_)
          intro v' w3 hown3 hgrow3 _
          have HD3 := Lib.hid (Dr.app (t := (⟨1, ⟨#[]⟩, 1, 0⟩ : Tk)) hp HD5.out (by first | exact hs41 | decide) hown3 hgrow3)
          clear hown3 hgrow3
          go_wp2
          go_roundw
          case rel => exact ⟨i + 1, op, l ++ [(⟨1, ⟨#[]⟩, 1, 0⟩ : Tk)], by omega, by go_num, by first | rfl | go_num, by omega, by omega, by rw [List.length_append]; exact Nat.succ_le_succ hll, HD3.out⟩
          case measure => simp [intOf] <;> omega
        · go_wp2_with (at_builtin; refine wpList_append_own _ rfl _ _ 26 rfl w.heap.size 45 i0 (.agg #[.int .i64 0, .string ByteArray.empty, .int .i64 0, .int .i64 0]) 4 40 Try.underlying26 hi hz0 hz1 hz2 rfl (by decide) u5 l.length _ rfl (HD4.out.own.alloc _) ⟨w2.heap.size, 0, none⟩ 1 1 [.int .i64 t.k, .string t.s, .int .i64 t.d, .int .i64 t.o] rfl rfl (cell_four_at w2 _ (rfl) _ _ _ _ _) (by simp [Value.oneCell']) (by simp only [maxLen]; omega) (by omega) (by simp; omega) ?_)
          intro v' w3 hown3 hgrow3 _
          have HD3 := Lib.hid (Dr.app (t := t) hp HD4.out (by first | exact hs41 | decide) hown3 hgrow3)
          clear hown3 hgrow3
          go_wp2
          go_roundw
          case rel => exact ⟨i + 1, op, l ++ [t], by omega, by go_num, by first | rfl | go_num, by omega, by omega, by rw [List.length_append]; exact Nat.succ_le_succ hll, HD3.out⟩
          case measure => simp [intOf] <;> omega
      · have b4 : (t.k == 4) = false := by simpa using h4
        clear h4
        by_cases h3 : t.k = 3
        · have b3 : (t.k == 3) = true := by rw [h3]; rfl
          have b2 : (t.k == 2) = false := by rw [h3]; rfl
          clear h3
          by_cases hop : op = 0
          · have bo : (op == 0) = true := by rw [hop]; rfl
            clear hop
            go_wp2
            go_roundw
            case rel => exact ⟨i + 1, op, l, by omega, by go_num, rfl, ho0, ho1, by omega, HD2.out⟩
            case measure => simp [intOf] <;> omega
          · have bo : (op == 0) = false := by simpa using hop
            have ho0' : 1 ≤ op := by omega
            clear hop
            go_wp2_with (at_builtin; refine wpList_append_own _ rfl _ _ 26 rfl w.heap.size 45 i0 (.agg #[.int .i64 0, .string ByteArray.empty, .int .i64 0, .int .i64 0]) 4 40 Try.underlying26 hi hz0 hz1 hz2 rfl (by decide) u5 l.length _ rfl (HD2.out.own.alloc _) ⟨w1.heap.size + 1, 0, none⟩ 1 1 [.int .i64 t.k, .string t.s, .int .i64 t.d, .int .i64 t.o] rfl rfl (cell_four_at (w1.alloc (.cells #[.int .i64 t.k, .string t.s, .int .i64 t.d, .int .i64 t.o] 45)) _ (by simp) _ _ _ _ _) (by simp [Value.oneCell']) (by simp only [maxLen]; omega) (by omega) (by simp; omega) ?_)
            intro v' w3 hown3 hgrow3 _
            have HD3 := Lib.hid (Dr.app (t := t) hp HD2.out (by first | exact hs41 | decide) hown3 hgrow3)
            clear hown3 hgrow3
            go_wp2
            go_roundw
            case rel => exact ⟨i + 1, op - 1, l ++ [t], by omega, by go_num, by first | rfl | go_num, by omega, by omega, by rw [List.length_append]; exact Nat.succ_le_succ hll, HD3.out⟩
            case measure => simp [intOf] <;> omega
        · have b3 : (t.k == 3) = false := by simpa using h3
          clear h3
          by_cases h2 : t.k = 2
          · have b2 : (t.k == 2) = true := by rw [h2]; rfl
            clear h2
            by_cases hop : op = 12
            · have bo : (op == 12) = true := by rw [hop]; rfl
              clear hop
              go_wp2
              go_roundw
              case rel => exact ⟨i + 1, op, l, by omega, by go_num, rfl, ho0, ho1, by omega, HD2.out⟩
              case measure => simp [intOf] <;> omega
            · have bo : (op == 12) = false := by simpa using hop
              have ho1' : op ≤ 11 := by omega
              clear hop
              go_wp2_with (at_builtin; refine wpList_append_own _ rfl _ _ 26 rfl w.heap.size 45 i0 (.agg #[.int .i64 0, .string ByteArray.empty, .int .i64 0, .int .i64 0]) 4 40 Try.underlying26 hi hz0 hz1 hz2 rfl (by decide) u5 l.length _ rfl (HD2.out.own.alloc _) ⟨w1.heap.size + 1, 0, none⟩ 1 1 [.int .i64 t.k, .string t.s, .int .i64 t.d, .int .i64 t.o] rfl rfl (cell_four_at (w1.alloc (.cells #[.int .i64 t.k, .string t.s, .int .i64 t.d, .int .i64 t.o] 45)) _ (by simp) _ _ _ _ _) (by simp [Value.oneCell']) (by simp only [maxLen]; omega) (by omega) (by simp; omega) ?_)
              intro v' w3 hown3 hgrow3 _
              have HD3 := Lib.hid (Dr.app (t := t) hp HD2.out (by first | exact hs41 | decide) hown3 hgrow3)
              clear hown3 hgrow3
              go_wp2
              go_roundw
              case rel => exact ⟨i + 1, op + 1, l ++ [t], by omega, by go_num, by first | rfl | go_num, by omega, by omega, by rw [List.length_append]; exact Nat.succ_le_succ hll, HD3.out⟩
              case measure => simp [intOf] <;> omega
          · have b2 : (t.k == 2) = false := by simpa using h2
            clear h2
            go_wp2_with (at_builtin; refine wpList_append_own _ rfl _ _ 26 rfl w.heap.size 45 i0 (.agg #[.int .i64 0, .string ByteArray.empty, .int .i64 0, .int .i64 0]) 4 40 Try.underlying26 hi hz0 hz1 hz2 rfl (by decide) u5 l.length _ rfl (HD2.out.own.alloc _) ⟨w1.heap.size + 1, 0, none⟩ 1 1 [.int .i64 t.k, .string t.s, .int .i64 t.d, .int .i64 t.o] rfl rfl (cell_four_at (w1.alloc (.cells #[.int .i64 t.k, .string t.s, .int .i64 t.d, .int .i64 t.o] 45)) _ (by simp) _ _ _ _ _) (by simp [Value.oneCell']) (by simp only [maxLen]; omega) (by omega) (by simp; omega) ?_)
            intro v' w3 hown3 hgrow3 _
            have HD3 := Lib.hid (Dr.app (t := t) hp HD2.out (by first | exact hs41 | decide) hown3 hgrow3)
            clear hown3 hgrow3
            go_wp2
            go_roundw
            case rel => exact ⟨i + 1, op, l ++ [t], by omega, by go_num, by first | rfl | go_num, by omega, by omega, by rw [List.length_append]; exact Nat.succ_le_succ hll, HD3.out⟩
            case measure => simp [intOf] <;> omega
    · have hdl : l.length ≤ m := by omega
      obtain ⟨q, rfl⟩ := Int.eq_ofNat_of_zero_le ho0
      have hq12 : q ≤ 12 := by omega
      go_wp2_with fail
      go_loopw [5, 9] (fun v kv wr => ∃ (k : Nat) (l : List Tk), k ≤ q ∧ kv = .int .i64 k ∧ l.length ≤ m + k ∧ Dr w p A n c v l wr) (fun _ kv _ => q - (intOf kv).toNat)
      case atStart => exact ⟨0, l, Nat.zero_le _, rfl, by omega, HD.out⟩
      case round =>
        clear HD hgs hll hdl
        obtain ⟨k, l, hkq, rfl, hll, hdr⟩ := hrel
        have HD := Lib.hid hdr
        have hgs := hdr.grown.size
        clear hdr
        by_cases hlt2 : k < q
        · go_wp2_with (at_builtin; refine wpList_append_own _ rfl _ _ 26 rfl w.heap.size 45 i0 (.agg #[.int .i64 0, .string ByteArray.empty, .int .i64 0, .int .i64 0]) 4 40 Try.underlying26 hi hz0 hz1 hz2 rfl (by decide) u5 l.length _ rfl (HD.out.own.alloc _) ⟨wr.heap.size, 0, none⟩ 1 1 [.int .i64 3, .string ⟨#[]⟩, .int .i64 0, .int .i64 0] rfl rfl (cell_four_at wr _ rfl _ _ _ _ _) (by simp [Value.oneCell']) (by simp only [maxLen]; omega) (by omega) (by simp; omega) ?_)
          intro v' w3 hown3 hgrow3 _
          have HD3 := Lib.hid (Dr.app (t := ⟨3, ⟨#[]⟩, 0, 0⟩) hp HD.out (by decide) hown3 hgrow3)
          clear hown3 hgrow3
          go_wp2
          go_roundw
          case rel => exact ⟨k + 1, l ++ [⟨3, ⟨#[]⟩, 0, 0⟩], by omega, by go_num, by rw [List.length_append]; exact Nat.succ_le_succ hll, HD3.out⟩
          case measure => simp [intOf] <;> omega
        · go_wp2
          go_ret
          exact ⟨_, l, rfl, by omega, HD.out⟩
end Go.Proofs.Yteoigpohmgjcbaa
