/-
  An argument that is a slice of tokens, read as a list of tokens; the step from a walk to the row.
-/
import Derived.Test.YtegjgbgnpkncbabKf38
import Derived.Test.YtegjgbgnpkncbabKf09
import Derived.Test.YtegjgbgnpkncbabRows
import Derived.ProofKit
import Derived.OpenShut
import Derived.ShutString
import Derived.ChangeOld
import Derived.Below
import Derived.Lib.SmallJoins
import Derived.Deep.Slices
namespace Go.Proofs.Ytegjgbgnpkncbab
open Go.RowKit
set_option linter.unusedVariables false
set_option maxHeartbeats 1000000 in
set_option maxRecDepth 100000 in
theorem sameEngine_any (e : En) (A : Option Addr) (c : Nat) (A2 : Option Addr) (c2 : Nat) (w : World) (hm : e.ms.length ≤ 2097152) (hi : e.it.length ≤ 2097152) (h1 : MS w A e.ms) (h2 : HS w A2 e.it) :
    Calls Try.prog 57 #[.agg #[.int .i64 e.W, .int .i64 e.col, .int .i64 e.pend, .slice A e.ms.length c, .slice A2 e.it.length c2, .int .i64 e.tot, .int .i64 e.lev]] w fun r w' => ∃ v, r = .returned v ∧ EngO w' w.heap.size v e ∧ Below w.heap.size w w' := by
  have H1 := Lib.hid h1
  have H2 := Lib.hid h2
  clear h1 h2
  go_enter Try.func57, Try.ntmps57
  go_wp2_with fail
  have hX0 := BlkL.new w 47 (ecs e (.slice A e.ms.length c) (.slice A2 e.it.length c2))
  have hX1 := hX0.alloc (.cells (ecs ⟨0, 0, 0, [], [], 0, 0⟩ (.slice none 0 0) (.slice none 0 0)).toArray 47)
  have hY1 := BlkL.new (w.alloc (.cells (ecs e (.slice A e.ms.length c) (.slice A2 e.it.length c2)).toArray 47)) 47 (ecs ⟨0, 0, 0, [], [], 0, 0⟩ (.slice none 0 0) (.slice none 0 0))
  rw [show (w.alloc (.cells (ecs e (.slice A e.ms.length c) (.slice A2 e.it.length c2)).toArray 47)).heap.size = w.heap.size + 1 by simp] at hY1
  have hB1 := ((Below.refl w.heap.size w).alloc (Nat.le_refl _) (.cells (ecs e (.slice A e.ms.length c) (.slice A2 e.it.length c2)).toArray 47)).alloc (by simp) (.cells (ecs ⟨0, 0, 0, [], [], 0, 0⟩ (.slice none 0 0) (.slice none 0 0)).toArray 47)
  change Calls _ _ _ ((w.alloc (.cells (ecs e (.slice A e.ms.length c) (.slice A2 e.it.length c2)).toArray 47)).alloc (.cells (ecs ⟨0, 0, 0, [], [], 0, 0⟩ (.slice none 0 0) (.slice none 0 0)).toArray 47)) _
  generalize (w.alloc (.cells (ecs e (.slice A e.ms.length c) (.slice A2 e.it.length c2)).toArray 47)).alloc (.cells (ecs ⟨0, 0, 0, [], [], 0, 0⟩ (.slice none 0 0) (.slice none 0 0)).toArray 47) = w1 at *
  clear hX0
  refine (cloneM_any A e.ms _ c w1 rfl hm (RS.below H1.out hB1)).mono ?_
  rintro r w2 ⟨vM, rfl, hM2, hb2⟩
  obtain ⟨AM, cM, rfl⟩ := own_form hM2
  have HM2 := Lib.hid (own_low hM2 hB1.size)
  have hX2 := hX1.below hb2 hX1.lt
  have hY2 := hY1.below hb2 hY1.lt
  have HB2 := Lib.hid (hB1.trans (hb2.mono hB1.size))
  clear hM2 hb2 hX1 hY1 hB1
  have x3 : w2.cell? ⟨w.heap.size, 3, none⟩ = some (.slice A e.ms.length c) := (hX2.cell 3).trans rfl
  have x4 : w2.cell? ⟨w.heap.size, 4, none⟩ = some (.slice A2 e.it.length c2) := (hX2.cell 4).trans rfl
  have xf := hX2.frozen
  have xl := hX2.lt
  have HX2 := Lib.hid hX2
  have HY2 := Lib.hid hY2
  clear hX2 hY2
  go_wp2_with fail
  have hnM : (Value.slice AM e.ms.length cM).ownBlock ≠ some w.heap.size := own_blk HM2.out HX2.out (by decide)
  have hX3 := HX2.out.set 3 (.slice AM e.ms.length cM)
  have hY3 := HY2.out.far (p := ⟨w.heap.size, 3, none⟩) (by show w.heap.size + 1 ≠ w.heap.size; omega) (.slice AM e.ms.length cM)
  have hM3 := ownsRow_setCell_other (a := ⟨w.heap.size, 3, none⟩) HM2.out hnM (.slice AM e.ms.length cM)
  have hB3 := HB2.out.setCell (p := ⟨w.heap.size, 3, none⟩) (Nat.le_refl _) (.slice AM e.ms.length cM)
  clear x3 x4 xf xl HX2 HY2 HM2 HB2 hnM
  generalize w2.setCell ⟨w.heap.size, 3, none⟩ (.slice AM e.ms.length cM) = w3 at *
  refine (cloneH_any A2 e.it _ c2 w3 rfl hi (RS.below H2.out hB3)).mono ?_
  rintro r w4 ⟨vI, rfl, hI4, hb4⟩
  obtain ⟨AI, cI, rfl⟩ := own_form hI4
  have HI4 := Lib.hid (own_low hI4 hB3.size)
  have HM4 := Lib.hid (own_keep hM3 hb4)
  have hX4 := hX3.below hb4 hX3.lt
  have hY4 := hY3.below hb4 hY3.lt
  have HB4 := Lib.hid (hB3.trans (hb4.mono hB3.size))
  clear hI4 hb4 hX3 hY3 hM3 hB3
  have x0 : w4.cell? ⟨w.heap.size, 0, none⟩ = some (.int .i64 e.W) := (hX4.cell 0).trans rfl
  have x1 : w4.cell? ⟨w.heap.size, 1, none⟩ = some (.int .i64 e.col) := (hX4.cell 1).trans rfl
  have x2 : w4.cell? ⟨w.heap.size, 2, none⟩ = some (.int .i64 e.pend) := (hX4.cell 2).trans rfl
  have x3 : w4.cell? ⟨w.heap.size, 3, none⟩ = some (.slice AM e.ms.length cM) := (hX4.cell 3).trans rfl
  have x4 : w4.cell? ⟨w.heap.size, 4, none⟩ = some (.slice A2 e.it.length c2) := (hX4.cell 4).trans rfl
  have x5 : w4.cell? ⟨w.heap.size, 5, none⟩ = some (.int .i64 e.tot) := (hX4.cell 5).trans rfl
  have x6 : w4.cell? ⟨w.heap.size, 6, none⟩ = some (.int .i64 e.lev) := (hX4.cell 6).trans rfl
  have y0 : w4.cell? ⟨w.heap.size + 1, 0, none⟩ = some (.int .i64 0) := (hY4.cell 0).trans rfl
  have y1 : w4.cell? ⟨w.heap.size + 1, 1, none⟩ = some (.int .i64 0) := (hY4.cell 1).trans rfl
  have y2 : w4.cell? ⟨w.heap.size + 1, 2, none⟩ = some (.int .i64 0) := (hY4.cell 2).trans rfl
  have y3 : w4.cell? ⟨w.heap.size + 1, 3, none⟩ = some (.slice none 0 0) := (hY4.cell 3).trans rfl
  have y4 : w4.cell? ⟨w.heap.size + 1, 4, none⟩ = some (.slice none 0 0) := (hY4.cell 4).trans rfl
  have y5 : w4.cell? ⟨w.heap.size + 1, 5, none⟩ = some (.int .i64 0) := (hY4.cell 5).trans rfl
  have y6 : w4.cell? ⟨w.heap.size + 1, 6, none⟩ = some (.int .i64 0) := (hY4.cell 6).trans rfl
  have xf := hX4.frozen
  have yf := hY4.frozen
  have xl := hX4.lt
  have yl := hY4.lt
  have HX4 := Lib.hid hX4
  have HY4 := Lib.hid hY4
  clear hX4 hY4
  go_wp2
  have hnM : (Value.slice AM e.ms.length cM).ownBlock ≠ some w.heap.size := own_blk HM4.out HX4.out (by decide)
  have hnM' : (Value.slice AM e.ms.length cM).ownBlock ≠ some (w.heap.size + 1) := own_blk HM4.out HY4.out (by decide)
  have hnI : (Value.slice AI e.it.length cI).ownBlock ≠ some w.heap.size := own_blk HI4.out HX4.out (by decide)
  have hnI' : (Value.slice AI e.it.length cI).ownBlock ≠ some (w.heap.size + 1) := own_blk HI4.out HY4.out (by decide)
  have hb5 := below_setN (B := w.heap.size) (a := w) (g := w.heap.size + 1) (by omega) (ecs e (.slice AM e.ms.length cM) (.slice AI e.it.length cI)) _ 0 (HB4.out.setCell (p := ⟨w.heap.size, 4, none⟩) (Nat.le_refl _) (.slice AI e.it.length cI))
  have hY5 := BlkL.setN (ecs e (.slice AM e.ms.length cM) (.slice AI e.it.length cI)) _ _ 0 (HY4.out.far (p := ⟨w.heap.size, 4, none⟩) (by show w.heap.size + 1 ≠ w.heap.size; omega) (.slice AI e.it.length cI))
  have hM5 := own_setN hnM' (ecs e (.slice AM e.ms.length cM) (.slice AI e.it.length cI)) _ 0 (ownsRow_setCell_other (a := ⟨w.heap.size, 4, none⟩) HM4.out hnM (.slice AI e.it.length cI))
  have hI5 := own_setN hnI' (ecs e (.slice AM e.ms.length cM) (.slice AI e.it.length cI)) _ 0 (ownsRow_setCell_other (a := ⟨w.heap.size, 4, none⟩) HI4.out hnI (.slice AI e.it.length cI))
  clear x0 x1 x2 x3 x4 x5 x6 y0 y1 y2 y3 y4 y5 y6 xf yf xl yl
  change bodyPost _ _ _ _ _ (World.setN (w4.setCell ⟨w.heap.size, 4, none⟩ (.slice AI e.it.length cI)) (w.heap.size + 1) 0 (ecs e (.slice AM e.ms.length cM) (.slice AI e.it.length cI)))
  generalize World.setN (w4.setCell ⟨w.heap.size, 4, none⟩ (.slice AI e.it.length cI)) (w.heap.size + 1) 0 (ecs e (.slice AM e.ms.length cM) (.slice AI e.it.length cI)) = w5 at *
  have k0 : w5.cell? ⟨w.heap.size + 1, 0, none⟩ = some (.int .i64 e.W) := (hY5.cell 0).trans rfl
  have k1 : w5.cell? ⟨w.heap.size + 1, 1, none⟩ = some (.int .i64 e.col) := (hY5.cell 1).trans rfl
  have k2 : w5.cell? ⟨w.heap.size + 1, 2, none⟩ = some (.int .i64 e.pend) := (hY5.cell 2).trans rfl
  have k3 : w5.cell? ⟨w.heap.size + 1, 3, none⟩ = some (.slice AM e.ms.length cM) := (hY5.cell 3).trans rfl
  have k4 : w5.cell? ⟨w.heap.size + 1, 4, none⟩ = some (.slice AI e.it.length cI) := (hY5.cell 4).trans rfl
  have k5 : w5.cell? ⟨w.heap.size + 1, 5, none⟩ = some (.int .i64 e.tot) := (hY5.cell 5).trans rfl
  have k6 : w5.cell? ⟨w.heap.size + 1, 6, none⟩ = some (.int .i64 e.lev) := (hY5.cell 6).trans rfl
  refine bodyPost_ret (v := ev e AM cM AI cI) (by simp [results, Try.results57, go_sem, k0, k1, k2, k3, k4, k5, k6, ev]) rfl ⟨_, rfl, ?_, hb5⟩
  exact ⟨_, _, _, _, rfl, OR.of_own fm_len rfl hM5, OR.of_own fh_len rfl hI5⟩
end Go.Proofs.Ytegjgbgnpkncbab
namespace Go.Proofs.Ytegjgbgnpkncbab
open Go.ChangeShapes Go.WideShapes Go.ChangeAt Go.RowKit Go.Joins Go.Deep

theorem own : ownKnob Try.prog.godebug = none := by kernel_rfl
theorem laidOut : laidOutB Try.prog = true := by kernel_rfl
theorem cellsTok : Try.prog.cellsOf 41 = 4 := by kernel_rfl

theorem cell_addr {w : World} {a : Addr} {v : Value} (h : w.cell? a = some v) : a = ⟨a.block, a.off, none⟩ ∧ a.block < w.heap.size := by
  unfold World.cell? at h
  cases hb : w.heap[a.block]? with
  | none => rw [hb] at h; simp at h
  | some o =>
    refine ⟨?_, (Array.getElem?_eq_some_iff.1 hb).1⟩
    rw [hb] at h
    obtain ⟨b, off, s⟩ := a
    cases o with
    | cells c e f =>
      cases s with
      | none => rfl
      | some _ => simp at h
    | _ => simp at h
theorem add_plain (b o n : Nat) : (⟨b, o, none⟩ : Addr).add n = ⟨b, o + n, none⟩ := by
  unfold Addr.add
  by_cases h : n = 0 <;> simp [h]

theorem cellsInt : Try.prog.cellsOf 3 = 1 := by kernel_rfl
theorem cellsStr : Try.prog.cellsOf 9 = 1 := by kernel_rfl

set_option maxRecDepth 100000 in
theorem open_toks {H : Type} {enc : TypeId × Value → H} {W : World} {r : Reach} {base : Nat} {v : Value} {d : DataW H} {p : List MemPlace}
    (hv : Value.okWide Try.prog W r base 22 v) (h : DataW.Trod enc Try.prog W 0 (fun _ => true) true 22 v d p) :
    ∃ (A : Option Addr) (n c : Nat) (l : List Tk), v = .slice A n c ∧ l.length = n ∧ n ≤ maxLen ∧ TS W A l ∧ Fits l := by
  obtain ⟨A, n, c, rfl⟩ := okWide_slice Try.underlying22 hv
  obtain ⟨fuel, hf⟩ := h
  rcases open_slice Try.underlying22 hf with ⟨hcs, _⟩ | ⟨a, len, cap, m, k, D, Pl, hcs, _, hl, hm, hmm, _, hi⟩
  · have e : Value.slice A n c = .slice none 0 0 := by simpa [Value.cells] using hcs
    injection e with e1 e2 e3
    subst e1 e2 e3
    exact ⟨none, 0, 0, [], rfl, rfl, Nat.zero_le _, TS.nil _ _, fun i t h => by simp at h⟩
  · have e : Value.slice A n c = .slice (some a) len cap := by simpa [Value.cells] using hcs
    injection e with e1 e2 e3
    subst e1 e2 e3
    have hmm' : m = c := by simpa using hmm
    rw [cellsTok] at hi
    have step : ∀ i, i < n → ∃ t : Tk, W.cell? ((a.add (i * 4)).add 0) = some (.int .i64 t.k) ∧ W.cell? ((a.add (i * 4)).add 1) = some (.string t.s) ∧ W.cell? ((a.add (i * 4)).add 2) = some (.int .i64 t.d) ∧ W.cell? ((a.add (i * 4)).add 3) = some (.int .i64 t.o) ∧ t.s.size ≤ maxLen := by
      intro i hin
      obtain ⟨cs', hc, ht⟩ := hi i (by omega)
      obtain ⟨_, hcl, hat⟩ := World.cells?_some hc
      obtain ⟨y0, y1, y2, y3, n', _, _, h0, h1, h2, h3⟩ := trod_struct4 Try.underlying41 ht
      match cs', hcl with
      | [v0, v1, v2, v3], _ =>
        obtain ⟨k0, e0, _, _⟩ := DataW.trod_int Try.underlying3 h0
        obtain ⟨s0, e1, _, ws⟩ := DataW.trod_string Try.underlying9 h1
        obtain ⟨d0, e2, _, _⟩ := DataW.trod_int Try.underlying3 h2
        obtain ⟨o0, e3, _, _⟩ := DataW.trod_int Try.underlying3 h3
        simp [cellsInt] at e0 e2 e3
        simp [cellsStr] at e1
        subst e0 e1 e2 e3
        exact ⟨⟨k0, s0, d0, o0⟩, hat 0 (by omega), hat 1 (by omega), hat 2 (by omega), hat 3 (by omega), ws⟩
    haveI : Inhabited Tk := ⟨⟨0, ByteArray.empty, 0, 0⟩⟩
    obtain ⟨F, hF⟩ := choose_lt step
    refine ⟨some a, n, c, (List.range n).map F, rfl, by simp, by omega, ?_, ?_⟩
    · intro i t hit
      have hin : i < n := by have := (List.getElem?_eq_some_iff.1 hit).1; simpa using this
      have ht : F i = t := by simpa [List.getElem?_map, List.getElem?_range hin] using hit
      subst ht
      obtain ⟨ha, hb⟩ := cell_addr (hF 0 (by omega)).1
      have ha' : a = ⟨a.block, a.off, none⟩ := by simpa [Addr.add] using ha
      have hb' : a.block < W.heap.size := by simpa [Addr.add] using hb
      obtain ⟨q0, q1, q2, q3, _⟩ := hF i hin
      rw [ha'] at q0 q1 q2 q3
      simp only [add_plain] at q0 q1 q2 q3
      exact ⟨a.block, a.off, by rw [← ha'], hb', q0, q1, q2, q3⟩
    · intro i t hit
      have hin : i < n := by have := (List.getElem?_eq_some_iff.1 hit).1; simpa using this
      have ht : F i = t := by simpa [List.getElem?_map, List.getElem?_range hin] using hit
      subst ht
      exact (hF i hin).2.2.2.2
end Go.Proofs.Ytegjgbgnpkncbab
