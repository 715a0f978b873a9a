/-
  An argument that is a slice of tokens, read as a list of tokens; the step from a walk to the row.
-/
import Derived.Test.YthjkgbcomjiejabGreatDoorFf10
import Derived.Test.YthjkgbcomjiejabGreatDoorRows
import Derived.ProofKit
import Derived.OpenShut
import Derived.ShutString
import Derived.ChangeOld
import Derived.Below
import Derived.Lib.SmallJoins
import Derived.Deep.Slices
namespace Go.Proofs.YthjkgbcomjiejabGreatDoor
open Go.ChangeShapes Go.WideShapes Go.ChangeAt Go.RowKit Go.Joins Go.Deep

theorem own : ownKnob Tryz.prog.godebug = none := by kernel_rfl
theorem laidOut : laidOutB Tryz.prog = true := by kernel_rfl
theorem cellsTok : Tryz.prog.cellsOf 39 = 4 := by kernel_rfl

theorem cell_addr {w : World} {a : Addr} {v : Value} (h : w.cell? a = some v) : a = ⟨a.block, a.off, none⟩ ∧ a.block < w.heap.size := by
  unfold World.cell? at h
  cases hb : w.heap[a.block]? with
  | none => rw [hb] at h; simp at h
  | some o =>
    refine ⟨?_, (Array.getElem?_eq_some_iff.1 hb).1⟩
    rw [hb] at h
    obtain ⟨b, off, s⟩ := a
    cases o with
    | cells c e f =>
      cases s with
      | none => rfl
      | some _ => simp at h
    | _ => simp at h
theorem add_plain (b o n : Nat) : (⟨b, o, none⟩ : Addr).add n = ⟨b, o + n, none⟩ := by
  unfold Addr.add
  by_cases h : n = 0 <;> simp [h]

theorem cellsInt : Tryz.prog.cellsOf 3 = 1 := by kernel_rfl
theorem cellsStr : Tryz.prog.cellsOf 9 = 1 := by kernel_rfl

set_option maxRecDepth 100000 in
theorem open_toks {H : Type} {enc : TypeId × Value → H} {W : World} {r : Reach} {base : Nat} {v : Value} {d : DataW H} {p : List MemPlace}
    (hv : Value.okWide Tryz.prog W r base 22 v) (h : DataW.Trod enc Tryz.prog W 0 (fun _ => true) true 22 v d p) :
    ∃ (A : Option Addr) (n c : Nat) (l : List Tk), v = .slice A n c ∧ l.length = n ∧ n ≤ maxLen ∧ TS W A l ∧ Fits l := by
  obtain ⟨A, n, c, rfl⟩ := okWide_slice Tryz.underlying22 hv
  obtain ⟨fuel, hf⟩ := h
  rcases open_slice Tryz.underlying22 hf with ⟨hcs, _⟩ | ⟨a, len, cap, m, k, D, Pl, hcs, _, hl, hm, hmm, _, hi⟩
  · have e : Value.slice A n c = .slice none 0 0 := by simpa [Value.cells] using hcs
    injection e with e1 e2 e3
    subst e1 e2 e3
    exact ⟨none, 0, 0, [], rfl, rfl, Nat.zero_le _, TS.nil _ _, fun i t h => by simp at h⟩
  · have e : Value.slice A n c = .slice (some a) len cap := by simpa [Value.cells] using hcs
    injection e with e1 e2 e3
    subst e1 e2 e3
    have hmm' : m = c := by simpa using hmm
    rw [cellsTok] at hi
    have step : ∀ i, i < n → ∃ t : Tk, W.cell? ((a.add (i * 4)).add 0) = some (.int .i64 t.k) ∧ W.cell? ((a.add (i * 4)).add 1) = some (.string t.s) ∧ W.cell? ((a.add (i * 4)).add 2) = some (.int .i64 t.d) ∧ W.cell? ((a.add (i * 4)).add 3) = some (.int .i64 t.o) ∧ t.s.size ≤ maxLen := by
      intro i hin
      obtain ⟨cs', hc, ht⟩ := hi i (by omega)
      obtain ⟨_, hcl, hat⟩ := World.cells?_some hc
      obtain ⟨y0, y1, y2, y3, n', _, _, h0, h1, h2, h3⟩ := trod_struct4 Tryz.underlying39 ht
      match cs', hcl with
      | [v0, v1, v2, v3], _ =>
        obtain ⟨k0, e0, _, _⟩ := DataW.trod_int Tryz.underlying3 h0
        obtain ⟨s0, e1, _, ws⟩ := DataW.trod_string Tryz.underlying9 h1
        obtain ⟨d0, e2, _, _⟩ := DataW.trod_int Tryz.underlying3 h2
        obtain ⟨o0, e3, _, _⟩ := DataW.trod_int Tryz.underlying3 h3
        simp [cellsInt] at e0 e2 e3
        simp [cellsStr] at e1
        subst e0 e1 e2 e3
        exact ⟨⟨k0, s0, d0, o0⟩, hat 0 (by omega), hat 1 (by omega), hat 2 (by omega), hat 3 (by omega), ws⟩
    haveI : Inhabited Tk := ⟨⟨0, ByteArray.empty, 0, 0⟩⟩
    obtain ⟨F, hF⟩ := choose_lt step
    refine ⟨some a, n, c, (List.range n).map F, rfl, by simp, by omega, ?_, ?_⟩
    · intro i t hit
      have hin : i < n := by have := (List.getElem?_eq_some_iff.1 hit).1; simpa using this
      have ht : F i = t := by simpa [List.getElem?_map, List.getElem?_range hin] using hit
      subst ht
      obtain ⟨ha, hb⟩ := cell_addr (hF 0 (by omega)).1
      have ha' : a = ⟨a.block, a.off, none⟩ := by simpa [Addr.add] using ha
      have hb' : a.block < W.heap.size := by simpa [Addr.add] using hb
      obtain ⟨q0, q1, q2, q3, _⟩ := hF i hin
      rw [ha'] at q0 q1 q2 q3
      simp only [add_plain] at q0 q1 q2 q3
      exact ⟨a.block, a.off, by rw [← ha'], hb', q0, q1, q2, q3⟩
    · intro i t hit
      have hin : i < n := by have := (List.getElem?_eq_some_iff.1 hit).1; simpa using this
      have ht : F i = t := by simpa [List.getElem?_map, List.getElem?_range hin] using hit
      subst ht
      exact (hF i hin).2.2.2.2
end Go.Proofs.YthjkgbcomjiejabGreatDoor
