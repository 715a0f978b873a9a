/-
  An argument that is a deque, and one that is a slice of numbers, read as lists; the step from a walk to the row.
-/
import Derived.Test.YtkpkchlbljlbnaaArg
import Derived.Test.YtkpkchlbljlbnaaDql
import Derived.ChangeSlices
import Derived.Deep.Strs
namespace Go.Proofs.Ytkpkchlbljlbnaa
open Go.ChangeShapes Go.WideShapes Go.ChangeAt Go.RowKit Go.Joins Go.Deep

set_option maxRecDepth 100000 in
theorem open_numsC {H : Type} {enc : TypeId × Value → H} {W : World} {fuel : Nat} {v : Value} {x : DataW H × List MemPlace} (hf : DataW.trod enc Try.prog W 0 (fun _ => true) true fuel 24 [v] = some x) :
    ∃ (A : Option Addr) (n c : Nat) (s : List Int), v = .slice A n c ∧ s.length = n ∧ n ≤ maxLen ∧ IA W A s ∧ (∀ x ∈ s, (Lit.int .i64 x).wf = true) := by
  rcases open_ints Try.underlying24 Try.underlying3 cellsInt hf with ⟨hcs, _⟩ | ⟨a, len, cap, zs, hcs, _, hl, hm, hzl, _, hcell, hwf⟩
  · have e : v = .slice none 0 0 := by simpa using hcs
    subst e
    exact ⟨none, 0, 0, [], rfl, rfl, Nat.zero_le _, fun i x h => by simp at h, fun x h => by simp at h⟩
  · have e : v = .slice (some a) len cap := by simpa using hcs
    subst e
    have hz : zs.length = cap := by simpa using hzl
    refine ⟨some a, len, cap, zs.take len, rfl, by simp; omega, Nat.le_trans hl hm, fun i x hx => ?_, fun x hx => hwf x (List.mem_of_mem_take hx)⟩
    have hi : i < len := by have := (List.getElem?_eq_some_iff.1 hx).1; simp at this; omega
    have hx2 : zs[i]? = some x := by rw [List.getElem?_take, if_pos hi] at hx; exact hx
    have hc0 := hcell i (by omega)
    have hc1 := hcell 0 (by omega)
    rw [List.getD_eq_getElem?_getD, hx2] at hc0
    obtain ⟨ha, hb⟩ := cell_addr hc1
    have ha' : a = ⟨a.block, a.off, none⟩ := by simpa [Addr.add] using ha
    have hb' : a.block < W.heap.size := by simpa [Addr.add] using hb
    rw [ha', add_plain] at hc0
    exact ⟨a.block, a.off, by rw [← ha'], hb', hc0⟩
theorem open_nums {H : Type} {enc : TypeId × Value → H} {W : World} {r : Reach} {base : Nat} {v : Value} {d : DataW H} {p : List MemPlace}
    (hv : Value.okWide Try.prog W r base 24 v) (h : DataW.Trod enc Try.prog W 0 (fun _ => true) true 24 v d p) :
    ∃ (A : Option Addr) (n c : Nat) (s : List Int), v = .slice A n c ∧ s.length = n ∧ n ≤ maxLen ∧ IA W A s ∧ (∀ x ∈ s, (Lit.int .i64 x).wf = true) := by
  obtain ⟨A, n, c, rfl⟩ := okWide_slice Try.underlying24 hv
  obtain ⟨fuel, hf⟩ := h
  exact open_numsC (v := .slice A n c) (by simpa [Value.cells] using hf)

theorem cellsSl : Try.prog.cellsOf 24 = 1 := by kernel_rfl
theorem cellsDq : Try.prog.cellsOf 36 = 3 := by kernel_rfl
set_option maxRecDepth 100000 in
theorem open_deque {H : Type} {enc : TypeId × Value → H} {W : World} {r : Reach} {base : Nat} {v : Value} {d : DataW H} {p : List MemPlace}
    (hv : Value.okWide Try.prog W r base 36 v) (h : DataW.Trod enc Try.prog W 0 (fun _ => true) true 36 v d p) :
    ∃ (A : Option Addr) (n c : Nat) (s : List Int) (hd ct : Int), v = .agg #[.slice A n c, .int .i64 hd, .int .i64 ct] ∧ s.length = n ∧ n ≤ maxLen ∧ IA W A s ∧ (∀ x ∈ s, (Lit.int .i64 x).wf = true) ∧ (Lit.int .i64 hd).wf = true ∧ (Lit.int .i64 ct).wf = true := by
  obtain ⟨cs, rfl, hcs⟩ := okWide_struct Try.underlying36 hv
  rw [cellsDq] at hcs
  obtain ⟨fuel, hf⟩ := h
  obtain ⟨y0, y1, y2, n', _, hlen, h0, h1, h2⟩ := trod_struct3 Try.underlying36 hf
  obtain ⟨l⟩ := cs
  match l, hcs with
  | [v0, v1, v2], _ =>
    simp only [Value.cells, List.drop_zero, List.drop_succ_cons, cellsSl, cellsInt, List.take_succ_cons, List.take_zero] at h0 h1 h2
    obtain ⟨A, n, c, s, rfl, hl, hn, hi, hw⟩ := open_numsC h0
    obtain ⟨hd, e1, _, w1⟩ := DataW.trod_int Try.underlying3 h1
    obtain ⟨ct, e2, _, w2⟩ := DataW.trod_int Try.underlying3 h2
    simp at e1 e2
    subst e1 e2
    exact ⟨A, n, c, s, hd, ct, rfl, hl, hn, hi, hw, w1, w2⟩
end Go.Proofs.Ytkpkchlbljlbnaa
