/-
  An argument that is an engine, read as lists; the step from a walk to the row.
-/
import Derived.Test.YtegjgbgnpkncbabKf41
import Derived.Test.YtegjgbgnpkncbabKf27
import Derived.ChangeSlices
import Derived.Deep.Strs
namespace Go.Proofs.Ytegjgbgnpkncbab
open Go.ChangeShapes Go.WideShapes Go.ChangeAt Go.RowKit Go.Joins Go.Deep
set_option linter.unusedVariables false

theorem trod_struct7 {H : Type} {enc : TypeId × Value → H} {P : Program} {w : World} {base : Nat} {spare : Nat → Bool} {held : Bool} {t : TypeId} {f0 f1 f2 f3 f4 f5 f6 : Field} {fuel : Nat} {cs : List Value} {x : DataW H × List MemPlace} (ht : P.underlying t = some (.struct #[f0, f1, f2, f3, f4, f5, f6])) (h : DataW.trod enc P w base spare held fuel t cs = some x) :
    ∃ y0 y1 y2 y3 y4 y5 y6 n, cs.length = P.cellsOf t ∧ DataW.trod enc P w base spare held n f0.type ((cs.drop f0.offset).take (P.cellsOf f0.type)) = some y0 ∧
      DataW.trod enc P w base spare held n f1.type ((cs.drop f1.offset).take (P.cellsOf f1.type)) = some y1 ∧ DataW.trod enc P w base spare held n f2.type ((cs.drop f2.offset).take (P.cellsOf f2.type)) = some y2 ∧
      DataW.trod enc P w base spare held n f3.type ((cs.drop f3.offset).take (P.cellsOf f3.type)) = some y3 ∧ DataW.trod enc P w base spare held n f4.type ((cs.drop f4.offset).take (P.cellsOf f4.type)) = some y4 ∧
      DataW.trod enc P w base spare held n f5.type ((cs.drop f5.offset).take (P.cellsOf f5.type)) = some y5 ∧ DataW.trod enc P w base spare held n f6.type ((cs.drop f6.offset).take (P.cellsOf f6.type)) = some y6 := by
  obtain ⟨xs, n, _, rfl, hl, hlen, hf⟩ := DataW.trod_struct ht h
  match xs, hlen with
  | [y0, y1, y2, y3, y4, y5, y6], _ => exact ⟨y0, y1, y2, y3, y4, y5, y6, n, hl, by simpa using hf 0 f0 rfl, by simpa using hf 1 f1 rfl, by simpa using hf 2 f2 rfl, by simpa using hf 3 f3 rfl, by simpa using hf 4 f4 rfl, by simpa using hf 5 f5 rfl, by simpa using hf 6 f6 rfl⟩
theorem EngO.shape {w : World} {B : Nat} {v : Value} {e : En} (h : EngO w B v e) : ∃ (a0 a1 a2 : Int) (S : Option Addr) (n c : Nat) (S2 : Option Addr) (n2 c2 : Nat) (a5 a6 : Int), v = .agg #[.int .i64 a0, .int .i64 a1, .int .i64 a2, .slice S n c, .slice S2 n2 c2, .int .i64 a5, .int .i64 a6] := by
  obtain ⟨A, c, A2, c2, rfl, _, _⟩ := h
  exact ⟨_, _, _, _, _, _, _, _, _, _, _, rfl⟩
theorem cellsMark : Try.prog.cellsOf 124 = 2 := by kernel_rfl
theorem cellsHeld : Try.prog.cellsOf 119 = 7 := by kernel_rfl
theorem cellsEng : Try.prog.cellsOf 39 = 7 := by kernel_rfl
theorem cellsMarkS : Try.prog.cellsOf 36 = 1 := by kernel_rfl
theorem cellsHeldS : Try.prog.cellsOf 37 = 1 := by kernel_rfl

/-- a row out of places read one by one. -/
theorem rs_choose {α : Type} [Inhabited α] {f : α → List Value} {z : Nat} {W : World} {a : Addr} {n : Nat} (hz : 0 < z) (step : ∀ i, i < n → ∃ t : α, ∀ j, j < z → W.cell? ((a.add (i * z)).add j) = (f t)[j]?) (hf : ∀ t, (f t).length = z) :
    ∃ l : List α, l.length = n ∧ RS f z W (some a) l ∧ ∀ i, i < n → ∃ t, l[i]? = some t ∧ ∀ j, j < z → W.cell? ((a.add (i * z)).add j) = (f t)[j]? := by
  obtain ⟨F, hF⟩ := choose_lt step
  refine ⟨(List.range n).map F, by simp, ?_, fun i hi => ⟨F i, by simp [hi], hF i hi⟩⟩
  intro i t hit
  have hin : i < n := by have := (List.getElem?_eq_some_iff.1 hit).1; simpa using this
  have ht : F i = t := by simpa [List.getElem?_map, List.getElem?_range hin] using hit
  subst ht
  have h00 := hF 0 (by omega) 0 hz
  have hex : ∃ v, (f (F 0))[0]? = some v := ⟨_, List.getElem?_eq_getElem (by rw [hf]; exact hz)⟩
  obtain ⟨v, hv⟩ := hex
  rw [hv] at h00
  obtain ⟨ha, hb⟩ := cell_addr h00
  have ha' : a = ⟨a.block, a.off, none⟩ := by simpa [Addr.add] using ha
  have hb' : a.block < W.heap.size := by simpa [Addr.add] using hb
  refine ⟨a.block, a.off, by rw [← ha'], hb', fun j hj => ?_⟩
  have := hF i hin j hj
  rw [ha', add_plain, add_plain] at this
  exact this
set_option maxRecDepth 100000 in
theorem open_marks {H : Type} {enc : TypeId × Value → H} {W : World} {fuel : Nat} {v : Value} {x : DataW H × List MemPlace} (hf : DataW.trod enc Try.prog W 0 (fun _ => true) true fuel 36 [v] = some x) :
    ∃ (A : Option Addr) (c : Nat) (l : List (Int × Int)), v = .slice A l.length c ∧ l.length ≤ maxLen ∧ MS W A l := by
  rcases open_slice Try.underlying36 hf with ⟨hcs, _⟩ | ⟨a, len, cap, m, k, D, Pl, hcs, _, hl, hm, hmm, _, hi⟩
  · have e : v = .slice none 0 0 := by simpa using hcs
    subst e
    exact ⟨none, 0, [], rfl, Nat.zero_le _, RS.nil _ _⟩
  · have e : v = .slice (some a) len cap := by simpa using hcs
    subst e
    have hmm' : m = cap := by simpa using hmm
    rw [cellsMark] at hi
    have step : ∀ i, i < len → ∃ t : Int × Int, ∀ j, j < 2 → W.cell? ((a.add (i * 2)).add j) = (fm t)[j]? := by
      intro i hin
      obtain ⟨cs', hc, ht⟩ := hi i (by omega)
      obtain ⟨_, hcl, hat⟩ := World.cells?_some hc
      obtain ⟨y0, y1, n', _, _, h0, h1⟩ := trod_struct2 Try.underlying124 ht
      match cs', hcl with
      | [v0, v1], _ =>
        obtain ⟨k0, e0, _, _⟩ := DataW.trod_int Try.underlying3 h0
        obtain ⟨k1, e1, _, _⟩ := DataW.trod_int Try.underlying3 h1
        simp [cellsInt] at e0 e1
        subst e0 e1
        refine ⟨(k0, k1), fun j hj => ?_⟩
        match j, hj with
        | 0, _ => exact hat 0 (by omega)
        | 1, _ => exact hat 1 (by omega)
    obtain ⟨l, hll, hrs, _⟩ := rs_choose (α := Int × Int) (f := fm) (by decide) step fm_len
    exact ⟨some a, cap, l, by rw [hll], by omega, hrs⟩
set_option maxRecDepth 100000 in
theorem open_helds {H : Type} {enc : TypeId × Value → H} {W : World} {fuel : Nat} {v : Value} {x : DataW H × List MemPlace} (hf : DataW.trod enc Try.prog W 0 (fun _ => true) true fuel 37 [v] = some x) :
    ∃ (A : Option Addr) (c : Nat) (l : List Hd), v = .slice A l.length c ∧ l.length ≤ maxLen ∧ HS W A l ∧ Fits (tks l) := by
  rcases open_slice Try.underlying37 hf with ⟨hcs, _⟩ | ⟨a, len, cap, m, k, D, Pl, hcs, _, hl, hm, hmm, _, hi⟩
  · have e : v = .slice none 0 0 := by simpa using hcs
    subst e
    exact ⟨none, 0, [], rfl, Nat.zero_le _, RS.nil _ _, fun i t h => by simp [tks] at h⟩
  · have e : v = .slice (some a) len cap := by simpa using hcs
    subst e
    have hmm' : m = cap := by simpa using hmm
    rw [cellsHeld] at hi
    have step : ∀ i, i < len → ∃ t : Hd, (∀ j, j < 7 → W.cell? ((a.add (i * 7)).add j) = (fh t)[j]?) ∧ t.t.s.size ≤ maxLen := by
      intro i hin
      obtain ⟨cs', hc, ht⟩ := hi i (by omega)
      obtain ⟨_, hcl, hat⟩ := World.cells?_some hc
      obtain ⟨y0, y1, y2, y3, n', _, _, h0, h1, h2, h3⟩ := trod_struct4 Try.underlying119 ht
      match cs', hcl with
      | [v0, v1, v2, v3, v4, v5, v6], _ =>
        simp only [cellsTok, cellsInt, List.drop_zero, List.drop_succ_cons, List.take_succ_cons, List.take_zero] at h0 h1 h2 h3
        obtain ⟨z0, z1, z2, z3, n2, _, _, g0, g1, g2, g3⟩ := trod_struct4 Try.underlying41 h0
        obtain ⟨k0, e0, _, _⟩ := DataW.trod_int Try.underlying3 g0
        obtain ⟨s0, e1, _, ws⟩ := DataW.trod_string Try.underlying9 g1
        obtain ⟨d0, e2, _, _⟩ := DataW.trod_int Try.underlying3 g2
        obtain ⟨o0, e3, _, _⟩ := DataW.trod_int Try.underlying3 g3
        obtain ⟨k4, e4, _, _⟩ := DataW.trod_int Try.underlying3 h1
        obtain ⟨k5, e5, _, _⟩ := DataW.trod_int Try.underlying3 h2
        obtain ⟨k6, e6, _, _⟩ := DataW.trod_int Try.underlying3 h3
        simp [cellsInt] at e0 e2 e3
        simp [cellsStr] at e1
        simp at e4 e5 e6
        subst e0 e1 e2 e3 e4 e5 e6
        refine ⟨⟨⟨k0, s0, d0, o0⟩, k4, k5, k6⟩, fun j hj => ?_, ws⟩
        match j, hj with
        | 0, _ => exact hat 0 (by omega)
        | 1, _ => exact hat 1 (by omega)
        | 2, _ => exact hat 2 (by omega)
        | 3, _ => exact hat 3 (by omega)
        | 4, _ => exact hat 4 (by omega)
        | 5, _ => exact hat 5 (by omega)
        | 6, _ => exact hat 6 (by omega)
    haveI : Inhabited Hd := ⟨zeroH⟩
    obtain ⟨l, hll, hrs, hex⟩ := rs_choose (α := Hd) (f := fh) (by decide) (fun i hi => ⟨_, (step i hi).choose_spec.1⟩) fh_len
    refine ⟨some a, cap, l, by rw [hll], by omega, hrs, fun i t hit => ?_⟩
    simp only [tks, List.getElem?_map, Option.map_eq_some_iff] at hit
    obtain ⟨h, hh, rfl⟩ := hit
    have hin : i < len := by have := (List.getElem?_eq_some_iff.1 hh).1; omega
    obtain ⟨t1, ht1, hc1⟩ := hex i hin
    rw [hh] at ht1
    injection ht1 with ht1
    subst ht1
    obtain ⟨t2, hc2, hs2⟩ := step i hin
    have e := (hc1 1 (by decide)).symm.trans (hc2 1 (by decide))
    have e2 : h.t.s = t2.t.s := by simpa [fh] using e
    rw [e2]
    exact hs2
set_option maxRecDepth 100000 in
theorem open_engine {H : Type} {enc : TypeId × Value → H} {W : World} {r : Reach} {base : Nat} {v : Value} {d : DataW H} {p : List MemPlace}
    (hv : Value.okWide Try.prog W r base 39 v) (h : DataW.Trod enc Try.prog W 0 (fun _ => true) true 39 v d p) :
    ∃ (e : En) (A : Option Addr) (c : Nat) (A2 : Option Addr) (c2 : Nat), v = ev e A c A2 c2 ∧ MS W A e.ms ∧ HS W A2 e.it ∧ e.ms.length ≤ maxLen ∧ e.it.length ≤ maxLen ∧ Fits (tks e.it) := by
  obtain ⟨cs, rfl, hcs⟩ := okWide_struct Try.underlying39 hv
  rw [cellsEng] at hcs
  obtain ⟨fuel, hf⟩ := h
  obtain ⟨y0, y1, y2, y3, y4, y5, y6, n', hlen, h0, h1, h2, h3, h4, h5, h6⟩ := trod_struct7 Try.underlying39 hf
  obtain ⟨l⟩ := cs
  match l, hcs with
  | [v0, v1, v2, v3, v4, v5, v6], _ =>
    simp only [Value.cells, List.drop_zero, List.drop_succ_cons, cellsMarkS, cellsHeldS, cellsInt, List.take_succ_cons, List.take_zero] at h0 h1 h2 h3 h4 h5 h6
    obtain ⟨x0, e0, _, w0⟩ := DataW.trod_int Try.underlying3 h0
    obtain ⟨x1, e1, _, w1⟩ := DataW.trod_int Try.underlying3 h1
    obtain ⟨x2, e2, _, w2⟩ := DataW.trod_int Try.underlying3 h2
    obtain ⟨A, c, ms, rfl, hml, hms⟩ := open_marks h3
    obtain ⟨A2, c2, it, rfl, hil, his, hfi⟩ := open_helds h4
    obtain ⟨x5, e5, _, w5⟩ := DataW.trod_int Try.underlying3 h5
    obtain ⟨x6, e6, _, w6⟩ := DataW.trod_int Try.underlying3 h6
    simp at e0 e1 e2 e5 e6
    subst e0 e1 e2 e5 e6
    exact ⟨⟨x0, x1, x2, ms, it, x5, x6⟩, A, c, A2, c2, rfl, hms, his, hml, hil, hfi⟩
end Go.Proofs.Ytegjgbgnpkncbab
