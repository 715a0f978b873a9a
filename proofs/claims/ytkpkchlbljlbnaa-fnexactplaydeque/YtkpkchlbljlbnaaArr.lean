/-
  Arrays of numbers as one value: read, laid, stored and compared as one; and the zeroing of a ring's places in plain words. It names types of the program alone.
-/
import Derived.Test.YtkpkchlbljlbnaaRgp
import Derived.Laws.StructEq
import Derived.Laws.Tables
import Derived.Laws.Rows
namespace Go.Proofs.Ytkpkchlbljlbnaa
open Go.RowKit
set_option linter.unusedVariables false

theorem all_range_ints : ∀ (xs ys : List Int), xs.length = ys.length → ((List.range xs.length).all fun i => xs.getD i 0 == ys.getD i 0) = (xs == ys)
  | [], [], _ => rfl
  | x :: xs, y :: ys, h => by
    have ih := all_range_ints xs ys (by simpa using h)
    rw [List.length_cons, List.range_succ_eq_map, List.all_cons, List.all_map]
    simp only [List.getD_cons_zero, Function.comp_def, List.getD_cons_succ, ih]
    simp [List.cons_beq_cons]
  | [], _ :: _, h => by simp at h
  | _ :: _, [], h => by simp at h
theorem run_equalIn_ints {P : Program} (w : World) (d : Nat) (t e : TypeId) (n : Nat) (ht : P.underlying t = some (.array n e)) (he : P.underlying e = some (.int .i64)) (hsz : ∀ w, (sizeOf e).run P w = .ok 1 w)
    (xs ys : List Int) (hx : xs.length = n) (hy : ys.length = n) :
    (Op.equalIn (d + 2) t (.agg (nums xs).toArray) (.agg (nums ys).toArray)).run P w = .ok (xs == ys) w := by
  rw [← all_range_ints xs ys (hx.trans hy.symm), hx, List.range_eq_range', Op.equalIn]
  simp only [Sem.run_bind, run_underlying ht, Result.andThen_ok, hsz, Std.Legacy.Range.forIn_eq_forIn_range', Std.Legacy.Range.size, Nat.sub_zero, Nat.add_sub_cancel, Nat.div_one]
  have hl : ∀ i ∈ List.range' 0 n 1, i < n := fun i hi => by simpa using (List.mem_range'_1.1 hi).2
  generalize List.range' 0 n 1 = l at hl ⊢
  induction l with
  | nil => simp
  | cons i l ih =>
    have hi : i < n := hl i (by simp)
    have px : (part e (nums xs).toArray (i * 1)).run P w = .ok (.int .i64 (xs.getD i 0)) w := by
      simp [part, isAgg, run_underlying he, nums, List.getD, List.getElem?_eq_getElem (show i < xs.length by omega)]
    have py : (part e (nums ys).toArray (i * 1)).run P w = .ok (.int .i64 (ys.getD i 0)) w := by
      simp [part, isAgg, run_underlying he, nums, List.getD, List.getElem?_eq_getElem (show i < ys.length by omega)]
    have pe : (Op.equalIn (d + 1) e (.int .i64 (xs.getD i 0)) (.int .i64 (ys.getD i 0))).run P w = .ok (xs.getD i 0 == ys.getD i 0) w := run_equalIn_int w d e .i64 .i64 _ _ he
    simp only [List.forIn_cons, Sem.run_bind, px, py, pe, Result.andThen_ok, List.all_cons]
    cases hb : (xs.getD i 0 == ys.getD i 0)
    · simp
    · simp only [Bool.not_true, Bool.false_eq_true, if_false, Sem.run_pure, Result.andThen_ok, Bool.true_and]
      exact ih fun j hj => hl j (by simp [hj])
theorem run_eql_ints {P : Program} (w : World) (t e : TypeId) (n : Nat) (ht : P.underlying t = some (.array n e)) (he : P.underlying e = some (.int .i64)) (hsz : ∀ w, (sizeOf e).run P w = .ok 1 w)
    (xs ys : List Int) (hx : xs.length = n) (hy : ys.length = n) :
    (binOp .eql t (.agg (nums xs).toArray) (.agg (nums ys).toArray)).run P w = .ok (.bool (xs == ys)) w := by
  rw [run_eql_struct, run_equalIn_ints w 9998 t e n ht he hsz xs ys hx hy]
  rfl

/-- one operation whose run is known. -/
theorem wpList_run {P : Program} {ops : Array Oper} {rest : List Oper} {o : Oper} {a : Act} {w : World} {Q : Exit → Act → World → Prop} (hgd : o.guard = none) (v : Value) (w' : World) (hr : (execOp a.eval o).run P w = .ok (.value v) w')
    (h : wpList P ops Q rest (a.put o.dst v) w') : wpList P ops Q (o :: rest) a w :=
  wpList_plain hgd fun K hK => by unfold Oper.wp; rw [hr]; exact hK _ _ h
theorem wpList_skip {P : Program} {ops : Array Oper} {rest : List Oper} {o : Oper} {a : Act} {w : World} {Q : Exit → Act → World → Prop} (hgd : o.guard = none) (w' : World) (hr : (execOp a.eval o).run P w = .ok .skip w')
    (h : wpList P ops Q rest (a.put o.dst undef) w') : wpList P ops Q (o :: rest) a w :=
  wpList_plain hgd fun K hK => by unfold Oper.wp; rw [hr]; exact hK _ _ h

/-- the first cells of a block, read as one array. -/
theorem run_loadVar_pre {P : Program} (w : World) (g : Nat) (ty : TypeId) (cs : List Value) (d : TypeDesc) (hc : ∀ j v, cs[j]? = some v → w.cell? ⟨g, j, none⟩ = some v)
    (hu : P.underlying ty = some d) (hd : (match d with | .struct _ | .array _ _ => true | _ => false) = true) (hi : (P.info? ty).map (·.size) = some cs.length) :
    (loadVar ty ⟨g, 0, none⟩).run P w = .ok (.agg cs.toArray) w := by
  have hl : (loadCells ⟨g, 0, none⟩ cs.length).run P w = .ok cs.toArray w :=
    run_loadCells_list (P := P) w ⟨g, 0, none⟩ cs (fun j v hv => by
      have hadd : (⟨g, 0, none⟩ : Addr).add j = ⟨g, j, none⟩ := by unfold Addr.add; split <;> simp_all
      rw [hadd]
      exact hc j v hv)
  cases hq : P.info? ty with
  | none => simp [hq] at hi
  | some i =>
    have hs : i.size = cs.length := by simpa [hq] using hi
    have hagg : (isAgg ty).run P w = .ok true w := by
      unfold isAgg
      rw [Sem.run_bind, run_underlying hu w]
      cases d <;> simp_all
    simp [loadVar, Sem.run_bind, hagg, sizeOf, typeInfo, hq, hs, hl]
theorem exec_load {P : Program} {o : Oper} {a : Act} {w : World} (ty : TypeId) (x : Operand) (ho : o.op = .load ty x) (p : Addr) (hx : a.eval x = .pointer (some p)) (v : Value) (h : (loadVar ty p).run P w = .ok v w) :
    (execOp a.eval o).run P w = .ok (.value v) w := by
  unfold execOp
  simp only [ho, hx, Instr.loadAt, Instr.sureAddr, Sem.run_bind, Sem.run_pure, Result.andThen_ok, h]
theorem exec_store {P : Program} {o : Oper} {a : Act} {w w' : World} (ty : TypeId) (x y : Operand) (ho : o.op = .store ty x y) (p : Addr) (hx : a.eval x = .pointer (some p)) (v : Value) (hy : a.eval y = v) (h : (storeVar ty p v).run P w = .ok () w') :
    (execOp a.eval o).run P w = .ok .skip w' := by
  unfold execOp
  simp only [ho, hx, hy, Instr.storeAt, Instr.sureAddr, Sem.run_bind, Sem.run_pure, Result.andThen_ok, h]
theorem exec_alloc {P : Program} {o : Oper} {a : Act} {w w' : World} (ty : TypeId) (ho : o.op = .alloc ty) (v : Value) (h : (Instr.alloc ty true (.tuple #[])).run P w = .ok v w') :
    (execOp a.eval o).run P w = .ok (.value v) w' := by
  unfold execOp
  simp only [ho, Sem.run_bind, Sem.run_pure, Result.andThen_ok, h]
theorem exec_box {P : Program} {o : Oper} {a : Act} {w w' : World} (ty : TypeId) (x : Operand) (ho : o.op = .box ty x) (u v : Value) (hx : a.eval x = u) (h : (Instr.box ty u).run P w = .ok v w') :
    (execOp a.eval o).run P w = .ok (.value v) w' := by
  unfold execOp
  simp only [ho, hx, Sem.run_bind, Sem.run_pure, Result.andThen_ok, h]
theorem exec_build {P : Program} {o : Oper} {a : Act} {w : World} (ty : TypeId) (parts : Array (Nat × Operand)) (ho : o.op = .build ty parts) (ps : Array (Nat × Value)) (hp : (parts.map fun (i, x) => (i, a.eval x)) = ps) (v : Value) (h : (Instr.build ty ps).run P w = .ok v w) :
    (execOp a.eval o).run P w = .ok (.value v) w := by
  subst hp
  unfold execOp
  simp only [ho, Sem.run_bind, Sem.run_pure, Result.andThen_ok, h]
theorem exec_move {P : Program} {o : Oper} {a : Act} {w : World} (x : Operand) (ho : o.op = .move x) : (execOp a.eval o).run P w = .ok (.value (a.eval x)) w := by
  unfold execOp
  simp only [ho, Sem.run_pure]
theorem exec_eql {P : Program} {o : Oper} {a : Act} {w : World} (ty ty2 : TypeId) (x y : Operand) (ho : o.op = .binOp .eql ty x y ty2) (xs ys : Array Value) (hx : a.eval x = .agg xs) (hy : a.eval y = .agg ys) (hg : P.eqGuardType P.depth ty = false) (v : Value)
    (h : (binOp .eql ty (.agg xs) (.agg ys)).run P w = .ok v w) : (execOp a.eval o).run P w = .ok (.value v) w := by
  unfold execOp
  simp only [ho, hx, hy, Sem.run_bind]
  simp [eqGuard, hg, h]

/-- a new array of 64 noughts. -/
def noughts : List Int := List.replicate 64 0
theorem noughts_length : noughts.length = 64 := rfl
theorem alloc64 (w : World) : (Instr.alloc 79 true (.tuple #[])).run Try.prog w = .ok (.pointer (some ⟨w.heap.size, 0, none⟩)) (w.alloc (.cells (nums noughts).toArray 79)) := by kernel_rfl
theorem build64 (w : World) : (Instr.build 79 #[]).run Try.prog w = .ok (.agg (nums noughts).toArray) w := run_build w 79 _ _ (by kernel_rfl)
theorem guard64 : Try.prog.eqGuardType Try.prog.depth 79 = false := by kernel_rfl
theorem info64 : (Try.prog.info? 79).map (·.size) = some 64 := by kernel_rfl
theorem sizeInt (w : World) : (sizeOf 3).run Try.prog w = .ok 1 w := by kernel_rfl
theorem under64 : Try.prog.underlying 79 = some (.array 64 3) := Try.underlying79

/-- the places of the first k that are held, emptied. -/
def zTo (L : List Int) (n h : Nat) : Nat → List Int
  | 0 => L
  | k + 1 => (zTo L n h k).set (plc n h k) 0
theorem zTo_length (L : List Int) (n h k : Nat) : (zTo L n h k).length = L.length := by
  induction k with
  | zero => rfl
  | succ k ih => simp only [zTo, List.length_set, ih]
theorem plc_eq {n h j : Nat} (hh : h < n) (hj : j ≤ n) : plc n h j = if h + j < n then h + j else h + j - n := by
  unfold plc
  split
  · exact Nat.mod_eq_of_lt ‹_›
  · rw [Nat.mod_eq_sub_mod (by omega)]; exact Nat.mod_eq_of_lt (by omega)
theorem zTo_at (L : List Int) (n h k i : Nat) (hi : i < L.length) : ((∃ j, j < k ∧ plc n h j = i) ∧ (zTo L n h k)[i]? = some 0) ∨ ((∀ j, j < k → plc n h j ≠ i) ∧ (zTo L n h k)[i]? = L[i]?) := by
  induction k with
  | zero => exact .inr ⟨fun j hj => by omega, rfl⟩
  | succ k ih =>
    simp only [zTo, List.getElem?_set, zTo_length]
    by_cases e : plc n h k = i
    · rw [if_pos e, if_pos (by omega)]
      exact .inl ⟨⟨k, by omega, e⟩, rfl⟩
    · rw [if_neg e]
      rcases ih with ⟨⟨j, hj, hje⟩, h2⟩ | ⟨h1, h2⟩
      · exact .inl ⟨⟨j, by omega, hje⟩, h2⟩
      · refine .inr ⟨fun j hj => ?_, h2⟩
        by_cases ej : j = k
        · subst ej; exact e
        · exact h1 j (by omega)
/-- where none stands there is 0. -/
def restB (s : List Int) (h q : Nat) : Bool := (List.range s.length).all fun k => decide (k < q) || (s.getD (plc s.length h k) 0 == 0)
def pad (s : List Int) : List Int := s ++ List.replicate (64 - s.length) 0
theorem pad_length {s : List Int} (h : s.length ≤ 64) : (pad s).length = 64 := by simp [pad]; omega
theorem rest_eq {s : List Int} {h q : Nat} (B : RgB s h q) : (zTo (pad s) s.length h q == noughts) = restB s h q := by
  unfold noughts
  obtain ⟨n1, n2, h1, q1⟩ := B
  have hl := pad_length n2
  have hin : ∀ i, i < s.length → (pad s)[i]? = s[i]? := fun i hi => by unfold pad; rw [List.getElem?_append_left hi]
  have hout : ∀ i, s.length ≤ i → i < 64 → (pad s)[i]? = some 0 := fun i hi h6 => by
    unfold pad
    rw [List.getElem?_append_right hi, List.getElem?_replicate, if_pos (by omega)]
  rw [Bool.eq_iff_iff, beq_iff_eq]
  constructor
  · intro he
    unfold restB
    rw [List.all_eq_true]
    intro k hk
    have hk' := List.mem_range.1 hk
    by_cases hkq : k < q
    · simp [hkq]
    · have hp := plc_lt h k n1
      have hat : (zTo (pad s) s.length h q)[plc s.length h k]? = some 0 := by
        rw [he, List.getElem?_replicate, if_pos (by omega)]
      rcases zTo_at (pad s) s.length h q (plc s.length h k) (by omega) with ⟨⟨j, hj, hje⟩, _⟩ | ⟨_, h2⟩
      · exfalso
        rw [plc_eq h1 (by omega), plc_eq h1 (by omega)] at hje
        split at hje <;> split at hje <;> omega
      · rw [hat, hin _ hp] at h2
        simp [← h2]
  · intro hr
    unfold restB at hr
    rw [List.all_eq_true] at hr
    apply List.ext_getElem?
    intro i
    by_cases hi : i < 64
    · rw [List.getElem?_replicate, if_pos hi]
      rcases zTo_at (pad s) s.length h q i (by omega) with ⟨_, h2⟩ | ⟨h3, h2⟩
      · exact h2
      · rw [h2]
        by_cases hs : i < s.length
        · rw [hin i hs]
          have hk : ∃ k, k < s.length ∧ plc s.length h k = i := by
            by_cases hhi : h ≤ i
            · exact ⟨i - h, by omega, by rw [plc_eq h1 (by omega), if_pos (by omega)]; omega⟩
            · exact ⟨i + s.length - h, by omega, by rw [plc_eq h1 (by omega), if_neg (by omega)]; omega⟩
          obtain ⟨k, hk, hke⟩ := hk
          have hkq : ¬ k < q := fun hlt => h3 k hlt hke
          have := hr k (List.mem_range.2 hk)
          simp only [hkq, decide_false, Bool.false_or, beq_iff_eq, hke] at this
          rw [List.getD_eq_getElem?_getD, List.getElem?_eq_getElem hs] at this
          rw [List.getElem?_eq_getElem hs]
          simpa using this
        · exact hout i (by omega) hi
    · rw [List.getElem?_eq_none (by rw [zTo_length]; omega), List.getElem?_eq_none (by simp; omega)]
end Go.Proofs.Ytkpkchlbljlbnaa
