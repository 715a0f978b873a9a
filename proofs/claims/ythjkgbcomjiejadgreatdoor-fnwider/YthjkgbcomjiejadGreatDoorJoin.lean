/-
  JoinStreams on both sides.
-/
import Derived.Test.YthjkgbcomjiejadGreatDoorStrm
import Derived.Laws.CopyOwn
import Derived.Test.YthjkgbcomjiejadGreatDoorMark
import Derived.Maps.AppendAt
namespace Go.Proofs.YthjkgbcomjiejadGreatDoor
open Go.RowKit
set_option linter.unusedVariables false

theorem flat_oneCell (l : List Tk) : ∀ v ∈ flat l, v.oneCell' = true := by
  induction l with
  | nil => simp [flat]
  | cons t r ih =>
    intro v hv
    simp only [flat, List.mem_cons] at hv
    rcases hv with rfl | rfl | rfl | rfl | hv
    · rfl
    · rfl
    · rfl
    · rfl
    · exact ih v hv
theorem flat_cells {w : World} {b o : Nat} {l : List Tk} (h : TS w (some ⟨b, o, none⟩) l) : ∀ j v, (flat l)[j]? = some v → w.cell? ((⟨b, o, none⟩ : Addr).add j) = some v := by
  intro j v hj
  have hl : j < l.length * 4 := by have := (List.getElem?_eq_some_iff.1 hj).1; rwa [flat_length] at this
  have ht : l[j / 4]? = some (l[j / 4]'(by omega)) := List.getElem?_eq_getElem (by omega)
  obtain ⟨_, c0, c1, c2, c3⟩ := h.get ht
  have f := flat_at ht
  have ha : (⟨b, o, none⟩ : Addr).add j = ⟨b, o + j, none⟩ := by unfold Addr.add; by_cases h0 : j = 0 <;> simp [h0]
  rw [ha]
  generalize (l[j / 4]'(by omega)) = t at *
  have e : j = j / 4 * 4 + j % 4 := by omega
  have hm : j % 4 < 4 := by omega
  generalize j / 4 = q at *
  generalize j % 4 = m at *
  subst e
  obtain ⟨f0, f1, f2, f3⟩ := f
  match m, hm with
  | 0, _ => rw [show q * 4 + 0 = q * 4 from rfl] at hj ⊢; rw [c0, ← f0, hj]
  | 1, _ => rw [← Nat.add_assoc, c1, ← f1, hj]
  | 2, _ => rw [← Nat.add_assoc, c2, ← f2, hj]
  | 3, _ => rw [← Nat.add_assoc, c3, ← f3, hj]

theorem grown_setRow (w : World) (g : Nat) (cs : Array Value) : w.grownBy (w.setRow g cs) (some g) :=
  ⟨rfl, rfl, rfl, by simp [World.setRow], fun k _ hne => setRow_other w g k cs (by rintro rfl; exact hne rfl)⟩

/-- copy of tokens into a block of tokens. -/
theorem run_copy_toks (w : World) (ty : TypeId) (g o dLen dCap : Nat) (dp A : Option Addr) (sLen sCap : Nat) (cur : List Value) (l : List Tk) (hl : l.length = sLen) (hle : sLen ≤ dLen)
    (hg : BlkL w g 38 cur) (hts : TS w A l) (hpos : 0 < sLen → dp = some ⟨g, o, none⟩) (hfit : o + sLen * 4 ≤ cur.length) :
    ∃ w', (Builtin.copy_ #[29, 29] ty #[.slice dp dLen dCap, .slice A sLen sCap]).run Tryz.prog w = .ok (.int .i64 (sLen : Int)) w' ∧ BlkL w' g 38 (splice cur o (flat l)) ∧ w.grownBy w' (some g) := by
  obtain ⟨i, hi, _, hsz, _⟩ := info_parts infoTok
  have hmin : Nat.min sLen dLen = sLen := Nat.min_eq_left hle
  by_cases h0 : sLen = 0
  · subst h0
    have hln : l = [] := List.eq_nil_of_length_eq_zero hl
    subst hln
    have hl0 : ∀ (x : Addr), (loadCells x 0).run Tryz.prog w = .ok #[] w := fun x => by simpa using run_loadCells_list (P := Tryz.prog) w x [] (by simp)
    refine ⟨w, ?_, by simpa [splice, flat] using hg, World.grownBy.refl _ _⟩
    cases dp <;> cases A <;> simp [Builtin.copy_, run_underlying Tryz.underlying29, Builtin.lenOf, Builtin.firstCells, sizeOf, typeInfo, hi, storeCells, hl0] <;> rfl
  · obtain rfl := hpos (by omega)
    have ht : l[0]? = some (l[0]'(by omega)) := List.getElem?_eq_getElem (by omega)
    obtain ⟨b, p, rfl, hb, _⟩ := hts 0 _ ht
    have hld := run_loadCells_list (P := Tryz.prog) w ⟨b, p, none⟩ (flat l) (flat_cells hts)
    have hst := run_storeCells_at Tryz.prog g o 38 (flat l) 0 cur.toArray w hg (by simp [flat_length, hl]; exact hfit) (flat_oneCell l)
    refine ⟨_, ?_, ?_, grown_setRow w g (splice cur o (flat l)).toArray⟩
    · rw [flat_length, hl] at hld
      simp only [Nat.add_zero, flat_length, hl] at hst
      simp [Builtin.copy_, run_underlying Tryz.underlying29, Builtin.lenOf, Builtin.firstCells, sizeOf, typeInfo, hi, hsz, hmin, hld, hst, splice, flat_length, hl]
      rfl
    · exact setRow_heap w g _ _ 38 _ hg
theorem wpList_copy_toks {w : World} {ops : Array Oper} {rest : List Oper} {o : Oper} {a : Act} {Q : Exit → Act → World → Prop} (hgd : o.guard = none) (d s : Operand)
    (ho : o.op = .call { callee := .builtin .copy, args := #[d, s], argTypes := #[29, 29] })
    (dp A : Option Addr) (dLen dCap sLen sCap : Nat) (hd : a.eval d = .slice dp dLen dCap) (hs : a.eval s = .slice A sLen sCap)
    (g off : Nat) (cur : List Value) (l : List Tk) (hl : l.length = sLen) (hle : sLen ≤ dLen) (hg : BlkL w g 38 cur) (hts : TS w A l) (hpos : 0 < sLen → dp = some ⟨g, off, none⟩) (hfit : off + sLen * 4 ≤ cur.length)
    (h : ∀ w', BlkL w' g 38 (splice cur off (flat l)) → w.grownBy w' (some g) → wpList Tryz.prog ops Q rest (a.put o.dst (.int .i64 (sLen : Int))) w') :
    wpList Tryz.prog ops Q (o :: rest) a w := by
  refine wpList_plain hgd fun K hK => ?_
  obtain ⟨w', hrun, h1, h2⟩ := run_copy_toks w o.type g off dLen dCap dp A sLen sCap cur l hl hle hg hts hpos hfit
  unfold Oper.wp
  simp [execOp, ho, resolve, invoke, builtin, hd, hs, hrun, Result.andThen]
  exact hK _ _ (h w' h1 h2)

/-- a part: where it lies, its capacity, its tokens. -/
structure Pt where
  A : Option Addr
  c : Nat
  l : List Tk
def catTo (ps : List Pt) (j : Nat) : List Tk := ((ps.take j).map Pt.l).flatten
theorem catTo_zero (ps : List Pt) : catTo ps 0 = [] := by simp [catTo]
theorem catTo_succ {ps : List Pt} {j : Nat} {x : Pt} (h : ps[j]? = some x) : catTo ps (j + 1) = catTo ps j ++ x.l := by
  unfold catTo
  rw [List.take_add_one, h]
  simp
theorem catTo_le (ps : List Pt) (j k : Nat) (h : j ≤ k) : (catTo ps j).length ≤ (catTo ps k).length := by
  induction h with
  | refl => exact Nat.le_refl _
  | @step m _ ih =>
    refine Nat.le_trans ih ?_
    cases e : ps[m]? with
    | none => unfold catTo; rw [List.take_add_one, e]; simp
    | some x => rw [catTo_succ e]; simp
theorem catTo_take (ps : List Pt) (j k : Nat) (h : j ≤ k) : (catTo ps k).take (catTo ps j).length = catTo ps j := by
  induction h with
  | refl => simp
  | @step m hm ih =>
    cases e : ps[m]? with
    | none =>
      have : catTo ps (m + 1) = catTo ps m := by unfold catTo; rw [List.take_add_one, e]; simp
      rw [this]; exact ih
    | some x =>
      rw [catTo_succ e, List.take_append_of_le_length (catTo_le ps j m hm)]; exact ih
/-- the parts as they lie in memory. -/
def PS (w : World) (gp : Nat) (ps : List Pt) : Prop := gp < w.heap.size ∧ ∀ i x, ps[i]? = some x → w.cell? ⟨gp, i, none⟩ = some (.slice x.A x.l.length x.c) ∧ TS w x.A x.l
theorem PS.below {w w' : World} {gp : Nat} {ps : List Pt} (h : PS w gp ps) (hb : Below w.heap.size w w') : PS w' gp ps :=
  ⟨Nat.lt_of_lt_of_le h.1 hb.size, fun i x hx => ⟨(hb.cell (p := ⟨gp, i, none⟩) h.1).trans (h.2 i x hx).1, (h.2 i x hx).2.below hb⟩⟩

theorem splice_fill {L l : List Tk} {N k : Nat} (hL : L.length = N) (hk : k + l.length ≤ N) (hl : L.take (k + l.length) = L.take k ++ l) : splice (flat (fillTo L N k)) (k * 4) (flat l) = flat (fillTo L N (k + l.length)) := by
  have hlk : (L.take k).length = k := by simp; omega
  have e1 : flat (fillTo L N k) = flat (L.take k) ++ flat (List.replicate (N - k) zeroTk) := by rw [fillTo, flat_append]
  have e2 : List.replicate (N - k) zeroTk = List.replicate l.length zeroTk ++ List.replicate (N - (k + l.length)) zeroTk := by
    rw [List.replicate_append_replicate]; congr 1; omega
  unfold splice
  rw [e1, fillTo, hl, flat_append, flat_append, e2, flat_append]
  have f1 : (flat (L.take k)).length = k * 4 := by rw [flat_length, hlk]
  have f2 : (flat (List.replicate l.length zeroTk)).length = (flat l).length := by rw [flat_length, flat_length]; simp
  rw [List.take_append_of_le_length (by omega), List.take_of_length_le (by omega)]
  rw [List.drop_append, List.drop_eq_nil_of_le (by omega), f1, show k * 4 + (flat l).length - k * 4 = (flat l).length by omega, List.nil_append, List.drop_append, List.drop_eq_nil_of_le (by omega), f2]
  simp

def CatPost (w : World) (L : List Tk) (e : Ending) (w' : World) : Prop :=
  Below w.heap.size w w' ∧ ((strB L = true ∧ e = .returned (.tuple #[.slice (some ⟨w.heap.size, 0, none⟩) L.length L.length, .bool true]) ∧ BlkL w' w.heap.size 38 (flat L)) ∨
    (strB L = false ∧ e = .returned (.tuple #[.slice none 0 0, .bool false])))

end Go.Proofs.YthjkgbcomjiejadGreatDoor
namespace Go.Proofs.YthjkgbcomjiejadGreatDoor
open Go.RowKit
set_option linter.unusedVariables false

/-- what a call hands back: tokens of its own and true, or nothing and false. -/
def TokOut (w : World) (b : Bool) (L : List Tk) (e : Ending) (w' : World) : Prop :=
  Below w.heap.size w w' ∧ ((b = true ∧ ∃ g, e = .returned (.tuple #[.slice (some ⟨g, 0, none⟩) L.length L.length, .bool true]) ∧ w.heap.size ≤ g ∧ BlkL w' g 38 (flat L)) ∨
    (b = false ∧ e = .returned (.tuple #[.slice none 0 0, .bool false])))
def STokOut (w : World) (b : Bool) (L : List Tk) (e : Ending) (w' : World) : Prop :=
  Below w.heap.size w w' ∧ ((b = true ∧ ∃ A c, e = .returned (.tuple #[.slice A L.length c, .bool true]) ∧ (∀ g, A.map (·.block) = some g → w.heap.size ≤ g ∧ g < w'.heap.size) ∧ TS w' A L) ∨
    (b = false ∧ e = .returned (.tuple #[.slice none 0 0, .bool false])))
def jnB (la lb L : List Tk) : Bool := strB la && (strB lb && strB L)
theorem Fits.app {la lb : List Tk} (ha : Fits la) (hb : Fits lb) : Fits (la ++ lb) := by
  intro i t ht
  rw [List.getElem?_append] at ht
  split at ht
  · exact ha _ _ ht
  · exact hb _ _ ht

theorem PS.two {w : World} {A B : Option Addr} {la lb : List Tk} {n m c d : Nat} {t : TypeId} (hn : la.length = n) (hm : lb.length = m) (ha : TS w A la) (hb : TS w B lb) :
    PS (w.alloc (.cells #[.slice A n c, .slice B m d] t)) w.heap.size [⟨A, c, la⟩, ⟨B, d, lb⟩] := by
  subst hn hm
  have hN := BlkL.new w t [.slice A la.length c, .slice B lb.length d]
  refine ⟨hN.lt, fun i x hx => ?_⟩
  match i, hx with
  | 0, hx => simp at hx; subst hx; exact ⟨(hN.cell 0).trans rfl, ha.alloc _⟩
  | 1, hx => simp at hx; subst hx; exact ⟨(hN.cell 1).trans rfl, hb.alloc _⟩
  | i + 2, hx => simp at hx

theorem cell_four_new (w : World) (x0 x1 x2 x3 : Value) (t : TypeId) : ∀ j u, [x0, x1, x2, x3][j]? = some u → (w.alloc (.cells #[x0, x1, x2, x3] t)).cell? ((⟨w.heap.size, 0, none⟩ : Addr).add j) = some u := by
  intro j u hj
  have hN := BlkL.new w t [x0, x1, x2, x3]
  have ha : (⟨w.heap.size, 0, none⟩ : Addr).add j = ⟨w.heap.size, j, none⟩ := by unfold Addr.add; by_cases h0 : j = 0 <;> simp [h0]
  rw [ha]
  exact (hN.cell j).trans hj
theorem flat_one (t : Tk) : flat [t] = [.int .i64 t.k, .string t.s, .int .i64 t.d, .int .i64 t.o] := rfl
theorem toks_of_own {w : World} {base : Nat} {v : Value} {n : Nat} {l : List Tk} (h : w.ownsRow base 38 4 v n (flat l)) : l.length = n ∧ ∃ A c, v = .slice A n c ∧ (∀ b, A.map (·.block) = some b → base ≤ b ∧ b < w.heap.size) ∧ TS w A l := by
  have hlt := h.lt
  have hlen : l.length = n := by have := h.1; rw [flat_length] at this; omega
  refine ⟨hlen, ?_⟩
  have hall := h.2
  rcases hall with ⟨rfl, rfl⟩ | ⟨g, cap, cur, rfl, hg, hh, _⟩
  · have : l = [] := List.eq_nil_of_length_eq_zero hlen
    subst this
    exact ⟨none, 0, rfl, fun b hb => by simp at hb, TS.nil _ _⟩
  · refine ⟨_, cap, rfl, fun b hb => by simp at hb; subst hb; exact hlt g rfl, ?_⟩
    intro i t ht
    have f := flat_at ht
    have hi : i < n := by have := (List.getElem?_eq_some_iff.1 ht).1; omega
    refine ⟨g, 0, rfl, (hlt g rfl).2, ?_⟩
    unfold TkC
    simp only [Nat.zero_add]
    rw [h.cellAt _ (by omega), h.cellAt _ (by omega), h.cellAt _ (by omega), h.cellAt _ (by omega)]
    exact f
theorem ownsRow_keep4 {w w' : World} {B : Nat} {e : TypeId} {v : Value} {n : Nat} {xs : List Value} (h : w.ownsRow B e 4 v n xs) (hb : Below w.heap.size w w') : w'.ownsRow B e 4 v n xs :=
  h.kept (World.grownBy.mk hb.os hb.tape hb.output hb.size (fun i hi _ => hb.block i hi) : w.grownBy w' none) (by cases v.ownBlock <;> simp)
theorem app_below {w w2 w3 : World} {o : Obj} {e : TypeId} {v : Value} {n : Nat} {xs : List Value} (hB : Below w.heap.size w w2) (hown : w2.ownsRow w.heap.size e 4 v n xs) (hg : (w2.alloc o).grownBy w3 v.ownBlock) : Below w.heap.size w w3 :=
  (hB.alloc hB.size o).grown hg (Nat.le_trans hB.size (by simp)) (fun k hk => (hown.lt k hk).1)

def CopyPost (w : World) (l : List Tk) (e : Ending) (w' : World) : Prop := ∃ v, e = .returned v ∧ w'.ownsRow w.heap.size 38 4 v l.length (flat l) ∧ Below w.heap.size w w'

set_option maxHeartbeats 1000000 in
set_option maxRecDepth 100000 in
theorem sCopy_any (A : Option Addr) (l : List Tk) (n c : Nat) (w : World) (hn : l.length = n) (hm : n ≤ 2097152) (ha : TS w A l) :
    Calls Tryz.prog 70 #[.slice A n c] w (CopyPost w l) := by
  have HN := Lib.hid hn
  clear hn
  have hmk : ∀ w : World, (Instr.buildSlice 29 0 #[]).run Tryz.prog w = .ok (.slice (some ⟨w.heap.size, 0, none⟩) 0 0) (w.alloc (.cells #[] 38)) := fun _ => by kernel_rfl
  obtain ⟨i0, hi, hz0, hz1, hz2⟩ := info_parts infoTok
  go_enter Tryz.func70, Tryz.ntmps70
  go_wp2
  go_loopw [3, 4] (fun v i wr => ∃ k : Nat, k ≤ n ∧ i = .int .i64 k ∧ wr.ownsRow w.heap.size 38 4 v k (flat (l.take k)) ∧ Below w.heap.size w wr) (fun _ i _ => n - (intOf i).toNat)
  case atStart => exact ⟨0, Nat.zero_le _, rfl, by simpa [flat] using World.ownsRow_lit (base := w.heap.size) (e := 38) (size := 4) w #[] 0 (Nat.le_refl _) (Nat.zero_le _) rfl, (Below.refl _ _).alloc (Nat.le_refl _) _⟩
  case round =>
    obtain ⟨k, hk, rfl, hown, hbw⟩ := hrel
    clear hmk
    have HO := Lib.hid hown
    have HB := Lib.hid hbw
    have hz := hbw.size
    by_cases hkl : k < n
    · obtain ⟨t, b, o, ht, rfl, hbl, _⟩ := ha.at (k := k) (by have := HN.out; omega)
      obtain ⟨hbl', c0, c1, c2, c3⟩ := (ha.below hbw).get ht
      have HT := Lib.hid (show flat (l.take k) ++ [Value.int .i64 t.k, .string t.s, .int .i64 t.d, .int .i64 t.o] = flat (l.take (k + 1)) from by rw [List.take_add_one, ht, flat_append]; rfl)
      clear ht hown hbw
      go_wp2_with (at_builtin; refine wpList_append_own _ rfl _ _ 29 rfl w.heap.size 38 i0 (.agg #[.int .i64 0, .string ByteArray.empty, .int .i64 0, .int .i64 0]) 4 40 Tryz.underlying29 hi hz0 hz1 hz2 rfl (by decide) _ _ _ rfl (HO.out.alloc _) ⟨wr.heap.size, 0, none⟩ 1 1 [.int .i64 t.k, .string t.s, .int .i64 t.d, .int .i64 t.o] rfl rfl (cell_four_new _ _ _ _ _ _) (by simp [Value.oneCell']) (by simp only [maxLen]; omega) (by omega) (by simp; omega) ?_; intro v' w3 hown3 hgrow3 _; have HB3 := Lib.hid (app_below HB.out HO.out hgrow3); have HO3 := Lib.hid hown3; clear hown3 hgrow3)
      go_roundw
      case rel => exact ⟨k + 1, by omega, by go_num, HT.out ▸ HO3.out, HB3.out⟩
      case measure => simp [intOf] <;> omega
    · have hkn : k = n := by omega
      have HKN := Lib.hid hkn
      clear hkn hown hbw
      go_wp2
      go_ret
      have e1 := HKN.out
      have e2 := HN.out
      subst e1 e2
      have h := HO.out
      rw [List.take_of_length_le (Nat.le_refl _)] at h
      exact ⟨_, rfl, h, HB.out⟩

/-- tokens of a call's own: nil and none, or one block. -/
def TokRow (w : World) (A : Option Addr) (l : List Tk) : Prop := (A = none ∧ l = []) ∨ ∃ g, A = some ⟨g, 0, none⟩ ∧ BlkL w g 38 (flat l)
theorem TokRow.ts {w : World} {A : Option Addr} {l : List Tk} (h : TokRow w A l) : TS w A l := by
  rcases h with ⟨rfl, rfl⟩ | ⟨g, rfl, hk⟩
  · exact TS.nil _ _
  · exact TS.of_blk hk
theorem TokRow.below {w w' : World} {A : Option Addr} {l : List Tk} (h : TokRow w A l) (hb : Below w.heap.size w w') : TokRow w' A l := by
  rcases h with ⟨rfl, rfl⟩ | ⟨g, rfl, hk⟩
  · exact .inl ⟨rfl, rfl⟩
  · exact .inr ⟨g, rfl, hk.below hb hk.lt⟩
theorem TokRow.grown {w w' : World} {A : Option Addr} {l : List Tk} {row : Option Nat} (h : TokRow w A l) (hg : w.grownBy w' row) (hne : ∀ b, A.map (·.block) = some b → some b ≠ row) : TokRow w' A l := by
  rcases h with ⟨rfl, rfl⟩ | ⟨g, rfl, hk⟩
  · exact .inl ⟨rfl, rfl⟩
  · exact .inr ⟨g, rfl, hk.grown hg (hne g rfl)⟩
def ifB (b : Bool) (L : List Tk) : List Tk := if b = true then L else []
theorem ifB_le (b : Bool) (L : List Tk) : (ifB b L).length ≤ L.length := by cases b <;> simp [ifB]

def ToksOut (w : World) (b : Bool) (R : List Tk) (e : Ending) (w' : World) : Prop :=
  Below w.heap.size w w' ∧ ∃ A c, e = .returned (.tuple #[.slice A R.length c, .bool b]) ∧ (∀ g, A.map (·.block) = some g → w.heap.size ≤ g) ∧ (A = none → c = 0) ∧ TokRow w' A R
def SToksOut (w : World) (b : Bool) (R : List Tk) (e : Ending) (w' : World) : Prop :=
  Below w.heap.size w w' ∧ ∃ A c, e = .returned (.tuple #[.slice A R.length c, .bool b]) ∧ (∀ g, A.map (·.block) = some g → g < w'.heap.size) ∧ TS w' A R
theorem TokOut.out {w : World} {b : Bool} {L : List Tk} {e : Ending} {w' : World} (h : TokOut w b L e w') : ToksOut w b (ifB b L) e w' := by
  obtain ⟨hb, ⟨rfl, g, rfl, hg, hk⟩ | ⟨rfl, rfl⟩⟩ := h
  · exact ⟨hb, _, _, rfl, fun x hx => by simp at hx; omega, fun h => (by cases h), .inr ⟨g, rfl, hk⟩⟩
  · exact ⟨hb, none, 0, rfl, fun x hx => by simp at hx, fun _ => rfl, .inl ⟨rfl, rfl⟩⟩
theorem STokOut.out {w : World} {b : Bool} {L : List Tk} {e : Ending} {w' : World} (h : STokOut w b L e w') : SToksOut w b (ifB b L) e w' := by
  obtain ⟨hb, ⟨rfl, A, c, rfl, hg, hk⟩ | ⟨rfl, rfl⟩⟩ := h
  · exact ⟨hb, _, _, rfl, fun x hx => (hg x hx).2, hk⟩
  · exact ⟨hb, none, 0, rfl, fun x hx => by simp at hx, TS.nil _ _⟩

def MarkTPost (w : World) (A : Option Addr) (l : List Tk) (x : Int) (e : Ending) (w' : World) : Prop :=
  e = .returned (.int .i64 (x + 4 * l.length)) ∧ TokRow w' A (mkTo l x l.length) ∧ w.grownBy w' (A.map (·.block))
end Go.Proofs.YthjkgbcomjiejadGreatDoor
