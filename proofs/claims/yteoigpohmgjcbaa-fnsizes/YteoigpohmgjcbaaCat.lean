/-
  Streams laid one behind the other: the program's streamOf and JoinStreams.
-/
import Derived.Test.YteoigpohmgjcbaaStrm
import Derived.Laws.CopyOwn
namespace Go.Proofs.Yteoigpohmgjcbaa
open Go.RowKit
set_option linter.unusedVariables false

theorem flat_oneCell (l : List Tk) : ∀ v ∈ flat l, v.oneCell' = true := by
  induction l with
  | nil => simp [flat]
  | cons t r ih =>
    intro v hv
    simp only [flat, List.mem_cons] at hv
    rcases hv with rfl | rfl | rfl | rfl | hv
    · rfl
    · rfl
    · rfl
    · rfl
    · exact ih v hv
theorem flat_cells {w : World} {b o : Nat} {l : List Tk} (h : TS w (some ⟨b, o, none⟩) l) : ∀ j v, (flat l)[j]? = some v → w.cell? ((⟨b, o, none⟩ : Addr).add j) = some v := by
  intro j v hj
  have hl : j < l.length * 4 := by have := (List.getElem?_eq_some_iff.1 hj).1; rwa [flat_length] at this
  have ht : l[j / 4]? = some (l[j / 4]'(by omega)) := List.getElem?_eq_getElem (by omega)
  obtain ⟨_, c0, c1, c2, c3⟩ := h.get ht
  have f := flat_at ht
  have ha : (⟨b, o, none⟩ : Addr).add j = ⟨b, o + j, none⟩ := by unfold Addr.add; by_cases h0 : j = 0 <;> simp [h0]
  rw [ha]
  generalize (l[j / 4]'(by omega)) = t at *
  have e : j = j / 4 * 4 + j % 4 := by omega
  have hm : j % 4 < 4 := by omega
  generalize j / 4 = q at *
  generalize j % 4 = m at *
  subst e
  obtain ⟨f0, f1, f2, f3⟩ := f
  match m, hm with
  | 0, _ => rw [show q * 4 + 0 = q * 4 from rfl] at hj ⊢; rw [c0, ← f0, hj]
  | 1, _ => rw [← Nat.add_assoc, c1, ← f1, hj]
  | 2, _ => rw [← Nat.add_assoc, c2, ← f2, hj]
  | 3, _ => rw [← Nat.add_assoc, c3, ← f3, hj]

theorem grown_setRow (w : World) (g : Nat) (cs : Array Value) : w.grownBy (w.setRow g cs) (some g) :=
  ⟨rfl, rfl, rfl, by simp [World.setRow], fun k _ hne => setRow_other w g k cs (by rintro rfl; exact hne rfl)⟩

/-- copy of tokens into a block of tokens. -/
theorem run_copy_toks (w : World) (ty : TypeId) (g o dLen dCap : Nat) (dp A : Option Addr) (sLen sCap : Nat) (cur : List Value) (l : List Tk) (hl : l.length = sLen) (hle : sLen ≤ dLen)
    (hg : BlkL w g 45 cur) (hts : TS w A l) (hpos : 0 < sLen → dp = some ⟨g, o, none⟩) (hfit : o + sLen * 4 ≤ cur.length) :
    ∃ w', (Builtin.copy_ #[26, 26] ty #[.slice dp dLen dCap, .slice A sLen sCap]).run Try.prog w = .ok (.int .i64 (sLen : Int)) w' ∧ BlkL w' g 45 (splice cur o (flat l)) ∧ w.grownBy w' (some g) := by
  obtain ⟨i, hi, _, hsz, _⟩ := info_parts infoTok
  have hmin : Nat.min sLen dLen = sLen := Nat.min_eq_left hle
  by_cases h0 : sLen = 0
  · subst h0
    have hln : l = [] := List.eq_nil_of_length_eq_zero hl
    subst hln
    have hl0 : ∀ (x : Addr), (loadCells x 0).run Try.prog w = .ok #[] w := fun x => by simpa using run_loadCells_list (P := Try.prog) w x [] (by simp)
    refine ⟨w, ?_, by simpa [splice, flat] using hg, World.grownBy.refl _ _⟩
    cases dp <;> cases A <;> simp [Builtin.copy_, run_underlying Try.underlying26, Builtin.lenOf, Builtin.firstCells, sizeOf, typeInfo, hi, storeCells, hl0] <;> rfl
  · obtain rfl := hpos (by omega)
    have ht : l[0]? = some (l[0]'(by omega)) := List.getElem?_eq_getElem (by omega)
    obtain ⟨b, p, rfl, hb, _⟩ := hts 0 _ ht
    have hld := run_loadCells_list (P := Try.prog) w ⟨b, p, none⟩ (flat l) (flat_cells hts)
    have hst := run_storeCells_at Try.prog g o 45 (flat l) 0 cur.toArray w hg (by simp [flat_length, hl]; exact hfit) (flat_oneCell l)
    refine ⟨_, ?_, ?_, grown_setRow w g (splice cur o (flat l)).toArray⟩
    · rw [flat_length, hl] at hld
      simp only [Nat.add_zero, flat_length, hl] at hst
      simp [Builtin.copy_, run_underlying Try.underlying26, Builtin.lenOf, Builtin.firstCells, sizeOf, typeInfo, hi, hsz, hmin, hld, hst, splice, flat_length, hl]
      rfl
    · exact setRow_heap w g _ _ 45 _ hg
theorem wpList_copy_toks {w : World} {ops : Array Oper} {rest : List Oper} {o : Oper} {a : Act} {Q : Exit → Act → World → Prop} (hgd : o.guard = none) (d s : Operand)
    (ho : o.op = .call { callee := .builtin .copy, args := #[d, s], argTypes := #[26, 26] })
    (dp A : Option Addr) (dLen dCap sLen sCap : Nat) (hd : a.eval d = .slice dp dLen dCap) (hs : a.eval s = .slice A sLen sCap)
    (g off : Nat) (cur : List Value) (l : List Tk) (hl : l.length = sLen) (hle : sLen ≤ dLen) (hg : BlkL w g 45 cur) (hts : TS w A l) (hpos : 0 < sLen → dp = some ⟨g, off, none⟩) (hfit : off + sLen * 4 ≤ cur.length)
    (h : ∀ w', BlkL w' g 45 (splice cur off (flat l)) → w.grownBy w' (some g) → wpList Try.prog ops Q rest (a.put o.dst (.int .i64 (sLen : Int))) w') :
    wpList Try.prog ops Q (o :: rest) a w := by
  refine wpList_plain hgd fun K hK => ?_
  obtain ⟨w', hrun, h1, h2⟩ := run_copy_toks w o.type g off dLen dCap dp A sLen sCap cur l hl hle hg hts hpos hfit
  unfold Oper.wp
  simp [execOp, ho, resolve, invoke, builtin, hd, hs, hrun, Result.andThen]
  exact hK _ _ (h w' h1 h2)

/-- a part: where it lies, its capacity, its tokens. -/
structure Pt where
  A : Option Addr
  c : Nat
  l : List Tk
def catTo (ps : List Pt) (j : Nat) : List Tk := ((ps.take j).map Pt.l).flatten
theorem catTo_zero (ps : List Pt) : catTo ps 0 = [] := by simp [catTo]
theorem catTo_succ {ps : List Pt} {j : Nat} {x : Pt} (h : ps[j]? = some x) : catTo ps (j + 1) = catTo ps j ++ x.l := by
  unfold catTo
  rw [List.take_add_one, h]
  simp
theorem catTo_le (ps : List Pt) (j k : Nat) (h : j ≤ k) : (catTo ps j).length ≤ (catTo ps k).length := by
  induction h with
  | refl => exact Nat.le_refl _
  | @step m _ ih =>
    refine Nat.le_trans ih ?_
    cases e : ps[m]? with
    | none => unfold catTo; rw [List.take_add_one, e]; simp
    | some x => rw [catTo_succ e]; simp
theorem catTo_take (ps : List Pt) (j k : Nat) (h : j ≤ k) : (catTo ps k).take (catTo ps j).length = catTo ps j := by
  induction h with
  | refl => simp
  | @step m hm ih =>
    cases e : ps[m]? with
    | none =>
      have : catTo ps (m + 1) = catTo ps m := by unfold catTo; rw [List.take_add_one, e]; simp
      rw [this]; exact ih
    | some x =>
      rw [catTo_succ e, List.take_append_of_le_length (catTo_le ps j m hm)]; exact ih
/-- the parts as they lie in memory. -/
def PS (w : World) (gp : Nat) (ps : List Pt) : Prop := gp < w.heap.size ∧ ∀ i x, ps[i]? = some x → w.cell? ⟨gp, i, none⟩ = some (.slice x.A x.l.length x.c) ∧ TS w x.A x.l
theorem PS.below {w w' : World} {gp : Nat} {ps : List Pt} (h : PS w gp ps) (hb : Below w.heap.size w w') : PS w' gp ps :=
  ⟨Nat.lt_of_lt_of_le h.1 hb.size, fun i x hx => ⟨(hb.cell (p := ⟨gp, i, none⟩) h.1).trans (h.2 i x hx).1, (h.2 i x hx).2.below hb⟩⟩

theorem splice_fill {L l : List Tk} {N k : Nat} (hL : L.length = N) (hk : k + l.length ≤ N) (hl : L.take (k + l.length) = L.take k ++ l) : splice (flat (fillTo L N k)) (k * 4) (flat l) = flat (fillTo L N (k + l.length)) := by
  have hlk : (L.take k).length = k := by simp; omega
  have e1 : flat (fillTo L N k) = flat (L.take k) ++ flat (List.replicate (N - k) zeroTk) := by rw [fillTo, flat_append]
  have e2 : List.replicate (N - k) zeroTk = List.replicate l.length zeroTk ++ List.replicate (N - (k + l.length)) zeroTk := by
    rw [List.replicate_append_replicate]; congr 1; omega
  unfold splice
  rw [e1, fillTo, hl, flat_append, flat_append, e2, flat_append]
  have f1 : (flat (L.take k)).length = k * 4 := by rw [flat_length, hlk]
  have f2 : (flat (List.replicate l.length zeroTk)).length = (flat l).length := by rw [flat_length, flat_length]; simp
  rw [List.take_append_of_le_length (by omega), List.take_of_length_le (by omega)]
  rw [List.drop_append, List.drop_eq_nil_of_le (by omega), f1, show k * 4 + (flat l).length - k * 4 = (flat l).length by omega, List.nil_append, List.drop_append, List.drop_eq_nil_of_le (by omega), f2]
  simp

def CatPost (w : World) (L : List Tk) (e : Ending) (w' : World) : Prop :=
  Below w.heap.size w w' ∧ ((strB L = true ∧ e = .returned (.tuple #[.slice (some ⟨w.heap.size, 0, none⟩) L.length L.length, .bool true]) ∧ BlkL w' w.heap.size 45 (flat L)) ∨
    (strB L = false ∧ e = .returned (.tuple #[.slice none 0 0, .bool false])))

set_option maxHeartbeats 2000000 in
set_option maxRecDepth 100000 in
theorem streamOf_any (gp : Nat) (ps : List Pt) (p c N : Nat) (L : List Tk) (w : World) (hp : ps.length = p) (hp3 : p ≤ 1000) (hL : catTo ps p = L) (hN : L.length = N) (hm : N ≤ 2097152) (hps : PS w gp ps) (hf : Fits L) :
    Calls Try.prog 57 #[.slice (some ⟨gp, 0, none⟩) p c] w (CatPost w L) := by
  have HP := Lib.hid hp
  have HL := Lib.hid hL
  have HN := Lib.hid hN
  clear hp hL hN
  have hmk := fun W => mkToks N (by omega) W
  go_enter Try.func57, Try.ntmps57
  go_wp2
  go_loop [4, 13] (fun cn i => ∃ j : Nat, j ≤ p ∧ i = .int .i64 j ∧ cn = .int .i64 ((catTo ps j).length : Int)) (fun _ i => p - (intOf i).toNat)
  case atStart => exact ⟨0, Nat.zero_le _, rfl, by simp [catTo_zero]⟩
  case round =>
    obtain ⟨j, hj, rfl, rfl⟩ := hrel
    have hle := catTo_le ps j p hj
    rw [HL.out, HN.out] at hle
    by_cases hlt : j < p
    · obtain ⟨x, hx⟩ : ∃ x, ps[j]? = some x := ⟨_, List.getElem?_eq_getElem (by have := HP.out; omega)⟩
      have c0 := (hps.2 j x hx).1
      have hle2 := catTo_le ps (j + 1) p (by omega)
      rw [HL.out, HN.out, catTo_succ hx, List.length_append] at hle2
      have HX := Lib.hid hx
      clear hx
      go_wp2
      go_round
      case rel => exact ⟨j + 1, by omega, by go_num, by rw [catTo_succ HX.out]; simp⟩
      case measure => simp [intOf]; omega
    · have hjp : j = p := by omega
      subst hjp
      rw [HL.out, HN.out]
      clear hle
      go_wp2
      clear hmk
      go_loopw [8, 26] (fun at_ i wr => ∃ q : Nat, q ≤ j ∧ i = .int .i64 q ∧ at_ = .int .i64 ((catTo ps q).length : Int) ∧ BlkL wr w.heap.size 45 (flat (fillTo L N (catTo ps q).length)) ∧ Below w.heap.size w wr) (fun _ i _ => j - (intOf i).toNat)
      case atStart => exact ⟨0, Nat.zero_le _, rfl, by simp [catTo_zero], by simpa [catTo_zero, fillTo] using BlkL.new w 45 (flat (List.replicate N zeroTk)), (Below.refl _ _).alloc (Nat.le_refl _) _⟩
      case round =>
        obtain ⟨q, hq, rfl, rfl, hk, hb⟩ := hrel
        have hle := catTo_le ps q j hq
        rw [HL.out, HN.out] at hle
        have hPS := hps.below hb
        have HB := Lib.hid hb
        have HK := Lib.hid hk
        clear hb hk
        by_cases hlt : q < j
        · obtain ⟨x, hx⟩ : ∃ x, ps[q]? = some x := ⟨_, List.getElem?_eq_getElem (by have := HP.out; omega)⟩
          obtain ⟨c0, htx⟩ := hPS.2 q x hx
          have hgp := hPS.1
          have hle2 := catTo_le ps (q + 1) j (by omega)
          rw [HL.out, HN.out, catTo_succ hx, List.length_append] at hle2
          have hfl : (flat (fillTo L N (catTo ps q).length)).length = N * 4 := by rw [flat_length, fillTo_length HN.out hle]
          have hsp := splice_fill (L := L) (l := x.l) (N := N) (k := (catTo ps q).length) HN.out hle2 (by
            rw [← HL.out, catTo_take ps q j hq, ← List.length_append, ← catTo_succ hx, catTo_take ps (q + 1) j (by omega)])
          have HSP := Lib.hid hsp
          have HFL := Lib.hid hfl
          have HCS := Lib.hid (congrArg List.length (catTo_succ hx))
          have HX := Lib.hid hx
          clear hx hsp hfl
          generalize hs : (catTo ps q).length = s at *
          have HSS := Lib.hid hs
          clear hs
          by_cases hsN : N = s
          · obtain ⟨w2, hrun, hk2, hg2⟩ := run_copy_toks wr 3 w.heap.size (s * 4) 0 0 (some ⟨w.heap.size, 0, none⟩) x.A x.l.length x.c _ x.l rfl (by omega) HK.out htx (fun h => absurd h (by omega)) (by rw [HFL.out]; omega)
            have HK2 := Lib.hid (HSP.out ▸ hk2)
            have HB2 := Lib.hid (HB.out.grown hg2 HB.out.size (fun b hb => by injection hb; omega))
            clear hk2 hg2
            go_wp2
            go_roundw
            case rel => exact ⟨q + 1, by omega, by go_num, by rw [HCS.out, List.length_append, HSS.out]; go_num, by rw [HCS.out, List.length_append, HSS.out]; exact HK2.out, HB2.out⟩
            case measure => simp [intOf] <;> omega
          · obtain ⟨w2, hrun, hk2, hg2⟩ := run_copy_toks wr 3 w.heap.size (s * 4) (N - s) (N - s) (some ⟨w.heap.size, s * 4, none⟩) x.A x.l.length x.c _ x.l rfl (by omega) HK.out htx (fun _ => rfl) (by rw [HFL.out]; omega)
            have HK2 := Lib.hid (HSP.out ▸ hk2)
            have HB2 := Lib.hid (HB.out.grown hg2 HB.out.size (fun b hb => by injection hb; omega))
            clear hk2 hg2
            go_wp2
            go_roundw
            case rel => exact ⟨q + 1, by omega, by go_num, by rw [HCS.out, List.length_append, HSS.out]; go_num, by rw [HCS.out, List.length_append, HSS.out]; exact HK2.out, HB2.out⟩
            case measure => simp [intOf] <;> omega
        · have hqj : q = j := by omega
          subst hqj
          have hK := HK.out
          rw [HL.out, HN.out, fillTo_all HN.out] at hK
          have hts := TS.of_blk hK
          have HKK := Lib.hid hK
          clear hK hle
          go_wp2_with fail
          refine (StreamOk_any _ L _ _ _ HN.out hm hts hf).mono ?_
          rintro e w2 ⟨rfl, hb2⟩
          have HK2 := Lib.hid (HKK.out.below hb2 HKK.out.lt)
          have HB2 := Lib.hid (HB.out.trans (hb2.mono HB.out.size))
          clear hb2
          cases hS : strB L
          · have HS := Lib.hid hS
            clear hS
            go_wp2
            go_ret2
            exact ⟨HB2.out, .inr ⟨HS.out, rfl⟩⟩
          · have HS := Lib.hid hS
            clear hS
            go_wp2
            go_ret2
            have e := HN.out
            subst e
            exact ⟨HB2.out, .inl ⟨HS.out, rfl, HK2.out⟩⟩
end Go.Proofs.Yteoigpohmgjcbaa
