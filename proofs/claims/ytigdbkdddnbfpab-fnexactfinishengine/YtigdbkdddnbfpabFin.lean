/-
  FinishEngine of the program.
-/
import Derived.Test.YtigdbkdddnbfpabSme
import Derived.Test.YtigdbkdddnbfpabAen
namespace Go.Proofs.Ytigdbkdddnbfpab
open Go.RowKit
set_option linter.unusedVariables false

theorem EnOk.bd0 {e : En} (h : EnOk e) : (startP e).Bd 0 := by
  have h1 := h.col
  have h2 := h.pend
  refine ⟨Nat.le_refl _, by simp only [startP]; omega, fun m hm => ?_, fun m hm => ?_, Nat.le_refl _⟩
  · obtain ⟨i, hi⟩ := List.getElem?_of_mem hm
    have := h.cols i m hi
    omega
  · obtain ⟨i, hi⟩ := List.getElem?_of_mem hm
    exact h.kinds i m hi
theorem tks_endS (tot lv : Int) (line : Bool) (l : List Hd) : tks (endS tot lv line l) = tks l := by
  unfold tks endS
  rw [List.map_map]
  apply List.map_congr_left
  intro x _
  simp only [Function.comp]
  unfold endH; split
  · split
    · rfl
    · split <;> rfl
  · rfl
theorem EnOk.stk {e : En} (h : EnOk e) (i : Nat) (hi : i ≤ e.it.length) : 1 ≤ (e.ms.length : Int) + opN (tks e.it) i ∧ (e.ms.length : Int) + opN (tks e.it) i ≤ 14 := by
  cases i with
  | zero => have := h.nms; rw [opN_zero]; omega
  | succ i => have := h.stack i (by omega); omega
theorem EnOk.fine {e : En} (h : EnOk e) (lv : Int) (line : Bool) : Fine (startP e) (endS e.tot lv line e.it) := by
  refine ⟨h.bd0, by simp only [endS, List.length_map]; have := h.nit; omega, fun i x hx => ?_, fun i hi => ?_⟩
  · have ht := tks_at hx
    rw [tks_endS] at ht
    simp only [tks, List.getElem?_map, Option.map_eq_some_iff] at ht
    obtain ⟨y, hy, e1⟩ := ht
    rw [← e1]
    exact (h.helds i y hy).tok
  · rw [tks_endS]
    exact h.stk i (by simpa [endS] using hi)
theorem EnOk.sm0 {e : En} (h : EnOk e) : (startP e).Sm := (h.fine 0 false).sm (W := 0) 0 (Nat.zero_le _)
theorem EnOk.colT {e : En} (h : EnOk e) : colB (startP e).col (startP e).pend (startP e).ms = true := by
  have h1 := h.col
  have h2 := h.pend
  simp only [colB, Bool.and_eq_true, startP]
  exact ⟨all_at.2 fun i t ht => inB_true.2 (h.cols i t ht), inB_true.2 (by omega), inB_true.2 (by omega)⟩
theorem EnOk.starts {e : En} (h : EnOk e) (i : Nat) (x : Hd) (hx : e.it[i]? = some x) : 0 ≤ x.st ∧ x.st ≤ e.tot := by
  induction i generalizing x with
  | zero => exact (h.helds 0 x hx).st
  | succ i ih =>
    have h1 := (h.helds (i + 1) x hx).st
    have hl := (List.getElem?_eq_some_iff.1 hx).1
    have hy := List.getElem?_eq_getElem (show i < e.it.length by omega)
    have h2 := ih _ hy
    rw [lstN_succ hy] at h1
    omega
theorem finish_no {w : World} {B p : Nat} {W : Int} {s : Pr} {vI : Value} {its : List Hd} {tot lev : Int} (hx : PX w B p W s vI its tot lev) (hlv : ¬ lev = 0) :
    Calls Try.prog 48 #[.pointer (some ⟨p, 0, none⟩)] w fun r w' => r = .returned (.bool false) ∧ Below w.heap.size w w' := by
  have x7 : w.cell? ⟨p, 7, none⟩ = some (.int .i64 lev) := by obtain ⟨a, b, c, _⟩ := hx; exact (c.blk.cell 7).trans rfl
  have xl : p < w.heap.size := by obtain ⟨a, b, c, _⟩ := hx; exact c.blk.lt
  have b1 : (lev == 0) = false := by simpa using hlv
  have b2 : (lev != 0) = true := by simpa using hlv
  clear hx hlv
  go_enter Try.func48, Try.ntmps48
  go_wp2
  go_ret
  exact ⟨rfl, Below.refl _ _⟩
theorem flu_run (W tot : Int) (s : Pr) (l : List Hd) : ∃ k, k ≤ l.length ∧ flu W tot s l = (runP W s l k, l.drop k) := by
  have main : ∀ (n k : Nat), k + n = l.length → flu W tot s l = flu W tot (runP W s l k) (l.drop k) → ∃ k, k ≤ l.length ∧ flu W tot s l = (runP W s l k, l.drop k) := by
    intro n
    induction n with
    | zero => intro k hk h; exact ⟨k, by omega, by rw [h, flu_end (by omega)]⟩
    | succ n ih =>
      intro k hk h
      have ht := List.getElem?_eq_getElem (show k < l.length by omega)
      cases hs : stopB W tot (runP W s l k) l[k]
      · exact ih (k + 1) (by omega) (by rw [h, flu_go ht hs, runP_succ ht])
      · exact ⟨k, by omega, by rw [h, flu_stop ht hs]⟩
  exact main l.length 0 (by omega) rfl
theorem OR.setN {α : Type} {f : α → List Value} {ty t : TypeId} {w : World} {B g : Nat} {v : Value} {l : List α} {cs : List Value} (hb : BlkL w g t cs) (hne : t ≠ ty) (vs : List Value) (p : Nat) (h : OR f ty w B v l) : OR f ty (World.setN w g p vs) B v l := by
  rcases h with h | ⟨g', c, rest, rfl, hB, hk⟩
  · exact .inl h
  · refine .inr ⟨g', c, rest, rfl, hB, BlkL.farN (fun e => ?_) vs w p hk⟩
    subst e
    unfold BlkL at hb hk
    rw [hb] at hk
    injection hk with hk
    injection hk with _ hk
    exact hne hk
theorem EngO.setN {w : World} {B g : Nat} {v : Value} {e : En} {t : TypeId} {cs : List Value} (hb : BlkL w g t cs) (h1 : t ≠ 114) (h2 : t ≠ 65) (vs : List Value) (p : Nat) (h : EngO w B v e) : EngO (World.setN w g p vs) B v e := by
  obtain ⟨A, c, A2, c2, hv, a, b⟩ := h
  exact ⟨A, c, A2, c2, hv, OR.setN hb h1 vs p a, OR.setN hb h2 vs p b⟩
theorem conv_own {w : World} {B : Nat} {v : Value} {out : List UInt8} (h : w.ownsRow B 5 1 v out.length (Lib.byteCells out)) : (convert 44 9 v).run Try.prog w = .ok (.string ⟨out.toArray⟩) w := by
  rcases Joins.ownsRow_forms h with ⟨rfl, h0⟩ | ⟨g, cap, rfl⟩
  · have : out = [] := List.eq_nil_of_length_eq_zero h0
    subst this
    exact run_convert_bytes_nil w 44 5 Try.underlying44 Try.underlying5 0 0 9 Try.underlying9
  · refine run_convert_bytes_back w 44 9 5 ⟨g, 0, none⟩ cap out Try.underlying44 Try.underlying5 Try.underlying9 fun j hj => ?_
    refine h.cells (g := g) rfl j _ ?_
    simp [Lib.byteCells, List.getElem?_eq_getElem hj]
theorem cell_setN {g g' : Nat} (hne : g ≠ g') : ∀ (vs : List Value) (w : World) (p i : Nat), (World.setN w g' p vs).cell? ⟨g, i, none⟩ = w.cell? ⟨g, i, none⟩
  | [], _, _, _ => rfl
  | v :: vs, w, p, i => (cell_setN hne vs _ _ i).trans (World.cell?_of_block (Below.heap_setCell w ⟨g', p, none⟩ v g hne))
theorem PX.drew {w : World} {B p : Nat} {W : Int} {s : Pr} {vI : Value} {its : List Hd} {tot lev : Int} (h : PX w B p W s vI its tot lev) : PX w.drew B p W s vI its tot lev := by
  obtain ⟨vW, vM, h1, h2⟩ := h
  exact ⟨vW, vM, PM.drew h1, h2⟩
/-- what FinishEngine answers. -/
noncomputable def finB (e : En) : Bool := engB e && decide (e.lev = 0)
def finF (e : En) : Pr × List Hd := flu e.W e.tot (startP e) (endS e.tot 0 false e.it)
noncomputable def finE (e : En) : En := if finB e = true then ⟨e.W, (finF e).1.col, (finF e).1.pend, (finF e).1.ms, (finF e).2, e.tot, e.lev⟩ else e
noncomputable def finT (e : En) : ByteArray := if finB e = true then ⟨(finF e).1.out.toArray⟩ else ByteArray.empty
def Ans3 (w : World) (e : En) (t : ByteArray) (b : Bool) (r : Ending) (w' : World) : Prop := ∃ v, r = .returned (.tuple #[v, .string t, .bool b]) ∧ EngO w' w.heap.size v e ∧ Below w.heap.size w w'
set_option maxHeartbeats 2000000 in
set_option maxRecDepth 100000 in
theorem FinishEngine_any (e : En) (v : Value) (w : World) (hm : e.ms.length ≤ 2097152) (hi : e.it.length ≤ 2097152) (hf : Fits (tks e.it)) (h : EngR w v e) :
    Calls Try.prog 16 #[v] w (Ans3 w (finE e) (finT e) (finB e)) := by
  have HE := Lib.hid h
  obtain ⟨A, c, A2, c2, rfl, m1, i1⟩ := h
  have M1 := Lib.hid m1
  have I1 := Lib.hid i1
  have HF := Lib.hid hf
  clear m1 i1 hf
  unfold ev at *
  go_enter Try.func16, Try.ntmps16
  go_wp2_with fail
  have hX0 := BlkL.new w 33 (ecs e (.slice A e.ms.length c) (.slice A2 e.it.length c2))
  have hX1 := hX0.alloc (.cells (ecs ⟨0, 0, 0, [], [], 0, 0⟩ (.slice none 0 0) (.slice none 0 0)).toArray 33)
  have hY1 := BlkL.new (w.alloc (.cells (ecs e (.slice A e.ms.length c) (.slice A2 e.it.length c2)).toArray 33)) 33 (ecs ⟨0, 0, 0, [], [], 0, 0⟩ (.slice none 0 0) (.slice none 0 0))
  rw [show (w.alloc (.cells (ecs e (.slice A e.ms.length c) (.slice A2 e.it.length c2)).toArray 33)).heap.size = w.heap.size + 1 by simp] at hY1
  have hB1 := ((Below.refl w.heap.size w).alloc (Nat.le_refl _) (.cells (ecs e (.slice A e.ms.length c) (.slice A2 e.it.length c2)).toArray 33)).alloc (by simp) (.cells (ecs ⟨0, 0, 0, [], [], 0, 0⟩ (.slice none 0 0) (.slice none 0 0)).toArray 33)
  change Calls _ _ _ ((w.alloc (.cells (ecs e (.slice A e.ms.length c) (.slice A2 e.it.length c2)).toArray 33)).alloc (.cells (ecs ⟨0, 0, 0, [], [], 0, 0⟩ (.slice none 0 0) (.slice none 0 0)).toArray 33)) _
  generalize (w.alloc (.cells (ecs e (.slice A e.ms.length c) (.slice A2 e.it.length c2)).toArray 33)).alloc (.cells (ecs ⟨0, 0, 0, [], [], 0, 0⟩ (.slice none 0 0) (.slice none 0 0)).toArray 33) = w1 at *
  clear hX0
  refine (EngineOk_any e _ w1 (by unfold maxLen; omega) (by unfold maxLen; omega) HF.out (HE.out.below hB1)).mono ?_
  rintro r w2 ⟨rfl, hb2⟩
  have HB2 := Lib.hid (hB1.trans (hb2.mono hB1.size))
  have hX2 := hX1.below hb2 hX1.lt
  have hY2 := hY1.below hb2 hY1.lt
  have x0 : w2.cell? ⟨w.heap.size, 0, none⟩ = some (.int .i64 e.W) := (hX2.cell 0).trans rfl
  have x1 : w2.cell? ⟨w.heap.size, 1, none⟩ = some (.int .i64 e.col) := (hX2.cell 1).trans rfl
  have x2 : w2.cell? ⟨w.heap.size, 2, none⟩ = some (.int .i64 e.pend) := (hX2.cell 2).trans rfl
  have x3 : w2.cell? ⟨w.heap.size, 3, none⟩ = some (.slice A e.ms.length c) := (hX2.cell 3).trans rfl
  have x4 : w2.cell? ⟨w.heap.size, 4, none⟩ = some (.slice A2 e.it.length c2) := (hX2.cell 4).trans rfl
  have x5 : w2.cell? ⟨w.heap.size, 5, none⟩ = some (.int .i64 e.tot) := (hX2.cell 5).trans rfl
  have x6 : w2.cell? ⟨w.heap.size, 6, none⟩ = some (.int .i64 e.lev) := (hX2.cell 6).trans rfl
  have xl := hX2.lt
  have HX2 := Lib.hid hX2
  have HY2 := Lib.hid hY2
  clear hX1 hY1 hb2 hB1 hX2 hY2
  cases he : engB e
  · have HBN := Lib.hid (show finB e = false by unfold finB; rw [he]; rfl)
    have HT := Lib.hid (show finT e = ByteArray.empty from if_neg (by rw [HBN.out]; decide))
    have HEE := Lib.hid (show finE e = e from if_neg (by rw [HBN.out]; decide))
    clear he
    go_wp2_with fail
    clear x0 x1 x2 x3 x4 x5 x6 xl
    refine (sameEngine_any e A c A2 c2 w2 hm hi (RS.below M1.out HB2.out) (RS.below I1.out HB2.out)).mono ?_
    rintro r w8 ⟨v8, rfl, ho8, hb8⟩
    obtain ⟨a0, a1, a2, aS, an, ac, aT, am, ad, a5, a6, rfl⟩ := EngO.shape ho8
    have HO8 := Lib.hid (EngO.lowB ho8 (show w.heap.size ≤ w2.heap.size from HB2.out.size))
    have HB8 := Lib.hid (HB2.out.trans (hb8.mono HB2.out.size))
    have hY8 := HY2.out.below hb8 HY2.out.lt
    have y0 : w8.cell? ⟨w.heap.size + 1, 0, none⟩ = some (.int .i64 0) := (hY8.cell 0).trans rfl
    have y1 : w8.cell? ⟨w.heap.size + 1, 1, none⟩ = some (.int .i64 0) := (hY8.cell 1).trans rfl
    have y2 : w8.cell? ⟨w.heap.size + 1, 2, none⟩ = some (.int .i64 0) := (hY8.cell 2).trans rfl
    have y3 : w8.cell? ⟨w.heap.size + 1, 3, none⟩ = some (.slice none 0 0) := (hY8.cell 3).trans rfl
    have y4 : w8.cell? ⟨w.heap.size + 1, 4, none⟩ = some (.slice none 0 0) := (hY8.cell 4).trans rfl
    have y5 : w8.cell? ⟨w.heap.size + 1, 5, none⟩ = some (.int .i64 0) := (hY8.cell 5).trans rfl
    have y6 : w8.cell? ⟨w.heap.size + 1, 6, none⟩ = some (.int .i64 0) := (hY8.cell 6).trans rfl
    have yf := hY8.frozen
    have yl := hY8.lt
    have HY8 := Lib.hid hY8
    clear ho8 hb8 hY8
    go_wp2
    clear y0 y1 y2 y3 y4 y5 y6 yf yl
    have hO9 := EngO.setN HY8.out (by decide) (by decide) [.int .i64 a0, .int .i64 a1, .int .i64 a2, .slice aS an ac, .slice aT am ad, .int .i64 a5, .int .i64 a6] 0 HO8.out
    have hB9 := below_setN (B := w.heap.size) (a := w) (g := w.heap.size + 1) (by omega) [.int .i64 a0, .int .i64 a1, .int .i64 a2, .slice aS an ac, .slice aT am ad, .int .i64 a5, .int .i64 a6] _ 0 HB8.out
    have hY9 := BlkL.setN [.int .i64 a0, .int .i64 a1, .int .i64 a2, .slice aS an ac, .slice aT am ad, .int .i64 a5, .int .i64 a6] _ _ 0 HY8.out
    change bodyPost _ _ _ _ _ (World.setN w8 (w.heap.size + 1) 0 [.int .i64 a0, .int .i64 a1, .int .i64 a2, .slice aS an ac, .slice aT am ad, .int .i64 a5, .int .i64 a6])
    generalize World.setN w8 (w.heap.size + 1) 0 [.int .i64 a0, .int .i64 a1, .int .i64 a2, .slice aS an ac, .slice aT am ad, .int .i64 a5, .int .i64 a6] = w9 at *
    have k0 : w9.cell? ⟨w.heap.size + 1, 0, none⟩ = some (.int .i64 a0) := (hY9.cell 0).trans rfl
    have k1 : w9.cell? ⟨w.heap.size + 1, 1, none⟩ = some (.int .i64 a1) := (hY9.cell 1).trans rfl
    have k2 : w9.cell? ⟨w.heap.size + 1, 2, none⟩ = some (.int .i64 a2) := (hY9.cell 2).trans rfl
    have k3 : w9.cell? ⟨w.heap.size + 1, 3, none⟩ = some (.slice aS an ac) := (hY9.cell 3).trans rfl
    have k4 : w9.cell? ⟨w.heap.size + 1, 4, none⟩ = some (.slice aT am ad) := (hY9.cell 4).trans rfl
    have k5 : w9.cell? ⟨w.heap.size + 1, 5, none⟩ = some (.int .i64 a5) := (hY9.cell 5).trans rfl
    have k6 : w9.cell? ⟨w.heap.size + 1, 6, none⟩ = some (.int .i64 a6) := (hY9.cell 6).trans rfl
    refine bodyPost_ret (v := .tuple #[.agg #[.int .i64 a0, .int .i64 a1, .int .i64 a2, .slice aS an ac, .slice aT am ad, .int .i64 a5, .int .i64 a6], .string ByteArray.empty, .bool false]) (by simp [results, Try.results16, go_sem, k0, k1, k2, k3, k4, k5, k6] <;> rfl) rfl ⟨.agg #[.int .i64 a0, .int .i64 a1, .int .i64 a2, .slice aS an ac, .slice aT am ad, .int .i64 a5, .int .i64 a6], ?_, ?_, hB9⟩
    · rw [HT.out, HBN.out]
    · rw [HEE.out]; exact hO9
  have HEN := Lib.hid (engB_ok he)
  have HEB := Lib.hid he
  clear he
  go_wp2_with fail
  clear x0 x1 x2 x3 x4 x5 x6 xl
  refine (pressOf_any e A c A2 c2 w2 hm hi (RS.below M1.out HB2.out) (RS.below I1.out HB2.out) HEN.out.col.1 HEN.out.pend.1).mono ?_
  rintro r w3 ⟨p, vI, rfl, hp3, hb3⟩
  have HP3 := Lib.hid hp3
  have HB3 := Lib.hid (HB2.out.trans (hb3.mono HB2.out.size))
  have hz3 := hb3.size
  have hX3 := HX2.out.below hb3 HX2.out.lt
  have hY3 := HY2.out.below hb3 HY2.out.lt
  have hy2 := HY2.out.lt
  have hx2 := HX2.out.lt
  have x0 : w3.cell? ⟨w.heap.size, 0, none⟩ = some (.int .i64 e.W) := (hX3.cell 0).trans rfl
  have x1 : w3.cell? ⟨w.heap.size, 1, none⟩ = some (.int .i64 e.col) := (hX3.cell 1).trans rfl
  have x2 : w3.cell? ⟨w.heap.size, 2, none⟩ = some (.int .i64 e.pend) := (hX3.cell 2).trans rfl
  have x3 : w3.cell? ⟨w.heap.size, 3, none⟩ = some (.slice A e.ms.length c) := (hX3.cell 3).trans rfl
  have x4 : w3.cell? ⟨w.heap.size, 4, none⟩ = some (.slice A2 e.it.length c2) := (hX3.cell 4).trans rfl
  have x5 : w3.cell? ⟨w.heap.size, 5, none⟩ = some (.int .i64 e.tot) := (hX3.cell 5).trans rfl
  have x6 : w3.cell? ⟨w.heap.size, 6, none⟩ = some (.int .i64 e.lev) := (hX3.cell 6).trans rfl
  have xl := hX3.lt
  have HX3 := Lib.hid hX3
  have HY3 := Lib.hid hY3
  clear hp3 hb3 hX3 hY3 HX2 HY2
  by_cases hlv : e.lev = 0
  · have HBN := Lib.hid (show finB e = true by unfold finB; rw [HEB.out, hlv]; rfl)
    have HT := Lib.hid (show finT e = ⟨(finF e).1.out.toArray⟩ from if_pos HBN.out)
    have HEE := Lib.hid (show finE e = ⟨e.W, (finF e).1.col, (finF e).1.pend, (finF e).1.ms, (finF e).2, e.tot, e.lev⟩ from if_pos HBN.out)
    have HLV := Lib.hid hlv
    clear hlv
    have hw1 := HEN.out.w
    go_wp2_with fail
    clear x0 x1 x2 x3 x4 x5 x6 xl
    refine (finish_any HP3.out hz3 HEN.out.sm0 HEN.out.nit HEN.out.colT HLV.out (HEN.out.fine 0 false) (by omega) (by omega) HEN.out.tot HEN.out.starts).mono ?_
    rintro r w4 ⟨rfl, ⟨vI4, hp4⟩, hcg4⟩
    have hB4 := hcg4.below hz3
    have HP4 := Lib.hid (show PX w4 w2.heap.size p e.W (finF e).1 vI4 (finF e).2 e.tot e.lev from hp4)
    have HB4 := Lib.hid (HB3.out.trans (hB4.mono HB2.out.size))
    have hY4 := HY3.out.below hB4 hy2
    have HY4 := Lib.hid hY4
    clear hp4 hcg4 hB4 hY4 HP3 HX3 HY3
    obtain ⟨k, hk, hrun⟩ := flu_run e.W e.tot (startP e) (endS e.tot 0 false e.it)
    have HSM := Lib.hid (show (finF e).1.Sm by unfold finF; rw [hrun]; exact (HEN.out.fine 0 false).sm k hk)
    have HLE := Lib.hid (show (finF e).2.length ≤ 400 by unfold finF; rw [hrun]; have := HEN.out.nit; simp [endS]; omega)
    clear hk hrun
    go_wp2_with fail
    obtain ⟨vW, vM, hpa4, how4⟩ := HP4.out
    obtain ⟨WA, Wc, rfl⟩ := own_form hpa4.own
    have s0 : w4.drew.cell? ⟨p, 2, none⟩ = some (.slice WA (finF e).1.out.length Wc) ∧ w4.drew.ownsRow w2.heap.size 5 1 (.slice WA (finF e).1.out.length Wc) (finF e).1.out.length (Lib.byteCells (finF e).1.out) := ⟨(hpa4.blk.cell 2).trans rfl, hpa4.own⟩
    have hWY : (Value.slice WA (finF e).1.out.length Wc).ownBlock ≠ some (w.heap.size + 1) := own_blk hpa4.own HY4.out (by decide)
    have hpY : p ≠ w.heap.size + 1 := by have := hpa4.base; omega
    clear hpa4 how4
    have r2 : ∀ x : Cl (fun w' => w'.cell? ⟨p, 2, none⟩ = some (.slice WA (finF e).1.out.length Wc) ∧ w'.ownsRow w2.heap.size 5 1 (.slice WA (finF e).1.out.length Wc) (finF e).1.out.length (Lib.byteCells (finF e).1.out)), x.W.cell? ⟨p, 2, none⟩ = some (.slice WA (finF e).1.out.length Wc) := fun x => x.ok.1
    have rc : ∀ x : Cl (fun w' => w'.cell? ⟨p, 2, none⟩ = some (.slice WA (finF e).1.out.length Wc) ∧ w'.ownsRow w2.heap.size 5 1 (.slice WA (finF e).1.out.length Wc) (finF e).1.out.length (Lib.byteCells (finF e).1.out)), (convert 44 9 (.slice WA (finF e).1.out.length Wc)).run Try.prog x.W = .ok (.string ⟨(finF e).1.out.toArray⟩) x.W := fun x => conv_own x.ok.2
    have hne : Nonempty (Cl (fun w' => w'.cell? ⟨p, 2, none⟩ = some (.slice WA (finF e).1.out.length Wc) ∧ w'.ownsRow w2.heap.size 5 1 (.slice WA (finF e).1.out.length Wc) (finF e).1.out.length (Lib.byteCells (finF e).1.out))) := ⟨⟨_, s0⟩⟩
    refine wp_region_stages [0, 1, 0, 0, 0, 0, 0, 0, 0, 3, 4, 5] 2 (fun w' => ∃ y : Cl (fun w' => w'.cell? ⟨p, 2, none⟩ = some (.slice WA (finF e).1.out.length Wc) ∧ w'.ownsRow w2.heap.size 5 1 (.slice WA (finF e).1.out.length Wc) (finF e).1.out.length (Lib.byteCells (finF e).1.out)), w' = y.W) (by kernel_rfl) (by kernel_rfl) ⟨⟨_, s0⟩, rfl⟩ ?_
    simp only [Stage.stages, Stage.pickC, Nat.reduceBEq, Nat.reduceMul, Nat.reduceAdd, cond_true, cond_false, List.map_cons, List.map_nil]
    refine stage_more ?_
    repeat (go_big_quiet_step (fail))
    refine wpQuiet_nil ?_
    intro K hK
    unfold Chain.mov
    go_simp
    simp only [Chain.movUpon]
    clear r2 rc
    refine (engine_any (w := w4.drew) HP4.out.drew HSM.out (by have := HLE.out; omega)).mono ?_
    rintro r w5 ⟨v5, rfl, ho5, hb5⟩
    have hb5' : Below w4.heap.size w4 w5 := (Below.refl _ w4).drew.trans (hb5.mono (Nat.le_refl _))
    obtain ⟨a0, a1, a2, aS, an, ac, aT, am, ad, a5, a6, rfl⟩ := EngO.shape ho5
    have HO5 := Lib.hid (EngO.lowB ho5 (show w.heap.size ≤ w4.drew.heap.size from HB4.out.size))
    have HB5 := Lib.hid (HB4.out.trans (hb5'.mono HB4.out.size))
    have hY5 := HY4.out.below hb5' HY4.out.lt
    have s5 : w5.cell? ⟨p, 2, none⟩ = some (.slice WA (finF e).1.out.length Wc) ∧ w5.ownsRow w2.heap.size 5 1 (.slice WA (finF e).1.out.length Wc) (finF e).1.out.length (Lib.byteCells (finF e).1.out) := ⟨(hb5'.cell (World.block_lt_of_cell? _ _ (show w4.cell? ⟨p, 2, none⟩ = _ from s0.1))).trans s0.1, own_keep (show w4.ownsRow _ _ _ _ _ _ from s0.2) hb5'⟩
    refine ⟨_, rfl, hK _ _ ⟨⟨⟨_, s5⟩, rfl⟩, ?_⟩⟩
    clear hK K ho5 hb5 hb5' s0
    have y0 : w5.cell? ⟨w.heap.size + 1, 0, none⟩ = some (.int .i64 0) := (hY5.cell 0).trans rfl
    have y1 : w5.cell? ⟨w.heap.size + 1, 1, none⟩ = some (.int .i64 0) := (hY5.cell 1).trans rfl
    have y2 : w5.cell? ⟨w.heap.size + 1, 2, none⟩ = some (.int .i64 0) := (hY5.cell 2).trans rfl
    have y3 : w5.cell? ⟨w.heap.size + 1, 3, none⟩ = some (.slice none 0 0) := (hY5.cell 3).trans rfl
    have y4 : w5.cell? ⟨w.heap.size + 1, 4, none⟩ = some (.slice none 0 0) := (hY5.cell 4).trans rfl
    have y5 : w5.cell? ⟨w.heap.size + 1, 5, none⟩ = some (.int .i64 0) := (hY5.cell 5).trans rfl
    have y6 : w5.cell? ⟨w.heap.size + 1, 6, none⟩ = some (.int .i64 0) := (hY5.cell 6).trans rfl
    have yf := hY5.frozen
    have yl := hY5.lt
    have HY5 := Lib.hid hY5
    clear hY5
    refine stage_more ?_
    refine wpQuiet_nil ?_
    intro K hK
    unfold Chain.mov
    go_simp
    simp only [Chain.movUpon]
    clear y0 y1 y2 y3 y4 y5 y6 yf yl
    have s6 : (World.setN w5 (w.heap.size + 1) 0 [.int .i64 a0, .int .i64 a1, .int .i64 a2, .slice aS an ac, .slice aT am ad, .int .i64 a5, .int .i64 a6]).cell? ⟨p, 2, none⟩ = some (.slice WA (finF e).1.out.length Wc) ∧ (World.setN w5 (w.heap.size + 1) 0 [.int .i64 a0, .int .i64 a1, .int .i64 a2, .slice aS an ac, .slice aT am ad, .int .i64 a5, .int .i64 a6]).ownsRow w2.heap.size 5 1 (.slice WA (finF e).1.out.length Wc) (finF e).1.out.length (Lib.byteCells (finF e).1.out) := ⟨(cell_setN hpY [.int .i64 a0, .int .i64 a1, .int .i64 a2, .slice aS an ac, .slice aT am ad, .int .i64 a5, .int .i64 a6] _ 0 2).trans s5.1, own_setN hWY [.int .i64 a0, .int .i64 a1, .int .i64 a2, .slice aS an ac, .slice aT am ad, .int .i64 a5, .int .i64 a6] _ 0 s5.2⟩
    refine hK _ (World.setN w5 (w.heap.size + 1) 0 [.int .i64 a0, .int .i64 a1, .int .i64 a2, .slice aS an ac, .slice aT am ad, .int .i64 a5, .int .i64 a6]) ⟨⟨⟨_, s6⟩, rfl⟩, ?_⟩
    clear hK K s5 s6 hne
    have hO9 := EngO.setN HY5.out (by decide) (by decide) [.int .i64 a0, .int .i64 a1, .int .i64 a2, .slice aS an ac, .slice aT am ad, .int .i64 a5, .int .i64 a6] 0 HO5.out
    have hB9 := below_setN (B := w.heap.size) (a := w) (g := w.heap.size + 1) (by omega) [.int .i64 a0, .int .i64 a1, .int .i64 a2, .slice aS an ac, .slice aT am ad, .int .i64 a5, .int .i64 a6] _ 0 HB5.out
    have hY9 := BlkL.setN [.int .i64 a0, .int .i64 a1, .int .i64 a2, .slice aS an ac, .slice aT am ad, .int .i64 a5, .int .i64 a6] _ _ 0 HY5.out
    generalize World.setN w5 (w.heap.size + 1) 0 [.int .i64 a0, .int .i64 a1, .int .i64 a2, .slice aS an ac, .slice aT am ad, .int .i64 a5, .int .i64 a6] = w9 at *
    refine stage_last ?_
    repeat (go_big_quiet_step (fail))
    refine wpQuiet_nil ?_
    go_wp2
    have k0 : w9.cell? ⟨w.heap.size + 1, 0, none⟩ = some (.int .i64 a0) := (hY9.cell 0).trans rfl
    have k1 : w9.cell? ⟨w.heap.size + 1, 1, none⟩ = some (.int .i64 a1) := (hY9.cell 1).trans rfl
    have k2 : w9.cell? ⟨w.heap.size + 1, 2, none⟩ = some (.int .i64 a2) := (hY9.cell 2).trans rfl
    have k3 : w9.cell? ⟨w.heap.size + 1, 3, none⟩ = some (.slice aS an ac) := (hY9.cell 3).trans rfl
    have k4 : w9.cell? ⟨w.heap.size + 1, 4, none⟩ = some (.slice aT am ad) := (hY9.cell 4).trans rfl
    have k5 : w9.cell? ⟨w.heap.size + 1, 5, none⟩ = some (.int .i64 a5) := (hY9.cell 5).trans rfl
    have k6 : w9.cell? ⟨w.heap.size + 1, 6, none⟩ = some (.int .i64 a6) := (hY9.cell 6).trans rfl
    refine bodyPost_ret (v := .tuple #[.agg #[.int .i64 a0, .int .i64 a1, .int .i64 a2, .slice aS an ac, .slice aT am ad, .int .i64 a5, .int .i64 a6], .string ⟨(finF e).1.out.toArray⟩, .bool true]) (by simp [results, Try.results16, go_sem, k0, k1, k2, k3, k4, k5, k6]) rfl ⟨.agg #[.int .i64 a0, .int .i64 a1, .int .i64 a2, .slice aS an ac, .slice aT am ad, .int .i64 a5, .int .i64 a6], ?_, ?_, hB9⟩
    · rw [HT.out, HBN.out]
    · rw [HEE.out]; exact hO9
  · have HBN := Lib.hid (show finB e = false by unfold finB; rw [decide_eq_false hlv]; simp)
    have HT := Lib.hid (show finT e = ByteArray.empty from if_neg (by rw [HBN.out]; decide))
    have HEE := Lib.hid (show finE e = e from if_neg (by rw [HBN.out]; decide))
    have HLV := Lib.hid hlv
    clear hlv
    go_wp2_with fail
    refine (finish_no HP3.out HLV.out).mono ?_
    rintro r w4 ⟨rfl, hb4⟩
    have HB4 := Lib.hid (HB3.out.trans (hb4.mono HB3.out.size))
    have hX4 := HX3.out.below hb4 HX3.out.lt
    have hY4 := HY3.out.below hb4 HY3.out.lt
    clear x0 x1 x2 x3 x4 x5 x6 xl
    have x0 : w4.cell? ⟨w.heap.size, 0, none⟩ = some (.int .i64 e.W) := (hX4.cell 0).trans rfl
    have x1 : w4.cell? ⟨w.heap.size, 1, none⟩ = some (.int .i64 e.col) := (hX4.cell 1).trans rfl
    have x2 : w4.cell? ⟨w.heap.size, 2, none⟩ = some (.int .i64 e.pend) := (hX4.cell 2).trans rfl
    have x3 : w4.cell? ⟨w.heap.size, 3, none⟩ = some (.slice A e.ms.length c) := (hX4.cell 3).trans rfl
    have x4 : w4.cell? ⟨w.heap.size, 4, none⟩ = some (.slice A2 e.it.length c2) := (hX4.cell 4).trans rfl
    have x5 : w4.cell? ⟨w.heap.size, 5, none⟩ = some (.int .i64 e.tot) := (hX4.cell 5).trans rfl
    have x6 : w4.cell? ⟨w.heap.size, 6, none⟩ = some (.int .i64 e.lev) := (hX4.cell 6).trans rfl
    have xl := hX4.lt
    have HX4 := Lib.hid hX4
    have HY4 := Lib.hid hY4
    clear hb4 hX4 hY4 HX3 HY3 HP3
    go_wp2_with fail
    clear x0 x1 x2 x3 x4 x5 x6 xl
    refine (sameEngine_any e A c A2 c2 w4 hm hi (RS.below M1.out HB4.out) (RS.below I1.out HB4.out)).mono ?_
    rintro r w8 ⟨v8, rfl, ho8, hb8⟩
    obtain ⟨a0, a1, a2, aS, an, ac, aT, am, ad, a5, a6, rfl⟩ := EngO.shape ho8
    have HO8 := Lib.hid (EngO.lowB ho8 (show w.heap.size ≤ w4.heap.size from HB4.out.size))
    have HB8 := Lib.hid (HB4.out.trans (hb8.mono HB4.out.size))
    have hY8 := HY4.out.below hb8 HY4.out.lt
    have y0 : w8.cell? ⟨w.heap.size + 1, 0, none⟩ = some (.int .i64 0) := (hY8.cell 0).trans rfl
    have y1 : w8.cell? ⟨w.heap.size + 1, 1, none⟩ = some (.int .i64 0) := (hY8.cell 1).trans rfl
    have y2 : w8.cell? ⟨w.heap.size + 1, 2, none⟩ = some (.int .i64 0) := (hY8.cell 2).trans rfl
    have y3 : w8.cell? ⟨w.heap.size + 1, 3, none⟩ = some (.slice none 0 0) := (hY8.cell 3).trans rfl
    have y4 : w8.cell? ⟨w.heap.size + 1, 4, none⟩ = some (.slice none 0 0) := (hY8.cell 4).trans rfl
    have y5 : w8.cell? ⟨w.heap.size + 1, 5, none⟩ = some (.int .i64 0) := (hY8.cell 5).trans rfl
    have y6 : w8.cell? ⟨w.heap.size + 1, 6, none⟩ = some (.int .i64 0) := (hY8.cell 6).trans rfl
    have yf := hY8.frozen
    have yl := hY8.lt
    have HY8 := Lib.hid hY8
    clear ho8 hb8 hY8
    go_wp2
    clear y0 y1 y2 y3 y4 y5 y6 yf yl
    have hO9 := EngO.setN HY8.out (by decide) (by decide) [.int .i64 a0, .int .i64 a1, .int .i64 a2, .slice aS an ac, .slice aT am ad, .int .i64 a5, .int .i64 a6] 0 HO8.out
    have hB9 := below_setN (B := w.heap.size) (a := w) (g := w.heap.size + 1) (by omega) [.int .i64 a0, .int .i64 a1, .int .i64 a2, .slice aS an ac, .slice aT am ad, .int .i64 a5, .int .i64 a6] _ 0 HB8.out
    have hY9 := BlkL.setN [.int .i64 a0, .int .i64 a1, .int .i64 a2, .slice aS an ac, .slice aT am ad, .int .i64 a5, .int .i64 a6] _ _ 0 HY8.out
    change bodyPost _ _ _ _ _ (World.setN w8 (w.heap.size + 1) 0 [.int .i64 a0, .int .i64 a1, .int .i64 a2, .slice aS an ac, .slice aT am ad, .int .i64 a5, .int .i64 a6])
    generalize World.setN w8 (w.heap.size + 1) 0 [.int .i64 a0, .int .i64 a1, .int .i64 a2, .slice aS an ac, .slice aT am ad, .int .i64 a5, .int .i64 a6] = w9 at *
    have k0 : w9.cell? ⟨w.heap.size + 1, 0, none⟩ = some (.int .i64 a0) := (hY9.cell 0).trans rfl
    have k1 : w9.cell? ⟨w.heap.size + 1, 1, none⟩ = some (.int .i64 a1) := (hY9.cell 1).trans rfl
    have k2 : w9.cell? ⟨w.heap.size + 1, 2, none⟩ = some (.int .i64 a2) := (hY9.cell 2).trans rfl
    have k3 : w9.cell? ⟨w.heap.size + 1, 3, none⟩ = some (.slice aS an ac) := (hY9.cell 3).trans rfl
    have k4 : w9.cell? ⟨w.heap.size + 1, 4, none⟩ = some (.slice aT am ad) := (hY9.cell 4).trans rfl
    have k5 : w9.cell? ⟨w.heap.size + 1, 5, none⟩ = some (.int .i64 a5) := (hY9.cell 5).trans rfl
    have k6 : w9.cell? ⟨w.heap.size + 1, 6, none⟩ = some (.int .i64 a6) := (hY9.cell 6).trans rfl
    refine bodyPost_ret (v := .tuple #[.agg #[.int .i64 a0, .int .i64 a1, .int .i64 a2, .slice aS an ac, .slice aT am ad, .int .i64 a5, .int .i64 a6], .string ByteArray.empty, .bool false]) (by simp [results, Try.results16, go_sem, k0, k1, k2, k3, k4, k5, k6] <;> rfl) rfl ⟨.agg #[.int .i64 a0, .int .i64 a1, .int .i64 a2, .slice aS an ac, .slice aT am ad, .int .i64 a5, .int .i64 a6], ?_, ?_, hB9⟩
    · rw [HT.out, HBN.out]
    · rw [HEE.out]; exact hO9
end Go.Proofs.Ytigdbkdddnbfpab
