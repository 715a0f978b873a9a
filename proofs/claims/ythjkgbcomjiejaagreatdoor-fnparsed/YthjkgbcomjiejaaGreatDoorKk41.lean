/-
  What a node more does to the parser's words: its parent, and which brackets are open.
-/
import Derived.Test.YthjkgbcomjiejaaGreatDoorKk40
import Derived.Test.YthjkgbcomjiejaaGreatDoorKk39
namespace Go.Proofs.YthjkgbcomjiejaaGreatDoor
open Go.RowKit
set_option linter.unusedVariables false
theorem quiet_mono {P : Program} {ops : Array Oper} {S : World → Prop} : ∀ (l0 : List Oper) (a0 : Act) (A B : Act → Prop), (∀ x, A x → B x) → wpQuiet P ops S A l0 a0 → wpQuiet P ops S B l0 a0
  | [], a0, A, B, h1, h2 => h1 _ h2
  | o :: l0, a0, A, B, h1, h2 => by
    unfold wpQuiet at h2 ⊢
    split
    · rename_i hw
      rw [if_pos hw] at h2
      exact Oper.quiet_mono (fun a1 h3 => quiet_mono l0 _ A B h1 h3) h2
    · rename_i hw
      rw [if_neg hw] at h2
      exact quiet_mono l0 _ A B h1 h2
theorem stage_more {P : Program} {S : World → Prop} {ops : Array Oper} {Q : Exit → Act → World → Prop} {H : List Oper} {t : Oper} {x : List Oper × List Oper} {rest : List (List Oper × List Oper)} {a : Act} {w : World}
    (h : wpQuiet P ops S (fun a' => ∀ K : Act → World → Prop, (∀ a w, S w ∧ Stage.stageW P S ops Q (x :: rest) a w → K a w) → Chain.mov P t a' w (fun v w2 => K (a'.put t.dst v) w2)) H a) : Stage.stageW P S ops Q ((H, [t]) :: x :: rest) a w := by
  unfold Stage.stageW
  exact quiet_mono _ _ _ _ (fun a' h => h (fun a w => S w ∧ Stage.stageW P S ops Q (x :: rest) a w) (fun _ _ h => h)) h
theorem stage_last {P : Program} {S : World → Prop} {ops : Array Oper} {Q : Exit → Act → World → Prop} {H T : List Oper} {a : Act} {w : World} (h : wpQuiet P ops S (fun a' => wpList P ops Q T a' w) H a) : Stage.stageW P S ops Q [(H, T)] a w := by
  unfold Stage.stageW
  exact h
theorem mov_append {P : Program} {o : Oper} {a : Act} {V V2 : World} {G : Value → World → Prop} {s x : Operand} {t : TypeId} {v u v' : Value} (hop : o.op = .call { callee := .builtin .append, args := #[s, x], argTypes := #[t, t] }) (hs : a.eval s = v) (hx : a.eval x = u)
    (hrun : (Builtin.append_ #[t, t] o.type #[v, u]).run P V = .ok v' V2) (h : G v' V2) : Chain.mov P o a V G := by
  have e : (execOp a.eval o).run P V = .ok (.value v') V2 := by simp [execOp, hop, resolve, invoke, builtin, hs, hx, hrun, Result.andThen]
  unfold Chain.mov
  rw [e]
  exact h
/-- a world in which all of w below B is as it was. -/
structure KB (B : Nat) (w : World) where
  W : World
  ok : Below B w W
theorem KB.rd {B : Nat} {w : World} {a : Addr} {v : Value} (h : w.cell? a = some v) (hB : a.block < B) : ∀ x : KB B w, x.W.cell? a = some v := fun x => (x.ok.cell hB).trans h
theorem KB.start (B : Nat) (w : World) : ∃ x : KB B w, w.drew = x.W := ⟨⟨w.drew, (Below.refl _ _).drew⟩, rfl⟩
theorem KB.mk' {B : Nat} {w w' : World} (h : Below B w w') : ∃ x : KB B w, w' = x.W := ⟨⟨w', h⟩, rfl⟩
end Go.Proofs.YthjkgbcomjiejaaGreatDoor
namespace Go.Proofs.YthjkgbcomjiejaaGreatDoor
open Go.RowKit
set_option linter.unusedVariables false

theorem fn_one (x : Nd) : ∀ u ∈ fl fn [x], u.oneCell' = true := by
  intro u hu
  simp [fl, fn] at hu
  rcases hu with rfl | rfl | rfl <;> rfl
/-- a block of cells of a type. -/
def CT (w : World) (g : Nat) (t : TypeId) : Prop := ∃ cur, w.heap[g]? = some (.cells cur t (0, 0))
theorem BlkL.ct {w : World} {g : Nat} {t : TypeId} {cs : List Value} (h : BlkL w g t cs) : CT w g t := ⟨_, h⟩
theorem CT.ne {w : World} {g g' : Nat} {t t' : TypeId} (h : CT w g t) (h' : CT w g' t') (hne : t ≠ t') : g ≠ g' := by
  rintro rfl
  obtain ⟨c, h⟩ := h
  obtain ⟨c', h'⟩ := h'
  rw [h] at h'
  injection h' with h'
  injection h' with _ h'
  exact hne h'
theorem CT.ne_map {w : World} {g b n : Nat} {t : TypeId} {k : TypeId} {R : Value → Option (DU × List MemPlace)} {D : DU} (h : CT w g t) (hm : w.ownsMap Tryz.prog k R b n D) : g ≠ b := by
  rintro rfl
  obtain ⟨c, h⟩ := h
  obtain ⟨es, clock, he, _⟩ := hm
  rw [h] at he
  cases he
structure PzG (w : World) (B pb bm : Nat) (vL tp : Value) (lr lf : List Nd) (k : Nat) (at_ : Nat → Int) (ps : Nat → Nat) (vs : Nat → Value) (n : Nat) (D : DU) : Prop where
  blk : BlkL w pb 86 [vL, tp, .map (some bm)]
  row : w.ownsRow B 31 3 vL lr.length (fl fn lr)
  fo : Fq w B lf k at_ ps vs
  map : w.ownsMap Tryz.prog 3 (plainElem Tryz.prog 4) bm n D
section
variable {w w' : World} {B pb bm : Nat} {vL tp : Value} {lr lf : List Nd} {k : Nat} {at_ : Nat → Int} {ps : Nat → Nat} {vs : Nat → Value} {n : Nat} {D : DU}
theorem PzM.g {z : Pz} (h : PzM w B z pb bm vL ps vs D) : PzG w B pb bm vL (ptr (ps z.t)) z.l z.l z.l.length (atz z.q) ps vs z.l.length D := ⟨h.blk, h.row, h.fo, h.map⟩
theorem PzG.below (h : PzG w B pb bm vL tp lr lf k at_ ps vs n D) (hb : Below w.heap.size w w') : PzG w' B pb bm vL tp lr lf k at_ ps vs n D := by
  refine ⟨h.blk.below hb h.blk.lt, own_below h.row hb, h.fo.below hb, ?_⟩
  obtain ⟨es, clock, he, r⟩ := h.map
  exact ⟨es, clock, (hb.block bm (Array.getElem?_eq_some_iff.1 he).1).trans he, r⟩
theorem PzG.more {m : List Nd} {a2 : Nat → Int} (h : PzG w B pb bm vL tp lr lf k at_ ps vs n D) (hk : k ≤ lf.length) (ha : ∀ i, i ≤ k → a2 i = at_ i) : PzG w B pb bm vL tp lr (lf ++ m) k a2 ps vs n D :=
  ⟨h.blk, h.row, h.fo.more hk ha, h.map⟩
theorem PzG.rowT (h : PzG w B pb bm vL tp lr lf k at_ ps vs n D) {g : Nat} (hg : vL.ownBlock = some g) : CT w g 31 := fo_type h.row hg
theorem PzG.kidT (h : PzG w B pb bm vL tp lr lf k at_ ps vs n D) {i g : Nat} (hi : i ≤ k) (hg : (vs i).ownBlock = some g) : CT w g 68 := fo_type (h.fo.row i hi) hg
theorem PzG.brT (h : PzG w B pb bm vL tp lr lf k at_ ps vs n D) {i : Nat} (hi : i ≤ k) : CT w (ps i) 70 := (h.fo.blk i hi).ct
/-- what writes one block that is none of the parser's. -/
theorem PzG.kept {row : Option Nat} (h : PzG w B pb bm vL tp lr lf k at_ ps vs n D) (hg : w.grownBy w' row) (h1 : some pb ≠ row) (h2 : ∀ g, vL.ownBlock = some g → some g ≠ row) (h3 : ∀ i, i ≤ k → some (ps i) ≠ row) (h4 : ∀ i g, i ≤ k → (vs i).ownBlock = some g → some g ≠ row) (h5 : some bm ≠ row) : PzG w' B pb bm vL tp lr lf k at_ ps vs n D :=
  ⟨h.blk.grown hg h1, fo_kept h.row hg h2, h.fo.grown hg h3 h4, h.map.kept hg h5⟩
theorem grown_cell (w : World) (g i : Nat) (v : Value) : w.grownBy (w.setCell ⟨g, i, none⟩ v) (some g) :=
  ⟨rfl, rfl, rfl, by simp [World.setCell], fun j hj hne => Below.heap_setCell w ⟨g, i, none⟩ v j (by simpa using hne)⟩
/-- a field of the parser is written. -/
theorem PzG.field (h : PzG w B pb bm vL tp lr lf k at_ ps vs n D) (i : Nat) (v : Value) : (BlkL (w.setCell ⟨pb, i, none⟩ v) pb 86 ([vL, tp, .map (some bm)].set i v)) ∧ (w.setCell ⟨pb, i, none⟩ v).ownsRow B 31 3 vL lr.length (fl fn lr) ∧
    Fq (w.setCell ⟨pb, i, none⟩ v) B lf k at_ ps vs ∧ (w.setCell ⟨pb, i, none⟩ v).ownsMap Tryz.prog 3 (plainElem Tryz.prog 4) bm n D := by
  have hg := grown_cell w pb i v
  refine ⟨h.blk.set i v, fo_kept h.row hg fun g e e2 => ?_, h.fo.grown hg (fun j hj e => ?_) (fun j g hj e e2 => ?_), h.map.kept hg fun e => ?_⟩
  · injection e2 with e2; exact (h.rowT e).ne h.blk.ct (by decide) e2
  · injection e with e; exact (h.brT hj).ne h.blk.ct (by decide) e
  · injection e2 with e2; exact (h.kidT hj e).ne h.blk.ct (by decide) e2
  · injection e with e; exact h.blk.ct.ne_map h.map e.symm
theorem PzG.tip (h : PzG w B pb bm vL tp lr lf k at_ ps vs n D) (v : Value) : PzG (w.setCell ⟨pb, 1, none⟩ v) B pb bm vL v lr lf k at_ ps vs n D := by
  obtain ⟨a, b, c, d⟩ := h.field 1 v
  exact ⟨a, b, c, d⟩
/-- a node more in the list. -/
theorem PzG.app {v' : Value} {lr' : List Nd} (h : PzG w B pb bm vL tp lr lf k at_ ps vs n D) (hg : w.grownBy w' vL.ownBlock) (ho : w'.ownsRow B 31 3 v' lr'.length (fl fn lr')) : PzG (w'.setCell ⟨pb, 0, none⟩ v') B pb bm v' tp lr' lf k at_ ps vs n D := by
  have hp : some pb ≠ vL.ownBlock := fun e => (h.rowT e.symm).ne h.blk.ct (by decide) rfl
  have hb := h.blk.grown hg hp
  have hf := h.fo.grown hg (fun i hi e => (h.rowT e.symm).ne (h.brT hi) (by decide) rfl) (fun i g hi e e2 => (h.rowT e2.symm).ne (h.kidT hi e) (by decide) rfl)
  have hm := h.map.kept hg (fun e => (h.rowT e.symm).ne_map h.map rfl)
  have h' : PzG w' B pb bm v' tp lr' lf k at_ ps vs n D ∨ True := .inr trivial
  have hgc := grown_cell w' pb 0 v'
  refine ⟨hb.set 0 v', fo_kept ho hgc fun g e e2 => ?_, hf.grown hgc (fun j hj e => ?_) (fun j g hj e e2 => ?_), hm.kept hgc fun e => ?_⟩
  · injection e2 with e2
    obtain ⟨c1, hc1⟩ := fo_type ho e
    exact (show CT w' g 31 from ⟨c1, hc1⟩).ne hb.ct (by decide) e2
  · injection e with e; exact (hf.blk j hj).ct.ne hb.ct (by decide) e
  · injection e2 with e2
    obtain ⟨c1, hc1⟩ := fo_type (hf.row j hj) e
    exact (show CT w' g 68 from ⟨c1, hc1⟩).ne hb.ct (by decide) e2
  · injection e with e; exact hb.ct.ne_map hm e.symm
/-- a branch more. -/
theorem PzG.grow {i p : Nat} {v : Value} {lf' : List Nd} {ps' : Nat → Nat} {vs' : Nat → Value} {k' : Nat} (h : PzG w B pb bm vL tp lr lf k at_ ps vs n D) (hi : i ≤ k) (hf : Fq w' B lf' k' at_ ps' vs') (hs : w.heap.size ≤ w'.heap.size) (ho : w'.os = w.os) (ht : w'.tape = w.tape) (hu : w'.output = w.output)
    (hq : ∀ q, q < w.heap.size → q ≠ ps i → some q ≠ (vs i).ownBlock → w'.heap[q]? = w.heap[q]?) : PzG w' B pb bm vL tp lr lf' k' at_ ps' vs' n D := by
  have keep : ∀ g, g < w.heap.size → (∀ t, CT w g t → t ≠ 70 ∧ t ≠ 68) → w'.heap[g]? = w.heap[g]? := by
    intro g hg hT
    refine hq g hg (fun e => ?_) (fun e => ?_)
    · subst e; exact (hT _ (h.brT hi)).1 rfl
    · exact (hT _ (h.kidT hi e.symm)).2 rfl
  have one : ∀ {g : Nat} {t t' : TypeId}, CT w g t → CT w g t' → t' = t := fun {g t t'} h1 h2 => by
    by_cases e : t' = t
    · exact e
    · exact (h2.ne h1 e rfl).elim
  refine ⟨?_, ?_, hf, ?_⟩
  · have := keep pb h.blk.lt fun t ht => by rw [one h.blk.ct ht]; decide
    unfold BlkL
    rw [this]; exact h.blk
  · refine own_same h.row fun g hg => keep g (h.row.lt g hg).2 fun t ht => by rw [one (h.rowT hg) ht]; decide
  · obtain ⟨es, clock, he, r⟩ := h.map
    refine ⟨es, clock, (keep bm (Array.getElem?_eq_some_iff.1 he).1 fun t ht => ?_).trans he, r⟩
    obtain ⟨c, hc⟩ := ht
    rw [he] at hc
    cases hc
/-- the map is written. -/
theorem PzG.put {n' : Nat} {D' : DU} (h : PzG w B pb bm vL tp lr lf k at_ ps vs n D) (hm : w'.ownsMap Tryz.prog 3 (plainElem Tryz.prog 4) bm n' D') (hg : w.grownBy w' (some bm)) : PzG w' B pb bm vL tp lr lf k at_ ps vs n' D' := by
  refine ⟨h.blk.grown hg fun e => ?_, fo_kept h.row hg fun g e e2 => ?_, h.fo.grown hg (fun i hi e => ?_) (fun i g hi e e2 => ?_), hm⟩
  · injection e with e; exact h.blk.ct.ne_map h.map e
  · injection e2 with e2; exact (h.rowT e).ne_map h.map e2
  · injection e with e; exact (h.brT hi).ne_map h.map e
  · injection e2 with e2; exact (h.kidT hi e).ne_map h.map e2
end
end Go.Proofs.YthjkgbcomjiejaaGreatDoor
namespace Go.Proofs.YthjkgbcomjiejaaGreatDoor
open Go.RowKit
set_option linter.unusedVariables false

theorem PzOk.par_new {z : Pz} (h : PzOk z) {n : Nd} (hd : n.d = dep z.l z.t + 1) : par (z.l ++ [n]) z.l.length = z.t := by
  have hat : (z.l ++ [n])[z.l.length]? = some n := by simp
  unfold par
  rw [dep_succ hat, hd, climb_app _ (Nat.le_refl _)]
  exact climb_is (by omega) _ h.tip fun m h1 h2 => by have := h.low m h1 h2; omega
theorem opq_add {z : Pz} (h : PzOk z) {x : Lx} (hx : LxGd x) (h4 : x.k ≠ 4) (a : Int) :
    a ∈ opq ⟨z.l ++ [ndX x (dep z.l z.t + 1)], z.q ++ [x.a], if 3 ≤ (ndX x (dep z.l z.t + 1)).k then z.l.length + 1 else unq z.l z.t⟩ ↔ (x.k = 3 ∧ a = x.a) ∨ a ∈ opq z := by
  obtain ⟨n, hn⟩ : ∃ n, ndX x (dep z.l z.t + 1) = n := ⟨_, rfl⟩
  have hd : n.d = dep z.l z.t + 1 := by rw [← hn]; exact ndX_d _ _
  have hk : n.k = (if x.k = 3 then opK (bt x.s 0) else if x.k = 5 then 6 else x.k) := by rw [← hn]; exact ndX_kind hx h4 _
  have hp := h.par_new hd
  have hat : (z.l ++ [n])[z.l.length]? = some n := by simp
  have hkn : knd (z.l ++ [n]) (z.l.length + 1) = n.k := knd_succ hat
  have hop : 3 ≤ opK (bt x.s 0) ∧ opK (bt x.s 0) ≤ 5 := by unfold opK; split; omega; split <;> omega
  have hbd := hx.bd
  rw [hn]
  unfold opq
  by_cases h3 : x.k = 3
  · rw [if_pos h3] at hk
    show a ∈ opl (z.l ++ [n]) (z.q ++ [x.a]) (if 3 ≤ n.k then z.l.length + 1 else unq z.l z.t) ↔ _
    rw [if_pos (by omega), opl_yes (by rw [hkn]; omega), hp, opl_app h.tip h.len]
    have hl := h.len
    have e : (z.q ++ [x.a]).getD z.l.length 0 = x.a := by rw [← hl]; simp
    rw [e]
    simp only [List.mem_append, List.mem_singleton]
    constructor
    · rintro (h5 | h5)
      · exact .inr h5
      · exact .inl ⟨h3, h5⟩
    · rintro (⟨_, h5⟩ | h5)
      · exact .inr h5
      · exact .inl h5
  · rw [if_neg h3] at hk
    by_cases h5 : x.k = 5
    · rw [if_pos h5] at hk
      show a ∈ opl (z.l ++ [n]) (z.q ++ [x.a]) (if 3 ≤ n.k then z.l.length + 1 else unq z.l z.t) ↔ _
      rw [if_pos (by omega), opl_no (by rw [hkn, hk]), hp, opl_app h.tip h.len]
      constructor
      · exact .inr
      · rintro (⟨h6, _⟩ | h6)
        · exact (h3 h6).elim
        · exact h6
    · rw [if_neg h5] at hk
      show a ∈ opl (z.l ++ [n]) (z.q ++ [x.a]) (if 3 ≤ n.k then z.l.length + 1 else unq z.l z.t) ↔ _
      have hu : unq z.l z.t ≤ z.l.length := Nat.le_trans (unq_le _ _) h.tip
      rw [if_neg (by omega), opl_app hu h.len, opl_unq]
      constructor
      · exact .inr
      · rintro (⟨h6, _⟩ | h6)
        · exact (h3 h6).elim
        · exact h6
/-- what the branch's growing leaves alone. -/
theorem PzG.other {w w' : World} {B pb bm : Nat} {vL tp : Value} {lr lf : List Nd} {k : Nat} {at_ : Nat → Int} {ps : Nat → Nat} {vs : Nat → Value} {n i : Nat} {D : DU} (h : PzG w B pb bm vL tp lr lf k at_ ps vs n D) (hi : i ≤ k)
    (hq : ∀ q, q < w.heap.size → q ≠ ps i → some q ≠ (vs i).ownBlock → w'.heap[q]? = w.heap[q]?) {g : Nat} {t : TypeId} {cs : List Value} (hg : BlkL w g t cs) (h1 : t ≠ 70) (h2 : t ≠ 68) : BlkL w' g t cs := by
  unfold BlkL
  rw [hq g hg.lt (fun e => hg.ct.ne (h.brT hi) h1 e) (fun e => hg.ct.ne (h.kidT hi e.symm) h2 rfl)]
  exact hg
theorem PzG.under {w0 w w' : World} {B pb bm : Nat} {vL tp : Value} {lr lf : List Nd} {k : Nat} {at_ : Nat → Int} {ps : Nat → Nat} {vs : Nat → Value} {n i : Nat} {D : DU} (h : PzG w B pb bm vL tp lr lf k at_ ps vs n D) (hi : i ≤ k) (hB : B ≤ w.heap.size)
    (hs : w.heap.size ≤ w'.heap.size) (ho : w'.os = w.os) (ht : w'.tape = w.tape) (hu : w'.output = w.output)
    (hq : ∀ q, q < w.heap.size → q ≠ ps i → some q ≠ (vs i).ownBlock → w'.heap[q]? = w.heap[q]?) (hb : Below B w0 w) : Below B w0 w' := by
  refine hb.trans ⟨ho, ht, hu, hs, fun q hlt => hq q (by omega) (fun e => ?_) (fun e => ?_)⟩
  · have := h.fo.base i hi; omega
  · have := ((h.fo.row i hi).lt q e.symm).1; omega
theorem key_wf {x : Lx} (hx : LxGd x) : (Lit.int .i64 x.a).wf = true := WalkArith.wf_i64 (by have := hx.a0; have := hx.a1; omega)
theorem isKey_int (a : Int) : WideAt.IsKeyLit (.int .i64 a) := trivial
end Go.Proofs.YthjkgbcomjiejaaGreatDoor
