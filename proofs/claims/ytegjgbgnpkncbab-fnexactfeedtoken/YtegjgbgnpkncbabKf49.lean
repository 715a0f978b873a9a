/-
  How long the rows of what FeedToken answers are.
-/
import Derived.Test.YtegjgbgnpkncbabKf25
import Derived.Test.YtegjgbgnpkncbabKf45
import Derived.Test.YtegjgbgnpkncbabKfFem
import Derived.Test.YtegjgbgnpkncbabKfFed2
namespace Go.Proofs.Ytegjgbgnpkncbab
open Go.RowKit
set_option linter.unusedVariables false

/-- blocks ahead of B and from C on stay. -/
def Gap (B C : Nat) (w w' : World) : Prop := Below B w w' ∧ ∀ q, C ≤ q → q < w.heap.size → w'.heap[q]? = w.heap[q]?
theorem Gap.of_below {B C : Nat} {w w' : World} (h : Below w.heap.size w w') (hB : B ≤ w.heap.size) : Gap B C w w' := ⟨h.mono hB, fun q _ hq => h.block q hq⟩
theorem Gap.of_grown {B C g : Nat} {w w' : World} (h : w.grownBy w' (some g)) (hg : B ≤ g) (hc : g < C) (hl : g < w.heap.size) : Gap B C w w' := by
  refine ⟨⟨h.os, h.tape, h.output, h.size, fun q hq => ?_⟩, fun q hq hl => h.block q hl (by simp; omega)⟩
  exact h.block q (by omega) (by simp; omega)
theorem Gap.trans {B C : Nat} {w w' w'' : World} (h : Gap B C w w') (h' : Gap B C w' w'') : Gap B C w w'' :=
  ⟨h.1.trans h'.1, fun q hq hl => (h'.2 q hq (Nat.lt_of_lt_of_le hl h.1.size)).trans (h.2 q hq hl)⟩
theorem Gap.blk {B C g : Nat} {t : TypeId} {cs : List Value} {w w' : World} (h : Gap B C w w') (hb : BlkL w g t cs) (hg : g < B ∨ C ≤ g) : BlkL w' g t cs := by
  rcases hg with hg | hg
  · exact (h.1.block g hg).trans hb
  · exact (h.2 g hg hb.lt).trans hb
theorem Gap.or {α : Type} {f : α → List Value} {B C D : Nat} {t : TypeId} {v : Value} {l : List α} {w w' : World} (h : Gap B C w w') (hb : OR f t w D v l) (hc : C ≤ D) : OR f t w' D v l := by
  rcases hb with hb | ⟨g, c, rest, rfl, hB, hk⟩
  · exact .inl hb
  · exact .inr ⟨g, c, rest, rfl, hB, h.blk hk (.inr (by omega))⟩
theorem Gap.eng {B C D : Nat} {v : Value} {e : En} {w w' : World} (h : Gap B C w w') (hb : EngO w D v e) (hc : C ≤ D) : EngO w' D v e := by
  obtain ⟨A, c, A2, c2, hv, h1, h2⟩ := hb
  exact ⟨A, c, A2, c2, hv, h.or h1 hc, h.or h2 hc⟩
/-- a row of one's own between B and C. -/
def ORC {α : Type} (f : α → List Value) (ty : TypeId) (w : World) (B C : Nat) (v : Value) (l : List α) : Prop :=
  ((∃ A c, v = .slice A 0 c) ∧ l = []) ∨ ∃ g c rest, v = .slice (some ⟨g, 0, none⟩) l.length c ∧ B ≤ g ∧ g < C ∧ BlkL w g ty (fl f l ++ rest)
theorem OR.orc {α : Type} {f : α → List Value} {ty : TypeId} {w w' : World} {B : Nat} {v : Value} {l : List α} (h : OR f ty w B v l) (hb : Below w.heap.size w w') : ORC f ty w' B w.heap.size v l := by
  rcases h with h | ⟨g, c, rest, rfl, hB, hk⟩
  · exact .inl h
  · exact .inr ⟨g, c, rest, rfl, hB, hk.lt, hk.below hb hk.lt⟩
theorem ORC.mk_ {α : Type} {f : α → List Value} {B C : Nat} {ty t : TypeId} {v : Value} {l : List α} {w w' : World} (h : Mk B ty w w') (hb : ORC f t w B C v l) (hne : t ≠ ty) : ORC f t w' B C v l := by
  rcases hb with hb | ⟨g, c, rest, rfl, hB, hC, hk⟩
  · exact .inl hb
  · exact .inr ⟨g, c, rest, rfl, hB, hC, h.blk hk hne⟩
theorem markMarkS_orc (A : Option Addr) (c B C : Nat) (l : List (Int × Int)) (x : Int) (w : World) (hB : B ≤ w.heap.size) (hm : l.length ≤ 2097152) (hx0 : 0 ≤ x) (hx1 : x ≤ 900000000) (h : ORC fm 121 w B C (.slice A l.length c) l) :
    Calls Try.prog 64 #[.slice A l.length c, .int .i64 x] w fun r w' => r = .returned (.int .i64 (x + 2 * l.length)) ∧ Mk B 121 w w' ∧ Gap B C w w' := by
  rcases h with ⟨⟨A', c', hv⟩, rfl⟩ | ⟨g, c', rest, hv, hg, hC, hk⟩
  · refine (markMarkS_nil A c x w).mono ?_
    rintro r w' ⟨rfl, hb⟩
    exact ⟨by simp, Mk.of_below hb hB, Gap.of_below hb hB⟩
  · injection hv with hA _ _
    subst hA
    refine (markMarkS_blk g l rest _ c x w rfl hm hx0 hx1 hk).mono ?_
    rintro r w' ⟨rfl, hb, hgr⟩
    exact ⟨rfl, Mk.of_grown hgr hg hk, Gap.of_grown hgr hg hC hk.lt⟩
theorem markHeldS_orc (A : Option Addr) (c B C : Nat) (l : List Hd) (x : Int) (w : World) (hB : B ≤ w.heap.size) (hm : l.length ≤ 2097152) (hx0 : 0 ≤ x) (hx1 : x ≤ 900000000) (h : ORC fh 80 w B C (.slice A l.length c) l) :
    Calls Try.prog 65 #[.slice A l.length c, .int .i64 x] w fun r w' => r = .returned (.int .i64 (x + 7 * l.length)) ∧ Mk B 80 w w' ∧ Gap B C w w' := by
  rcases h with ⟨⟨A', c', hv⟩, rfl⟩ | ⟨g, c', rest, hv, hg, hC, hk⟩
  · refine (markHeldS_nil A c x w).mono ?_
    rintro r w' ⟨rfl, hb⟩
    exact ⟨by simp, Mk.of_below hb hB, Gap.of_below hb hB⟩
  · injection hv with hA _ _
    subst hA
    refine (markHeldS_blk g l rest _ c x w rfl hm hx0 hx1 hk).mono ?_
    rintro r w' ⟨rfl, hb, hgr⟩
    exact ⟨rfl, Mk.of_grown hgr hg hk, Gap.of_grown hgr hg hC hk.lt⟩
set_option maxHeartbeats 400000 in
set_option maxRecDepth 100000 in
theorem markEngine_far (e : En) (v : Value) (B : Nat) (x : Int) (w0 w : World) (hB0 : B ≤ w0.heap.size) (hm : e.ms.length ≤ 2097152) (hi : e.it.length ≤ 2097152) (hx0 : 0 ≤ x) (hx1 : x ≤ 100000000) (h : EngO w0 B v e) (h0 : Below w0.heap.size w0 w) :
    Calls Try.prog 30 #[v, .int .i64 x] w fun r w' => r = .returned (.int .i64 (x + 2 * e.ms.length + 7 * e.it.length)) ∧ Gap B w0.heap.size w w' := by
  obtain ⟨A, c, A2, c2, rfl, m1, i1⟩ := h
  have hs0 := h0.size
  have hB : B ≤ w.heap.size := by omega
  unfold ev
  have M1 := Lib.hid (m1.orc h0)
  have I1 := Lib.hid (i1.orc h0)
  clear m1 i1 h0
  generalize w0.heap.size = C at *
  go_enter Try.func30, Try.ntmps30
  go_wp2_with fail
  have hX1 := BlkL.new w 47 (ecs e (.slice A e.ms.length c) (.slice A2 e.it.length c2))
  have hB1 := (Below.refl w.heap.size w).alloc (Nat.le_refl _) (.cells (ecs e (.slice A e.ms.length c) (.slice A2 e.it.length c2)).toArray 47)
  change Calls _ _ _ (w.alloc (.cells (ecs e (.slice A e.ms.length c) (.slice A2 e.it.length c2)).toArray 47)) _
  generalize w.alloc (.cells (ecs e (.slice A e.ms.length c) (.slice A2 e.it.length c2)).toArray 47) = w1 at *
  have bl : ∀ {α : Type} {f : α → List Value} {ty : TypeId} {v : Value} {l : List α}, ORC f ty w B C v l → ORC f ty w1 B C v l := by
    intro α f ty v l h
    rcases h with h | ⟨g, c, rest, rfl, h1, h2, h3⟩
    · exact .inl h
    · exact .inr ⟨g, c, rest, rfl, h1, h2, h3.below hB1 h3.lt⟩
  refine (markMarkS_orc A c B C e.ms x w1 (Nat.le_trans hB hB1.size) hm hx0 (by omega) (bl M1.out)).mono ?_
  rintro r w2 ⟨rfl, hk2, hg2⟩
  have HI2 := Lib.hid (ORC.mk_ hk2 (bl I1.out) (by decide))
  have hX2 := hk2.blk hX1 (by decide)
  have HG2 := Lib.hid ((Gap.of_below (C := C) hB1 hB).trans hg2)
  have x4 : w2.cell? ⟨w.heap.size, 4, none⟩ = some (.slice A2 e.it.length c2) := (hX2.cell 4).trans rfl
  have xl := hX2.lt
  clear hk2 hg2 hX1 hX2 hB1 bl
  go_wp2_with fail
  refine (markHeldS_orc A2 c2 B C e.it (x + 2 * e.ms.length) w2 (by have := HG2.out.1.size; omega) hi (by omega) (by omega) HI2.out).mono ?_
  rintro r w3 ⟨rfl, hk3, hg3⟩
  have HG3 := Lib.hid (HG2.out.trans hg3)
  clear hk3 hg3 x4 xl
  go_wp2
  go_ret
  exact ⟨rfl, HG3.out⟩
end Go.Proofs.Ytegjgbgnpkncbab
namespace Go.Proofs.Ytegjgbgnpkncbab
open Go.RowKit
set_option linter.unusedVariables false

theorem EngR.shape {w : World} {v : Value} {e : En} (h : EngR w v e) : ∃ (a0 a1 a2 : Int) (S : Option Addr) (n c : Nat) (S2 : Option Addr) (n2 c2 : Nat) (a5 a6 : Int), v = .agg #[.int .i64 a0, .int .i64 a1, .int .i64 a2, .slice S n c, .slice S2 n2 c2, .int .i64 a5, .int .i64 a6] := by
  obtain ⟨A, c, A2, c2, rfl, _, _⟩ := h
  exact ⟨_, _, _, _, _, _, _, _, _, _, _, rfl⟩
theorem finE_len (e : En) (hm : e.ms.length ≤ 1048576) (hi : e.it.length ≤ 1048576) : (finE e).ms.length ≤ 2097152 ∧ (finE e).it.length ≤ 2097152 := by
  unfold finE
  split
  · rename_i h
    have hok : EnOk e := engB_ok (by unfold finB at h; simp only [Bool.and_eq_true] at h; exact h.1)
    obtain ⟨k, hk, hrun⟩ := flu_run e.W e.tot (startP e) (endS e.tot 0 false e.it)
    have hf := hok.fine 0 false
    obtain ⟨_, h2⟩ := hf.run (W := e.W) k hk
    have hs := hf.stack k hk
    have hl := hf.len
    have e1 : finF e = (runP e.W (startP e) (endS e.tot 0 false e.it) k, (endS e.tot 0 false e.it).drop k) := hrun
    rw [e1]
    refine ⟨by show (runP _ _ _ _).ms.length ≤ _; omega, ?_⟩
    show (List.drop k _).length ≤ _
    rw [List.length_drop]
    omega
  · exact ⟨by omega, by omega⟩
end Go.Proofs.Ytegjgbgnpkncbab
namespace Go.Proofs.Ytegjgbgnpkncbab
open Go.RowKit
set_option linter.unusedVariables false

theorem fedE_len (e : En) (t : Tk) (hm : e.ms.length ≤ 1048576) (hi : e.it.length ≤ 1048576) : (fedE e t).ms.length ≤ 2097152 ∧ (fedE e t).it.length ≤ 2097152 := by
  unfold fedE
  split
  · rename_i h
    have hq := fedB_true h
    have hok := engB_ok hq.1
    obtain ⟨k, hk, hrun⟩ := flu_run e.W (e.tot + t.wid) (startP e) (fedI e.tot (newH e.tot e.lev t) e.it)
    have hf := hok.fineF hq.2.1 hq.2.2
    obtain ⟨_, h2⟩ := hf.run (W := e.W) k hk
    have hs := hf.stack k hk
    have hl := hf.len
    have e1 : fedF e t = (runP e.W (startP e) (fedI e.tot (newH e.tot e.lev t) e.it) k, (fedI e.tot (newH e.tot e.lev t) e.it).drop k) := hrun
    rw [e1]
    refine ⟨by show (runP _ _ _ _).ms.length ≤ _; omega, ?_⟩
    show (List.drop k _).length ≤ _
    rw [List.length_drop]
    omega
  · exact ⟨by omega, by omega⟩
theorem EngW.shape {w : World} {B : Nat} {v : Value} {e : En} (h : EngW w B v e) : ∃ (a0 a1 a2 : Int) (S : Option Addr) (n c : Nat) (S2 : Option Addr) (n2 c2 : Nat) (a5 a6 : Int), v = .agg #[.int .i64 a0, .int .i64 a1, .int .i64 a2, .slice S n c, .slice S2 n2 c2, .int .i64 a5, .int .i64 a6] := by
  obtain ⟨A, c, A2, c2, rfl, _⟩ := h
  exact ⟨_, _, _, _, _, _, _, _, _, _, _, rfl⟩
end Go.Proofs.Ytegjgbgnpkncbab
