/-
  The laws' helpers over engines, second part: comparison, what is written into them, what is read back.
-/
import Derived.Test.YtegjgbgnpkncbabKf24
namespace Go.Proofs.Ytegjgbgnpkncbab
open Go.RowKit
set_option linter.unusedVariables false

set_option maxHeartbeats 1000000 in
set_option maxRecDepth 100000 in
theorem eqEngine_same (e : En) (v v' : Value) (w : World) (hm : e.ms.length ≤ 2097152) (hi : e.it.length ≤ 2097152) (h1 : EngR w v e) (h2 : EngR w v' e) :
    Calls Try.prog 29 #[v, v'] w fun r w' => r = .returned (.bool true) ∧ Below w.heap.size w w' := by
  obtain ⟨A, c, A2, c2, rfl, m1, i1⟩ := h1
  obtain ⟨B, d, B2, d2, rfl, m2, i2⟩ := h2
  unfold ev
  have M1 := Lib.hid m1
  have I1 := Lib.hid i1
  have M2 := Lib.hid m2
  have I2 := Lib.hid i2
  clear m1 m2 i1 i2
  go_enter Try.func29, Try.ntmps29
  go_wp2_with fail
  have hX0 := BlkL.new w 47 (ecs e (.slice A e.ms.length c) (.slice A2 e.it.length c2))
  have hX1 := hX0.alloc (.cells (ecs e (.slice B e.ms.length d) (.slice B2 e.it.length d2)).toArray 47)
  have hY1 := BlkL.new (w.alloc (.cells (ecs e (.slice A e.ms.length c) (.slice A2 e.it.length c2)).toArray 47)) 47 (ecs e (.slice B e.ms.length d) (.slice B2 e.it.length d2))
  rw [show (w.alloc (.cells (ecs e (.slice A e.ms.length c) (.slice A2 e.it.length c2)).toArray 47)).heap.size = w.heap.size + 1 by simp] at hY1
  have hB1 := ((Below.refl w.heap.size w).alloc (Nat.le_refl _) (.cells (ecs e (.slice A e.ms.length c) (.slice A2 e.it.length c2)).toArray 47)).alloc (by simp) (.cells (ecs e (.slice B e.ms.length d) (.slice B2 e.it.length d2)).toArray 47)
  change Calls _ _ _ ((w.alloc (.cells (ecs e (.slice A e.ms.length c) (.slice A2 e.it.length c2)).toArray 47)).alloc (.cells (ecs e (.slice B e.ms.length d) (.slice B2 e.it.length d2)).toArray 47)) _
  generalize (w.alloc (.cells (ecs e (.slice A e.ms.length c) (.slice A2 e.it.length c2)).toArray 47)).alloc (.cells (ecs e (.slice B e.ms.length d) (.slice B2 e.it.length d2)).toArray 47) = w1 at *
  clear hX0
  refine (eqMarkS_same A B e.ms _ c d w1 rfl hm (RS.below M1.out hB1) (RS.below M2.out hB1)).mono ?_
  rintro r w2 ⟨rfl, hb2⟩
  have HB2 := Lib.hid (hB1.trans (hb2.mono hB1.size))
  have hX2 := hX1.below hb2 hX1.lt
  have hY2 := hY1.below hb2 hY1.lt
  clear hX1 hY1 hb2 hB1
  have x4 : w2.cell? ⟨w.heap.size, 4, none⟩ = some (.slice A2 e.it.length c2) := (hX2.cell 4).trans rfl
  have y4 : w2.cell? ⟨w.heap.size + 1, 4, none⟩ = some (.slice B2 e.it.length d2) := (hY2.cell 4).trans rfl
  have HX := Lib.hid hX2
  have HY := Lib.hid hY2
  have xl := hX2.lt
  have yl := hY2.lt
  clear hX2 hY2
  go_wp2_with fail
  refine (eqHeldS_same A2 B2 e.it _ c2 d2 w2 rfl hi (RS.below I1.out HB2.out) (RS.below I2.out HB2.out)).mono ?_
  rintro r w3 ⟨rfl, hb3⟩
  have HB3 := Lib.hid (HB2.out.trans (hb3.mono HB2.out.size))
  have hX3 := HX.out.below hb3 HX.out.lt
  have hY3 := HY.out.below hb3 HY.out.lt
  clear x4 y4 HX HY xl yl hb3
  have x5 : w3.cell? ⟨w.heap.size, 5, none⟩ = some (.int .i64 e.tot) := (hX3.cell 5).trans rfl
  have y5 : w3.cell? ⟨w.heap.size + 1, 5, none⟩ = some (.int .i64 e.tot) := (hY3.cell 5).trans rfl
  have x6 : w3.cell? ⟨w.heap.size, 6, none⟩ = some (.int .i64 e.lev) := (hX3.cell 6).trans rfl
  have y6 : w3.cell? ⟨w.heap.size + 1, 6, none⟩ = some (.int .i64 e.lev) := (hY3.cell 6).trans rfl
  have xl := hX3.lt
  have yl := hY3.lt
  clear hX3 hY3
  go_wp2
  go_ret
  exact ⟨rfl, HB3.out⟩

/-- only blocks of the type ty from B on were written into. -/
def Mk (B : Nat) (ty : TypeId) (w w' : World) : Prop := Below B w w' ∧ ∀ (q : Nat) cur t fz, w.heap[q]? = some (.cells cur t fz) → t ≠ ty → w'.heap[q]? = w.heap[q]?
theorem Mk.of_below {B : Nat} {ty : TypeId} {w w' : World} (h : Below w.heap.size w w') (hB : B ≤ w.heap.size) : Mk B ty w w' :=
  ⟨h.mono hB, fun q cur t fz hh _ => h.block q (Array.getElem?_eq_some_iff.1 hh).1⟩
theorem Mk.of_grown {B g : Nat} {ty : TypeId} {cs : List Value} {w w' : World} (h : w.grownBy w' (some g)) (hg : B ≤ g) (hb : BlkL w g ty cs) : Mk B ty w w' := by
  refine ⟨⟨h.os, h.tape, h.output, h.size, fun q hq => ?_⟩, fun q cur t fz hh hne => ?_⟩
  · by_cases hl : q < w.heap.size
    · exact h.block q hl (by simp; omega)
    · have := hb.lt; omega
  · refine h.block q (Array.getElem?_eq_some_iff.1 hh).1 ?_
    intro e
    simp at e
    subst e
    unfold BlkL at hb
    rw [hh] at hb
    injection hb with hb
    injection hb with _ hb
    exact hne hb
theorem Mk.blk {B g : Nat} {ty t : TypeId} {cs : List Value} {w w' : World} (h : Mk B ty w w') (hb : BlkL w g t cs) (hne : t ≠ ty) : BlkL w' g t cs := (h.2 g _ _ _ hb hne).trans hb
theorem Mk.or {α : Type} {f : α → List Value} {B C : Nat} {ty t : TypeId} {v : Value} {l : List α} {w w' : World} (h : Mk B ty w w') (hb : OR f t w C v l) (hne : t ≠ ty) : OR f t w' C v l := by
  rcases hb with hb | ⟨g, c, rest, rfl, hB, hk⟩
  · exact .inl hb
  · exact .inr ⟨g, c, rest, rfl, hB, h.blk hk hne⟩
theorem markMarkS_nil (A : Option Addr) (c : Nat) (x : Int) (w : World) : Calls Try.prog 64 #[.slice A 0 c, .int .i64 x] w fun r w' => r = .returned (.int .i64 x) ∧ Below w.heap.size w w' := by
  go_enter Try.func64, Try.ntmps64
  go_wp2
  go_loopw [1, 5] (fun y i wr => i = .int .i64 0 ∧ y = .int .i64 x ∧ Below w.heap.size w wr) (fun _ i _ => 0)
  case atStart => exact ⟨rfl, rfl, Below.refl _ _⟩
  case round =>
    obtain ⟨rfl, rfl, hb⟩ := hrel
    go_wp2
    go_ret
    exact ⟨rfl, hb⟩
theorem markHeldS_nil (A : Option Addr) (c : Nat) (x : Int) (w : World) : Calls Try.prog 65 #[.slice A 0 c, .int .i64 x] w fun r w' => r = .returned (.int .i64 x) ∧ Below w.heap.size w w' := by
  go_enter Try.func65, Try.ntmps65
  go_wp2
  go_loopw [1, 5] (fun y i wr => i = .int .i64 0 ∧ y = .int .i64 x ∧ Below w.heap.size w wr) (fun _ i _ => 0)
  case atStart => exact ⟨rfl, rfl, Below.refl _ _⟩
  case round =>
    obtain ⟨rfl, rfl, hb⟩ := hrel
    go_wp2
    go_ret
    exact ⟨rfl, hb⟩
theorem markMarkS_or (A : Option Addr) (c B : Nat) (l : List (Int × Int)) (x : Int) (w : World) (hB : B ≤ w.heap.size) (hm : l.length ≤ 2097152) (hx0 : 0 ≤ x) (hx1 : x ≤ 900000000) (h : OR fm 121 w B (.slice A l.length c) l) :
    Calls Try.prog 64 #[.slice A l.length c, .int .i64 x] w fun r w' => r = .returned (.int .i64 (x + 2 * l.length)) ∧ OR fm 121 w' B (.slice A l.length c) (mkF (mkM x) l l.length) ∧ Mk B 121 w w' := by
  rcases h with ⟨⟨A', c', hv⟩, rfl⟩ | ⟨g, c', rest, hv, hg, hk⟩
  · refine (markMarkS_nil A c x w).mono ?_
    rintro r w' ⟨rfl, hb⟩
    exact ⟨by simp, .inl ⟨⟨_, _, rfl⟩, rfl⟩, Mk.of_below hb hB⟩
  · injection hv with hA _ _
    subst hA
    refine (markMarkS_blk g l rest _ c x w rfl hm hx0 hx1 hk).mono ?_
    rintro r w' ⟨rfl, hb, hgr⟩
    exact ⟨rfl, .mk hg (mkF_length _ _ _) hb, Mk.of_grown hgr hg hk⟩
theorem markHeldS_or (A : Option Addr) (c B : Nat) (l : List Hd) (x : Int) (w : World) (hB : B ≤ w.heap.size) (hm : l.length ≤ 2097152) (hx0 : 0 ≤ x) (hx1 : x ≤ 900000000) (h : OR fh 80 w B (.slice A l.length c) l) :
    Calls Try.prog 65 #[.slice A l.length c, .int .i64 x] w fun r w' => r = .returned (.int .i64 (x + 7 * l.length)) ∧ OR fh 80 w' B (.slice A l.length c) (mkF (mkH x) l l.length) ∧ Mk B 80 w w' := by
  rcases h with ⟨⟨A', c', hv⟩, rfl⟩ | ⟨g, c', rest, hv, hg, hk⟩
  · refine (markHeldS_nil A c x w).mono ?_
    rintro r w' ⟨rfl, hb⟩
    exact ⟨by simp, .inl ⟨⟨_, _, rfl⟩, rfl⟩, Mk.of_below hb hB⟩
  · injection hv with hA _ _
    subst hA
    refine (markHeldS_blk g l rest _ c x w rfl hm hx0 hx1 hk).mono ?_
    rintro r w' ⟨rfl, hb, hgr⟩
    exact ⟨rfl, .mk hg (mkF_length _ _ _) hb, Mk.of_grown hgr hg hk⟩
/-- the engine with marks written into it. -/
def mkE (x : Int) (e : En) : En := { e with ms := mkF (mkM x) e.ms e.ms.length, it := mkF (mkH (x + 2 * e.ms.length)) e.it e.it.length }
set_option maxHeartbeats 400000 in
set_option maxRecDepth 100000 in
theorem markEngine_any (e : En) (v : Value) (B : Nat) (x : Int) (w : World) (hB : B ≤ w.heap.size) (hm : e.ms.length ≤ 2097152) (hi : e.it.length ≤ 2097152) (hx0 : 0 ≤ x) (hx1 : x ≤ 100000000) (h : EngO w B v e) :
    Calls Try.prog 30 #[v, .int .i64 x] w fun r w' => r = .returned (.int .i64 (x + 2 * e.ms.length + 7 * e.it.length)) ∧ EngO w' B v (mkE x e) ∧ Below B w w' ∧ ∀ (q : Nat) cur t fz, w.heap[q]? = some (.cells cur t fz) → t ≠ 121 → t ≠ 80 → w'.heap[q]? = w.heap[q]? := by
  obtain ⟨A, c, A2, c2, rfl, m1, i1⟩ := h
  unfold ev
  have M1 := Lib.hid m1
  have I1 := Lib.hid i1
  clear m1 i1
  go_enter Try.func30, Try.ntmps30
  go_wp2_with fail
  have hX1 := BlkL.new w 47 (ecs e (.slice A e.ms.length c) (.slice A2 e.it.length c2))
  have hB1 := (Below.refl w.heap.size w).alloc (Nat.le_refl _) (.cells (ecs e (.slice A e.ms.length c) (.slice A2 e.it.length c2)).toArray 47)
  change Calls _ _ _ (w.alloc (.cells (ecs e (.slice A e.ms.length c) (.slice A2 e.it.length c2)).toArray 47)) _
  generalize w.alloc (.cells (ecs e (.slice A e.ms.length c) (.slice A2 e.it.length c2)).toArray 47) = w1 at *
  refine (markMarkS_or A c B e.ms x w1 (Nat.le_trans hB hB1.size) hm hx0 (by omega) (M1.out.below hB1)).mono ?_
  rintro r w2 ⟨rfl, hm2, hk2⟩
  have HM2 := Lib.hid hm2
  have HI2 := Lib.hid (hk2.or (I1.out.below hB1) (by decide))
  have hX2 := hk2.blk hX1 (by decide)
  have HB2 := Lib.hid ((hB1.mono hB).trans hk2.1)
  have HT2 := Lib.hid (show ∀ (q : Nat) cur t fz, w.heap[q]? = some (.cells cur t fz) → t ≠ 121 → w2.heap[q]? = w.heap[q]? from fun q cur t fz hh hne => by
    have h1 := hB1.block q (Array.getElem?_eq_some_iff.1 hh).1
    exact (hk2.2 q cur t fz (h1.trans hh) hne).trans h1)
  have x4 : w2.cell? ⟨w.heap.size, 4, none⟩ = some (.slice A2 e.it.length c2) := (hX2.cell 4).trans rfl
  have xl := hX2.lt
  clear hm2 hk2 hX1 hX2 hB1
  go_wp2_with fail
  refine (markHeldS_or A2 c2 B e.it (x + 2 * e.ms.length) w2 (by have := HB2.out.size; omega) hi (by omega) (by omega) HI2.out).mono ?_
  rintro r w3 ⟨rfl, hi3, hk3⟩
  have HM3 := Lib.hid (hk3.or HM2.out (by decide))
  have HI3 := Lib.hid hi3
  have HB3 := Lib.hid (HB2.out.trans hk3.1)
  have HT3 := Lib.hid (show ∀ (q : Nat) cur t fz, w.heap[q]? = some (.cells cur t fz) → t ≠ 121 → t ≠ 80 → w3.heap[q]? = w.heap[q]? from fun q cur t fz hh h1 h2 => by
    have e := HT2.out q cur t fz hh h1
    exact (hk3.2 q cur t fz (e.trans hh) h2).trans e)
  clear hi3 hk3 x4 xl
  go_wp2
  go_ret
  refine ⟨rfl, ⟨A, c, A2, c2, ?_, ?_, ?_⟩, HB3.out, HT3.out⟩
  · simp [ev, mkE, mkF_length]
  · show OR fm _ _ _ (.slice A (mkF _ _ _).length c) _
    rw [mkF_length]
    exact HM3.out
  · show OR fh _ _ _ (.slice A2 (mkF _ _ _).length c2) _
    rw [mkF_length]
    exact HI3.out
set_option maxHeartbeats 400000 in
set_option maxRecDepth 100000 in
theorem heldEngine_any (e : En) (v : Value) (x : Int) (w : World) (hm : e.ms.length ≤ 2097152) (hi : e.it.length ≤ 2097152) (hx0 : 0 ≤ x) (hx1 : x ≤ 100000000) (h : EngR w v (mkE x e)) :
    Calls Try.prog 31 #[v, .int .i64 x] w fun r w' => r = .returned (.int .i64 (x + 2 * e.ms.length + 7 * e.it.length)) ∧ Below w.heap.size w w' := by
  obtain ⟨A, c, A2, c2, rfl, m1, i1⟩ := h
  have em : (mkE x e).ms.length = e.ms.length := mkF_length _ _ _
  have ei : (mkE x e).it.length = e.it.length := mkF_length _ _ _
  unfold ev
  rw [em, ei]
  have hx2 : 0 ≤ x + 2 * (e.ms.length : Int) := by omega
  have hx3 : x + 2 * (e.ms.length : Int) ≤ 900000000 := by omega
  have hd1 : decide (x + 2 * (e.ms.length : Int) < 0) = false := by simp; omega
  have hd2 : decide (x + 2 * (e.ms.length : Int) + 7 * (e.it.length : Int) < 0) = false := by simp; omega
  have M1 := Lib.hid m1
  have I1 := Lib.hid i1
  have EM := Lib.hid em
  have EI := Lib.hid ei
  clear m1 i1 em ei
  go_enter Try.func31, Try.ntmps31
  go_wp2_with fail
  have hX1 := BlkL.new w 47 (ecs (mkE x e) (.slice A e.ms.length c) (.slice A2 e.it.length c2))
  have hB1 := (Below.refl w.heap.size w).alloc (Nat.le_refl _) (.cells (ecs (mkE x e) (.slice A e.ms.length c) (.slice A2 e.it.length c2)).toArray 47)
  change Calls _ _ _ (w.alloc (.cells (ecs (mkE x e) (.slice A e.ms.length c) (.slice A2 e.it.length c2)).toArray 47)) _
  generalize w.alloc (.cells (ecs (mkE x e) (.slice A e.ms.length c) (.slice A2 e.it.length c2)).toArray 47) = w1 at *
  refine (heldMarkS_any A (mkE x e).ms _ c x w1 EM.out hm hx0 (by omega) (RS.below M1.out hB1) (fun i hi => mkF_at _ _ hi)).mono ?_
  rintro r w2 ⟨rfl, hb2⟩
  have HB2 := Lib.hid (hB1.trans (hb2.mono hB1.size))
  have hX2 := hX1.below hb2 hX1.lt
  have x4 : w2.cell? ⟨w.heap.size, 4, none⟩ = some (.slice A2 e.it.length c2) := (hX2.cell 4).trans rfl
  have xl := hX2.lt
  clear hX1 hX2 hB1 hb2
  go_wp2_with fail
  refine (heldHeldS_any A2 (mkE x e).it _ c2 (x + 2 * e.ms.length) w2 EI.out hi hx2 hx3 (RS.below I1.out HB2.out) (fun i hi => mkF_at _ _ hi)).mono ?_
  rintro r w3 ⟨rfl, hb3⟩
  have HB3 := Lib.hid (HB2.out.trans (hb3.mono HB2.out.size))
  clear hb3 x4 xl
  go_wp2
  go_ret
  exact ⟨rfl, HB3.out⟩
end Go.Proofs.Ytegjgbgnpkncbab
