/-
  A branch and all that hangs on it, walked by the program with a function that gathers the nodes.
-/
import Derived.Test.YthjkgbcomjiejaaGreatDoorKk49
import Derived.Test.YthjkgbcomjiejaaGreatDoorKk32
import Derived.Test.YthjkgbcomjiejaaGreatDoorKk31
import Derived.Test.YthjkgbcomjiejaaGreatDoorKk16
import Derived.Deep.Cut
namespace Go.Proofs.YthjkgbcomjiejaaGreatDoor
open Go.RowKit
set_option linter.unusedVariables false

/-- all below H stays but block b. -/
structure Ot (H b : Nat) (w w' : World) : Prop where
  os : w'.os = w.os
  tape : w'.tape = w.tape
  output : w'.output = w.output
  size : w.heap.size ≤ w'.heap.size
  block : ∀ q, q < H → q ≠ b → w'.heap[q]? = w.heap[q]?
theorem Ot.refl (H b : Nat) (w : World) : Ot H b w w := ⟨rfl, rfl, rfl, Nat.le_refl _, fun _ _ _ => rfl⟩
theorem Ot.trans {H b : Nat} {a c d : World} (h : Ot H b a c) (k : Ot H b c d) : Ot H b a d := ⟨k.os.trans h.os, k.tape.trans h.tape, k.output.trans h.output, Nat.le_trans h.size k.size, fun q h1 h2 => (k.block q h1 h2).trans (h.block q h1 h2)⟩
theorem Ot.blk {H b g : Nat} {t : TypeId} {cs : List Value} {w w' : World} (h : Ot H b w w') (hb : BlkL w g t cs) (h1 : g < H) (h2 : g ≠ b) : BlkL w' g t cs := (h.block g h1 h2).trans hb
theorem Ot.fo {H b : Nat} {w w' : World} {B k : Nat} {l : List Nd} {ps : Nat → Nat} {vs : Nat → Value} {cs : List Value} (h : Ot H b w w') (hf : Fo w B l k ps vs) (hH : w.heap.size ≤ H) (hb : BlkL w b 25 cs) : Fo w' B l k ps vs := by
  refine ⟨fun i hi => h.blk (hf.blk i hi) (Nat.lt_of_lt_of_le (hf.lt hi) hH) (fun e => ?_), hf.base, fun i hi => own_same (hf.row i hi) (fun g hg => ?_), hf.dif, hf.rdif⟩
  · have h1 := hf.blk i hi
    rw [e] at h1
    unfold BlkL at h1 hb
    rw [h1] at hb
    injection hb with hb
    injection hb with _ hb
    revert hb
    decide
  · refine h.block g (Nat.lt_of_lt_of_le ((hf.row i hi).lt g hg).2 hH) (fun e => ?_)
    subst e
    exact fo_blk (hf.row i hi) hb (by decide) hg
/-- what has been gathered so far. -/
def Gat (H b : Nat) (w : World) (lst : List Nd) : Prop := ∃ v, BlkL w b 25 [v] ∧ w.ownsRow H 31 3 v lst.length (fl fn lst)
theorem fn_one (x : Nd) : ∀ u ∈ fl fn [x], u.oneCell' = true := by
  intro u hu
  simp [fl, fn] at hu
  rcases hu with rfl | rfl | rfl <;> rfl
/-- what stays the same all along the walk: the branches, the list, the place. -/
structure Wk (H b2 b3 b6 : Nat) (l : List Nd) (n k0 : Nat) (D : Int) (ps : Nat → Nat) (vs : Nat → Value) (A : Option Addr) (c B : Nat) (w0 : World) : Prop where
  fo : Fo w0 B l n ps vs
  len : l.length = n
  n200 : n ≤ 200
  up : UpTo l l.length
  hH : w0.heap.size = H
  x2 : BlkL w0 b2 25 [.slice A n c]
  x3 : BlkL w0 b3 3 [.int .i64 (k0 : Int)]
  x6 : ∃ cs, BlkL w0 b6 25 cs
  n2 : b2 ≠ b6
  n3 : b3 ≠ b6
  ns : NS w0 A l
  nsb : ∀ b, A.map (·.block) = some b → b < H ∧ b ≠ b6
  hk0 : k0 < n
  hD : dep l (k0 + 1) = D
theorem Wk.at {H b2 b3 b6 n k0 c B : Nat} {l : List Nd} {D : Int} {ps : Nat → Nat} {vs : Nat → Value} {A : Option Addr} {w0 w : World} (h : Wk H b2 b3 b6 l n k0 D ps vs A c B w0) (ho : Ot H b6 w0 w) :
    Fo w B l n ps vs ∧ BlkL w b2 25 [.slice A n c] ∧ BlkL w b3 3 [.int .i64 (k0 : Int)] ∧ NS w A l := by
  obtain ⟨cs, h6⟩ := h.x6
  have hH := h.hH
  refine ⟨ho.fo h.fo (by omega) h6, ho.blk h.x2 (by have := h.x2.lt; omega) h.n2, ho.blk h.x3 (by have := h.x3.lt; omega) h.n3, RS.keep h.ns ho.size (fun b j hA hb => World.cell?_of_block (ho.block b (h.nsb b hA).1 (h.nsb b hA).2))⟩
set_option maxHeartbeats 2000000 in
set_option maxRecDepth 100000 in
theorem visit_any {H b2 b3 b6 n k0 c B : Nat} {l : List Nd} {D : Int} {ps : Nat → Nat} {vs : Nat → Value} {A : Option Addr} {w0 : World} (h : Wk H b2 b3 b6 l n k0 D ps vs A c B w0) (w : World) (ho : Ot H b6 w0 w) (lst : List Nd) (hg : Gat H b6 w lst) (hll : lst.length ≤ 100000) (i : Nat) (hi : i < n) (x : Nd) (hx : l[i]? = some x) :
    Calls Tryz.prog 50 #[ptr (ps (i + 1)), ptr b2, ptr b3, ptr b6] w fun e w' => e = .returned (.tuple #[]) ∧ Ot H b6 w0 w' ∧ Gat H b6 w' (lst ++ [shf D x]) := by
  obtain ⟨i0, hi0, hz0, hz1, hz2⟩ := info_parts infoNd
  obtain ⟨hfo, h2, h3, hns⟩ := h.at ho
  have HW := Lib.hid h
  have HO := Lib.hid ho
  obtain ⟨v, hv6, hown⟩ := hg
  obtain ⟨Av, cv, rfl⟩ := own_slice hown
  have hcc := hfo.cells (show i + 1 ≤ n by omega)
  obtain ⟨d0, d1, d2, _, _, _, dl⟩ := hcc
  have hnx : nAt l (i + 1) = x := nAt_succ hx
  rw [dep_succ hx] at d0
  rw [knd_succ hx] at d1
  rw [hnx] at d2
  have hxb := (h.up.dep (i := i + 1) (by have := h.len; omega))
  rw [dep_succ hx] at hxb
  have hDb := (h.up.dep (i := k0 + 1) (by have := h.len; have := h.hk0; omega))
  rw [h.hD] at hDb
  obtain ⟨y, b, o, hy, rfl, hbl, e0, e1, e2⟩ := hns.all (k := k0) (by have := h.len; have := h.hk0; omega)
  have hyD : y.d = D := by rw [← dep_succ hy]; exact h.hD
  rw [hyD] at e0
  have hk0 := h.hk0
  have hn200 := h.n200
  have HV6 := Lib.hid hv6
  have HOW := Lib.hid hown
  have a2 : w.cell? ⟨b2, 0, none⟩ = some (.slice (some ⟨b, o, none⟩) n c) := (h2.cell 0).trans rfl
  have a3 : w.cell? ⟨b3, 0, none⟩ = some (.int .i64 (k0 : Int)) := (h3.cell 0).trans rfl
  have hwH : H ≤ w.heap.size := by have := ho.size; have := h.hH; omega
  clear h ho hfo h2 h3 hns hv6 hown hx hnx hy hyD e1 e2
  unfold ptr
  go_enter Tryz.func50, Tryz.ntmps50
  go_wp2_with fail
  have hb1 := (Below.refl w.heap.size w).alloc (Nat.le_refl _) (.cells #[.int .i64 x.d, .int .i64 x.k, .string x.s] 31)
  have hX1 := BlkL.new w 31 [.int .i64 x.d, .int .i64 x.k, .string x.s]
  change BlkL (w.alloc (.cells #[.int .i64 x.d, .int .i64 x.k, .string x.s] 31)) _ _ _ at hX1
  generalize w.alloc (.cells #[.int .i64 x.d, .int .i64 x.k, .string x.s] 31) = w1 at *
  have a2' := (hb1.cell (p := ⟨b2, 0, none⟩) (World.block_lt_of_cell? _ _ a2)).trans a2
  have a3' := (hb1.cell (p := ⟨b3, 0, none⟩) (World.block_lt_of_cell? _ _ a3)).trans a3
  have e0' := (hb1.cell (p := ⟨b, o + k0 * 3, none⟩) hbl).trans e0
  have bl1 : b < w1.heap.size := Nat.lt_of_lt_of_le hbl hb1.size
  have f0 : w1.cell? ⟨w.heap.size, 0, none⟩ = some (.int .i64 x.d) := (hX1.cell 0).trans rfl
  have fl0 := hX1.lt
  have HX1 := Lib.hid hX1
  have HB1 := Lib.hid hb1
  clear a2 a3 e0 d0 d1 d2 dl hX1 hb1
  have hsub : IntKind.i64.wrap (x.d - D) = x.d - D := IntWalk.i64_in _ (by omega)
  refine wp_region_tail 9 (fun w' => ∃ m, w' = w1.drewN m) (by kernel_rfl) (by kernel_rfl) ⟨1, rfl⟩ ?_
  simp only [List.take_succ_cons, List.take_zero, List.drop_succ_cons, List.drop_zero]
  repeat (go_big_quiet_step (fail))
  refine wpQuiet_nil ?_
  rintro w5 ⟨m, rfl⟩
  have hX2 := (HX1.out.drewN m).set 0 (.int .i64 (x.d - D))
  have hX2' : BlkL ((w1.drewN m).setCell ⟨w.heap.size, 0, none⟩ (.int .i64 (x.d - D))) w.heap.size 31 [.int .i64 (x.d - D), .int .i64 x.k, .string x.s] := hX2
  have ff := HX1.out.frozen 0
  have hgo : w1.grownBy ((w1.drewN m).setCell ⟨w.heap.size, 0, none⟩ (.int .i64 (x.d - D))) (some w.heap.size) := ⟨rfl, rfl, rfl, by simp [World.setCell], fun q hq hne => Below.heap_setCell (w1.drewN m) ⟨w.heap.size, 0, none⟩ _ q (by simpa using hne)⟩
  have hb6l := HV6.out.lt
  have hV1 := HV6.out.below HB1.out hb6l
  have HV2 := Lib.hid (hV1.grown hgo (by intro e; injection e with e; omega))
  have hO1 := own_below HOW.out HB1.out
  have HO2 := Lib.hid (fo_kept hO1 hgo (fun g hg e => by injection e with e; have := (HOW.out.lt g hg).2; omega))
  have HK2 := Lib.hid (show Ot H b6 w0 ((w1.drewN m).setCell ⟨w.heap.size, 0, none⟩ (.int .i64 (x.d - D))) from HO.out.trans ⟨hgo.os.trans HB1.out.os, hgo.tape.trans HB1.out.tape, hgo.output.trans HB1.out.output, Nat.le_trans HB1.out.size hgo.size, fun q h1 h2 => (hgo.block q (by have := HB1.out.size; omega) (by intro e; injection e with e; omega)).trans (HB1.out.block q (by omega))⟩)
  have hsz2 : w.heap.size < ((w1.drewN m).setCell ⟨w.heap.size, 0, none⟩ (.int .i64 (x.d - D))).heap.size := hX2'.lt
  clear hX2 hgo hV1 hO1
  have HX2 := Lib.hid hX2'
  clear hX2'
  go_upto_region 2 with (fail)
  clear a2' a3' e0' f0 fl0 ff bl1
  generalize (w1.drewN m).setCell ⟨w.heap.size, 0, none⟩ (.int .i64 (x.d - D)) = w2 at *
  have g0 : w2.cell? ⟨w.heap.size, 0, none⟩ = some (.int .i64 (x.d - D)) := (HX2.out.cell 0).trans rfl
  have g1 : w2.cell? ⟨w.heap.size, 1, none⟩ = some (.int .i64 x.k) := (HX2.out.cell 1).trans rfl
  have g2 : w2.cell? ⟨w.heap.size, 2, none⟩ = some (.string x.s) := (HX2.out.cell 2).trans rfl
  have g6 : w2.cell? ⟨b6, 0, none⟩ = some (.slice Av lst.length cv) := (HV2.out.cell 0).trans rfl
  have g6l := HV2.out.lt
  have hS := BlkL.new w2 31 [.int .i64 (x.d - D), .int .i64 x.k, .string x.s]
  change BlkL (w2.alloc (.cells #[.int .i64 (x.d - D), .int .i64 x.k, .string x.s] 31)) _ _ _ at hS
  have hb3 := (Below.refl w2.heap.size w2).alloc (Nat.le_refl _) (.cells #[.int .i64 (x.d - D), .int .i64 x.k, .string x.s] 31)
  have HO3 := Lib.hid (own_below HO2.out hb3)
  have HV3 := Lib.hid (HV2.out.below hb3 g6l)
  have HS := Lib.hid hS
  have HB3 := Lib.hid hb3
  have hz3 : H ≤ (w2.alloc (.cells #[.int .i64 (x.d - D), .int .i64 x.k, .string x.s] 31)).heap.size := by have := hb3.size; omega
  have HXE := Lib.hid (show fl fn [shf D x] = [.int .i64 (x.d - D), .int .i64 x.k, .string x.s] by simp [fl, fn, shf])
  have hone : ∀ u ∈ [Value.int .i64 (x.d - D), .int .i64 x.k, .string x.s], u.oneCell' = true := by
    have := fn_one (shf D x)
    rw [HXE.out] at this
    exact this
  have HONE := Lib.hid hone
  clear hS hb3 hone
  go_wp2_with (at_builtin; refine wpList_append_own_at _ rfl _ _ 25 rfl H 31 i0 (.agg #[.int .i64 0, .int .i64 0, .string ByteArray.empty]) 3 32 Tryz.underlying25 hi0 hz0 hz1 hz2 rfl (by decide) _ _ _ rfl HO3.out ⟨w2.heap.size, 0, none⟩ 1 1 [.int .i64 (x.d - D), .int .i64 x.k, .string x.s] rfl rfl (fun j u hj => by rw [Addr.add_lit, Nat.zero_add]; exact (HS.out.cell j).trans hj) HONE.out (by simp only [maxLen]; omega) (by omega) hz3 ?_)
  intro v' w6 hown6 hgr6 _ _
  rw [← HXE.out, ← fl_append] at hown6
  have hV6 := HV3.out.grown hgr6 (fun e => fo_blk HO3.out HV3.out (by decide) e.symm)
  obtain ⟨A6, c6, rfl⟩ := own_slice hown6
  have y6 : w6.cell? ⟨b6, 0, none⟩ = some (.slice Av lst.length cv) := (hV6.cell 0).trans rfl
  have yf := hV6.frozen 0
  have yl := hV6.lt
  have HV6' := Lib.hid hV6
  have HO6 := Lib.hid hown6
  have HG6 := Lib.hid hgr6
  clear hown6 hgr6 hV6 g0 g1 g2 g6 g6l
  go_wp2
  go_end0
  have hset : w6.grownBy (w6.setCell ⟨b6, 0, none⟩ (.slice A6 (lst.length + 1) c6)) (some b6) := ⟨rfl, rfl, rfl, by simp [World.setCell], fun q hq hne => Below.heap_setCell w6 ⟨b6, 0, none⟩ _ q (by simpa using hne)⟩
  refine ⟨rfl, HK2.out.trans ⟨hset.os.trans (HG6.out.os.trans HB3.out.os), hset.tape.trans (HG6.out.tape.trans HB3.out.tape), hset.output.trans (HG6.out.output.trans HB3.out.output), Nat.le_trans HB3.out.size (Nat.le_trans HG6.out.size hset.size), fun q h1 h2 => ?_⟩, .slice A6 (lst.length + 1) c6, HV6'.out.set 0 _, ?_⟩
  · refine (hset.block q (by have := HG6.out.size; have := HB3.out.size; omega) (by simpa using h2)).trans ((HG6.out.block q (by have := HB3.out.size; omega) (fun e => ?_)).trans (HB3.out.block q (by omega)))
    have := (HO3.out.lt q e.symm).1
    omega
  · rw [List.length_append]
    refine fo_kept HO6.out hset (fun g hg e => ?_)
    injection e with e
    subst e
    exact fo_blk HO6.out HV6'.out (by decide) hg
theorem prt_len' {D : Int} {l : List Nd} {a b : Nat} (h1 : 1 ≤ a) : (prt D l a b).length ≤ b - a := by simp [prt]; omega
set_option maxHeartbeats 2000000 in
set_option maxRecDepth 100000 in
theorem walk_any {H b2 b3 b6 n k0 c B : Nat} {l : List Nd} {D : Int} {ps : Nat → Nat} {vs : Nat → Value} {A : Option Addr} {w0 : World} (h : Wk H b2 b3 b6 l n k0 D ps vs A c B w0) :
    ∀ (f i : Nat), 1 ≤ i → i ≤ n → n - i ≤ f → ∀ (w : World), Ot H b6 w0 w → ∀ (lst : List Nd), Gat H b6 w lst → lst.length ≤ i →
    Calls Tryz.prog 49 #[ptr (ps i), .func (.func 50) #[] #[ptr b2, ptr b3, ptr b6]] w fun e w' => e = .returned (.tuple #[]) ∧ Ot H b6 w0 w' ∧ Gat H b6 w' (lst ++ prt D l i (endp l i)) := by
  have HW := Lib.hid h
  have hn200 := h.n200
  clear h
  intro f
  induction f using Nat.strongRecOn with
  | _ f ih =>
    intro i h1 h2 hf w ho lst hg hll
    have IH := Lib.hid ih
    clear ih
    obtain ⟨i', hi'⟩ : ∃ i', i = i' + 1 := ⟨i - 1, by omega⟩
    have hx := List.getElem?_eq_getElem (show i' < l.length by have := HW.out.len; omega)
    obtain ⟨x, hxx⟩ : ∃ x, l[i']'(by have := HW.out.len; omega) = x := ⟨_, rfl⟩
    rw [hxx] at hx
    have HX := Lib.hid hx
    clear hxx hx
    obtain ⟨A9, c9, hv, _⟩ := HW.out.fo.kid h2
    have HVV := Lib.hid hv
    have HO := Lib.hid ho
    have HG := Lib.hid hg
    have HI := Lib.hid hi'
    clear hv ho hg hi'
    unfold ptr
    go_enter Tryz.func49, Tryz.ntmps49
    go_wp2_with fail
    have hpre := visit_any HW.out w HO.out lst HG.out (by omega) i' (by have := HI.out; omega) x HX.out
    rw [← HI.out] at hpre
    refine hpre.mono ?_
    rintro e w1 ⟨rfl, ho1, hg1⟩
    have HO1 := Lib.hid ho1
    have HG1 := Lib.hid (show Gat H b6 w1 (lst ++ prt D l i (i + 1)) by
      have e := prt_one (D := D) HX.out
      rw [show i' + 2 = i' + 1 + 1 from rfl, ← HI.out] at e
      rw [e]
      exact hg1)
    clear hpre ho1 hg1
    have hF1 := (HW.out.at HO1.out).1
    have hcell := hF1.cells h2
    rw [HVV.out] at hcell
    obtain ⟨_, _, _, _, _, d5, dl⟩ := hcell
    have hkl := kidsN_len l i n
    clear hF1
    go_wp2_with fail
    clear d5 dl
    have hfirst := HW.out.up.first (i := i) (by have := HW.out.len; omega)
    have hlen := HW.out.len
    go_loopw [14] (fun iv wr => ∃ j a : Nat, iv = .int .i64 j ∧ i ≤ a ∧ a ≤ n ∧ j = (kidsN l i a).length ∧ ((a < n ∧ par l a = i) ∨ (kidsN l i a = kidsN l i n ∧ a + 1 = endp l i)) ∧ Ot H b6 w0 wr ∧ Gat H b6 wr (lst ++ prt D l i (a + 1))) (fun iv _ => (kidsN l i n).length - (intOf iv).toNat)
    case atStart =>
      refine ⟨0, i, rfl, Nat.le_refl _, h2, by rw [kidsN_low]; rfl, ?_, HO1.out, HG1.out⟩
      rw [hlen] at hfirst
      rcases hfirst with h | h
      · exact .inl h
      · exact .inr ⟨by rw [h.1, kidsN_low], h.2.symm⟩
    case round =>
      clear HO1 HG1 hfirst
      obtain ⟨j, a, rfl, hia, han, hj, hcase, ho, hg⟩ := hrel
      have HO2 := Lib.hid ho
      have HG2 := Lib.hid hg
      have HJ := Lib.hid hj
      clear ho hg hj
      by_cases hjl : j < (kidsN l i n).length
      · have hkid : a < n ∧ par l a = i := by
          rcases hcase with h | h
          · exact h
          · have := HJ.out; rw [h.1] at this; omega
        have hat := kids_at hkid.1 hkid.2
        rw [← HJ.out] at hat
        have hF2 := (HW.out.at HO2.out).1
        have hrow := hF2.row i h2
        rw [HVV.out] at hrow
        obtain ⟨g, hgA, hgl, cg⟩ := own_cells hrow hjl
        have cg' : wr.cell? ⟨g, j, none⟩ = some (.pointer (some ⟨ps (a + 1), 0, none⟩)) := by rw [cg]; simp [kps, hat, ptr]
        subst hgA
        have hnext := HW.out.up.next (i := i) (a := a) (by omega) hkid.2
        rw [hlen] at hnext
        have hge := endp_gt l (a + 1)
        have hgle := endp_le (l := l) (i := a + 1) (by omega)
        have HNX := Lib.hid hnext
        have HY := Lib.hid (kidsN_yes hkid.2)
        clear hat hF2 hrow cg hcase hkid hnext
        go_wp2_with fail
        have hrec := IH.out (n - (a + 1)) (by omega) (a + 1) (by omega) (by omega) (Nat.le_refl _) wr HO2.out _ HG2.out (by rw [List.length_append]; have := prt_len' (D := D) (l := l) (a := i) (b := a + 1) h1; omega)
        unfold ptr at hrec
        refine hrec.mono ?_
        rintro e w3 ⟨rfl, ho3, hg3⟩
        have HO3 := Lib.hid ho3
        have HG3 := Lib.hid (show Gat H b6 w3 (lst ++ prt D l i (endp l (a + 1))) by
          rw [List.append_assoc, prt_app h1 (by omega) (by omega)] at hg3
          exact hg3)
        clear ho3 hg3 hrec
        go_wp2
        go_roundw
        case rel =>
          obtain ⟨n1, n2⟩ := HNX.out
          refine ⟨j + 1, endp l (a + 1) - 1, by go_num, by omega, by omega, by rw [n1, HY.out, HJ.out]; simp, ?_, HO3.out, by rw [show endp l (a + 1) - 1 + 1 = endp l (a + 1) by omega]; exact HG3.out⟩
          rcases n2 with n2 | n2
          · exact .inl n2
          · exact .inr ⟨n2.1, by rw [← n2.2]; omega⟩
        case measure => simp [intOf]; omega
      · have hend : a + 1 = endp l i := by
          rcases hcase with h | h
          · have := kids_at h.1 h.2
            rw [← HJ.out] at this
            have := (List.getElem?_eq_some_iff.1 this).1
            omega
          · exact h.2
        rw [hend] at HG2
        clear hcase hend
        go_wp2
        go_end0
        exact ⟨rfl, HO2.out, HG2.out⟩
end Go.Proofs.YthjkgbcomjiejaaGreatDoor
