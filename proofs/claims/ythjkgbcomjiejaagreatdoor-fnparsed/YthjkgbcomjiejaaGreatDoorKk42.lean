/-
  The parser takes a lexeme that is no closing bracket (made by gen_pzh.py).
-/
import Derived.Test.YthjkgbcomjiejaaGreatDoorKk41
namespace Go.Proofs.YthjkgbcomjiejaaGreatDoor
open Go.RowKit
set_option linter.unusedVariables false

def AddP (w : World) (B : Nat) (z : Pz) (x : Lx) (pb bm : Nat) (e : Ending) (w' : World) : Prop :=
  (∀ z', stepZ z x = .ok z' → e = .returned (.tuple #[]) ∧ ∃ vL ps vs D, PzM w' B z' pb bm vL ps vs D) ∧
  (∀ c a, stepZ z x = .error (c, a) → e = .panicked [{ v := fltV c a, recovered := false }]) ∧ Below B w w'
theorem AddP.bad {w w' : World} {B : Nat} {z : Pz} {x : Lx} {pb bm : Nat} {c a : Int} (h : stepZ z x = .error (c, a)) (hb : Below B w w') : AddP w B z x pb bm (.panicked [{ v := fltV c a, recovered := false }]) w' := by
  refine ⟨(fun z' h2 => by rw [h] at h2; cases h2), fun c2 a2 h2 => ?_, hb⟩
  rw [h] at h2
  injection h2 with h2
  injection h2 with e1 e2
  subst e1 e2
  rfl
theorem AddP.good {w w' : World} {B : Nat} {z z' : Pz} {x : Lx} {pb bm : Nat} {vL : Value} {ps : Nat → Nat} {vs : Nat → Value} {D : DU} (h : stepZ z x = .ok z') (hm : PzM w' B z' pb bm vL ps vs D) (hb : Below B w w') : AddP w B z x pb bm (.returned (.tuple #[])) w' := by
  refine ⟨fun z2 h2 => ?_, (fun c2 a2 h2 => by rw [h] at h2; cases h2), hb⟩
  rw [h] at h2
  injection h2 with h2
  subst h2
  exact ⟨rfl, vL, ps, vs, D, hm⟩
theorem AddP.fin {w w9 : World} {B : Nat} {z : Pz} {x : Lx} {pb bm m t' : Nat} {vL tp v : Value} {n : Nd} {ps : Nat → Nat} {vs : Nat → Value} {D : DU} (hok : PzOk z) (hx : LxGd x) (h4 : x.k ≠ 4) (hA : ¬ (x.k = 2 ∧ knd z.l z.t = 6)) (hd : ¬ 12 < dep z.l z.t + 1)
    (hn : ndX x (dep z.l z.t + 1) = n) (h : PzG w9 B pb bm vL tp (z.l ++ [n]) (z.l ++ [n]) (z.l.length + 1) (atz (z.q ++ [x.a])) ps vs m D) (hm : m ≤ z.l.length + 1) (h1 : B ≤ pb) (h2 : B ≤ bm) (ht : t' = if 3 ≤ n.k then z.l.length + 1 else unq z.l z.t) (hv : v = ptr (ps t'))
    (hs : ∀ a : Int, Maps.has D (.int .i64 a) = true ↔ (x.k = 3 ∧ a = x.a) ∨ a ∈ opq z) (hb : Below B w w9) : AddP w B z x pb bm (.returned (.tuple #[])) (w9.setCell ⟨pb, 1, none⟩ v) := by
  subst hv
  have hst : stepZ z x = .ok ⟨z.l ++ [n], z.q ++ [x.a], t'⟩ := by
    unfold stepZ
    rw [if_neg h4, if_neg hA, if_neg hd, hn, ht]
  have hg := h.tip (ptr (ps t'))
  have ho := opq_add hok hx h4
  rw [hn, ← ht] at ho
  have hl : (z.l ++ [n]).length = z.l.length + 1 := by simp
  refine AddP.good (vL := vL) (ps := ps) (vs := vs) (D := D) hst ⟨hg.blk, h1, hg.row, ?_, ?_, h2, fun a => (hs a).trans (ho a).symm⟩ (hb.setCell (p := ⟨pb, 1, none⟩) h1 _)
  · show Fq _ B (z.l ++ [n]) (z.l ++ [n]).length _ _ _
    rw [hl]; exact hg.fo
  · show World.ownsMap _ _ _ _ bm (z.l ++ [n]).length D
    rw [hl]; exact hg.map.mono hm
set_option maxHeartbeats 4000000 in
set_option maxRecDepth 100000 in
theorem add_any {w : World} {B : Nat} {z : Pz} {pb bm : Nat} {vL : Value} {ps : Nat → Nat} {vs : Nat → Value} {D : DU} (h : PzM w B z pb bm vL ps vs D) (hok : PzOk z) (x : Lx) (hx : LxGd x) (h4 : x.k ≠ 4) (hB : B ≤ w.heap.size) (h200 : z.l.length ≤ 200) (hq : z.q.Pairwise (· < ·)) :
    Calls Tryz.prog 60 #[ptr pb, .agg #[.int .i64 x.k, .string x.s, .int .i64 x.a]] w (AddP w B z x pb bm) := by
  obtain ⟨i0, hi0, hz0, hz1, hz2⟩ := info_parts infoNd
  obtain ⟨Av, cv, rfl⟩ := own_slice h.row
  have H := Lib.hid h
  have HOK := Lib.hid hok
  have HX := Lib.hid hx
  have H4 := Lib.hid h4
  have HQ := Lib.hid hq
  obtain ⟨c0, c1, c2, cl⟩ := h.cells
  obtain ⟨d0, d1, d2, d3, d4, d5, dl⟩ := h.fo.cells hok.tip
  clear h hok hx h4 hq
  unfold ptr at *
  go_enter Tryz.func60, Tryz.ntmps60
  go_wp2_with fail
  have hbx := (Below.refl w.heap.size w).alloc (Nat.le_refl _) (.cells #[.int .i64 x.k, .string x.s, .int .i64 x.a] 51)
  have hxb := BlkL.new w 51 [.int .i64 x.k, .string x.s, .int .i64 x.a]
  refine (nodeOf_any x HX.out H4.out _).mono ?_
  change ∀ e w', _ ∧ Below (w.alloc (.cells #[.int .i64 x.k, .string x.s, .int .i64 x.a] 51)).heap.size (w.alloc (.cells #[.int .i64 x.k, .string x.s, .int .i64 x.a] 51)) w' → _
  have HXB := Lib.hid (show BlkL (w.alloc (.cells #[.int .i64 x.k, .string x.s, .int .i64 x.a] 51)) w.heap.size 51 [.int .i64 x.k, .string x.s, .int .i64 x.a] from hxb)
  clear hxb
  generalize w.alloc (.cells #[.int .i64 x.k, .string x.s, .int .i64 x.a] 51) = w0 at *
  rintro e w1 ⟨rfl, hb1⟩
  have HB1 := Lib.hid (hbx.trans (hb1.mono hbx.size))
  have HX1 := Lib.hid (HXB.out.below hb1 HXB.out.lt)
  have H1 := Lib.hid (H.out.below HB1.out)
  clear hbx hb1 c0 c1 c2 cl d0 d1 d2 d3 d4 d5 dl HXB
  obtain ⟨c0, c1, c2, cl⟩ := H1.out.cells
  obtain ⟨d0, d1, d2, d3, d4, d5, dl⟩ := H1.out.fo.cells HOK.out.tip
  unfold ptr at c1
  obtain ⟨x0, x1, x2⟩ : w1.cell? ⟨w.heap.size, 0, none⟩ = some (.int .i64 x.k) ∧ w1.cell? ⟨w.heap.size, 1, none⟩ = some (.string x.s) ∧ w1.cell? ⟨w.heap.size, 2, none⟩ = some (.int .i64 x.a) := ⟨HX1.out.cell 0, HX1.out.cell 1, HX1.out.cell 2⟩
  have xl := HX1.out.lt
  have hdt := HOK.out.up.dep (i := z.t) HOK.out.tip
  have hwd : wrap64 (dep z.l z.t + 1) = dep z.l z.t + 1 := by
    unfold wrap64; omega
  obtain ⟨nk, hnk⟩ : ∃ nk, (ndX x 0).k = nk := ⟨_, rfl⟩
  obtain ⟨ns, hns⟩ : ∃ ns, (ndX x 0).s = ns := ⟨_, rfl⟩
  have hnd : ∀ d, ndX x d = ⟨d, nk, ns⟩ := fun d => by rw [← hnk, ← hns]; unfold ndX; split; rfl; split <;> rfl
  have hk2 : nk = 2 ↔ x.k = 2 := by
    rw [← hnk, ndX_kind HX.out H4.out]
    have : 3 ≤ opK (bt x.s 0) := by unfold opK; split; omega; split <;> omega
    split
    · omega
    · split <;> omega
  rw [hnk, hns]
  have HND := Lib.hid hnd
  clear hnk hns hnd
  by_cases hA : x.k = 2 ∧ knd z.l z.t = 6
  · have e2 : nk = 2 := hk2.2 hA.1
    have HST := Lib.hid (show stepZ z x = .error (4, x.a) by unfold stepZ; rw [if_neg H4.out, if_pos hA])
    have hA2 := hA.2
    subst e2
    rw [hA2] at d1
    clear hA hk2 hA2
    go_wp2_with fail
    exact ⟨rfl, AddP.bad HST.out ((HB1.out.mono hB).alloc (Nat.le_trans hB HB1.out.size) _)⟩
  have HA := Lib.hid hA
  by_cases hd : 12 < dep z.l z.t + 1
  · have HST := Lib.hid (show stepZ z x = .error (6, x.a) by unfold stepZ; rw [if_neg H4.out, if_neg HA.out, if_pos hd])
    by_cases e2 : nk = 2
    · have hA6 : (knd z.l z.t == 6) = false := by
        cases e : knd z.l z.t == 6
        · rfl
        · exact (hA ⟨hk2.1 e2, by simpa using e⟩).elim
      subst e2
      clear hA hk2
      go_wp2_with fail
      exact ⟨rfl, AddP.bad HST.out ((HB1.out.mono hB).alloc (Nat.le_trans hB HB1.out.size) _)⟩
    · have hn2 : (nk == 2) = false := by simpa using e2
      clear hA hk2 e2
      go_wp2_with fail
      exact ⟨rfl, AddP.bad HST.out ((HB1.out.mono hB).alloc (Nat.le_trans hB HB1.out.size) _)⟩
  have HD := Lib.hid hd
  have hdd : ¬ (12 : Int) < dep z.l z.t + 1 := hd
  clear hd
  by_cases e2 : nk = 2
  · have hA6 : (knd z.l z.t == 6) = false := by
      cases e : knd z.l z.t == 6
      · rfl
      · exact (hA ⟨hk2.1 e2, by simpa using e⟩).elim
    have hn2 : (nk == 2) = true := by simp [e2]
    clear hA hk2 e2
    have hnl := BlkL.new w1 31 [.int .i64 (dep z.l z.t + 1), .int .i64 nk, .string ns]
    have hb2 := (Below.refl w1.heap.size w1).alloc (Nat.le_refl _) (.cells #[.int .i64 (dep z.l z.t + 1), .int .i64 nk, .string ns] 31)
    have HB2 := Lib.hid (HB1.out.trans (hb2.mono HB1.out.size))
    have HG2 := Lib.hid (H1.out.below hb2).g
    have HX2 := Lib.hid (HX1.out.below hb2 HX1.out.lt)
    have hsz2 : w1.heap.size < (w1.alloc (.cells #[.int .i64 (dep z.l z.t + 1), .int .i64 nk, .string ns] 31)).heap.size := by simp
    go_wp2_with fail
    change Code.wp _ _ _ _ (w1.alloc (.cells #[.int .i64 (dep z.l z.t + 1), .int .i64 nk, .string ns] 31))
    have HNL := Lib.hid (show BlkL (w1.alloc (.cells #[.int .i64 (dep z.l z.t + 1), .int .i64 nk, .string ns] 31)) w1.heap.size 31 [.int .i64 (dep z.l z.t + 1), .int .i64 nk, .string ns] from hnl)
    clear hnl hb2 c0 c1 c2 cl d0 d1 d2 d3 d4 d5 dl x0 x1 x2 xl H1
    generalize w1.alloc (.cells #[.int .i64 (dep z.l z.t + 1), .int .i64 nk, .string ns] 31) = w2 at *
    have s0 : (fun w' => w'.cell? ⟨pb, 0, none⟩ = some (.slice Av z.l.length cv) ∧ w'.cell? ⟨w1.heap.size, 0, none⟩ = some (.int .i64 (dep z.l z.t + 1)) ∧ w'.cell? ⟨w1.heap.size, 1, none⟩ = some (.int .i64 nk) ∧ w'.cell? ⟨w1.heap.size, 2, none⟩ = some (.string ns)) w2.drew := ⟨HG2.out.blk.cell 0, HNL.out.cell 0, HNL.out.cell 1, HNL.out.cell 2⟩
    have r0 : ∀ x : Cl (fun w' => w'.cell? ⟨pb, 0, none⟩ = some (.slice Av z.l.length cv) ∧ w'.cell? ⟨w1.heap.size, 0, none⟩ = some (.int .i64 (dep z.l z.t + 1)) ∧ w'.cell? ⟨w1.heap.size, 1, none⟩ = some (.int .i64 nk) ∧ w'.cell? ⟨w1.heap.size, 2, none⟩ = some (.string ns)), x.W.cell? ⟨pb, 0, none⟩ = some (.slice Av z.l.length cv) := fun x => x.ok.1
    have r1 : ∀ x : Cl (fun w' => w'.cell? ⟨pb, 0, none⟩ = some (.slice Av z.l.length cv) ∧ w'.cell? ⟨w1.heap.size, 0, none⟩ = some (.int .i64 (dep z.l z.t + 1)) ∧ w'.cell? ⟨w1.heap.size, 1, none⟩ = some (.int .i64 nk) ∧ w'.cell? ⟨w1.heap.size, 2, none⟩ = some (.string ns)), x.W.cell? ⟨w1.heap.size, 0, none⟩ = some (.int .i64 (dep z.l z.t + 1)) := fun x => x.ok.2.1
    have r2 : ∀ x : Cl (fun w' => w'.cell? ⟨pb, 0, none⟩ = some (.slice Av z.l.length cv) ∧ w'.cell? ⟨w1.heap.size, 0, none⟩ = some (.int .i64 (dep z.l z.t + 1)) ∧ w'.cell? ⟨w1.heap.size, 1, none⟩ = some (.int .i64 nk) ∧ w'.cell? ⟨w1.heap.size, 2, none⟩ = some (.string ns)), x.W.cell? ⟨w1.heap.size, 1, none⟩ = some (.int .i64 nk) := fun x => x.ok.2.2.1
    have r3 : ∀ x : Cl (fun w' => w'.cell? ⟨pb, 0, none⟩ = some (.slice Av z.l.length cv) ∧ w'.cell? ⟨w1.heap.size, 0, none⟩ = some (.int .i64 (dep z.l z.t + 1)) ∧ w'.cell? ⟨w1.heap.size, 1, none⟩ = some (.int .i64 nk) ∧ w'.cell? ⟨w1.heap.size, 2, none⟩ = some (.string ns)), x.W.cell? ⟨w1.heap.size, 2, none⟩ = some (.string ns) := fun x => x.ok.2.2.2
    have hne : Nonempty (Cl (fun w' => w'.cell? ⟨pb, 0, none⟩ = some (.slice Av z.l.length cv) ∧ w'.cell? ⟨w1.heap.size, 0, none⟩ = some (.int .i64 (dep z.l z.t + 1)) ∧ w'.cell? ⟨w1.heap.size, 1, none⟩ = some (.int .i64 nk) ∧ w'.cell? ⟨w1.heap.size, 2, none⟩ = some (.string ns))) := ⟨⟨_, s0⟩⟩
    refine wp_region_stages [0, 0, 0, 0, 0, 0, 1, 3, 4, 4, 5] 2 (fun w' => ∃ y : Cl (fun w' => w'.cell? ⟨pb, 0, none⟩ = some (.slice Av z.l.length cv) ∧ w'.cell? ⟨w1.heap.size, 0, none⟩ = some (.int .i64 (dep z.l z.t + 1)) ∧ w'.cell? ⟨w1.heap.size, 1, none⟩ = some (.int .i64 nk) ∧ w'.cell? ⟨w1.heap.size, 2, none⟩ = some (.string ns)), w' = y.W) (by kernel_rfl) (by kernel_rfl) ⟨⟨_, s0⟩, rfl⟩ ?_
    simp only [Stage.stages, Stage.pickC, Nat.reduceBEq, Nat.reduceMul, Nat.reduceAdd, cond_true, cond_false, List.map_cons, List.map_nil]
    refine stage_more ?_
    repeat (go_big_quiet_step (fail))
    refine wpQuiet_nil ?_
    intro K hK
    unfold Chain.mov
    go_simp
    have hb5 : Below w2.heap.size w2 (w2.drew.alloc (.cells #[.int .i64 (dep z.l z.t + 1), .int .i64 nk, .string ns] 31)) := (Below.refl _ w2).drew.alloc (Nat.le_refl _) _
    have hN5 := BlkL.new w2.drew 31 (fl fn [⟨dep z.l z.t + 1, nk, ns⟩])
    have s5 : (fun w' => w'.cell? ⟨pb, 0, none⟩ = some (.slice Av z.l.length cv) ∧ w'.cell? ⟨w1.heap.size, 0, none⟩ = some (.int .i64 (dep z.l z.t + 1)) ∧ w'.cell? ⟨w1.heap.size, 1, none⟩ = some (.int .i64 nk) ∧ w'.cell? ⟨w1.heap.size, 2, none⟩ = some (.string ns)) (w2.drew.alloc (.cells #[.int .i64 (dep z.l z.t + 1), .int .i64 nk, .string ns] 31)) := ⟨(hb5.cell (p := ⟨pb, 0, none⟩) HG2.out.blk.lt).trans s0.1, (hb5.cell (p := ⟨w1.heap.size, 0, none⟩) hsz2).trans s0.2.1, (hb5.cell (p := ⟨w1.heap.size, 1, none⟩) hsz2).trans s0.2.2.1, (hb5.cell (p := ⟨w1.heap.size, 2, none⟩) hsz2).trans s0.2.2.2⟩
    refine hK _ _ ⟨⟨⟨_, s5⟩, rfl⟩, ?_⟩
    clear hK K r1 r2 r3 r0
    have HO5 := Lib.hid (HG2.out.below hb5)
    have HB5 := Lib.hid (HB2.out.trans (hb5.mono HB2.out.size))
    have HX5 := Lib.hid (HX2.out.below hb5 HX2.out.lt)
    have HN5 := Lib.hid (HNL.out.below hb5 HNL.out.lt)
    have hz5 : B ≤ (w2.drew.alloc (.cells #[.int .i64 (dep z.l z.t + 1), .int .i64 nk, .string ns] 31)).heap.size := Nat.le_trans hB HB5.out.size
    have hz25 : w2.heap.size < (w2.drew.alloc (.cells #[.int .i64 (dep z.l z.t + 1), .int .i64 nk, .string ns] 31)).heap.size := by simp
    change Stage.stageW _ _ _ _ _ _ (w2.drew.alloc (.cells #[.int .i64 (dep z.l z.t + 1), .int .i64 nk, .string ns] 31))
    change BlkL (w2.drew.alloc (.cells #[.int .i64 (dep z.l z.t + 1), .int .i64 nk, .string ns] 31)) w2.heap.size _ _ at hN5
    generalize w2.drew.alloc (.cells #[.int .i64 (dep z.l z.t + 1), .int .i64 nk, .string ns] 31) = V5 at *
    obtain ⟨v', V6, hrun, how6, hgr6, _, hat6⟩ := run_append_own_at (P := Tryz.prog) V5 B 25 25 31 i0 (.agg #[.int .i64 0, .int .i64 0, .string ByteArray.empty]) 3 32 Tryz.underlying25 hi0 hz0 hz1 hz2 rfl (by decide) _ z.l.length _ HO5.out.row ⟨w2.heap.size, 0, none⟩ 1 1 (fl fn [⟨dep z.l z.t + 1, nk, ns⟩]) rfl (fun j u hj => by rw [Addr.add_lit, Nat.zero_add]; exact (hN5.cell j).trans hj) (fn_one _) (by simp only [maxLen]; omega) (by omega) hz5
    rw [← fl_append] at how6
    have HRUN := Lib.hid hrun
    have h6 := HO5.out.app (lr' := z.l ++ [⟨dep z.l z.t + 1, nk, ns⟩]) hgr6 (by rw [List.length_append]; exact how6)
    have hw15 : w1.heap.size < V5.heap.size := Nat.lt_trans hsz2 hz25
    have hrow5 := HO5.out.row
    have hne5 : ∀ g, (Value.slice Av z.l.length cv).ownBlock = some g → g ≠ w1.heap.size ∧ g ≠ w.heap.size := fun g hg => by
      have h1 := H.out.row.lt g hg
      have h2 := HB1.out.size
      omega
    have s6 : (fun w' => w'.cell? ⟨pb, 0, none⟩ = some (.slice Av z.l.length cv) ∧ w'.cell? ⟨w1.heap.size, 0, none⟩ = some (.int .i64 (dep z.l z.t + 1)) ∧ w'.cell? ⟨w1.heap.size, 1, none⟩ = some (.int .i64 nk) ∧ w'.cell? ⟨w1.heap.size, 2, none⟩ = some (.string ns)) V6 := ⟨(World.cell?_of_block (a := ⟨pb, 0, none⟩) (hgr6.block _ HO5.out.blk.lt (fun e => (HO5.out.rowT e.symm).ne HO5.out.blk.ct (by decide) rfl))).trans s5.1, (World.cell?_of_block (a := ⟨w1.heap.size, 0, none⟩) (hgr6.block _ hw15 (fun e => (hne5 _ e.symm).1 rfl))).trans s5.2.1, (World.cell?_of_block (a := ⟨w1.heap.size, 1, none⟩) (hgr6.block _ hw15 (fun e => (hne5 _ e.symm).1 rfl))).trans s5.2.2.1, (World.cell?_of_block (a := ⟨w1.heap.size, 2, none⟩) (hgr6.block _ hw15 (fun e => (hne5 _ e.symm).1 rfl))).trans s5.2.2.2⟩
    have hB6 := HB5.out.mono hB
    have HB6 := Lib.hid ((hB6.grown hgr6 hz5 (fun g hg => (hrow5.lt g hg).1)).setCell (p := ⟨pb, 0, none⟩) (show B ≤ pb from H.out.base) v')
    have HX6 := Lib.hid ((HX5.out.grown hgr6 (fun e => (hne5 _ e.symm).2 rfl)).far (p := ⟨pb, 0, none⟩) (fun e => (HX5.out.ct.ne HO5.out.blk.ct (by decide)) e) v')
    have HN6 := Lib.hid ((HN5.out.grown hgr6 (fun e => (hne5 _ e.symm).1 rfl)).far (p := ⟨pb, 0, none⟩) (fun e => (HN5.out.ct.ne HO5.out.blk.ct (by decide)) e) v')
    have hfz : V6.frozen? ⟨pb, 0, none⟩ = false := (HO5.out.blk.grown hgr6 (fun e => (HO5.out.rowT e.symm).ne HO5.out.blk.ct (by decide) rfl)).frozen 0
    have hpl : pb < V6.heap.size := (HO5.out.blk.grown hgr6 (fun e => (HO5.out.rowT e.symm).ne HO5.out.blk.ct (by decide) rfl)).lt
    have hz6 : V5.heap.size ≤ V6.heap.size := hgr6.size
    obtain ⟨A6, c6, rfl⟩ := own_slice h6.row
    have HG6 := Lib.hid h6
    clear hrun how6 hgr6 hat6 hw15 hrow5 hne5 h6 hB6 s5 s0 hN5
    refine stage_more ?_
    refine wpQuiet_nil ?_
    intro K hK
    refine mov_append rfl rfl rfl HRUN.out ?_
    go_simp
    refine hK _ _ ⟨⟨⟨_, s6⟩, rfl⟩, ?_⟩
    have s6c := s6.1
    clear hK K s6
    refine stage_last ?_
    repeat (go_big_quiet_step (fail))
    refine wpQuiet_nil ?_
    go_wp2_with fail
    clear s6c hfz hpl hz5 hsz2 HRUN HO5 HB5 HX5 HN5 HG2 HB2 HX2 HNL hz25 hz6 hne
    have hlen7 : (z.l ++ [(⟨dep z.l z.t + 1, nk, ns⟩ : Nd)]).length = z.l.length + 1 := by simp
    rw [hlen7] at HB6 HX6 HN6 HG6
    clear hlen7
    generalize V6.setCell ⟨pb, 0, none⟩ (.slice A6 (z.l.length + 1) c6) = w7 at *
    have hpar := HOK.out.par_new (n := ⟨dep z.l z.t + 1, nk, ns⟩) rfl
    have hkat : (z.l ++ [(⟨dep z.l z.t + 1, nk, ns⟩ : Nd)])[z.l.length]? = some ⟨dep z.l z.t + 1, nk, ns⟩ := by simp
    have HG7 := Lib.hid ((HG6.out.more (m := [⟨dep z.l z.t + 1, nk, ns⟩]) (a2 := atz (z.q ++ [x.a])) (Nat.le_refl _) (fun i hi => atz_app (by rw [HOK.out.len]; exact hi))))
    have hBw7 : B ≤ w7.heap.size := Nat.le_trans hB (by have := HX6.out.lt; have h0 := HB6.out.size; omega)
    have haw : atz (z.q ++ [x.a]) (z.l.length + 1) = x.a := by rw [← HOK.out.len]; exact atz_new
    have HGR := Lib.hid (fun V (hV : Fq V B (z.l ++ [⟨dep z.l z.t + 1, nk, ns⟩]) z.l.length (atz (z.q ++ [x.a])) ps vs) (hVB : B ≤ V.heap.size) => growQ_any hV ⟨dep z.l z.t + 1, nk, ns⟩ hkat hVB (by omega) x.a haw)
    rw [hpar] at HGR
    have HPAR := Lib.hid hpar
    have HKAT := Lib.hid hkat
    clear hpar hkat haw HG6
    have cl := HG7.out.blk.lt
    have s0 : (fun w' => w'.cell? ⟨pb, 1, none⟩ = some (.pointer (some ⟨ps z.t, 0, none⟩)) ∧ w'.cell? ⟨w1.heap.size, 0, none⟩ = some (.int .i64 (dep z.l z.t + 1)) ∧ w'.cell? ⟨w1.heap.size, 1, none⟩ = some (.int .i64 nk) ∧ w'.cell? ⟨w1.heap.size, 2, none⟩ = some (.string ns) ∧ w'.cell? ⟨w.heap.size, 2, none⟩ = some (.int .i64 x.a)) w7.drew := ⟨HG7.out.blk.cell 1, HN6.out.cell 0, HN6.out.cell 1, HN6.out.cell 2, HX6.out.cell 2⟩
    have r0 : ∀ y : Cl (fun w' => w'.cell? ⟨pb, 1, none⟩ = some (.pointer (some ⟨ps z.t, 0, none⟩)) ∧ w'.cell? ⟨w1.heap.size, 0, none⟩ = some (.int .i64 (dep z.l z.t + 1)) ∧ w'.cell? ⟨w1.heap.size, 1, none⟩ = some (.int .i64 nk) ∧ w'.cell? ⟨w1.heap.size, 2, none⟩ = some (.string ns) ∧ w'.cell? ⟨w.heap.size, 2, none⟩ = some (.int .i64 x.a)), y.W.cell? ⟨pb, 1, none⟩ = some (.pointer (some ⟨ps z.t, 0, none⟩)) := fun y => y.ok.1
    have r1 : ∀ y : Cl (fun w' => w'.cell? ⟨pb, 1, none⟩ = some (.pointer (some ⟨ps z.t, 0, none⟩)) ∧ w'.cell? ⟨w1.heap.size, 0, none⟩ = some (.int .i64 (dep z.l z.t + 1)) ∧ w'.cell? ⟨w1.heap.size, 1, none⟩ = some (.int .i64 nk) ∧ w'.cell? ⟨w1.heap.size, 2, none⟩ = some (.string ns) ∧ w'.cell? ⟨w.heap.size, 2, none⟩ = some (.int .i64 x.a)), y.W.cell? ⟨w1.heap.size, 0, none⟩ = some (.int .i64 (dep z.l z.t + 1)) := fun y => y.ok.2.1
    have r2 : ∀ y : Cl (fun w' => w'.cell? ⟨pb, 1, none⟩ = some (.pointer (some ⟨ps z.t, 0, none⟩)) ∧ w'.cell? ⟨w1.heap.size, 0, none⟩ = some (.int .i64 (dep z.l z.t + 1)) ∧ w'.cell? ⟨w1.heap.size, 1, none⟩ = some (.int .i64 nk) ∧ w'.cell? ⟨w1.heap.size, 2, none⟩ = some (.string ns) ∧ w'.cell? ⟨w.heap.size, 2, none⟩ = some (.int .i64 x.a)), y.W.cell? ⟨w1.heap.size, 1, none⟩ = some (.int .i64 nk) := fun y => y.ok.2.2.1
    have r3 : ∀ y : Cl (fun w' => w'.cell? ⟨pb, 1, none⟩ = some (.pointer (some ⟨ps z.t, 0, none⟩)) ∧ w'.cell? ⟨w1.heap.size, 0, none⟩ = some (.int .i64 (dep z.l z.t + 1)) ∧ w'.cell? ⟨w1.heap.size, 1, none⟩ = some (.int .i64 nk) ∧ w'.cell? ⟨w1.heap.size, 2, none⟩ = some (.string ns) ∧ w'.cell? ⟨w.heap.size, 2, none⟩ = some (.int .i64 x.a)), y.W.cell? ⟨w1.heap.size, 2, none⟩ = some (.string ns) := fun y => y.ok.2.2.2.1
    have r4 : ∀ y : Cl (fun w' => w'.cell? ⟨pb, 1, none⟩ = some (.pointer (some ⟨ps z.t, 0, none⟩)) ∧ w'.cell? ⟨w1.heap.size, 0, none⟩ = some (.int .i64 (dep z.l z.t + 1)) ∧ w'.cell? ⟨w1.heap.size, 1, none⟩ = some (.int .i64 nk) ∧ w'.cell? ⟨w1.heap.size, 2, none⟩ = some (.string ns) ∧ w'.cell? ⟨w.heap.size, 2, none⟩ = some (.int .i64 x.a)), y.W.cell? ⟨w.heap.size, 2, none⟩ = some (.int .i64 x.a) := fun y => y.ok.2.2.2.2
    have hne : Nonempty (Cl (fun w' => w'.cell? ⟨pb, 1, none⟩ = some (.pointer (some ⟨ps z.t, 0, none⟩)) ∧ w'.cell? ⟨w1.heap.size, 0, none⟩ = some (.int .i64 (dep z.l z.t + 1)) ∧ w'.cell? ⟨w1.heap.size, 1, none⟩ = some (.int .i64 nk) ∧ w'.cell? ⟨w1.heap.size, 2, none⟩ = some (.string ns) ∧ w'.cell? ⟨w.heap.size, 2, none⟩ = some (.int .i64 x.a))) := ⟨⟨_, s0⟩⟩
    refine wp_region_stages [0, 0, 0, 0, 0, 0, 0, 1, 3] 1 (fun w' => ∃ y : Cl (fun w' => w'.cell? ⟨pb, 1, none⟩ = some (.pointer (some ⟨ps z.t, 0, none⟩)) ∧ w'.cell? ⟨w1.heap.size, 0, none⟩ = some (.int .i64 (dep z.l z.t + 1)) ∧ w'.cell? ⟨w1.heap.size, 1, none⟩ = some (.int .i64 nk) ∧ w'.cell? ⟨w1.heap.size, 2, none⟩ = some (.string ns) ∧ w'.cell? ⟨w.heap.size, 2, none⟩ = some (.int .i64 x.a)), w' = y.W) (by kernel_rfl) (by kernel_rfl) ⟨⟨_, s0⟩, rfl⟩ ?_
    simp only [Stage.stages, Stage.pickC, Nat.reduceBEq, Nat.reduceMul, Nat.reduceAdd, cond_true, cond_false, List.map_cons, List.map_nil]
    refine stage_more ?_
    repeat (go_big_quiet_step (fail))
    refine wpQuiet_nil ?_
    intro K hK
    unfold Chain.mov
    go_simp
    simp only [Chain.movUpon]
    refine (HGR.out w7.drew HG7.out.fo.drew hBw7).mono ?_
    rintro e w8 ⟨p, v8, rfl, hpge, hfo8, _, hos, htp, hou, hsz8, hq8⟩
    have HGD : PzG w7.drew B pb bm (.slice A6 (z.l.length + 1) c6) (ptr (ps z.t)) (z.l ++ [⟨dep z.l z.t + 1, nk, ns⟩]) (z.l ++ [⟨dep z.l z.t + 1, nk, ns⟩]) z.l.length (atz (z.q ++ [x.a])) ps vs z.l.length D := ⟨HG7.out.blk, HG7.out.row, HG7.out.fo.drew, HG7.out.map⟩
    have h8 := HGD.grow (p := p) (v := v8) HOK.out.tip hfo8 hsz8 hos htp hou hq8
    have hx8 := HGD.other HOK.out.tip hq8 (show BlkL w7.drew _ _ _ from HX6.out) (by decide) (by decide)
    have hn8 := HGD.other HOK.out.tip hq8 (show BlkL w7.drew _ _ _ from HN6.out) (by decide) (by decide)
    have HB8 := Lib.hid (HGD.under HOK.out.tip hBw7 hsz8 hos htp hou hq8 HB6.out.drew)
    have s8 : (fun w' => w'.cell? ⟨pb, 1, none⟩ = some (.pointer (some ⟨ps z.t, 0, none⟩)) ∧ w'.cell? ⟨w1.heap.size, 0, none⟩ = some (.int .i64 (dep z.l z.t + 1)) ∧ w'.cell? ⟨w1.heap.size, 1, none⟩ = some (.int .i64 nk) ∧ w'.cell? ⟨w1.heap.size, 2, none⟩ = some (.string ns) ∧ w'.cell? ⟨w.heap.size, 2, none⟩ = some (.int .i64 x.a)) w8 := ⟨h8.blk.cell 1, hn8.cell 0, hn8.cell 1, hn8.cell 2, hx8.cell 2⟩
    have HG8 := Lib.hid h8
    have HX8 := Lib.hid hx8
    unfold ptr
    refine ⟨_, rfl, hK _ _ ⟨⟨⟨_, s8⟩, rfl⟩, ?_⟩⟩
    clear hK K s8 hfo8 hos htp hou hsz8 hq8 h8 hx8 hn8 HGD s0 r0 r1 r2 r3 r4 HB6 HX6 HN6 HG7 HGR
    refine stage_last ?_
    repeat (go_big_quiet_step (fail))
    refine wpQuiet_nil ?_
    obtain ⟨y0, y1, y2⟩ : w8.cell? ⟨w.heap.size, 0, none⟩ = some (.int .i64 x.k) ∧ w8.cell? ⟨w.heap.size, 1, none⟩ = some (.string x.s) ∧ w8.cell? ⟨w.heap.size, 2, none⟩ = some (.int .i64 x.a) := ⟨HX8.out.cell 0, HX8.out.cell 1, HX8.out.cell 2⟩
    have yl := HX8.out.lt
    obtain ⟨b0, b1, b2, bl⟩ : w8.cell? ⟨pb, 0, none⟩ = some (.slice A6 (z.l.length + 1) c6) ∧ w8.cell? ⟨pb, 1, none⟩ = some (.pointer (some ⟨ps z.t, 0, none⟩)) ∧ w8.cell? ⟨pb, 2, none⟩ = some (.map (some bm)) ∧ pb < w8.heap.size := ⟨HG8.out.blk.cell 0, HG8.out.blk.cell 1, HG8.out.blk.cell 2, HG8.out.blk.lt⟩
    have hnk0 := ndX_kind HX.out H4.out (dep z.l z.t + 1)
    rw [HND.out] at hnk0
    have hnkk : nk = (if x.k = 3 then opK (bt x.s 0) else if x.k = 5 then 6 else x.k) := hnk0
    have HNKK := Lib.hid hnkk
    clear hnkk hnk0
    by_cases h3 : x.k = 3
    · have H3 := Lib.hid h3
      rw [h3] at y0
      go_wp2_with fail
      have r0 := Bw.rd b2
      have r1 := Bw.rd y2
      have hne : Nonempty (Cl (Bw w8)) := ⟨⟨_, Bw.start w8⟩⟩
      refine wp_region_stages [0, 0, 0, 0, 0, 0, 1] 0 (fun w' => ∃ y : Cl (Bw w8), w' = y.W) (by kernel_rfl) (by kernel_rfl) ⟨⟨_, Bw.start w8⟩, rfl⟩ ?_
      simp only [Stage.stages, Stage.pickC, Nat.reduceBEq, Nat.reduceMul, Nat.reduceAdd, cond_true, cond_false, List.map_cons, List.map_nil]
      refine stage_last ?_
      repeat (go_big_quiet_step (fail))
      refine wpQuiet_nil ?_
      clear r0 r1 hne b0 b1 b2 bl y0 y1 y2 yl
      refine wpList_mapUpdate_own _ rfl _ _ _ 84 rfl 3 4 (Maps.int_keyed Tryz.underlying3) Tryz.underlying84 _ bm z.l.length D rfl HG8.out.map (by unfold maxLen; omega) _ _ _ rfl rfl (keyInt x.a (key_wf HX.out)) _ [] (plainElem_bool Tryz.underlying4 true) ?_
      intro w9 hown9 hgr9
      have HGD : PzG w8.drew B pb bm (.slice A6 (z.l.length + 1) c6) (ptr (ps z.t)) (z.l ++ [⟨dep z.l z.t + 1, nk, ns⟩]) (z.l ++ [⟨dep z.l z.t + 1, nk, ns⟩]) (z.l.length + 1) (atz (z.q ++ [x.a])) (upd ps (z.l.length + 1) p) (upd (upd vs z.t v8) (z.l.length + 1) (.slice none 0 0)) z.l.length D := ⟨HG8.out.blk, HG8.out.row, HG8.out.fo.drew, HG8.out.map⟩
      have h9 := HGD.put hown9 hgr9
      have HB9 := Lib.hid (HB8.out.drew.grown hgr9 (show B ≤ w8.drew.heap.size from Nat.le_trans hB HB8.out.size) (fun g hg => by injection hg with hg; have := H.out.mbase; omega))
      have HG9 := Lib.hid h9
      obtain ⟨b0, b1, b2, bl⟩ : w9.cell? ⟨pb, 0, none⟩ = some (.slice A6 (z.l.length + 1) c6) ∧ w9.cell? ⟨pb, 1, none⟩ = some (.pointer (some ⟨ps z.t, 0, none⟩)) ∧ w9.cell? ⟨pb, 2, none⟩ = some (.map (some bm)) ∧ pb < w9.heap.size := ⟨h9.blk.cell 0, h9.blk.cell 1, h9.blk.cell 2, h9.blk.lt⟩
      have bf := h9.blk.frozen
      have hpp : upd ps (z.l.length + 1) p (z.l.length + 1) = p := upd_self _ _ _
      obtain ⟨_, e1, _, _, _, _, el⟩ := h9.fo.cells (Nat.le_refl (z.l.length + 1))
      rw [hpp, knd_succ HKAT.out] at e1
      rw [hpp] at el
      have hop : 3 ≤ nk ∧ nk ≤ 5 := by rw [HNKK.out, if_pos H3.out]; unfold opK; split; omega; split <;> omega
      have hhl : (decide (nk = -1) || inB nk 3 6) = true := by rw [inB_true.2 ⟨hop.1, by omega⟩, Bool.or_true]
      have HHO := Lib.hid (holds_any p nk w9 e1)
      rw [hhl] at HHO
      unfold ptr at HHO
      have HG8M := Lib.hid HG8.out.map.isMap
      clear hown9 hgr9 HGD h9 e1 hhl HG8 HX8
      go_wp2_with fail
      refine HHO.out.mono ?_
      rintro e w10 ⟨rfl, rfl⟩
      go_wp2_with fail
      go_end0
      refine AddP.fin HOK.out HX.out H4.out HA.out (Int.not_lt.2 HD.out) (HND.out _) HG9.out (Nat.le_refl _) H.out.base H.out.mbase (by rw [if_pos hop.1]) (by rw [hpp]; rfl) (fun a => ?_) HB9.out
      by_cases e : a = x.a
      · subst e
        rw [Maps.has_put_same HG8M.out (isKey_int x.a)]
        simp [H3.out]
      · rw [Maps.has_put_other (fun e2 => e (by injection e2)), H.out.has a]
        simp [e]
    · have h3b : (x.k == 3) = false := by simpa using h3
      have H3 := Lib.hid h3
      have HB9 := HB8
      have HG9 := HG8
      have bf := HG9.out.blk.frozen
      have hpp : upd ps (z.l.length + 1) p (z.l.length + 1) = p := upd_self _ _ _
      obtain ⟨_, e1, _, _, _, _, el⟩ := HG9.out.fo.cells (Nat.le_refl (z.l.length + 1))
      rw [hpp, knd_succ HKAT.out] at e1
      rw [hpp] at el
      have HHO := Lib.hid (holds_any p nk w8 e1)
      clear HG8 h3 e1
      unfold ptr at HHO
      by_cases h5 : x.k = 5
      · have hnk6 : nk = 6 := by rw [HNKK.out, if_neg H3.out, if_pos h5]
        have hhl : (decide (nk = -1) || inB nk 3 6) = true := by rw [hnk6]; rfl
        rw [hhl] at HHO
        have H5 := Lib.hid h5
        have HN6 := Lib.hid hnk6
        clear h5 hnk6 hhl
        go_wp2_with fail
        refine HHO.out.mono ?_
        rintro e w10 ⟨rfl, rfl⟩
        go_wp2_with fail
        go_end0
        refine AddP.fin HOK.out HX.out H4.out HA.out (Int.not_lt.2 HD.out) (HND.out _) HG9.out (Nat.le_succ _) H.out.base H.out.mbase (by rw [if_pos (by show 3 ≤ nk; rw [HN6.out]; omega)]) (by rw [hpp]; rfl) (fun a => ?_) HB9.out
        rw [H.out.has a]
        simp [H5.out]
      · have hbd := HX.out.bd
        have hnk2 : nk = x.k ∧ x.k ≤ 2 := by
          have h4 := H4.out; have h3 := H3.out
          exact ⟨by rw [HNKK.out, if_neg h3, if_neg h5], by omega⟩
        have hhl : (decide (nk = -1) || inB nk 3 6) = false := by
          rw [Bool.or_eq_false_iff]
          refine ⟨by simp; omega, ?_⟩
          cases e : inB nk 3 6
          · rfl
          · have := inB_true.1 e; omega
        rw [hhl] at HHO
        have HN2 := Lib.hid hnk2
        clear h5 hnk2 hhl hbd
        go_wp2_with fail
        refine HHO.out.mono ?_
        rintro e w10 ⟨rfl, rfl⟩
        have hup : upd ps (z.l.length + 1) p z.t = ps z.t := upd_ne (by have := HOK.out.tip; omega)
        have hun := unquoted_any HG9.out.fo z.t (by have := HOK.out.tip; omega)
        rw [hup, unq_app z.t HOK.out.tip] at hun
        have HUN := Lib.hid hun
        unfold ptr at HUN
        clear hun
        go_wp2_with fail
        refine HUN.out.mono ?_
        rintro e w11 ⟨rfl, rfl⟩
        go_wp2_with fail
        go_end0
        refine AddP.fin HOK.out HX.out H4.out HA.out (Int.not_lt.2 HD.out) (HND.out _) HG9.out (Nat.le_succ _) H.out.base H.out.mbase (by rw [if_neg (by show ¬ 3 ≤ nk; have := HN2.out; omega)]) rfl (fun a => ?_) HB9.out
        rw [H.out.has a]
        simp [H3.out]

  · have hn2 : (nk == 2) = false := by simpa using e2
    clear hA hk2 e2
    have hnl := BlkL.new w1 31 [.int .i64 (dep z.l z.t + 1), .int .i64 nk, .string ns]
    have hb2 := (Below.refl w1.heap.size w1).alloc (Nat.le_refl _) (.cells #[.int .i64 (dep z.l z.t + 1), .int .i64 nk, .string ns] 31)
    have HB2 := Lib.hid (HB1.out.trans (hb2.mono HB1.out.size))
    have HG2 := Lib.hid (H1.out.below hb2).g
    have HX2 := Lib.hid (HX1.out.below hb2 HX1.out.lt)
    have hsz2 : w1.heap.size < (w1.alloc (.cells #[.int .i64 (dep z.l z.t + 1), .int .i64 nk, .string ns] 31)).heap.size := by simp
    go_wp2_with fail
    change Code.wp _ _ _ _ (w1.alloc (.cells #[.int .i64 (dep z.l z.t + 1), .int .i64 nk, .string ns] 31))
    have HNL := Lib.hid (show BlkL (w1.alloc (.cells #[.int .i64 (dep z.l z.t + 1), .int .i64 nk, .string ns] 31)) w1.heap.size 31 [.int .i64 (dep z.l z.t + 1), .int .i64 nk, .string ns] from hnl)
    clear hnl hb2 c0 c1 c2 cl d0 d1 d2 d3 d4 d5 dl x0 x1 x2 xl H1
    generalize w1.alloc (.cells #[.int .i64 (dep z.l z.t + 1), .int .i64 nk, .string ns] 31) = w2 at *
    have s0 : (fun w' => w'.cell? ⟨pb, 0, none⟩ = some (.slice Av z.l.length cv) ∧ w'.cell? ⟨w1.heap.size, 0, none⟩ = some (.int .i64 (dep z.l z.t + 1)) ∧ w'.cell? ⟨w1.heap.size, 1, none⟩ = some (.int .i64 nk) ∧ w'.cell? ⟨w1.heap.size, 2, none⟩ = some (.string ns)) w2.drew := ⟨HG2.out.blk.cell 0, HNL.out.cell 0, HNL.out.cell 1, HNL.out.cell 2⟩
    have r0 : ∀ x : Cl (fun w' => w'.cell? ⟨pb, 0, none⟩ = some (.slice Av z.l.length cv) ∧ w'.cell? ⟨w1.heap.size, 0, none⟩ = some (.int .i64 (dep z.l z.t + 1)) ∧ w'.cell? ⟨w1.heap.size, 1, none⟩ = some (.int .i64 nk) ∧ w'.cell? ⟨w1.heap.size, 2, none⟩ = some (.string ns)), x.W.cell? ⟨pb, 0, none⟩ = some (.slice Av z.l.length cv) := fun x => x.ok.1
    have r1 : ∀ x : Cl (fun w' => w'.cell? ⟨pb, 0, none⟩ = some (.slice Av z.l.length cv) ∧ w'.cell? ⟨w1.heap.size, 0, none⟩ = some (.int .i64 (dep z.l z.t + 1)) ∧ w'.cell? ⟨w1.heap.size, 1, none⟩ = some (.int .i64 nk) ∧ w'.cell? ⟨w1.heap.size, 2, none⟩ = some (.string ns)), x.W.cell? ⟨w1.heap.size, 0, none⟩ = some (.int .i64 (dep z.l z.t + 1)) := fun x => x.ok.2.1
    have r2 : ∀ x : Cl (fun w' => w'.cell? ⟨pb, 0, none⟩ = some (.slice Av z.l.length cv) ∧ w'.cell? ⟨w1.heap.size, 0, none⟩ = some (.int .i64 (dep z.l z.t + 1)) ∧ w'.cell? ⟨w1.heap.size, 1, none⟩ = some (.int .i64 nk) ∧ w'.cell? ⟨w1.heap.size, 2, none⟩ = some (.string ns)), x.W.cell? ⟨w1.heap.size, 1, none⟩ = some (.int .i64 nk) := fun x => x.ok.2.2.1
    have r3 : ∀ x : Cl (fun w' => w'.cell? ⟨pb, 0, none⟩ = some (.slice Av z.l.length cv) ∧ w'.cell? ⟨w1.heap.size, 0, none⟩ = some (.int .i64 (dep z.l z.t + 1)) ∧ w'.cell? ⟨w1.heap.size, 1, none⟩ = some (.int .i64 nk) ∧ w'.cell? ⟨w1.heap.size, 2, none⟩ = some (.string ns)), x.W.cell? ⟨w1.heap.size, 2, none⟩ = some (.string ns) := fun x => x.ok.2.2.2
    have hne : Nonempty (Cl (fun w' => w'.cell? ⟨pb, 0, none⟩ = some (.slice Av z.l.length cv) ∧ w'.cell? ⟨w1.heap.size, 0, none⟩ = some (.int .i64 (dep z.l z.t + 1)) ∧ w'.cell? ⟨w1.heap.size, 1, none⟩ = some (.int .i64 nk) ∧ w'.cell? ⟨w1.heap.size, 2, none⟩ = some (.string ns))) := ⟨⟨_, s0⟩⟩
    refine wp_region_stages [0, 0, 0, 0, 0, 0, 1, 3, 4, 4, 5] 2 (fun w' => ∃ y : Cl (fun w' => w'.cell? ⟨pb, 0, none⟩ = some (.slice Av z.l.length cv) ∧ w'.cell? ⟨w1.heap.size, 0, none⟩ = some (.int .i64 (dep z.l z.t + 1)) ∧ w'.cell? ⟨w1.heap.size, 1, none⟩ = some (.int .i64 nk) ∧ w'.cell? ⟨w1.heap.size, 2, none⟩ = some (.string ns)), w' = y.W) (by kernel_rfl) (by kernel_rfl) ⟨⟨_, s0⟩, rfl⟩ ?_
    simp only [Stage.stages, Stage.pickC, Nat.reduceBEq, Nat.reduceMul, Nat.reduceAdd, cond_true, cond_false, List.map_cons, List.map_nil]
    refine stage_more ?_
    repeat (go_big_quiet_step (fail))
    refine wpQuiet_nil ?_
    intro K hK
    unfold Chain.mov
    go_simp
    have hb5 : Below w2.heap.size w2 (w2.drew.alloc (.cells #[.int .i64 (dep z.l z.t + 1), .int .i64 nk, .string ns] 31)) := (Below.refl _ w2).drew.alloc (Nat.le_refl _) _
    have hN5 := BlkL.new w2.drew 31 (fl fn [⟨dep z.l z.t + 1, nk, ns⟩])
    have s5 : (fun w' => w'.cell? ⟨pb, 0, none⟩ = some (.slice Av z.l.length cv) ∧ w'.cell? ⟨w1.heap.size, 0, none⟩ = some (.int .i64 (dep z.l z.t + 1)) ∧ w'.cell? ⟨w1.heap.size, 1, none⟩ = some (.int .i64 nk) ∧ w'.cell? ⟨w1.heap.size, 2, none⟩ = some (.string ns)) (w2.drew.alloc (.cells #[.int .i64 (dep z.l z.t + 1), .int .i64 nk, .string ns] 31)) := ⟨(hb5.cell (p := ⟨pb, 0, none⟩) HG2.out.blk.lt).trans s0.1, (hb5.cell (p := ⟨w1.heap.size, 0, none⟩) hsz2).trans s0.2.1, (hb5.cell (p := ⟨w1.heap.size, 1, none⟩) hsz2).trans s0.2.2.1, (hb5.cell (p := ⟨w1.heap.size, 2, none⟩) hsz2).trans s0.2.2.2⟩
    refine hK _ _ ⟨⟨⟨_, s5⟩, rfl⟩, ?_⟩
    clear hK K r1 r2 r3 r0
    have HO5 := Lib.hid (HG2.out.below hb5)
    have HB5 := Lib.hid (HB2.out.trans (hb5.mono HB2.out.size))
    have HX5 := Lib.hid (HX2.out.below hb5 HX2.out.lt)
    have HN5 := Lib.hid (HNL.out.below hb5 HNL.out.lt)
    have hz5 : B ≤ (w2.drew.alloc (.cells #[.int .i64 (dep z.l z.t + 1), .int .i64 nk, .string ns] 31)).heap.size := Nat.le_trans hB HB5.out.size
    have hz25 : w2.heap.size < (w2.drew.alloc (.cells #[.int .i64 (dep z.l z.t + 1), .int .i64 nk, .string ns] 31)).heap.size := by simp
    change Stage.stageW _ _ _ _ _ _ (w2.drew.alloc (.cells #[.int .i64 (dep z.l z.t + 1), .int .i64 nk, .string ns] 31))
    change BlkL (w2.drew.alloc (.cells #[.int .i64 (dep z.l z.t + 1), .int .i64 nk, .string ns] 31)) w2.heap.size _ _ at hN5
    generalize w2.drew.alloc (.cells #[.int .i64 (dep z.l z.t + 1), .int .i64 nk, .string ns] 31) = V5 at *
    obtain ⟨v', V6, hrun, how6, hgr6, _, hat6⟩ := run_append_own_at (P := Tryz.prog) V5 B 25 25 31 i0 (.agg #[.int .i64 0, .int .i64 0, .string ByteArray.empty]) 3 32 Tryz.underlying25 hi0 hz0 hz1 hz2 rfl (by decide) _ z.l.length _ HO5.out.row ⟨w2.heap.size, 0, none⟩ 1 1 (fl fn [⟨dep z.l z.t + 1, nk, ns⟩]) rfl (fun j u hj => by rw [Addr.add_lit, Nat.zero_add]; exact (hN5.cell j).trans hj) (fn_one _) (by simp only [maxLen]; omega) (by omega) hz5
    rw [← fl_append] at how6
    have HRUN := Lib.hid hrun
    have h6 := HO5.out.app (lr' := z.l ++ [⟨dep z.l z.t + 1, nk, ns⟩]) hgr6 (by rw [List.length_append]; exact how6)
    have hw15 : w1.heap.size < V5.heap.size := Nat.lt_trans hsz2 hz25
    have hrow5 := HO5.out.row
    have hne5 : ∀ g, (Value.slice Av z.l.length cv).ownBlock = some g → g ≠ w1.heap.size ∧ g ≠ w.heap.size := fun g hg => by
      have h1 := H.out.row.lt g hg
      have h2 := HB1.out.size
      omega
    have s6 : (fun w' => w'.cell? ⟨pb, 0, none⟩ = some (.slice Av z.l.length cv) ∧ w'.cell? ⟨w1.heap.size, 0, none⟩ = some (.int .i64 (dep z.l z.t + 1)) ∧ w'.cell? ⟨w1.heap.size, 1, none⟩ = some (.int .i64 nk) ∧ w'.cell? ⟨w1.heap.size, 2, none⟩ = some (.string ns)) V6 := ⟨(World.cell?_of_block (a := ⟨pb, 0, none⟩) (hgr6.block _ HO5.out.blk.lt (fun e => (HO5.out.rowT e.symm).ne HO5.out.blk.ct (by decide) rfl))).trans s5.1, (World.cell?_of_block (a := ⟨w1.heap.size, 0, none⟩) (hgr6.block _ hw15 (fun e => (hne5 _ e.symm).1 rfl))).trans s5.2.1, (World.cell?_of_block (a := ⟨w1.heap.size, 1, none⟩) (hgr6.block _ hw15 (fun e => (hne5 _ e.symm).1 rfl))).trans s5.2.2.1, (World.cell?_of_block (a := ⟨w1.heap.size, 2, none⟩) (hgr6.block _ hw15 (fun e => (hne5 _ e.symm).1 rfl))).trans s5.2.2.2⟩
    have hB6 := HB5.out.mono hB
    have HB6 := Lib.hid ((hB6.grown hgr6 hz5 (fun g hg => (hrow5.lt g hg).1)).setCell (p := ⟨pb, 0, none⟩) (show B ≤ pb from H.out.base) v')
    have HX6 := Lib.hid ((HX5.out.grown hgr6 (fun e => (hne5 _ e.symm).2 rfl)).far (p := ⟨pb, 0, none⟩) (fun e => (HX5.out.ct.ne HO5.out.blk.ct (by decide)) e) v')
    have HN6 := Lib.hid ((HN5.out.grown hgr6 (fun e => (hne5 _ e.symm).1 rfl)).far (p := ⟨pb, 0, none⟩) (fun e => (HN5.out.ct.ne HO5.out.blk.ct (by decide)) e) v')
    have hfz : V6.frozen? ⟨pb, 0, none⟩ = false := (HO5.out.blk.grown hgr6 (fun e => (HO5.out.rowT e.symm).ne HO5.out.blk.ct (by decide) rfl)).frozen 0
    have hpl : pb < V6.heap.size := (HO5.out.blk.grown hgr6 (fun e => (HO5.out.rowT e.symm).ne HO5.out.blk.ct (by decide) rfl)).lt
    have hz6 : V5.heap.size ≤ V6.heap.size := hgr6.size
    obtain ⟨A6, c6, rfl⟩ := own_slice h6.row
    have HG6 := Lib.hid h6
    clear hrun how6 hgr6 hat6 hw15 hrow5 hne5 h6 hB6 s5 s0 hN5
    refine stage_more ?_
    refine wpQuiet_nil ?_
    intro K hK
    refine mov_append rfl rfl rfl HRUN.out ?_
    go_simp
    refine hK _ _ ⟨⟨⟨_, s6⟩, rfl⟩, ?_⟩
    have s6c := s6.1
    clear hK K s6
    refine stage_last ?_
    repeat (go_big_quiet_step (fail))
    refine wpQuiet_nil ?_
    go_wp2_with fail
    clear s6c hfz hpl hz5 hsz2 HRUN HO5 HB5 HX5 HN5 HG2 HB2 HX2 HNL hz25 hz6 hne
    have hlen7 : (z.l ++ [(⟨dep z.l z.t + 1, nk, ns⟩ : Nd)]).length = z.l.length + 1 := by simp
    rw [hlen7] at HB6 HX6 HN6 HG6
    clear hlen7
    generalize V6.setCell ⟨pb, 0, none⟩ (.slice A6 (z.l.length + 1) c6) = w7 at *
    have hpar := HOK.out.par_new (n := ⟨dep z.l z.t + 1, nk, ns⟩) rfl
    have hkat : (z.l ++ [(⟨dep z.l z.t + 1, nk, ns⟩ : Nd)])[z.l.length]? = some ⟨dep z.l z.t + 1, nk, ns⟩ := by simp
    have HG7 := Lib.hid ((HG6.out.more (m := [⟨dep z.l z.t + 1, nk, ns⟩]) (a2 := atz (z.q ++ [x.a])) (Nat.le_refl _) (fun i hi => atz_app (by rw [HOK.out.len]; exact hi))))
    have hBw7 : B ≤ w7.heap.size := Nat.le_trans hB (by have := HX6.out.lt; have h0 := HB6.out.size; omega)
    have haw : atz (z.q ++ [x.a]) (z.l.length + 1) = x.a := by rw [← HOK.out.len]; exact atz_new
    have HGR := Lib.hid (fun V (hV : Fq V B (z.l ++ [⟨dep z.l z.t + 1, nk, ns⟩]) z.l.length (atz (z.q ++ [x.a])) ps vs) (hVB : B ≤ V.heap.size) => growQ_any hV ⟨dep z.l z.t + 1, nk, ns⟩ hkat hVB (by omega) x.a haw)
    rw [hpar] at HGR
    have HPAR := Lib.hid hpar
    have HKAT := Lib.hid hkat
    clear hpar hkat haw HG6
    have cl := HG7.out.blk.lt
    have s0 : (fun w' => w'.cell? ⟨pb, 1, none⟩ = some (.pointer (some ⟨ps z.t, 0, none⟩)) ∧ w'.cell? ⟨w1.heap.size, 0, none⟩ = some (.int .i64 (dep z.l z.t + 1)) ∧ w'.cell? ⟨w1.heap.size, 1, none⟩ = some (.int .i64 nk) ∧ w'.cell? ⟨w1.heap.size, 2, none⟩ = some (.string ns) ∧ w'.cell? ⟨w.heap.size, 2, none⟩ = some (.int .i64 x.a)) w7.drew := ⟨HG7.out.blk.cell 1, HN6.out.cell 0, HN6.out.cell 1, HN6.out.cell 2, HX6.out.cell 2⟩
    have r0 : ∀ y : Cl (fun w' => w'.cell? ⟨pb, 1, none⟩ = some (.pointer (some ⟨ps z.t, 0, none⟩)) ∧ w'.cell? ⟨w1.heap.size, 0, none⟩ = some (.int .i64 (dep z.l z.t + 1)) ∧ w'.cell? ⟨w1.heap.size, 1, none⟩ = some (.int .i64 nk) ∧ w'.cell? ⟨w1.heap.size, 2, none⟩ = some (.string ns) ∧ w'.cell? ⟨w.heap.size, 2, none⟩ = some (.int .i64 x.a)), y.W.cell? ⟨pb, 1, none⟩ = some (.pointer (some ⟨ps z.t, 0, none⟩)) := fun y => y.ok.1
    have r1 : ∀ y : Cl (fun w' => w'.cell? ⟨pb, 1, none⟩ = some (.pointer (some ⟨ps z.t, 0, none⟩)) ∧ w'.cell? ⟨w1.heap.size, 0, none⟩ = some (.int .i64 (dep z.l z.t + 1)) ∧ w'.cell? ⟨w1.heap.size, 1, none⟩ = some (.int .i64 nk) ∧ w'.cell? ⟨w1.heap.size, 2, none⟩ = some (.string ns) ∧ w'.cell? ⟨w.heap.size, 2, none⟩ = some (.int .i64 x.a)), y.W.cell? ⟨w1.heap.size, 0, none⟩ = some (.int .i64 (dep z.l z.t + 1)) := fun y => y.ok.2.1
    have r2 : ∀ y : Cl (fun w' => w'.cell? ⟨pb, 1, none⟩ = some (.pointer (some ⟨ps z.t, 0, none⟩)) ∧ w'.cell? ⟨w1.heap.size, 0, none⟩ = some (.int .i64 (dep z.l z.t + 1)) ∧ w'.cell? ⟨w1.heap.size, 1, none⟩ = some (.int .i64 nk) ∧ w'.cell? ⟨w1.heap.size, 2, none⟩ = some (.string ns) ∧ w'.cell? ⟨w.heap.size, 2, none⟩ = some (.int .i64 x.a)), y.W.cell? ⟨w1.heap.size, 1, none⟩ = some (.int .i64 nk) := fun y => y.ok.2.2.1
    have r3 : ∀ y : Cl (fun w' => w'.cell? ⟨pb, 1, none⟩ = some (.pointer (some ⟨ps z.t, 0, none⟩)) ∧ w'.cell? ⟨w1.heap.size, 0, none⟩ = some (.int .i64 (dep z.l z.t + 1)) ∧ w'.cell? ⟨w1.heap.size, 1, none⟩ = some (.int .i64 nk) ∧ w'.cell? ⟨w1.heap.size, 2, none⟩ = some (.string ns) ∧ w'.cell? ⟨w.heap.size, 2, none⟩ = some (.int .i64 x.a)), y.W.cell? ⟨w1.heap.size, 2, none⟩ = some (.string ns) := fun y => y.ok.2.2.2.1
    have r4 : ∀ y : Cl (fun w' => w'.cell? ⟨pb, 1, none⟩ = some (.pointer (some ⟨ps z.t, 0, none⟩)) ∧ w'.cell? ⟨w1.heap.size, 0, none⟩ = some (.int .i64 (dep z.l z.t + 1)) ∧ w'.cell? ⟨w1.heap.size, 1, none⟩ = some (.int .i64 nk) ∧ w'.cell? ⟨w1.heap.size, 2, none⟩ = some (.string ns) ∧ w'.cell? ⟨w.heap.size, 2, none⟩ = some (.int .i64 x.a)), y.W.cell? ⟨w.heap.size, 2, none⟩ = some (.int .i64 x.a) := fun y => y.ok.2.2.2.2
    have hne : Nonempty (Cl (fun w' => w'.cell? ⟨pb, 1, none⟩ = some (.pointer (some ⟨ps z.t, 0, none⟩)) ∧ w'.cell? ⟨w1.heap.size, 0, none⟩ = some (.int .i64 (dep z.l z.t + 1)) ∧ w'.cell? ⟨w1.heap.size, 1, none⟩ = some (.int .i64 nk) ∧ w'.cell? ⟨w1.heap.size, 2, none⟩ = some (.string ns) ∧ w'.cell? ⟨w.heap.size, 2, none⟩ = some (.int .i64 x.a))) := ⟨⟨_, s0⟩⟩
    refine wp_region_stages [0, 0, 0, 0, 0, 0, 0, 1, 3] 1 (fun w' => ∃ y : Cl (fun w' => w'.cell? ⟨pb, 1, none⟩ = some (.pointer (some ⟨ps z.t, 0, none⟩)) ∧ w'.cell? ⟨w1.heap.size, 0, none⟩ = some (.int .i64 (dep z.l z.t + 1)) ∧ w'.cell? ⟨w1.heap.size, 1, none⟩ = some (.int .i64 nk) ∧ w'.cell? ⟨w1.heap.size, 2, none⟩ = some (.string ns) ∧ w'.cell? ⟨w.heap.size, 2, none⟩ = some (.int .i64 x.a)), w' = y.W) (by kernel_rfl) (by kernel_rfl) ⟨⟨_, s0⟩, rfl⟩ ?_
    simp only [Stage.stages, Stage.pickC, Nat.reduceBEq, Nat.reduceMul, Nat.reduceAdd, cond_true, cond_false, List.map_cons, List.map_nil]
    refine stage_more ?_
    repeat (go_big_quiet_step (fail))
    refine wpQuiet_nil ?_
    intro K hK
    unfold Chain.mov
    go_simp
    simp only [Chain.movUpon]
    refine (HGR.out w7.drew HG7.out.fo.drew hBw7).mono ?_
    rintro e w8 ⟨p, v8, rfl, hpge, hfo8, _, hos, htp, hou, hsz8, hq8⟩
    have HGD : PzG w7.drew B pb bm (.slice A6 (z.l.length + 1) c6) (ptr (ps z.t)) (z.l ++ [⟨dep z.l z.t + 1, nk, ns⟩]) (z.l ++ [⟨dep z.l z.t + 1, nk, ns⟩]) z.l.length (atz (z.q ++ [x.a])) ps vs z.l.length D := ⟨HG7.out.blk, HG7.out.row, HG7.out.fo.drew, HG7.out.map⟩
    have h8 := HGD.grow (p := p) (v := v8) HOK.out.tip hfo8 hsz8 hos htp hou hq8
    have hx8 := HGD.other HOK.out.tip hq8 (show BlkL w7.drew _ _ _ from HX6.out) (by decide) (by decide)
    have hn8 := HGD.other HOK.out.tip hq8 (show BlkL w7.drew _ _ _ from HN6.out) (by decide) (by decide)
    have HB8 := Lib.hid (HGD.under HOK.out.tip hBw7 hsz8 hos htp hou hq8 HB6.out.drew)
    have s8 : (fun w' => w'.cell? ⟨pb, 1, none⟩ = some (.pointer (some ⟨ps z.t, 0, none⟩)) ∧ w'.cell? ⟨w1.heap.size, 0, none⟩ = some (.int .i64 (dep z.l z.t + 1)) ∧ w'.cell? ⟨w1.heap.size, 1, none⟩ = some (.int .i64 nk) ∧ w'.cell? ⟨w1.heap.size, 2, none⟩ = some (.string ns) ∧ w'.cell? ⟨w.heap.size, 2, none⟩ = some (.int .i64 x.a)) w8 := ⟨h8.blk.cell 1, hn8.cell 0, hn8.cell 1, hn8.cell 2, hx8.cell 2⟩
    have HG8 := Lib.hid h8
    have HX8 := Lib.hid hx8
    unfold ptr
    refine ⟨_, rfl, hK _ _ ⟨⟨⟨_, s8⟩, rfl⟩, ?_⟩⟩
    clear hK K s8 hfo8 hos htp hou hsz8 hq8 h8 hx8 hn8 HGD s0 r0 r1 r2 r3 r4 HB6 HX6 HN6 HG7 HGR
    refine stage_last ?_
    repeat (go_big_quiet_step (fail))
    refine wpQuiet_nil ?_
    obtain ⟨y0, y1, y2⟩ : w8.cell? ⟨w.heap.size, 0, none⟩ = some (.int .i64 x.k) ∧ w8.cell? ⟨w.heap.size, 1, none⟩ = some (.string x.s) ∧ w8.cell? ⟨w.heap.size, 2, none⟩ = some (.int .i64 x.a) := ⟨HX8.out.cell 0, HX8.out.cell 1, HX8.out.cell 2⟩
    have yl := HX8.out.lt
    obtain ⟨b0, b1, b2, bl⟩ : w8.cell? ⟨pb, 0, none⟩ = some (.slice A6 (z.l.length + 1) c6) ∧ w8.cell? ⟨pb, 1, none⟩ = some (.pointer (some ⟨ps z.t, 0, none⟩)) ∧ w8.cell? ⟨pb, 2, none⟩ = some (.map (some bm)) ∧ pb < w8.heap.size := ⟨HG8.out.blk.cell 0, HG8.out.blk.cell 1, HG8.out.blk.cell 2, HG8.out.blk.lt⟩
    have hnk0 := ndX_kind HX.out H4.out (dep z.l z.t + 1)
    rw [HND.out] at hnk0
    have hnkk : nk = (if x.k = 3 then opK (bt x.s 0) else if x.k = 5 then 6 else x.k) := hnk0
    have HNKK := Lib.hid hnkk
    clear hnkk hnk0
    by_cases h3 : x.k = 3
    · have H3 := Lib.hid h3
      rw [h3] at y0
      go_wp2_with fail
      have r0 := Bw.rd b2
      have r1 := Bw.rd y2
      have hne : Nonempty (Cl (Bw w8)) := ⟨⟨_, Bw.start w8⟩⟩
      refine wp_region_stages [0, 0, 0, 0, 0, 0, 1] 0 (fun w' => ∃ y : Cl (Bw w8), w' = y.W) (by kernel_rfl) (by kernel_rfl) ⟨⟨_, Bw.start w8⟩, rfl⟩ ?_
      simp only [Stage.stages, Stage.pickC, Nat.reduceBEq, Nat.reduceMul, Nat.reduceAdd, cond_true, cond_false, List.map_cons, List.map_nil]
      refine stage_last ?_
      repeat (go_big_quiet_step (fail))
      refine wpQuiet_nil ?_
      clear r0 r1 hne b0 b1 b2 bl y0 y1 y2 yl
      refine wpList_mapUpdate_own _ rfl _ _ _ 84 rfl 3 4 (Maps.int_keyed Tryz.underlying3) Tryz.underlying84 _ bm z.l.length D rfl HG8.out.map (by unfold maxLen; omega) _ _ _ rfl rfl (keyInt x.a (key_wf HX.out)) _ [] (plainElem_bool Tryz.underlying4 true) ?_
      intro w9 hown9 hgr9
      have HGD : PzG w8.drew B pb bm (.slice A6 (z.l.length + 1) c6) (ptr (ps z.t)) (z.l ++ [⟨dep z.l z.t + 1, nk, ns⟩]) (z.l ++ [⟨dep z.l z.t + 1, nk, ns⟩]) (z.l.length + 1) (atz (z.q ++ [x.a])) (upd ps (z.l.length + 1) p) (upd (upd vs z.t v8) (z.l.length + 1) (.slice none 0 0)) z.l.length D := ⟨HG8.out.blk, HG8.out.row, HG8.out.fo.drew, HG8.out.map⟩
      have h9 := HGD.put hown9 hgr9
      have HB9 := Lib.hid (HB8.out.drew.grown hgr9 (show B ≤ w8.drew.heap.size from Nat.le_trans hB HB8.out.size) (fun g hg => by injection hg with hg; have := H.out.mbase; omega))
      have HG9 := Lib.hid h9
      obtain ⟨b0, b1, b2, bl⟩ : w9.cell? ⟨pb, 0, none⟩ = some (.slice A6 (z.l.length + 1) c6) ∧ w9.cell? ⟨pb, 1, none⟩ = some (.pointer (some ⟨ps z.t, 0, none⟩)) ∧ w9.cell? ⟨pb, 2, none⟩ = some (.map (some bm)) ∧ pb < w9.heap.size := ⟨h9.blk.cell 0, h9.blk.cell 1, h9.blk.cell 2, h9.blk.lt⟩
      have bf := h9.blk.frozen
      have hpp : upd ps (z.l.length + 1) p (z.l.length + 1) = p := upd_self _ _ _
      obtain ⟨_, e1, _, _, _, _, el⟩ := h9.fo.cells (Nat.le_refl (z.l.length + 1))
      rw [hpp, knd_succ HKAT.out] at e1
      rw [hpp] at el
      have hop : 3 ≤ nk ∧ nk ≤ 5 := by rw [HNKK.out, if_pos H3.out]; unfold opK; split; omega; split <;> omega
      have hhl : (decide (nk = -1) || inB nk 3 6) = true := by rw [inB_true.2 ⟨hop.1, by omega⟩, Bool.or_true]
      have HHO := Lib.hid (holds_any p nk w9 e1)
      rw [hhl] at HHO
      unfold ptr at HHO
      have HG8M := Lib.hid HG8.out.map.isMap
      clear hown9 hgr9 HGD h9 e1 hhl HG8 HX8
      go_wp2_with fail
      refine HHO.out.mono ?_
      rintro e w10 ⟨rfl, rfl⟩
      go_wp2_with fail
      go_end0
      refine AddP.fin HOK.out HX.out H4.out HA.out (Int.not_lt.2 HD.out) (HND.out _) HG9.out (Nat.le_refl _) H.out.base H.out.mbase (by rw [if_pos hop.1]) (by rw [hpp]; rfl) (fun a => ?_) HB9.out
      by_cases e : a = x.a
      · subst e
        rw [Maps.has_put_same HG8M.out (isKey_int x.a)]
        simp [H3.out]
      · rw [Maps.has_put_other (fun e2 => e (by injection e2)), H.out.has a]
        simp [e]
    · have h3b : (x.k == 3) = false := by simpa using h3
      have H3 := Lib.hid h3
      have HB9 := HB8
      have HG9 := HG8
      have bf := HG9.out.blk.frozen
      have hpp : upd ps (z.l.length + 1) p (z.l.length + 1) = p := upd_self _ _ _
      obtain ⟨_, e1, _, _, _, _, el⟩ := HG9.out.fo.cells (Nat.le_refl (z.l.length + 1))
      rw [hpp, knd_succ HKAT.out] at e1
      rw [hpp] at el
      have HHO := Lib.hid (holds_any p nk w8 e1)
      clear HG8 h3 e1
      unfold ptr at HHO
      by_cases h5 : x.k = 5
      · have hnk6 : nk = 6 := by rw [HNKK.out, if_neg H3.out, if_pos h5]
        have hhl : (decide (nk = -1) || inB nk 3 6) = true := by rw [hnk6]; rfl
        rw [hhl] at HHO
        have H5 := Lib.hid h5
        have HN6 := Lib.hid hnk6
        clear h5 hnk6 hhl
        go_wp2_with fail
        refine HHO.out.mono ?_
        rintro e w10 ⟨rfl, rfl⟩
        go_wp2_with fail
        go_end0
        refine AddP.fin HOK.out HX.out H4.out HA.out (Int.not_lt.2 HD.out) (HND.out _) HG9.out (Nat.le_succ _) H.out.base H.out.mbase (by rw [if_pos (by show 3 ≤ nk; rw [HN6.out]; omega)]) (by rw [hpp]; rfl) (fun a => ?_) HB9.out
        rw [H.out.has a]
        simp [H5.out]
      · have hbd := HX.out.bd
        have hnk2 : nk = x.k ∧ x.k ≤ 2 := by
          have h4 := H4.out; have h3 := H3.out
          exact ⟨by rw [HNKK.out, if_neg h3, if_neg h5], by omega⟩
        have hhl : (decide (nk = -1) || inB nk 3 6) = false := by
          rw [Bool.or_eq_false_iff]
          refine ⟨by simp; omega, ?_⟩
          cases e : inB nk 3 6
          · rfl
          · have := inB_true.1 e; omega
        rw [hhl] at HHO
        have HN2 := Lib.hid hnk2
        clear h5 hnk2 hhl hbd
        go_wp2_with fail
        refine HHO.out.mono ?_
        rintro e w10 ⟨rfl, rfl⟩
        have hup : upd ps (z.l.length + 1) p z.t = ps z.t := upd_ne (by have := HOK.out.tip; omega)
        have hun := unquoted_any HG9.out.fo z.t (by have := HOK.out.tip; omega)
        rw [hup, unq_app z.t HOK.out.tip] at hun
        have HUN := Lib.hid hun
        unfold ptr at HUN
        clear hun
        go_wp2_with fail
        refine HUN.out.mono ?_
        rintro e w11 ⟨rfl, rfl⟩
        go_wp2_with fail
        go_end0
        refine AddP.fin HOK.out HX.out H4.out HA.out (Int.not_lt.2 HD.out) (HND.out _) HG9.out (Nat.le_succ _) H.out.base H.out.mbase (by rw [if_neg (by show ¬ 3 ≤ nk; have := HN2.out; omega)]) rfl (fun a => ?_) HB9.out
        rw [H.out.has a]
        simp [H3.out]

end Go.Proofs.YthjkgbcomjiejaaGreatDoor
