/-
  The parser takes a closing bracket.
-/
import Derived.Test.YthjkgbcomjiejaaGreatDoorKk42
namespace Go.Proofs.YthjkgbcomjiejaaGreatDoor
open Go.RowKit
set_option linter.unusedVariables false

/-- what stands behind the first byte of a mark. -/
def mk2 (k : Int) : ByteArray := (mkS k).extract 1 (mkS k).size
theorem mk2_is {x : Lx} (hx : LxGd x) (h4 : x.k = 4) {k : Int} (h3 : 3 ≤ k) (h6 : k ≤ 6) : ((mk2 k).toList == x.s.toList) = decide (shI k = (bt x.s 0 : Int)) := by
  have h1 := hx.one (by omega)
  have hb := one_byte h1
  obtain ⟨c, hc⟩ : ∃ c : UInt8, x.s[0] = c := ⟨_, rfl⟩
  rw [hc] at hb
  rw [hb, bt_one]
  have key : ∀ d : UInt8, ((⟨#[d]⟩ : ByteArray).toList == (⟨#[c]⟩ : ByteArray).toList) = decide ((d.toNat : Int) = (c.toNat : Int)) := by
    intro d
    by_cases e : d = c
    · subst e; simp
    · rw [decide_eq_false (fun h => e (UInt8.toNat_inj.1 (by omega)))]
      refine toList_ne fun h => e ?_
      have := congrArg (fun b => bt b 0) h
      simp only [bt_one] at this
      exact (UInt8.toNat_inj.1 this).symm
  obtain rfl | rfl | rfl | rfl : k = 3 ∨ k = 4 ∨ k = 5 ∨ k = 6 := by omega
  · rw [show mk2 3 = ⟨#[41]⟩ by kernel_rfl, key]; rfl
  · rw [show mk2 4 = ⟨#[93]⟩ by kernel_rfl, key]; rfl
  · rw [show mk2 5 = ⟨#[125]⟩ by kernel_rfl, key]; rfl
  · rw [show mk2 6 = ByteArray.empty by kernel_rfl, decide_eq_false (by show ¬ (-1 : Int) = _; omega)]
    refine toList_ne fun h => ?_
    have := congrArg ByteArray.size h
    exact absurd this (by show ¬ (1 : Nat) = 0; omega)
theorem mkS_size {k : Int} (h3 : 3 ≤ k) (h6 : k ≤ 6) : 1 ≤ (mkS k).size := by
  obtain rfl | rfl | rfl | rfl : k = 3 ∨ k = 4 ∨ k = 5 ∨ k = 6 := by omega
  all_goals decide +kernel
theorem AddP.shutFin {w w9 : World} {B : Nat} {z : Pz} {x : Lx} {pb bm t : Nat} {vL tp v : Value} {ps : Nat → Nat} {vs : Nat → Value} {D : DU} (hok : PzOk z) (hq : z.q.Pairwise (· < ·)) (h4 : x.k = 4) (hs : shI (knd z.l z.t) = (bt x.s 0 : Int)) (hw : whl z.l z.t z.l.length = true) (ht : z.t = t + 1) (h6 : knd z.l z.t ≠ 6)
    (hh : ∀ a : Int, Maps.has D (.int .i64 a) = true ↔ a ∈ opq z)
    (h : PzG w9 B pb bm vL tp z.l z.l z.l.length (atz z.q) ps vs z.l.length (D.del (.int .i64 (z.q.getD t 0)))) (h1 : B ≤ pb) (h2 : B ≤ bm) (hv : v = ptr (ps (unq z.l (par z.l t))))
    (hb : Below B w w9) : AddP w B z x pb bm (.returned (.tuple #[])) (w9.setCell ⟨pb, 1, none⟩ v) := by
  subst hv
  have hst : stepZ z x = .ok ⟨z.l, z.q, unq z.l (par z.l t)⟩ := by
    unfold stepZ
    rw [if_pos h4, if_pos hs, if_pos hw, ht]
    rfl
  have hg := h.tip (ptr (ps (unq z.l (par z.l t))))
  refine AddP.good (vL := vL) (ps := ps) (vs := vs) (D := D.del (.int .i64 (z.q.getD t 0))) hst ⟨hg.blk, h1, hg.row, hg.fo, hg.map, h2, fun a => ?_⟩ (hb.setCell (p := ⟨pb, 1, none⟩) h1 _)
  have e1 : opq z = opl z.l z.q (par z.l t) ++ [z.q.getD t 0] := by
    unfold opq
    rw [ht] at h6 ⊢
    exact opl_yes h6
  have e2 : opq ⟨z.l, z.q, unq z.l (par z.l t)⟩ = opl z.l z.q (par z.l t) := opl_unq _ _ _
  have htq : t < z.q.length := by have := hok.tip; have := hok.len; omega
  rw [e2]
  by_cases e : a = z.q.getD t 0
  · subst e
    rw [Maps.has_del_same]
    simp only [Bool.false_eq_true, false_iff]
    intro hm
    have := opl_top hq htq hm
    omega
  · rw [Maps.has_del_other (fun e2 => e (by injection e2)), hh a, e1, List.mem_append, List.mem_singleton]
    exact ⟨fun h => h.resolve_right e, .inl⟩
set_option maxHeartbeats 4000000 in
set_option maxRecDepth 100000 in
theorem shut_any {w : World} {B : Nat} {z : Pz} {pb bm : Nat} {vL : Value} {ps : Nat → Nat} {vs : Nat → Value} {D : DU} (h : PzM w B z pb bm vL ps vs D) (hok : PzOk z) (x : Lx) (hx : LxGd x) (h4 : x.k = 4) (hB : B ≤ w.heap.size) (h200 : z.l.length ≤ 200) (hq : z.q.Pairwise (· < ·)) (hq0 : ∀ a ∈ z.q, 0 ≤ a ∧ a < 2000) :
    Calls Tryz.prog 59 #[ptr pb, .agg #[.int .i64 x.k, .string x.s, .int .i64 x.a]] w (AddP w B z x pb bm) := by
  have H := Lib.hid h
  have HOK := Lib.hid hok
  have HX := Lib.hid hx
  have H4 := Lib.hid h4
  have HQ := Lib.hid hq
  have HQ0 := Lib.hid hq0
  have hbx := (Below.refl w.heap.size w).alloc (Nat.le_refl _) (.cells #[.int .i64 x.k, .string x.s, .int .i64 x.a] 51)
  have hxb := BlkL.new w 51 [.int .i64 x.k, .string x.s, .int .i64 x.a]
  have H0 := Lib.hid (h.below hbx)
  have HB0 := Lib.hid hbx
  have hkd : knd z.l z.t = -1 ∨ (3 ≤ knd z.l z.t ∧ knd z.l z.t ≤ 6) := by
    have := hok.hold
    unfold hld at this
    rw [Bool.or_eq_true] at this
    rcases this with h | h
    · exact .inl (by simpa using h)
    · exact .inr (inB_true.1 h)
  obtain ⟨c0, c1, c2, cl⟩ := h.cells
  obtain ⟨d0, d1, d2, d3, d4, d5, dl⟩ := h.fo.cells hok.tip
  unfold ptr at c1
  obtain ⟨kd, hkn⟩ : ∃ kd, knd z.l z.t = kd := ⟨_, rfl⟩
  rw [hkn] at d1 hkd
  have HKN := Lib.hid hkn
  clear hok hx h4 hq hq0 h hbx hkn
  unfold ptr
  go_enter Tryz.func59, Tryz.ntmps59
  go_wp2_with fail
  refine (marksOf_any kd _).mono ?_
  have HX1 := Lib.hid hxb
  clear hxb c0 c1 c2 cl d0 d1 d2 d3 d4 d5 dl
  change ∀ e w', _ ∧ (w.alloc (.cells #[.int .i64 x.k, .string x.s, .int .i64 x.a] 51)) = w' → _
  generalize w.alloc (.cells #[.int .i64 x.k, .string x.s, .int .i64 x.a] 51) = w1 at *
  rintro e w1' ⟨rfl, rfl⟩
  obtain ⟨c0, c1, c2, cl⟩ := H0.out.cells
  obtain ⟨d0, d1, d2, d3, d4, d5, dl⟩ := H0.out.fo.cells HOK.out.tip
  unfold ptr at c1
  rw [HKN.out] at d1
  obtain ⟨x0, x1, x2⟩ : w1.cell? ⟨w.heap.size, 0, none⟩ = some (.int .i64 x.k) ∧ w1.cell? ⟨w.heap.size, 1, none⟩ = some (.string x.s) ∧ w1.cell? ⟨w.heap.size, 2, none⟩ = some (.int .i64 x.a) := ⟨HX1.out.cell 0, HX1.out.cell 1, HX1.out.cell 2⟩
  have xl := HX1.out.lt
  rcases hkd with hkd | ⟨hk3, hk6⟩
  · subst hkd
    have HST := Lib.hid (show stepZ z x = .error (2, x.a) by
      unfold stepZ
      rw [if_pos H4.out, HKN.out, if_neg (by show ¬ (-1 : Int) = _; omega)])
    rw [show mkS (-1) = ByteArray.empty from rfl]
    have hem : (ByteArray.empty.toList == []) = true := by simp
    go_wp2_with fail
    have r1 := Bw.rd x1
    refine wp_region_class (Bw w1) (by kernel_rfl) (by kernel_rfl) (Bw.start w1) (fun hne => ?_)
    repeat (go_big_quiet_step (fail))
    refine wpQuiet_nil ?_
    rintro w2 ⟨y, rfl⟩
    have hy := Lib.hid y.ok
    generalize y.W = w2 at *
    clear r1
    have H2 := Lib.hid (H0.out.below hy.out)
    have HX2 := Lib.hid (HX1.out.below hy.out HX1.out.lt)
    have HB2 := Lib.hid (HB0.out.trans (hy.out.mono HB0.out.size))
    clear c0 c1 c2 cl d0 d1 d2 d3 d4 d5 dl x0 x1 x2 xl
    obtain ⟨c0, c1, c2, cl⟩ := H2.out.cells
    obtain ⟨d0, d1, d2, d3, d4, d5, dl⟩ := H2.out.fo.cells HOK.out.tip
    unfold ptr at c1
    obtain ⟨x0, x1, x2⟩ : w2.cell? ⟨w.heap.size, 0, none⟩ = some (.int .i64 x.k) ∧ w2.cell? ⟨w.heap.size, 1, none⟩ = some (.string x.s) ∧ w2.cell? ⟨w.heap.size, 2, none⟩ = some (.int .i64 x.a) := ⟨HX2.out.cell 0, HX2.out.cell 1, HX2.out.cell 2⟩
    have xl := HX2.out.lt
    go_wp2_with fail
    exact ⟨rfl, AddP.bad HST.out (HB2.out.mono hB)⟩
  · have hne : ((mkS kd).toList == []) = false := by rw [mkS_toList, inB_true.2 ⟨hk3, hk6⟩]; rfl
    have hsz := mkS_size hk3 hk6
    have hd1 : decide ((1 : Int) ≤ ((mkS kd).size : Int)) = true := by simp; omega
    have hm2 : (mkS kd).extract 1 (mkS kd).size = mk2 kd := rfl
    have HM2 := Lib.hid (mk2_is HX.out H4.out hk3 hk6)
    by_cases he : shI kd = (bt x.s 0 : Int)
    · have hq : ((mk2 kd).toList == x.s.toList) = true := by rw [HM2.out]; exact decide_eq_true he
      have HE := Lib.hid he
      have hkw := Lib.hid (wholeQ_any H0.out.fo z.t HOK.out.tip (by omega))
      clear he hkw
      go_wp2_with fail
      have r1 := Bw.rd x1
      refine wp_region_class (Bw w1) (by kernel_rfl) (by kernel_rfl) (Bw.start w1) (fun hne => ?_)
      repeat (go_big_quiet_step (fail))
      refine wpQuiet_nil ?_
      rintro w2 ⟨y, rfl⟩
      have hy := Lib.hid y.ok
      generalize y.W = w2 at *
      clear r1
      have H2 := Lib.hid (H0.out.below hy.out)
      have HX2 := Lib.hid (HX1.out.below hy.out HX1.out.lt)
      have HB2 := Lib.hid (HB0.out.trans (hy.out.mono HB0.out.size))
      clear c0 c1 c2 cl d0 d1 d2 d3 d4 d5 dl x0 x1 x2 xl
      obtain ⟨c0, c1, c2, cl⟩ := H2.out.cells
      obtain ⟨d0, d1, d2, d3, d4, d5, dl⟩ := H2.out.fo.cells HOK.out.tip
      unfold ptr at c1
      obtain ⟨x0, x1, x2⟩ : w2.cell? ⟨w.heap.size, 0, none⟩ = some (.int .i64 x.k) ∧ w2.cell? ⟨w.heap.size, 1, none⟩ = some (.string x.s) ∧ w2.cell? ⟨w.heap.size, 2, none⟩ = some (.int .i64 x.a) := ⟨HX2.out.cell 0, HX2.out.cell 1, HX2.out.cell 2⟩
      have xl := HX2.out.lt
      go_wp2_with fail
      refine (wholeQ_any H2.out.fo z.t HOK.out.tip (by omega)).mono ?_
      rintro e w3 ⟨rfl, rfl⟩
      cases hw : whl z.l z.t z.l.length
      · have HST := Lib.hid (show stepZ z x = .error (5, x.a) by
          unfold stepZ
          rw [if_pos H4.out, HKN.out, if_pos HE.out, if_neg (by rw [hw]; simp)])
        clear hw
        go_wp2_with fail
        exact ⟨rfl, AddP.bad HST.out (HB2.out.mono hB)⟩
      · have HW := Lib.hid hw
        clear hw
        go_wp2_with fail
        obtain ⟨t, ht⟩ : ∃ t, z.t = t + 1 := ⟨z.t - 1, by
          have h0 : z.t ≠ 0 := fun e => by have := HKN.out; rw [e, knd_zero] at this; omega
          omega⟩
        have HT := Lib.hid ht
        have htq : t < z.q.length := by have := HOK.out.tip; have := HOK.out.len; omega
        have hak : (Lit.int .i64 (z.q.getD t 0)).wf = true := WalkArith.wf_i64 (by have := HQ0.out _ (getD_mem htq); omega)
        have d3' : w2.cell? ⟨ps z.t, 3, none⟩ = some (.int .i64 (z.q.getD t 0)) := by rw [d3, ht]; rfl
        have d4' : w2.cell? ⟨ps z.t, 4, none⟩ = some (.pointer (some ⟨ps (par z.l t), 0, none⟩)) := by rw [d4, ht]; rfl
        obtain ⟨a0, ha0⟩ : ∃ a0, z.q.getD t 0 = a0 := ⟨_, rfl⟩
        rw [ha0] at d3' hak
        have HA0 := Lib.hid ha0
        have r0 := Bw.rd c1
        have r1 := Bw.rd c2
        have r2 := Bw.rd d3'
        clear ha0 ht
        have hne : Nonempty (Cl (Bw w2)) := ⟨⟨_, Bw.start w2⟩⟩
        refine wp_region_stages [0, 0, 0, 0, 0, 0, 0, 0, 0, 0, 0, 1] 0 (fun w' => ∃ y : Cl (Bw w2), w' = y.W) (by kernel_rfl) (by kernel_rfl) ⟨⟨_, Bw.start w2⟩, rfl⟩ ?_
        simp only [Stage.stages, Stage.pickC, Nat.reduceBEq, Nat.reduceMul, Nat.reduceAdd, cond_true, cond_false, List.map_cons, List.map_nil]
        refine stage_last ?_
        repeat (go_big_quiet_step (fail))
        refine wpQuiet_nil ?_
        clear r0 r1 r2 hne c0 c1 c2 cl d0 d1 d2 d3 d4 d5 dl d3' d4' x0 x1 x2 xl
        refine wpList_delete_own _ rfl _ _ 84 3 rfl 4 (Maps.int_keyed Tryz.underlying3) Tryz.underlying84 _ bm z.l.length D rfl H2.out.map _ _ rfl (keyInt _ hak) ?_
        intro w3 hown3 hturn3
        have HGD : PzG w2.drew B pb bm vL (ptr (ps z.t)) z.l z.l z.l.length (atz z.q) ps vs z.l.length D := H2.out.drew.g
        have h3 := HGD.put hown3 hturn3.grown
        have HB3 := Lib.hid ((HB2.out.mono hB).drew.grown hturn3.grown (show B ≤ w2.drew.heap.size from Nat.le_trans hB HB2.out.size) (fun g hg => by injection hg with hg; have := H.out.mbase; omega))
        have HG3 := Lib.hid h3
        obtain ⟨b0, b1, b2, bl⟩ : w3.cell? ⟨pb, 0, none⟩ = some vL ∧ w3.cell? ⟨pb, 1, none⟩ = some (.pointer (some ⟨ps z.t, 0, none⟩)) ∧ w3.cell? ⟨pb, 2, none⟩ = some (.map (some bm)) ∧ pb < w3.heap.size := ⟨h3.blk.cell 0, h3.blk.cell 1, h3.blk.cell 2, h3.blk.lt⟩
        have bf := h3.blk.frozen
        obtain ⟨_, _, _, _, e4, _, el⟩ := h3.fo.cells HOK.out.tip
        have e4' : w3.cell? ⟨ps z.t, 4, none⟩ = some (.pointer (some ⟨ps (par z.l t), 0, none⟩)) := by rw [e4, HT.out]; rfl
        have hpl := par_le z.l t
        have hun := unquoted_any h3.fo (par z.l t) (by have := HOK.out.tip; have := HT.out; omega)
        have HUN := Lib.hid hun
        unfold ptr at HUN
        clear hown3 hturn3 HGD h3 hun e4
        go_wp2_with fail
        refine HUN.out.mono ?_
        rintro e w4 ⟨rfl, rfl⟩
        go_wp2_with fail
        go_end0
        refine AddP.shutFin (t := t) (D := D) HOK.out HQ.out H4.out (by rw [HKN.out]; exact HE.out) HW.out HT.out (fun e6 => ?_) H.out.has (by rw [HA0.out]; exact HG3.out) H.out.base H.out.mbase rfl HB3.out
        have h1 := HE.out
        rw [HKN.out] at e6
        rw [e6] at h1
        have h2 : (-1 : Int) = (bt x.s 0 : Int) := h1
        omega
    · have hq : ((mk2 kd).toList == x.s.toList) = false := by rw [HM2.out]; exact decide_eq_false he
      have HST := Lib.hid (show stepZ z x = .error (2, x.a) by
        unfold stepZ
        rw [if_pos H4.out, HKN.out, if_neg he])
      clear he
      go_wp2_with fail
      have r1 := Bw.rd x1
      refine wp_region_class (Bw w1) (by kernel_rfl) (by kernel_rfl) (Bw.start w1) (fun hne => ?_)
      repeat (go_big_quiet_step (fail))
      refine wpQuiet_nil ?_
      rintro w2 ⟨y, rfl⟩
      have hy := Lib.hid y.ok
      generalize y.W = w2 at *
      clear r1
      have H2 := Lib.hid (H0.out.below hy.out)
      have HX2 := Lib.hid (HX1.out.below hy.out HX1.out.lt)
      have HB2 := Lib.hid (HB0.out.trans (hy.out.mono HB0.out.size))
      clear c0 c1 c2 cl d0 d1 d2 d3 d4 d5 dl x0 x1 x2 xl
      obtain ⟨c0, c1, c2, cl⟩ := H2.out.cells
      obtain ⟨d0, d1, d2, d3, d4, d5, dl⟩ := H2.out.fo.cells HOK.out.tip
      unfold ptr at c1
      obtain ⟨x0, x1, x2⟩ : w2.cell? ⟨w.heap.size, 0, none⟩ = some (.int .i64 x.k) ∧ w2.cell? ⟨w.heap.size, 1, none⟩ = some (.string x.s) ∧ w2.cell? ⟨w.heap.size, 2, none⟩ = some (.int .i64 x.a) := ⟨HX2.out.cell 0, HX2.out.cell 1, HX2.out.cell 2⟩
      have xl := HX2.out.lt
      go_wp2_with fail
      exact ⟨rfl, AddP.bad HST.out (HB2.out.mono hB)⟩
end Go.Proofs.YthjkgbcomjiejaaGreatDoor
