/-
  PartOf on both sides.
-/
import Derived.Test.YtjdpakjnklfhhaaDoorTrw
import Derived.Test.YtjdpakjnklfhhaaDoorTrj
namespace Go.Proofs.YtjdpakjnklfhhaaDoor
open Go.RowKit
set_option linter.unusedVariables false

/-- what PartOf tells. -/
noncomputable def pts (l : List Nd) (k : Int) : List Nd := if treB l = true ∧ inB k 0 ((l.length : Int) - 1) = true then prt (dep l (k.toNat + 1)) l (k.toNat + 1) (endp l (k.toNat + 1)) else []
theorem pts_no {l : List Nd} {k : Int} (h : treB l = false ∨ inB k 0 ((l.length : Int) - 1) = false) : pts l k = [] := by
  unfold pts
  rw [if_neg]
  rintro ⟨h1, h2⟩
  rcases h with h | h
  · rw [h] at h1; cases h1
  · rw [h] at h2; cases h2
theorem pts_yes {l : List Nd} {i : Nat} (h1 : treB l = true) (h2 : i < l.length) : pts l (i : Int) = prt (dep l (i + 1)) l (i + 1) (endp l (i + 1)) := by
  unfold pts
  rw [if_pos ⟨h1, inB_true.2 (by omega)⟩, show ((i : Int)).toNat = i by omega]
theorem pts_le (l : List Nd) (k : Int) : (pts l k).length ≤ 200 := by
  unfold pts
  split
  · rename_i h
    have hl := (treB_ok h.1).len
    have hk := inB_true.1 h.2
    have h1 := prt_len' (D := dep l (k.toNat + 1)) (l := l) (a := k.toNat + 1) (b := endp l (k.toNat + 1)) (by omega)
    have h2 := endp_le (l := l) (i := k.toNat + 1) (by omega)
    omega
  · simp
/-- nodes of a call's own. -/
def NdsOut (w : World) (xs : List Nd) (e : Ending) (w' : World) : Prop := ∃ v, e = .returned v ∧ w'.ownsRow w.heap.size 58 3 v xs.length (fl fn xs) ∧ Below w.heap.size w w'
theorem nds_nil (w w' : World) (hb : Below w.heap.size w w') : NdsOut w [] (.returned (.slice none 0 0)) w' := ⟨_, rfl, ⟨rfl, .inl ⟨rfl, rfl⟩⟩, hb⟩
set_option maxHeartbeats 2000000 in
set_option maxRecDepth 100000 in
theorem PartOf_out (A : Option Addr) (l : List Nd) (n c : Nat) (k : Int) (w : World) (hn : l.length = n) (hm : n ≤ 2097152) (hl : NS w A l) (hg : ErrV w) (hkw : (Lit.int .i64 k).wf = true) :
    Calls Tryd.prog 22 #[.slice A n c, .int .i64 k] w (NdsOut w (pts l k)) := by
  have HN := Lib.hid hn
  have HL := Lib.hid hl
  go_enter Tryd.func22, Tryd.ntmps22
  go_wp2_with fail
  have hX0 := BlkL.new w 25 [.slice A n c]
  have hX1 := hX0.alloc (.cells #[.int .i64 k] 3)
  have hY1 := BlkL.new (w.alloc (.cells #[.slice A n c] 25)) 3 [.int .i64 k]
  rw [show (w.alloc (.cells #[.slice A n c] 25)).heap.size = w.heap.size + 1 by simp] at hY1
  have hB1 := ((Below.refl w.heap.size w).alloc (Nat.le_refl _) (.cells #[.slice A n c] 25)).alloc (by simp) (.cells #[.int .i64 k] 3)
  change BlkL ((w.alloc (.cells #[.slice A n c] 25)).alloc (.cells #[.int .i64 k] 3)) _ _ _ at hX1
  change BlkL ((w.alloc (.cells #[.slice A n c] 25)).alloc (.cells #[.int .i64 k] 3)) _ _ _ at hY1
  have hz1 : ((w.alloc (.cells #[.slice A n c] 25)).alloc (.cells #[.int .i64 k] 3)).heap.size = w.heap.size + 1 + 1 := by simp
  generalize (w.alloc (.cells #[.slice A n c] 25)).alloc (.cells #[.int .i64 k] 3) = w1 at *
  clear hX0
  refine (planted_any A l n c w1 hn hm (hl.below hB1) (hg.belowB hB1 hg.pos)).mono ?_
  rintro e w2 ⟨hb, h⟩
  have hX2 := hX1.below hb hX1.lt
  have hY2 := hY1.below hb hY1.lt
  have HB2 := Lib.hid (hB1.trans (hb.mono hB1.size))
  have hz2 := hb.size
  have HX2 := Lib.hid hX2
  have HY2 := Lib.hid hY2
  have y0 : w2.cell? ⟨w.heap.size + 1, 0, none⟩ = some (.int .i64 k) := (hY2.cell 0).trans rfl
  have yl := hY2.lt
  clear hX1 hY1 hB1 hX2 hY2 hb hl hg hn
  rcases h with ⟨h0, rfl⟩ | ⟨ht, g, c1, ps, vs, rfl, hfo, hgl, hc⟩
  · have HI := Lib.hid (pts_no (k := k) (.inl h0))
    have hq : inB k 0 (-2) = false := by
      cases e : inB k 0 (-2)
      · rfl
      · have := inB_true.1 e; omega
    clear h0
    go_wp2_with (go_at_call 50; refine (within_any _ _ _ _).mono ?_; rintro e w' ⟨rfl, rfl⟩; rw [hq])
    go_ret
    rw [HI.out]
    exact nds_nil _ _ HB2.out
  have HT := Lib.hid ht
  have HF := Lib.hid hfo
  have HC := Lib.hid hc
  have hlen := ht.len
  clear ht hfo hc
  obtain ⟨m, hm1⟩ : ∃ m, l.length = m := ⟨_, rfl⟩
  have hmn : m = n := by have := HN.out; omega
  rw [hm1] at HF hlen HC ⊢
  have HM := Lib.hid hm1
  have hm2 : ((m : Int) + 1 - 2) = (m : Int) - 1 := by omega
  clear hm1
  cases hq : inB k 0 ((m : Int) - 1)
  · have HI := Lib.hid (pts_no (l := l) (k := k) (.inr (by rw [HM.out]; exact hq)))
    clear hmn
    go_wp2_with (go_at_call 50; refine (within_any _ _ _ _).mono ?_; rintro e w' ⟨rfl, rfl⟩; first | rw [hq] | rw [hm2, hq])
    go_ret
    rw [HI.out]
    exact nds_nil _ _ HB2.out
  · have hk := inB_true.1 hq
    obtain ⟨i, hi⟩ : ∃ i : Nat, k = (i : Int) := ⟨k.toNat, by omega⟩
    have him : i < m := by omega
    have HI := Lib.hid (show pts l k = prt (dep l (i + 1)) l (i + 1) (endp l (i + 1)) by rw [hi, pts_yes (treB_yes HT.out) (by rw [HM.out]; exact him)])
    subst hi
    have HQ := Lib.hid hq
    have ci := HC.out (i + 1) (by omega)
    unfold ptr at ci
    have HMN := Lib.hid hmn
    clear hq hmn hk
    have hb3 := (Below.refl w2.heap.size w2).alloc (Nat.le_refl _) (.cells #[.slice none 0 0] 25)
    have hZ3 := BlkL.new w2 25 [.slice none 0 0]
    change BlkL (w2.alloc (.cells #[.slice none 0 0] 25)) _ _ _ at hZ3
    have hz3 : (w2.alloc (.cells #[.slice none 0 0] 25)).heap.size = w2.heap.size + 1 := by simp
    have HWK := Lib.hid (show Wk (w2.heap.size + 1) w.heap.size (w.heap.size + 1) w2.heap.size l m i (dep l (i + 1)) ps vs A c w1.heap.size (w2.alloc (.cells #[.slice none 0 0] 25)) from
      { fo := HF.out.below hb3
        len := HM.out
        n200 := hlen
        up := HT.out.upTo
        hH := hz3
        x2 := by rw [HMN.out]; exact HX2.out.below hb3 HX2.out.lt
        x3 := HY2.out.below hb3 HY2.out.lt
        x6 := ⟨_, hZ3⟩
        n2 := by omega
        n3 := by omega
        ns := HL.out.below (HB2.out.trans (hb3.mono HB2.out.size))
        nsb := fun b hb => by
          have := RS.low HL.out (by have := HM.out; omega) b hb
          omega
        hk0 := him
        hD := rfl })
    have HGT := Lib.hid (show Gat (w2.heap.size + 1) w2.heap.size (w2.alloc (.cells #[.slice none 0 0] 25)) [] from ⟨_, hZ3, ⟨rfl, .inl ⟨rfl, rfl⟩⟩⟩)
    have HB3 := Lib.hid (HB2.out.trans (hb3.mono HB2.out.size))
    clear hb3 hZ3
    go_wp2_with (go_at_call 50; refine (within_any _ _ _ _).mono ?_; rintro e w' ⟨rfl, rfl⟩; first | rw [HQ.out] | rw [hm2, HQ.out])
    have hcall := walk_any HWK.out (m - (i + 1)) (i + 1) (by omega) (by omega) (Nat.le_refl _) _ (Ot.refl _ _ _) [] HGT.out (by simp)
    unfold ptr at hcall
    go_wp2_with fail
    refine hcall.mono ?_
    rintro e w4 ⟨rfl, ho4, v, hv4, hown4⟩
    rw [List.nil_append] at hown4
    obtain ⟨A4, c4, rfl⟩ := own_slice hown4
    have q6 : w4.cell? ⟨w2.heap.size, 0, none⟩ = some (.slice A4 (prt (dep l (i + 1)) l (i + 1) (endp l (i + 1))).length c4) := (hv4.cell 0).trans rfl
    have q6l := hv4.lt
    have HOW := Lib.hid (own_low' hown4 (show w.heap.size ≤ w2.heap.size + 1 by omega))
    have HB4 := Lib.hid (show Below w.heap.size w w4 from HB3.out.trans ⟨ho4.os, ho4.tape, ho4.output, ho4.size, fun q hq => ho4.block q (by omega) (by omega)⟩)
    clear hcall ho4 hv4 hown4
    go_wp2
    go_ret
    rw [HI.out]
    exact ⟨_, rfl, HOW.out, HB4.out⟩
set_option maxHeartbeats 4000000 in
set_option maxRecDepth 100000 in
theorem sPartOf_out (A : Option Addr) (l : List Nd) (n c : Nat) (k : Int) (w : World) (hn : l.length = n) (hm : n ≤ 2097152) (hl : NS w A l) (hs : ∀ (i : Nat) (x : Nd), l[i]? = some x → x.s.size ≤ 1048576) (hkw : (Lit.int .i64 k).wf = true) :
    Calls Tryd.prog 21 #[.slice A n c, .int .i64 k] w (NdsOut w (pts l k)) := by
  obtain ⟨i0, hi0, hz0, hz1, hz2⟩ := info_parts infoNd
  have HN := Lib.hid hn
  have HL := Lib.hid hl
  go_enter Tryd.func21, Tryd.ntmps21
  go_wp2_with fail
  have hb0 := (Below.refl w.heap.size w).alloc (Nat.le_refl _) (.cells #[] 58)
  have ho0 : (w.alloc (.cells #[] 58)).ownsRow w.heap.size 58 3 (.slice (some ⟨w.heap.size, 0, none⟩) 0 0) 0 (fl fn []) := ⟨rfl, .inr ⟨w.heap.size, 0, #[], rfl, Nat.le_refl _, BlkL.new w 58 [], Nat.le_refl _, by unfold maxLen; omega, rfl, rfl⟩⟩
  generalize w.alloc (.cells #[] 58) = w0 at *
  refine (sTreeOk_any A l n c w0 hn hm (hl.below hb0) hs).mono ?_
  rintro e w1 ⟨rfl, hb⟩
  have HB1 := Lib.hid (hb0.trans (hb.mono hb0.size))
  have HO1 := Lib.hid (own_below ho0 hb)
  clear hb hl hs hb0 ho0 hn
  cases ht : treB l
  · have HI := Lib.hid (pts_no (k := k) (.inl ht))
    clear ht
    go_wp2
    go_ret
    rw [HI.out]
    exact nds_nil _ _ HB1.out
  have HT := Lib.hid ht
  have hlen := (treB_ok ht).len
  clear ht
  cases hq : inB k 0 ((n : Int) - 1)
  · have HI := Lib.hid (pts_no (l := l) (k := k) (.inr (by rw [HN.out]; exact hq)))
    go_wp2_with (go_at_call 44; refine (l01In_any _ _ _ _).mono ?_; rintro e w' ⟨rfl, rfl⟩; rw [hq])
    go_ret
    rw [HI.out]
    exact nds_nil _ _ HB1.out
  have hk := inB_true.1 hq
  obtain ⟨i, hi⟩ : ∃ i : Nat, k = (i : Int) := ⟨k.toNat, by omega⟩
  have hin : i < n := by omega
  have HI := Lib.hid (show pts l k = prt (dep l (i + 1)) l (i + 1) (endp l (i + 1)) by rw [hi, pts_yes HT.out (by rw [HN.out]; exact hin)])
  subst hi
  have HQ := Lib.hid hq
  have hn200 : n ≤ 200 := by have := HN.out; omega
  have HUP := Lib.hid (treB_ok HT.out).upTo
  obtain ⟨xi, bi, oi, hxi, rfl, hbli, _⟩ := HL.out.all (k := i) (by have := HN.out; omega)
  have HXI := Lib.hid hxi
  have HD := Lib.hid (dep_succ hxi)
  have hDb := HUP.out.dep (i := i + 1) (by have := HN.out; omega)
  rw [HD.out] at hDb
  rw [HD.out] at HI
  obtain ⟨D, hD⟩ : ∃ D, xi.d = D := ⟨_, rfl⟩
  rw [hD] at hDb HI HD
  have HDD := Lib.hid hD
  clear hq hk hxi hD
  go_wp2_with (go_at_call 44; refine (l01In_any _ _ _ _).mono ?_; rintro e w' ⟨rfl, rfl⟩; rw [HQ.out])
  go_loopw [5, 6] (fun v iv wr => ∃ a : Nat, i ≤ a ∧ a ≤ n ∧ iv = .int .i64 a ∧ wr.ownsRow w.heap.size 58 3 v (prt D l (i + 1) (a + 1)).length (fl fn (prt D l (i + 1) (a + 1))) ∧ (∀ m, i + 1 < m → m ≤ a → D < dep l m) ∧ Below w.heap.size w wr) (fun _ iv _ => n - (intOf iv).toNat)
  case atStart => exact ⟨i, Nat.le_refl _, by omega, rfl, by rw [prt_nil]; exact HO1.out, fun m h1 h2 => by omega, HB1.out⟩
  case round =>
    clear HB1 HO1
    obtain ⟨a, hia, han, rfl, hown, hbt, hb⟩ := hrel
    have HO := Lib.hid hown
    have HBT := Lib.hid hbt
    have HB := Lib.hid hb
    have hsz := hb.size
    obtain ⟨Av, cv, hAv⟩ := own_slice hown
    subst hAv
    have hpl := prt_len' (D := D) (l := l) (a := i + 1) (b := a + 1) (by omega)
    obtain ⟨_, ci0, _, _⟩ := NS.get (HL.out.below HB.out) HXI.out
    rw [HDD.out] at ci0
    clear hown hbt hb
    by_cases hlt : a < n
    · obtain ⟨x, b', o', hx, hA, hbl'', _⟩ := HL.out.all (k := a) (by have := HN.out; omega)
      injection hA with hA
      injection hA with e1 e2 _
      subst e1 e2
      obtain ⟨hbl', c0, c1, c2⟩ := NS.get (HL.out.below HB.out) hx
      have HX := Lib.hid hx
      have HDX := Lib.hid (dep_succ hx)
      have hxb := HUP.out.dep (i := a + 1) (by have := HN.out; omega)
      rw [HDX.out] at hxb
      clear hx
      by_cases hgo : a = i ∨ D < x.d
      · have hcond : ((a : Int) == (i : Int)) = true ∨ (((a : Int) == (i : Int)) = false ∧ decide (D < x.d) = true) := by
          by_cases e : a = i
          · left; simp [e]
          · right; exact ⟨by simp; omega, by rcases hgo with h | h; exact (e h).elim; simpa using h⟩
        have HBT2 := Lib.hid (show ∀ m, i + 1 < m → m ≤ a + 1 → D < dep l m by
          intro m h1 h2
          by_cases e : m = a + 1
          · subst e
            rw [HDX.out]
            rcases hgo with h | h
            · omega
            · exact h
          · exact HBT.out m h1 (by omega))
        have HST := Lib.hid (show prt D l (i + 1) (a + 1 + 1) = prt D l (i + 1) (a + 1) ++ [shf D x] by rw [← prt_app (a := i + 1) (b := a + 1) (c := a + 1 + 1) (by omega) (by omega) (by omega), prt_one HX.out])
        clear hgo
        have r0 := Bw.rd c0
        have r1 := Bw.rd c1
        have r2 := Bw.rd c2
        have ri := Bw.rd ci0
        go_wp2_with fail
        rcases hcond with hc | ⟨hc1, hc2⟩
        · refine wp_region_class (Bw wr) (by kernel_rfl) (by kernel_rfl) (Bw.start wr) (fun hne => ?_)
          repeat (go_big_quiet_step (fail))
          refine wpQuiet_nil ?_
          rintro w3 ⟨y, rfl⟩
          have HB3 := Lib.hid (HB.out.trans (Below.mono y.ok HB.out.size))
          have HO3 := Lib.hid (own_below HO.out y.ok)
          have hsz3 : wr.heap.size ≤ y.W.heap.size := Below.size y.ok
          have c0' := r0 y
          have c1' := r1 y
          have c2' := r2 y
          have ci' := ri y
          generalize y.W = w3 at *
          clear r0 r1 r2 ri hne c0 c1 c2 ci0
          have hbl3 : bi < w3.heap.size := by omega
          have hsz03 := HB3.out.size
          go_wp2_with fail
          have hb1 := (Below.refl w3.heap.size w3).alloc (Nat.le_refl _) (.cells #[.int .i64 x.d, .int .i64 x.k, .string x.s] 58)
          have hX1 := BlkL.new w3 58 [.int .i64 x.d, .int .i64 x.k, .string x.s]
          change BlkL (w3.alloc (.cells #[.int .i64 x.d, .int .i64 x.k, .string x.s] 58)) _ _ _ at hX1
          generalize w3.alloc (.cells #[.int .i64 x.d, .int .i64 x.k, .string x.s] 58) = w4 at *
          have e0' := (hb1.cell (p := ⟨bi, oi + i * 3, none⟩) hbl3).trans ci'
          have bl4 : bi < w4.heap.size := Nat.lt_of_lt_of_le hbl3 hb1.size
          have f0 : w4.cell? ⟨w3.heap.size, 0, none⟩ = some (.int .i64 x.d) := (hX1.cell 0).trans rfl
          have fl0 := hX1.lt
          have HX1 := Lib.hid hX1
          have HBB := Lib.hid hb1
          clear c0' c1' c2' ci' hX1 hb1
          have hsub : IntKind.i64.wrap (x.d - D) = x.d - D := IntWalk.i64_in _ (by omega)
          refine wp_region_tail 9 (fun w' => ∃ m, w' = w4.drewN m) (by kernel_rfl) (by kernel_rfl) ⟨1, rfl⟩ ?_
          simp only [List.take_succ_cons, List.take_zero, List.drop_succ_cons, List.drop_zero]
          repeat (go_big_quiet_step (fail))
          refine wpQuiet_nil ?_
          rintro w5 ⟨m, rfl⟩
          have hX2' : BlkL ((w4.drewN m).setCell ⟨w3.heap.size, 0, none⟩ (.int .i64 (x.d - D))) w3.heap.size 58 [.int .i64 (x.d - D), .int .i64 x.k, .string x.s] := (HX1.out.drewN m).set 0 (.int .i64 (x.d - D))
          have ff := HX1.out.frozen 0
          have hgo : w4.grownBy ((w4.drewN m).setCell ⟨w3.heap.size, 0, none⟩ (.int .i64 (x.d - D))) (some w3.heap.size) := ⟨rfl, rfl, rfl, by simp [World.setCell], fun q hq hne => Below.heap_setCell (w4.drewN m) ⟨w3.heap.size, 0, none⟩ _ q (by simpa using hne)⟩
          have hO1 := own_below HO3.out HBB.out
          have HO5 := Lib.hid (fo_kept hO1 hgo (fun g hg e => by injection e with e; have := (HO3.out.lt g hg).2; omega))
          have HB5 := Lib.hid ((HB3.out.trans (HBB.out.mono hsz03)).grown hgo (by have := HBB.out.size; omega) (fun g hg => by injection hg with hg; omega))
          have hsz5 := hX2'.lt
          have HX2 := Lib.hid hX2'
          clear hX2' hgo hO1
          go_upto_region 9 with (fail)
          clear e0' f0 fl0 ff bl4
          generalize (w4.drewN m).setCell ⟨w3.heap.size, 0, none⟩ (.int .i64 (x.d - D)) = w6 at *
          have g0 : w6.cell? ⟨w3.heap.size, 0, none⟩ = some (.int .i64 (x.d - D)) := (HX2.out.cell 0).trans rfl
          have g1 : w6.cell? ⟨w3.heap.size, 1, none⟩ = some (.int .i64 x.k) := (HX2.out.cell 1).trans rfl
          have g2 : w6.cell? ⟨w3.heap.size, 2, none⟩ = some (.string x.s) := (HX2.out.cell 2).trans rfl
          have hS := BlkL.new w6 58 [.int .i64 (x.d - D), .int .i64 x.k, .string x.s]
          change BlkL (w6.alloc (.cells #[.int .i64 (x.d - D), .int .i64 x.k, .string x.s] 58)) _ _ _ at hS
          have hb7 := (Below.refl w6.heap.size w6).alloc (Nat.le_refl _) (.cells #[.int .i64 (x.d - D), .int .i64 x.k, .string x.s] 58)
          have HO7 := Lib.hid (own_below HO5.out hb7)
          have HB7 := Lib.hid (HB5.out.trans (hb7.mono HB5.out.size))
          have HS := Lib.hid hS
          have hz7 : w.heap.size ≤ (w6.alloc (.cells #[.int .i64 (x.d - D), .int .i64 x.k, .string x.s] 58)).heap.size := HB7.out.size
          have HXE := Lib.hid (show fl fn [shf D x] = [.int .i64 (x.d - D), .int .i64 x.k, .string x.s] by simp [fl, fn, shf])
          have hone : ∀ u ∈ [Value.int .i64 (x.d - D), .int .i64 x.k, .string x.s], u.oneCell' = true := by
            have := fn_one (shf D x)
            rw [HXE.out] at this
            exact this
          have HONE := Lib.hid hone
          clear hS hb7 hone
          go_wp2_with (at_builtin; refine wpList_append_own_at _ rfl _ _ 25 rfl w.heap.size 58 i0 (.agg #[.int .i64 0, .int .i64 0, .string ByteArray.empty]) 3 32 Tryd.underlying25 hi0 hz0 hz1 hz2 rfl (by decide) _ _ _ rfl HO7.out ⟨w6.heap.size, 0, none⟩ 1 1 [.int .i64 (x.d - D), .int .i64 x.k, .string x.s] rfl rfl (fun j u hj => by rw [Addr.add_lit, Nat.zero_add]; exact (HS.out.cell j).trans hj) HONE.out (by simp only [maxLen]; omega) (by omega) hz7 ?_)
          intro v' w8 hown8 hgr8 _ _
          rw [← HXE.out, ← fl_append] at hown8
          have HB8 := Lib.hid (HB7.out.grown hgr8 hz7 (fun g hg => (HO7.out.lt g hg).1))
          obtain ⟨A8, c8, rfl⟩ := own_slice hown8
          have HO8 := Lib.hid hown8
          clear hown8 hgr8 HO7 HB7 HS g0 g1 g2
          go_wp2
          go_roundw
          case rel => exact ⟨a + 1, by omega, by omega, by go_num, by rw [HST.out, List.length_append]; exact HO8.out, HBT2.out, HB8.out⟩
          case measure => simp [intOf]; omega
        · refine wp_region_class (Bw wr) (by kernel_rfl) (by kernel_rfl) (Bw.start wr) (fun hne => ?_)
          repeat (go_big_quiet_step (fail))
          refine wpQuiet_nil ?_
          rintro w3 ⟨y, rfl⟩
          have HB3 := Lib.hid (HB.out.trans (Below.mono y.ok HB.out.size))
          have HO3 := Lib.hid (own_below HO.out y.ok)
          have hsz3 : wr.heap.size ≤ y.W.heap.size := Below.size y.ok
          have c0' := r0 y
          have c1' := r1 y
          have c2' := r2 y
          have ci' := ri y
          generalize y.W = w3 at *
          clear r0 r1 r2 ri hne c0 c1 c2 ci0
          have hbl3 : bi < w3.heap.size := by omega
          have hsz03 := HB3.out.size
          go_wp2_with fail
          have hb1 := (Below.refl w3.heap.size w3).alloc (Nat.le_refl _) (.cells #[.int .i64 x.d, .int .i64 x.k, .string x.s] 58)
          have hX1 := BlkL.new w3 58 [.int .i64 x.d, .int .i64 x.k, .string x.s]
          change BlkL (w3.alloc (.cells #[.int .i64 x.d, .int .i64 x.k, .string x.s] 58)) _ _ _ at hX1
          generalize w3.alloc (.cells #[.int .i64 x.d, .int .i64 x.k, .string x.s] 58) = w4 at *
          have e0' := (hb1.cell (p := ⟨bi, oi + i * 3, none⟩) hbl3).trans ci'
          have bl4 : bi < w4.heap.size := Nat.lt_of_lt_of_le hbl3 hb1.size
          have f0 : w4.cell? ⟨w3.heap.size, 0, none⟩ = some (.int .i64 x.d) := (hX1.cell 0).trans rfl
          have fl0 := hX1.lt
          have HX1 := Lib.hid hX1
          have HBB := Lib.hid hb1
          clear c0' c1' c2' ci' hX1 hb1
          have hsub : IntKind.i64.wrap (x.d - D) = x.d - D := IntWalk.i64_in _ (by omega)
          refine wp_region_tail 9 (fun w' => ∃ m, w' = w4.drewN m) (by kernel_rfl) (by kernel_rfl) ⟨1, rfl⟩ ?_
          simp only [List.take_succ_cons, List.take_zero, List.drop_succ_cons, List.drop_zero]
          repeat (go_big_quiet_step (fail))
          refine wpQuiet_nil ?_
          rintro w5 ⟨m, rfl⟩
          have hX2' : BlkL ((w4.drewN m).setCell ⟨w3.heap.size, 0, none⟩ (.int .i64 (x.d - D))) w3.heap.size 58 [.int .i64 (x.d - D), .int .i64 x.k, .string x.s] := (HX1.out.drewN m).set 0 (.int .i64 (x.d - D))
          have ff := HX1.out.frozen 0
          have hgo : w4.grownBy ((w4.drewN m).setCell ⟨w3.heap.size, 0, none⟩ (.int .i64 (x.d - D))) (some w3.heap.size) := ⟨rfl, rfl, rfl, by simp [World.setCell], fun q hq hne => Below.heap_setCell (w4.drewN m) ⟨w3.heap.size, 0, none⟩ _ q (by simpa using hne)⟩
          have hO1 := own_below HO3.out HBB.out
          have HO5 := Lib.hid (fo_kept hO1 hgo (fun g hg e => by injection e with e; have := (HO3.out.lt g hg).2; omega))
          have HB5 := Lib.hid ((HB3.out.trans (HBB.out.mono hsz03)).grown hgo (by have := HBB.out.size; omega) (fun g hg => by injection hg with hg; omega))
          have hsz5 := hX2'.lt
          have HX2 := Lib.hid hX2'
          clear hX2' hgo hO1
          go_upto_region 9 with (fail)
          clear e0' f0 fl0 ff bl4
          generalize (w4.drewN m).setCell ⟨w3.heap.size, 0, none⟩ (.int .i64 (x.d - D)) = w6 at *
          have g0 : w6.cell? ⟨w3.heap.size, 0, none⟩ = some (.int .i64 (x.d - D)) := (HX2.out.cell 0).trans rfl
          have g1 : w6.cell? ⟨w3.heap.size, 1, none⟩ = some (.int .i64 x.k) := (HX2.out.cell 1).trans rfl
          have g2 : w6.cell? ⟨w3.heap.size, 2, none⟩ = some (.string x.s) := (HX2.out.cell 2).trans rfl
          have hS := BlkL.new w6 58 [.int .i64 (x.d - D), .int .i64 x.k, .string x.s]
          change BlkL (w6.alloc (.cells #[.int .i64 (x.d - D), .int .i64 x.k, .string x.s] 58)) _ _ _ at hS
          have hb7 := (Below.refl w6.heap.size w6).alloc (Nat.le_refl _) (.cells #[.int .i64 (x.d - D), .int .i64 x.k, .string x.s] 58)
          have HO7 := Lib.hid (own_below HO5.out hb7)
          have HB7 := Lib.hid (HB5.out.trans (hb7.mono HB5.out.size))
          have HS := Lib.hid hS
          have hz7 : w.heap.size ≤ (w6.alloc (.cells #[.int .i64 (x.d - D), .int .i64 x.k, .string x.s] 58)).heap.size := HB7.out.size
          have HXE := Lib.hid (show fl fn [shf D x] = [.int .i64 (x.d - D), .int .i64 x.k, .string x.s] by simp [fl, fn, shf])
          have hone : ∀ u ∈ [Value.int .i64 (x.d - D), .int .i64 x.k, .string x.s], u.oneCell' = true := by
            have := fn_one (shf D x)
            rw [HXE.out] at this
            exact this
          have HONE := Lib.hid hone
          clear hS hb7 hone
          go_wp2_with (at_builtin; refine wpList_append_own_at _ rfl _ _ 25 rfl w.heap.size 58 i0 (.agg #[.int .i64 0, .int .i64 0, .string ByteArray.empty]) 3 32 Tryd.underlying25 hi0 hz0 hz1 hz2 rfl (by decide) _ _ _ rfl HO7.out ⟨w6.heap.size, 0, none⟩ 1 1 [.int .i64 (x.d - D), .int .i64 x.k, .string x.s] rfl rfl (fun j u hj => by rw [Addr.add_lit, Nat.zero_add]; exact (HS.out.cell j).trans hj) HONE.out (by simp only [maxLen]; omega) (by omega) hz7 ?_)
          intro v' w8 hown8 hgr8 _ _
          rw [← HXE.out, ← fl_append] at hown8
          have HB8 := Lib.hid (HB7.out.grown hgr8 hz7 (fun g hg => (HO7.out.lt g hg).1))
          obtain ⟨A8, c8, rfl⟩ := own_slice hown8
          have HO8 := Lib.hid hown8
          clear hown8 hgr8 HO7 HB7 HS g0 g1 g2
          go_wp2
          go_roundw
          case rel => exact ⟨a + 1, by omega, by omega, by go_num, by rw [HST.out, List.length_append]; exact HO8.out, HBT2.out, HB8.out⟩
          case measure => simp [intOf]; omega
      · have hc1 : ((a : Int) == (i : Int)) = false := by simp; omega
        have hc2 : decide (D < x.d) = false := by simp; omega
        have HE := Lib.hid (endp_is (l := l) (i := i + 1) (e := a + 1) (by omega) (by have := HN.out; omega) (fun m h1 h2 => by rw [HD.out]; exact HBT.out m h1 (by omega)) (fun _ => by rw [HD.out, HDX.out]; omega))
        clear hgo
        have r0 := Bw.rd c0
        have r1 := Bw.rd c1
        have r2 := Bw.rd c2
        have ri := Bw.rd ci0
        go_wp2_with fail
        refine wp_region_class (Bw wr) (by kernel_rfl) (by kernel_rfl) (Bw.start wr) (fun hne => ?_)
        repeat (go_big_quiet_step (fail))
        refine wpQuiet_nil ?_
        rintro w3 ⟨y, rfl⟩
        have HB3 := Lib.hid (HB.out.trans (Below.mono y.ok HB.out.size))
        have HO3 := Lib.hid (own_below HO.out y.ok)
        generalize y.W = w3 at *
        clear r0 r1 r2 ri hne
        go_wp2
        go_ret
        rw [HI.out, HE.out]
        exact ⟨_, rfl, HO3.out, HB3.out⟩
    · have HE := Lib.hid (endp_is (l := l) (i := i + 1) (e := a + 1) (by omega) (by have := HN.out; omega) (fun m h1 h2 => by rw [HD.out]; exact HBT.out m h1 (by omega)) (fun h => by have := HN.out; omega))
      have hlb : decide ((a : Int) < (n : Int)) = false := by simp; omega
      have hlb' : decide (a < n) = false := by simp; omega
      go_wp2_with fail
      refine wp_region_class (Bw wr) (by kernel_rfl) (by kernel_rfl) (Bw.start wr) (fun hne => ?_)
      repeat (go_big_quiet_step (fail))
      refine wpQuiet_nil ?_
      rintro w3 ⟨y, rfl⟩
      have HB3 := Lib.hid (HB.out.trans (Below.mono y.ok HB.out.size))
      have HO3 := Lib.hid (own_below HO.out y.ok)
      generalize y.W = w3 at *
      clear hne
      go_wp2
      go_ret
      rw [HI.out, HE.out]
      exact ⟨_, rfl, HO3.out, HB3.out⟩
end Go.Proofs.YtjdpakjnklfhhaaDoor
