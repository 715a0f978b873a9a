/-
  The law FnExactTokensOf returns true at every argument: TokensOf answers as its model does, writes into no argument, and its answer owns its memory.
  Conditions: none beyond the row's own; whatever the arguments. The card ties the listed variables to the program's text.
-/
import Derived.Test.YtlcplgfjicifeaaGreatDoorQt41
import Derived.Test.YtlcplgfjicifeaaGreatDoorQt43
import Derived.Test.YtlcplgfjicifeaaGreatDoorQt05
import Derived.Test.YtlcplgfjicifeaaGreatDoorQt22
import Derived.ChangeVars
import Derived.LaidLaws
import Derived.LaidHandle
import Derived.SevenTiedAt
namespace Go.Proofs.YtlcplgfjicifeaaGreatDoor
open Go.RowKit
set_option linter.unusedVariables false

set_option maxHeartbeats 4000000 in
set_option maxRecDepth 100000 in
theorem l08Node_q {l : List Nd} {n : Nat} (hlen : l.length = n) (ht : TrOk l) (s : Sy) (hs : s.ok = true) (A : Option Addr) (c : Nat) (i' : Nat) (h2 : i' < n)
    (hih : ∀ a, i' < a → a < n → ∀ V, NS V A l → Calls Tryz.prog 65 #[s.val, .slice A n c, .int .i64 (a : Int)] V (TkO V (tkP s l (a + 1))))
    (w : World) (hns : NS w A l) (hq : knd l (i' + 1) = 6) : Calls Tryz.prog 65 #[s.val, .slice A n c, .int .i64 (i' : Int)] w (TkO w (tkP s l (i' + 1))) := by
    obtain ⟨i0, hi0, hz0, hz1, hz2⟩ := info_parts infoTk
    have HT := Lib.hid ht
    have HOK := Lib.hid (Sy.ok_iff.1 hs)
    have hn200 := ht.len
    have IH := Lib.hid hih
    have HNS := Lib.hid hns
    have HQ := Lib.hid hq
    clear ht hs hih hns hq
    obtain ⟨x, b, o, hx, rfl, hbl, d0, d1, d2⟩ := HNS.out.all (k := i') (by omega)
    obtain ⟨⟨x', hx', hnb⟩, _⟩ := HT.out.upTo i' (by omega)
    obtain rfl : x = x' := Option.some.inj (hx.symm.trans hx')
    have hxk := (nodB_bd hnb).1
    have HX := Lib.hid hx
    have HKI := Lib.hid (show ∀ V, NS V (some ⟨b, o, none⟩) l → Calls Tryz.prog 63 #[.slice (some ⟨b, o, none⟩) n c, .int .i64 (i' : Int)] V (PcOut V (kidsN l (i' + 1) n)) from fun V hV => by
      have := l07Kids_any (some ⟨b, o, none⟩) l n c (i' + 1) V hlen (by omega) hV HT.out.upTo (by omega)
      rwa [show ((i' + 1 : Nat) : Int) - 1 = (i' : Int) by omega] at this)
    have HKD := Lib.hid (knd_succ hx)
    have HAT := Lib.hid (nAt_succ hx)
    clear hx hx' hnb
    unfold Sy.val at IH ⊢
    go_enter Tryz.func65, Tryz.ntmps65
    go_wp2_with fail
    have hbA := ((Below.refl w.heap.size w).alloc (Nat.le_refl _) (.cells #[.int .i64 s.r, .int .i64 s.q, .int .i64 s.c, .int .i64 s.h, .int .i64 s.g] 29)).alloc (by simp) (.cells #[.int .i64 x.d, .int .i64 x.k, .string x.s] 63)
    have hsy := (SyAt.new w s 29).below ((Below.refl _ _).alloc (Nat.le_refl _) (.cells #[.int .i64 x.d, .int .i64 x.k, .string x.s] 63))
    have hnd := BlkL.new (w.alloc (.cells #[.int .i64 s.r, .int .i64 s.q, .int .i64 s.c, .int .i64 s.h, .int .i64 s.g] 29)) 63 [.int .i64 x.d, .int .i64 x.k, .string x.s]
    rw [show (w.alloc (.cells #[.int .i64 s.r, .int .i64 s.q, .int .i64 s.c, .int .i64 s.h, .int .i64 s.g] 29)).heap.size = w.heap.size + 1 by simp] at hnd
    change BlkL ((w.alloc (.cells #[.int .i64 s.r, .int .i64 s.q, .int .i64 s.c, .int .i64 s.h, .int .i64 s.g] 29)).alloc (.cells #[.int .i64 x.d, .int .i64 x.k, .string x.s] 63)) _ _ _ at hnd
    refine (HKI.out _ (HNS.out.below hbA)).mono ?_
    generalize (w.alloc (.cells #[.int .i64 s.r, .int .i64 s.q, .int .i64 s.c, .int .i64 s.h, .int .i64 s.g] 29)).alloc (.cells #[.int .i64 x.d, .int .i64 x.k, .string x.s] 63) = w1 at *
    rintro e w2 ⟨v2, rfl, ho2, hb2⟩
    have HB2 := Lib.hid (hbA.trans (hb2.mono hbA.size))
    have HSY := Lib.hid (hsy.below hb2)
    have hnd2 := hnd.below hb2 hnd.lt
    have HND := Lib.hid hnd2
    obtain ⟨A9, c9, rfl⟩ := own_slice ho2
    have HKC := Lib.hid (fun (j : Nat) (hj : j < (kidsN l (i' + 1) n).length) => own_cells ho2 hj)
    have HNS2 := Lib.hid (HNS.out.below HB2.out)
    have x1 : w2.cell? ⟨w.heap.size + 1, 1, none⟩ = some (.int .i64 x.k) := (hnd2.cell 1).trans rfl
    have x2 : w2.cell? ⟨w.heap.size + 1, 2, none⟩ = some (.string x.s) := (hnd2.cell 2).trans rfl
    have hkl := kidsN_len l (i' + 1) n
    clear hbA hsy hnd hnd2 ho2 hb2 d0 d1 d2 HKI
    have hx6 : x.k = 6 := by rw [← HKD.out]; exact HQ.out
    have h3b : decide (x.k < 3) = false := by simp; omega
    have h6b : (x.k == 6) = true := by simp [hx6]
    rw [hx6] at x1 h3b h6b
    have HPX := Lib.hid (tkP_quote (s := s) (l := l) (i := i' + 1) (by omega) HQ.out)
    have hwh := HT.out.whole (i' + 1) (by omega)
    unfold whl at hwh
    rw [if_pos HQ.out, Bool.and_eq_true] at hwh
    have hone : (kidsN l (i' + 1) l.length).length = 1 := by simpa using hwh.1
    obtain ⟨a, ha⟩ : ∃ a, kidsN l (i' + 1) l.length = [a] := List.length_eq_one_iff.1 hone
    obtain ⟨han, hpar, hia⟩ := kidsN_mem (l := l) (i := i' + 1) (m := l.length) (j := a) (by rw [ha]; simp)
    have HQT := Lib.hid (show tkP s l (i' + 1) = [tT ⟨#[39]⟩] ++ tkP s l (a + 1) by rw [HPX.out, hone]; unfold quT; rw [ha]; simp)
    have hkl1 : (kidsN l (i' + 1) n).length = 1 := by rw [← hlen]; exact hone
    obtain ⟨g, hgA, hgl, hgc⟩ := HKC.out 0 (by omega)
    have cg : w2.cell? ⟨g, 0, none⟩ = some (.int .i64 (a : Int)) := hgc.trans (by rw [← hlen, ha]; rfl)
    subst hgA
    have htl := HT.out.upTo.tkP_le s (i := a + 1) (by omega) (by omega)
    obtain ⟨c0, c1, c2, c3, c4, c5⟩ := HSY.out
    have HCALL := Lib.hid (IH.out a (by omega) (by omega))
    have hb2w := HB2.out.size
    have q0 := Bw.rd c0
    have q1 := Bw.rd c1
    have q2 := Bw.rd c2
    have q3 := Bw.rd c3
    have q4 := Bw.rd c4
    have r1 := Bw.rd cg
    rw [hkl1]
    clear c0 c1 c2 c3 c4 cg hwh hone ha hkl HKC hgc
    go_wp2_with fail
    have HNS2 := Lib.hid (HNS.out.below HB2.out)
    have hne : Nonempty (Cl (Bw w2)) := ⟨⟨_, Bw.start w2⟩⟩
    refine wp_region_from [1, 9, 0, 0, 0, 0, 0, 3, 5, 7] 3 1 1 _ rfl (fun w' => ∃ y : Cl (Bw w2), w' = y.W) (by kernel_rfl) (by kernel_rfl) ⟨⟨_, Bw.start w2⟩, rfl⟩ ?_
    simp only [Stage.stages, Stage.pickC, Nat.reduceBEq, Nat.reduceMul, Nat.reduceAdd, cond_true, cond_false, List.map_cons, List.map_nil]
    refine from_ahead ?_
    repeat (go_big_quiet_step (fail))
    refine wpQuiet_nil ?_
    intro K hK
    unfold Chain.mov
    go_simp
    simp only [Chain.movUpon]
    refine (l08Txt_any _ _).mono ?_
    rintro r w3 ⟨rfl, hb3⟩
    have HB23 := Lib.hid (show Bw w2 w3 from (Below.refl _ w2).drew.trans (hb3.mono (Nat.le_refl _)))
    have HB3 := Lib.hid (HB2.out.trans (HB23.out.mono HB2.out.size))
    refine ⟨_, rfl, hK _ _ ⟨⟨⟨_, HB23.out⟩, rfl⟩, ?_⟩⟩
    clear hK K hb3
    have HNS3 := Lib.hid (HNS2.out.below HB23.out)
    refine from_more ?_
    repeat (go_big_quiet_step (fail))
    refine wpQuiet_nil ⟨fun K hK => ?_, fun K hK => ?_⟩
    · unfold Chain.mov
      go_simp
      simp only [Chain.movUpon]
      refine (HCALL.out w3 HNS3.out).mono ?_
      rintro r w4 ⟨v4, rfl, ho4, hb4⟩
      have HB24 := Lib.hid (show Bw w2 w4 from HB23.out.trans (hb4.mono HB23.out.size))
      have HB4 := Lib.hid (HB2.out.trans (HB24.out.mono HB2.out.size))
      have HR4 := Lib.hid ho4
      obtain ⟨A4, c4, rfl⟩ := own_slice ho4
      refine ⟨_, rfl, hK _ _ ⟨⟨⟨_, HB24.out⟩, rfl⟩, ?_⟩⟩
      clear hK K ho4 hb4
      refine from_only (by kernel_rfl) ?_
      repeat (go_big_quiet_step (fail))
      refine wpQuiet_nil ?_
      intro K hK
      unfold Chain.mov
      go_simp
      have hl5 := own_lit w4 48 4 1 (fl ft [tT ⟨#[39]⟩]) rfl (by unfold maxLen; omega)
      have hb5 := (Below.refl w4.heap.size w4).alloc (Nat.le_refl _) (.cells (fl ft [tT ⟨#[39]⟩]).toArray 48)
      have HL5 := Lib.hid hl5
      have HR5 := Lib.hid (own_below HR4.out hb5)
      have HB25 := Lib.hid (show Bw w2 (w4.alloc (.cells (fl ft [tT ⟨#[39]⟩]).toArray 48)) from HB24.out.trans (hb5.mono HB24.out.size))
      refine hK _ _ ⟨⟨⟨_, HB25.out⟩, rfl⟩, ?_⟩
      clear hK K hl5 hb5
      refine fdoor_more ?_
      intro K hK
      unfold Chain.mov
      go_simp
      simp only [Chain.movUpon]
      change Calls _ _ _ (w4.alloc (.cells (fl ft [tT ⟨#[39]⟩]).toArray 48)) _
      generalize w4.alloc (.cells (fl ft [tT ⟨#[39]⟩]).toArray 48) = w5 at *
      refine (l08Join_any (some ⟨w4.heap.size, 0, none⟩) A4 [tT ⟨#[39]⟩] (tkP s l (a + 1)) 1 1 _ c4 w5 rfl rfl (by omega) (by omega) (ts_own HL5.out) (ts_own HR5.out)).mono ?_
      rintro r w6 ⟨v6, rfl, ho6, hb6⟩
      have HB26 := Lib.hid (show Bw w2 w6 from HB25.out.trans (hb6.mono HB25.out.size))
      have HB6 := Lib.hid (HB2.out.trans (HB26.out.mono HB2.out.size))
      have HO6 := Lib.hid (own_low ho6 (show w.heap.size ≤ w5.heap.size from Nat.le_trans HB2.out.size HB25.out.size))
      obtain ⟨A6, c6, rfl⟩ := own_slice ho6
      refine ⟨_, rfl, hK _ _ ⟨⟨⟨_, HB26.out⟩, rfl⟩, ?_⟩⟩
      clear hK K ho6 hb6
      refine stage_last ?_
      repeat (go_big_quiet_step (fail))
      refine wpQuiet_nil ?_
      clear q0 q1 q2 q3 q4 r1
      go_wp2
      go_ret
      rw [HQT.out]
      exact ⟨_, rfl, HO6.out, HB6.out⟩
    · unfold Chain.mov
      go_simp
      have hl5 := own_lit w3 48 4 1 (fl ft [tT ⟨#[39]⟩]) rfl (by unfold maxLen; omega)
      have hb5 := (Below.refl w3.heap.size w3).alloc (Nat.le_refl _) (.cells (fl ft [tT ⟨#[39]⟩]).toArray 48)
      have HL5 := Lib.hid hl5
      have HNS5 := Lib.hid (HNS3.out.below hb5)
      have HB25 := Lib.hid (show Bw w2 (w3.alloc (.cells (fl ft [tT ⟨#[39]⟩]).toArray 48)) from HB23.out.trans (hb5.mono HB23.out.size))
      refine hK _ _ ⟨⟨⟨_, HB25.out⟩, rfl⟩, ?_⟩
      clear hK K hl5 hb5
      refine fdoor_more ?_
      intro K hK
      unfold Chain.mov
      go_simp
      simp only [Chain.movUpon]
      change Calls _ _ _ (w3.alloc (.cells (fl ft [tT ⟨#[39]⟩]).toArray 48)) _
      generalize w3.alloc (.cells (fl ft [tT ⟨#[39]⟩]).toArray 48) = w5 at *
      refine (HCALL.out w5 HNS5.out).mono ?_
      rintro r w4 ⟨v4, rfl, ho4, hb4⟩
      have HB24 := Lib.hid (show Bw w2 w4 from HB25.out.trans (hb4.mono HB25.out.size))
      have HR4 := Lib.hid ho4
      have HL4 := Lib.hid (own_below HL5.out hb4)
      obtain ⟨A4, c4, rfl⟩ := own_slice ho4
      refine ⟨_, rfl, hK _ _ ⟨⟨⟨_, HB24.out⟩, rfl⟩, ?_⟩⟩
      clear hK K ho4 hb4
      refine stage_more ?_
      repeat (go_big_quiet_step (fail))
      refine wpQuiet_nil ?_
      intro K hK
      unfold Chain.mov
      go_simp
      simp only [Chain.movUpon]
      refine (l08Join_any (some ⟨w3.heap.size, 0, none⟩) A4 [tT ⟨#[39]⟩] (tkP s l (a + 1)) 1 1 _ c4 w4 rfl rfl (by omega) (by omega) (ts_own HL4.out) (ts_own HR4.out)).mono ?_
      rintro r w6 ⟨v6, rfl, ho6, hb6⟩
      have HB26 := Lib.hid (show Bw w2 w6 from HB24.out.trans (hb6.mono HB24.out.size))
      have HB6 := Lib.hid (HB2.out.trans (HB26.out.mono HB2.out.size))
      have HO6 := Lib.hid (own_low ho6 (show w.heap.size ≤ w4.heap.size from Nat.le_trans HB2.out.size HB24.out.size))
      obtain ⟨A6, c6, rfl⟩ := own_slice ho6
      refine ⟨_, rfl, hK _ _ ⟨⟨⟨_, HB26.out⟩, rfl⟩, ?_⟩⟩
      clear hK K ho6 hb6
      refine stage_last ?_
      repeat (go_big_quiet_step (fail))
      refine wpQuiet_nil ?_
      clear q0 q1 q2 q3 q4 r1
      go_wp2
      go_ret
      rw [HQT.out]
      exact ⟨_, rfl, HO6.out, HB6.out⟩
theorem l08Node_any {l : List Nd} {n : Nat} (hlen : l.length = n) (ht : TrOk l) (s : Sy) (hs : s.ok = true) (A : Option Addr) (c : Nat) :
    ∀ (f i : Nat), i < n → n - i ≤ f → ∀ V, NS V A l → Calls Tryz.prog 65 #[s.val, .slice A n c, .int .i64 (i : Int)] V (TkO V (tkP s l (i + 1))) := by
  intro f
  induction f using Nat.strongRecOn with
  | _ f ih =>
    intro i hi hf V hV
    have hih : ∀ a, i < a → a < n → ∀ V, NS V A l → Calls Tryz.prog 65 #[s.val, .slice A n c, .int .i64 (a : Int)] V (TkO V (tkP s l (a + 1))) :=
      fun a h1 h2 W hW => ih (n - a) (by omega) a h2 (Nat.le_refl _) W hW
    by_cases h6 : knd l (i + 1) = 6
    · exact l08Node_q hlen ht s hs A c i hi hih V hV h6
    · exact l08Node_nq hlen ht s hs A c i hi hih V hV h6
theorem sTokensOf_any (s : Sy) (A : Option Addr) (l : List Nd) (n c : Nat) (w : World) (hn : l.length = n) (hm : n ≤ 2097152) (hl : NS w A l) (hsz : ∀ (i : Nat) (x : Nd), l[i]? = some x → x.s.size ≤ 1048576) :
    Calls Tryz.prog 14 #[s.val, .slice A n c] w (TkOut w (tkB s l) (tkA s l)) :=
  sTokensOf_of s A l n c w hn hm hl hsz fun ht hs a ha V hV => l08Node_any hn ht s hs A c _ a ha (Nat.le_refl _) V hV
end Go.Proofs.YtlcplgfjicifeaaGreatDoor
namespace Go.Proofs.YtlcplgfjicifeaaGreatDoor
open Go.ChangeShapes Go.WideShapes Go.ChangeAt Go.RowKit Go.Joins Go.Deep
set_option linter.unusedVariables false

theorem trod_struct5 {H : Type} {enc : TypeId × Value → H} {P : Program} {w : World} {base : Nat} {spare : Nat → Bool} {held : Bool} {t : TypeId} {f0 f1 f2 f3 f4 : Field} {fuel : Nat} {cs : List Value} {x : DataW H × List MemPlace} (ht : P.underlying t = some (.struct #[f0, f1, f2, f3, f4])) (h : DataW.trod enc P w base spare held fuel t cs = some x) :
    ∃ y0 y1 y2 y3 y4 n, cs.length = P.cellsOf t ∧ DataW.trod enc P w base spare held n f0.type ((cs.drop f0.offset).take (P.cellsOf f0.type)) = some y0 ∧
      DataW.trod enc P w base spare held n f1.type ((cs.drop f1.offset).take (P.cellsOf f1.type)) = some y1 ∧ DataW.trod enc P w base spare held n f2.type ((cs.drop f2.offset).take (P.cellsOf f2.type)) = some y2 ∧
      DataW.trod enc P w base spare held n f3.type ((cs.drop f3.offset).take (P.cellsOf f3.type)) = some y3 ∧ DataW.trod enc P w base spare held n f4.type ((cs.drop f4.offset).take (P.cellsOf f4.type)) = some y4 := by
  obtain ⟨xs, n, _, rfl, hl, hlen, hf⟩ := DataW.trod_struct ht h
  match xs, hlen with
  | [y0, y1, y2, y3, y4], _ => exact ⟨y0, y1, y2, y3, y4, n, hl, by simpa using hf 0 f0 rfl, by simpa using hf 1 f1 rfl, by simpa using hf 2 f2 rfl, by simpa using hf 3 f3 rfl, by simpa using hf 4 f4 rfl⟩
theorem cellsSty : Tryz.prog.cellsOf 23 = 5 := by kernel_rfl
def Sy.wf (s : Sy) : Prop := (Lit.int .i64 s.r).wf = true ∧ (Lit.int .i64 s.q).wf = true ∧ (Lit.int .i64 s.c).wf = true ∧ (Lit.int .i64 s.h).wf = true ∧ (Lit.int .i64 s.g).wf = true
set_option maxRecDepth 100000 in
theorem open_style {H : Type} {enc : TypeId × Value → H} {W : World} {r : Reach} {base : Nat} {v : Value} {d : DataW H} {p : List MemPlace}
    (hv : Value.okWide Tryz.prog W r base 23 v) (h : DataW.Trod enc Tryz.prog W 0 (fun _ => true) true 23 v d p) :
    ∃ s : Sy, v = s.val ∧ s.wf := by
  obtain ⟨cs, rfl, hcs⟩ := okWide_struct Tryz.underlying23 hv
  rw [cellsSty] at hcs
  obtain ⟨fuel, hf⟩ := h
  obtain ⟨y0, y1, y2, y3, y4, n', hlen, h0, h1, h2, h3, h4⟩ := trod_struct5 Tryz.underlying23 hf
  obtain ⟨l⟩ := cs
  match l, hcs with
  | [v0, v1, v2, v3, v4], _ =>
    simp only [Value.cells, List.drop_zero, List.drop_succ_cons, cellsInt, List.take_succ_cons, List.take_zero] at h0 h1 h2 h3 h4
    obtain ⟨x0, e0, _, w0⟩ := DataW.trod_int Tryz.underlying3 h0
    obtain ⟨x1, e1, _, w1⟩ := DataW.trod_int Tryz.underlying3 h1
    obtain ⟨x2, e2, _, w2⟩ := DataW.trod_int Tryz.underlying3 h2
    obtain ⟨x3, e3, _, w3⟩ := DataW.trod_int Tryz.underlying3 h3
    obtain ⟨x4, e4, _, w4⟩ := DataW.trod_int Tryz.underlying3 h4
    simp at e0 e1 e2 e3 e4
    subst e0 e1 e2 e3 e4
    exact ⟨⟨x0, x1, x2, x3, x4⟩, rfl, w0, w1, w2, w3, w4⟩
end Go.Proofs.YtlcplgfjicifeaaGreatDoor
namespace Go.Proofs.YtlcplgfjicifeaaGreatDoor.fnExactTokensOf
open Go.ChangeShapes Go.WideShapes Go.ChangeAt Go.RowKit Go.Joins
set_option linter.unusedVariables false

set_option maxHeartbeats 2000000 in
set_option maxRecDepth 100000 in
theorem law (s : Sy) (A : Option Addr) (l : List Nd) (n c : Nat) (w : World) (hn : l.length = n) (hm : n ≤ maxLen) (hts : NS w A l) (hf : Fits (tns l)) (hg : ErrV w) :
    Calls Tryz.prog 3 #[s.val, .slice A n c] w fun e w' => e = .returned (.bool true) ∧ Below w.heap.size w w' := by
  have HN := Lib.hid hn
  have HG := Lib.hid hg
  have hE := Lib.hid (toStyle_any s)
  have hbA := (Below.refl w.heap.size w).alloc (Nat.le_refl _) (.cells #[.int .i64 s.r, .int .i64 s.q, .int .i64 s.c, .int .i64 s.h, .int .i64 s.g] 23)
  have hsA := BlkL.new w 23 [.int .i64 s.r, .int .i64 s.q, .int .i64 s.c, .int .i64 s.h, .int .i64 s.g]
  have HTS := Lib.hid (hts.below hbA)
  have HBA := Lib.hid hbA
  have HSA := Lib.hid (show BlkL (w.alloc (.cells #[.int .i64 s.r, .int .i64 s.q, .int .i64 s.c, .int .i64 s.h, .int .i64 s.g] 23)) w.heap.size 23 [.int .i64 s.r, .int .i64 s.q, .int .i64 s.c, .int .i64 s.h, .int .i64 s.g] from hsA)
  have HLT := Lib.hid (show w.heap.size < (w.alloc (.cells #[.int .i64 s.r, .int .i64 s.q, .int .i64 s.c, .int .i64 s.h, .int .i64 s.g] 23)).heap.size by simp)
  clear hn hg hbA hsA
  unfold Sy.val at hE ⊢
  go_enter Tryz.func3, Tryz.ntmps3
  go_wp2_with fail
  refine (szNodeS_any _ l _ _ _ _ HN.out hm (by omega) (by omega) HTS.out hf).mono ?_
  generalize (w.alloc (.cells #[.int .i64 s.r, .int .i64 s.q, .int .i64 s.c, .int .i64 s.h, .int .i64 s.g] 23)) = w0 at *
  rintro e w1 ⟨rfl, hb1⟩
  have HB1 := Lib.hid (HBA.out.trans (hb1.mono HBA.out.size))
  have ht1 := HTS.out.below hb1
  have hz1 : w.heap.size < w1.heap.size := Nat.lt_of_lt_of_le HLT.out hb1.size
  have HS1 := Lib.hid (HSA.out.below hb1 HSA.out.lt)
  clear hb1
  by_cases hbig : (1048576 : Int) < (bulk (tns l) : Int)
  · rw [show szB 1048576 (tns l) = -1 from if_pos hbig]
    go_wp2
    go_ret
    exact ⟨rfl, HB1.out⟩
  · rw [show szB 1048576 (tns l) = 1048576 - bulk (tns l) from if_neg hbig]
    have hsm : n ≤ 1048576 := by have := HN.out; have h8 := tns_length l; unfold bulk at hbig; omega
    have hnn : (0 : Int) ≤ 1048576 - (bulk (tns l) : Int) := by omega
    have HS := Lib.hid (show ∀ (i : Nat) (x : Nd), l[i]? = some x → x.s.size ≤ 1048576 from fun i x hx => by have := bulk_at (tns_at hx); simp only [tkn] at this; omega)
    clear hm hbig
    have HSPEC := Lib.hid (fun (A2 : Option Addr) (c2 : Nat) (V : World) (hV : NS V A2 l) => (sTokensOf_any s A2 l l.length c2 V rfl (by have := HN.out; omega) hV HS.out).mono fun _ _ h => TkOut.o h)
    have HIMPL := Lib.hid (fun (A2 : Option Addr) (c2 : Nat) (V : World) (hV : NS V A2 l) (hE : ErrV V) => (TokensOf_any s A2 l l.length c2 V rfl (by have := HN.out; omega) hV hE).mono fun _ _ h => TkOut.o h)
    have hle := tkA_len s l
    obtain ⟨R, hR⟩ : ∃ R, tkA s l = R := ⟨_, rfl⟩
    obtain ⟨ok, hOK⟩ : ∃ b, tkB s l = b := ⟨_, rfl⟩
    unfold Sy.val at HSPEC HIMPL
    rw [hR, hOK] at HSPEC HIMPL
    rw [hR] at hle
    clear hR hOK
    have hbb : (ok == ok) = true := by simp
    obtain ⟨c0, c1, c2, c3, c4⟩ : w1.cell? ⟨w.heap.size, 0, none⟩ = some (.int .i64 s.r) ∧ w1.cell? ⟨w.heap.size, 1, none⟩ = some (.int .i64 s.q) ∧ w1.cell? ⟨w.heap.size, 2, none⟩ = some (.int .i64 s.c) ∧ w1.cell? ⟨w.heap.size, 3, none⟩ = some (.int .i64 s.h) ∧ w1.cell? ⟨w.heap.size, 4, none⟩ = some (.int .i64 s.g) := ⟨HS1.out.cell 0, HS1.out.cell 1, HS1.out.cell 2, HS1.out.cell 3, HS1.out.cell 4⟩
    have cz : w.heap.size < w1.heap.size := HS1.out.lt
    go_wp2_with fail
    refine (hE.out _).mono ?_
    rintro e w1s ⟨rfl, hbs⟩
    have ht1s := ht1.below hbs
    have HB1s := Lib.hid (HB1.out.trans (hbs.mono HB1.out.size))
    have HS1s := Lib.hid (HS1.out.below hbs HS1.out.lt)
    clear hbs c0 c1 c2 c3 c4 cz ht1
    go_wp2_with fail
    refine (toNodeS_any _ l _ _ _ HN.out hsm ht1s).mono ?_
    rintro e w2 ⟨rfl, hk2, hb2⟩
    have HS2 := Lib.hid (HS1s.out.below hb2 HS1s.out.lt)
    have ht2 := ht1s.below hb2
    have HB2 := Lib.hid (HB1s.out.trans (hb2.mono HB1s.out.size))
    have hx2 := NS.of_blk hk2
    clear hb2 hk2
    have hl2 : l.length ≤ 2097152 := by have := HN.out; omega
    go_wp2_with fail
    refine (HSPEC.out _ _ _ hx2).mono ?_
    rintro e w3 ⟨hb3, B0, cB, rfl, hBlo, hrB⟩
    have ht3 := ht2.below hb3
    have HB3 := Lib.hid (HB2.out.trans (hb3.mono HB2.out.size))
    have HS3 := Lib.hid (HS2.out.below hb3 HS2.out.lt)
    have HBlt := Lib.hid (show ∀ b, B0.map (·.block) = some b → b < w3.heap.size from fun b hb => (hBlo b hb).2)
    have HBlo := Lib.hid (show ∀ b, B0.map (·.block) = some b → w2.heap.size ≤ b from fun b hb => (hBlo b hb).1)
    have z23 : w.heap.size < w2.heap.size := HS2.out.lt
    clear hb3 hx2 hBlo
    go_wp2_with fail
    refine (toNodeS_any _ l _ _ _ HN.out hsm ht3).mono ?_
    rintro e w4 ⟨rfl, hk4, hb4⟩
    have ht4 := ht3.below hb4
    have HB4 := Lib.hid (HB3.out.trans (hb4.mono HB3.out.size))
    have HS4 := Lib.hid (HS3.out.below hb4 HS3.out.lt)
    have hx4 := NS.of_blk hk4
    have hr4 := hrB.below hb4
    have hX := hk4.lt
    clear hb4
    obtain ⟨c0, c1, c2, c3, c4⟩ : w4.cell? ⟨w.heap.size, 0, none⟩ = some (.int .i64 s.r) ∧ w4.cell? ⟨w.heap.size, 1, none⟩ = some (.int .i64 s.q) ∧ w4.cell? ⟨w.heap.size, 2, none⟩ = some (.int .i64 s.c) ∧ w4.cell? ⟨w.heap.size, 3, none⟩ = some (.int .i64 s.h) ∧ w4.cell? ⟨w.heap.size, 4, none⟩ = some (.int .i64 s.g) := ⟨HS4.out.cell 0, HS4.out.cell 1, HS4.out.cell 2, HS4.out.cell 3, HS4.out.cell 4⟩
    have cz : w.heap.size < w4.heap.size := HS4.out.lt
    go_wp2_with fail
    refine (hE.out _).mono ?_
    rintro e w4s ⟨rfl, hbs⟩
    replace ht4 := ht4.below hbs
    replace hx4 := hx4.below hbs
    replace hk4 := hk4.below hbs hk4.lt
    replace hr4 := hr4.below hbs
    have HB4s := Lib.hid (HB4.out.trans (hbs.mono HB4.out.size))
    have HS4s := Lib.hid (HS4.out.below hbs HS4.out.lt)
    have hz4s : w4.heap.size ≤ w4s.heap.size := hbs.size
    clear hbs c0 c1 c2 c3 c4 cz
    go_wp2_with fail
    refine (HIMPL.out _ _ _ hx4 (HG.out.belowB HB4s.out HG.out.pos)).mono ?_
    rintro e w5 ⟨hb5, A0, cA, rfl, hAlo, hrA⟩
    have HS5 := Lib.hid (HS4s.out.below hb5 HS4s.out.lt)
    have ht5 := ht4.below hb5
    have hx5 := hx4.below hb5
    have hk5 := hk4.below hb5 hk4.lt
    have hr5 := hr4.below hb5
    have HB5 := Lib.hid (HB4s.out.trans (hb5.mono HB4s.out.size))
    have HAlo := Lib.hid (show ∀ b, A0.map (·.block) = some b → w4s.heap.size ≤ b from fun b hb => (hAlo b hb).1)
    clear hb5 hx4 hk4 hr4 hAlo
    go_wp2_with fail
    refine (eqTokenS_same _ _ R _ _ _ _ rfl (by omega) hrA.is hr5.is).mono ?_
    rintro e w6 ⟨rfl, hb6⟩
    have ht6 := ht5.below hb6
    have hx6 := hx5.below hb6
    have hk6 := hk5.below hb6 hk5.lt
    have hr6 := hr5.below hb6
    have hs6 := hrA.below hb6
    have HB6 := Lib.hid (HB5.out.trans (hb6.mono HB5.out.size))
    have HS6 := Lib.hid (HS5.out.below hb6 HS5.out.lt)
    clear hb6 hx5 hk5 hr5 hrA
    go_wp2_with fail
    refine (toNodeS_any _ l _ _ _ HN.out hsm ht6).mono ?_
    rintro e w7 ⟨rfl, hk7, hb7⟩
    have ht7 := ht6.below hb7
    have hx7 := hx6.below hb7
    have hy7 := NS.of_blk hk7
    have hkx7 := hk6.below hb7 hk6.lt
    have hr7 := hr6.below hb7
    have hs7 := hs6.below hb7
    have HB7 := Lib.hid (HB6.out.trans (hb7.mono HB6.out.size))
    have HS7 := Lib.hid (HS6.out.below hb7 HS6.out.lt)
    clear hb7 hk7 hx6 hk6 hr6 hs6
    go_wp2_with fail
    refine (eqNodeS_same _ _ l _ _ _ _ rfl (by have := HN.out; omega) hx7 hy7).mono ?_
    rintro e w8 ⟨rfl, hb8⟩
    have ht8 := ht7.below hb8
    have hk8 := hkx7.below hb8 hkx7.lt
    have hr8 := hr7.below hb8
    have hs8 := hs7.below hb8
    have HB8 := Lib.hid (HB7.out.trans (hb8.mono HB7.out.size))
    have HS8 := Lib.hid (HS7.out.below hb8 HS7.out.lt)
    clear hb8 hx7 hy7 hkx7 hr7 hs7
    have z3 : w.heap.size ≤ w3.heap.size := HB3.out.size
    go_wp2_with fail
    refine (markNodeS_blk _ l [] _ _ _ _ rfl hl2 (by omega) (by omega) (by simpa using hk8)).mono ?_
    rintro e w9 ⟨rfl, hk9, hg9⟩
    have ht9 : NS w9 A l := ht8.old hts HB8.out.size hg9 (fun b hb => by injection hb; omega)
    have hr9 := hr8.grown hg9 (fun b hb => by have := HBlt.out b hb; intro e; injection e; omega)
    have hs9 := hs8.grown hg9 (fun b hb => by have := HAlo.out b hb; intro e; injection e; omega)
    have HB9 := Lib.hid (HB8.out.grown hg9 HB8.out.size (fun b hb => by injection hb; omega))
    have z3s : w.heap.size < w3.heap.size := HS3.out.lt
    have z4s : w.heap.size < w4s.heap.size := HS4s.out.lt
    have HS9 := Lib.hid (HS8.out.grown hg9 (fun e => by injection e; omega))
    clear hg9 hk8 hk9 hr8 hs8
    go_wp2_with fail
    refine (eqTokenS_same _ _ R _ _ _ _ rfl (by omega) hs9.is hr9.is).mono ?_
    rintro e w10 ⟨rfl, hb10⟩
    have ht10 := ht9.below hb10
    have hr10 := hr9.below hb10
    have hs10 := hs9.below hb10
    have HB10 := Lib.hid (HB9.out.trans (hb10.mono HB9.out.size))
    have HS10 := Lib.hid (HS9.out.below hb10 HS9.out.lt)
    clear hb10 hr9 hs9
    have z4 : w3.heap.size ≤ w4.heap.size := by omega
    go_wp2_with fail
    refine (markTokenR_any _ R _ _ _ (by omega) (by omega) (by omega) hs10).mono ?_
    rintro e w11 ⟨rfl, hs11, hg11⟩
    have ht11 : NS w11 A l := ht10.old hts HB10.out.size hg11 (fun b hb => by have := HAlo.out b hb; omega)
    have hr11 := hr10.grown hg11 (fun b hb e => by have h1 := HBlt.out b hb; have h2 := HAlo.out b e.symm; omega)
    have HB11 := Lib.hid (HB10.out.grown hg11 HB10.out.size (fun b hb => by have := HAlo.out b hb; omega))
    have HS11 := Lib.hid (HS10.out.grown hg11 (fun e => by have := HAlo.out _ e.symm; omega))
    clear hg11 hr10 hs10
    have hu : ∀ i, i < R.length → (mkF (mkTk 1) R R.length)[i]? = some (mkT 1 i) := fun i hi => mkF_at _ _ hi
    have HU := Lib.hid hu
    clear hu
    go_wp2_with fail
    refine (heldTokenS_any _ (mkF (mkTk 1) R R.length) _ _ _ _ (mkF_length _ _ _) (by omega) (by omega) (by omega) hs11.is HU.out).mono ?_
    rintro e w12 ⟨rfl, hb12⟩
    replace ht11 := ht11.below hb12
    replace hr11 := hr11.below hb12
    replace hs11 := hs11.below hb12
    replace HB11 := Lib.hid (HB11.out.trans (hb12.mono HB11.out.size))
    have HS12 := Lib.hid (HS11.out.below hb12 HS11.out.lt)
    clear hb12
    obtain ⟨c0, c1, c2, c3, c4⟩ : w12.cell? ⟨w.heap.size, 0, none⟩ = some (.int .i64 s.r) ∧ w12.cell? ⟨w.heap.size, 1, none⟩ = some (.int .i64 s.q) ∧ w12.cell? ⟨w.heap.size, 2, none⟩ = some (.int .i64 s.c) ∧ w12.cell? ⟨w.heap.size, 3, none⟩ = some (.int .i64 s.h) ∧ w12.cell? ⟨w.heap.size, 4, none⟩ = some (.int .i64 s.g) := ⟨HS12.out.cell 0, HS12.out.cell 1, HS12.out.cell 2, HS12.out.cell 3, HS12.out.cell 4⟩
    have cz : w.heap.size < w12.heap.size := HS12.out.lt
    go_wp2_with fail
    refine (hE.out _).mono ?_
    rintro e w12s ⟨rfl, hbs⟩
    replace ht11 := ht11.below hbs
    replace hr11 := hr11.below hbs
    replace hs11 := hs11.below hbs
    replace HB11 := Lib.hid (HB11.out.trans (hbs.mono HB11.out.size))
    clear hbs c0 c1 c2 c3 c4 cz
    go_wp2_with fail
    refine (toNodeS_any _ l _ _ _ HN.out hsm ht11).mono ?_
    rintro e w13 ⟨rfl, hk13, hb13⟩
    have hx13 := NS.of_blk hk13
    have hr13 := hr11.below hb13
    have hs13 := hs11.below hb13
    have HB13 := Lib.hid (HB11.out.trans (hb13.mono HB11.out.size))
    clear hb13 hk13 hr11 hs11
    go_wp2_with fail
    refine (HIMPL.out _ _ _ hx13 (HG.out.belowB HB13.out HG.out.pos)).mono ?_
    rintro e w14 ⟨hb14, A1, c1, rfl, _, hrC⟩
    have hr14 := hr13.below hb14
    have hs14 := hs13.below hb14
    have HB14 := Lib.hid (HB13.out.trans (hb14.mono HB13.out.size))
    clear hb14 hr13 hs13
    go_wp2_with fail
    refine (eqTokenS_same _ _ R _ _ _ _ rfl (by omega) hrC.is hr14.is).mono ?_
    rintro e w15 ⟨rfl, hb15⟩
    have hs15 := hs14.below hb15
    have HB15 := Lib.hid (HB14.out.trans (hb15.mono HB14.out.size))
    clear hb15 hr14 hs14
    go_wp2_with fail
    refine (heldTokenS_any _ (mkF (mkTk 1) R R.length) _ _ _ _ (mkF_length _ _ _) (by omega) (by omega) (by omega) hs15.is HU.out).mono ?_
    rintro e w16 ⟨rfl, hb16⟩
    have HB16 := Lib.hid (HB15.out.trans (hb16.mono HB15.out.size))
    clear hb16
    go_wp2
    go_ret
    exact ⟨rfl, HB16.out⟩
end Go.Proofs.YtlcplgfjicifeaaGreatDoor.fnExactTokensOf
