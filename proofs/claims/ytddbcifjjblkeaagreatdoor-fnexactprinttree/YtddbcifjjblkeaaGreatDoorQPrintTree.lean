/-
  The law FnExactPrintTree returns true at every argument: PrintTree answers as its model does and writes into no argument.
  Conditions: none beyond the row's own; whatever the arguments. The card ties the listed variables to the program's text.
-/
import Derived.Test.YtddbcifjjblkeaaGreatDoorLpc
import Derived.Test.YtddbcifjjblkeaaGreatDoorTrh
import Derived.Test.YtddbcifjjblkeaaGreatDoorLpb
import Derived.Test.YtddbcifjjblkeaaGreatDoorLxp
import Derived.Lib.SliceRun
import Derived.Test.YtddbcifjjblkeaaGreatDoorArg
import Derived.Test.YtddbcifjjblkeaaGreatDoorTie
import Derived.Test.YtddbcifjjblkeaaGreatDoorCards
import Derived.ChangeVars
import Derived.LaidLaws
import Derived.LaidHandle
import Derived.SevenTiedAt
namespace Go.Proofs.YtddbcifjjblkeaaGreatDoor
open Go.RowKit
set_option linter.unusedVariables false

theorem UpTo.endp_zero {l : List Nd} (hup : UpTo l l.length) : endp l 0 = l.length + 1 := by
  have h1 := endp_le (l := l) (i := 0) (Nat.zero_le _)
  have h2 := endp_gt l 0
  rcases Nat.lt_or_ge l.length (endp l 0) with h | h
  · omega
  · have h3 := endp_out h
    obtain ⟨k, hk⟩ : ∃ k, endp l 0 = k + 1 := ⟨endp l 0 - 1, by omega⟩
    obtain ⟨⟨x, hx, hnb⟩, _⟩ := hup k (by omega)
    rw [hk, dep_succ hx, dep_zero] at h3
    have := (nodB_bd hnb).2.1
    omega
set_option maxHeartbeats 8000000 in
set_option maxRecDepth 100000 in
theorem l07All_any {l : List Nd} {n : Nat} (hlen : l.length = n) (hn200 : n ≤ 200) (hup : UpTo l l.length) (A : Option Addr) (c : Nat) (w : World) (hns : NS w A l) :
    Calls Tryz.prog 60 #[.slice A n c] w (LxO w (lexK l 0 n)) := by
  obtain ⟨i0, hi0, hz0, hz1, hz2⟩ := info_parts infoLx
  have HUP := Lib.hid hup
  have HNS := Lib.hid hns
  have hez := hup.endp_zero
  have hfirst := hup.first (i := 0) (Nat.zero_le _)
  rw [hlen] at hfirst hez
  clear hup hns
  have HB1 := Lib.hid ((Below.refl w.heap.size w).alloc (Nat.le_refl _) (.cells #[] 104))
  have HO1 := Lib.hid (show (w.alloc (.cells #[] 104)).ownsRow w.heap.size 104 3 (.slice (some ⟨w.heap.size, 0, none⟩) 0 0) 0 (fl fx []) from
    ⟨rfl, .inr ⟨w.heap.size, 0, #[], rfl, Nat.le_refl _, BlkL.new w 104 [], Nat.le_refl _, by unfold maxLen; omega, rfl, rfl⟩⟩)
  go_enter Tryz.func60, Tryz.ntmps60
  go_wp2
  go_loopw [3, 4] (fun ov kv wr => ∃ a : Nat, kv = .int .i64 (a : Int) ∧ a ≤ n ∧ ((a < n ∧ par l a = 0) ∨ (kidsN l 0 a = kidsN l 0 n ∧ a = n)) ∧ wr.ownsRow w.heap.size 104 3 ov (lexK l 0 a).length (fl fx (lexK l 0 a)) ∧ Below w.heap.size w wr) (fun _ kv _ => n - (intOf kv).toNat)
  case atStart =>
    refine ⟨0, by simp, by omega, ?_, by rw [lexK_zero]; exact HO1.out, HB1.out⟩
    rcases hfirst with h | h
    · exact .inl h
    · exact .inr ⟨by rw [h.1, kidsN_low], by omega⟩
  case round =>
    clear HO1 HB1 hfirst
    obtain ⟨a, rfl, han, hcase, hown, hb⟩ := hrel
    have HO := Lib.hid hown
    have HB := Lib.hid hb
    obtain ⟨Av, cv, hAv⟩ := own_slice hown
    subst hAv
    have hll := HUP.out.lexK_le (i := 0) (a := a) (by omega) (by omega)
    have hsz := hb.size
    clear hown hb
    by_cases hin : a < n ∧ par l a = 0
    · have hnext := HUP.out.next (i := 0) (a := a) (by omega) hin.2
      rw [hlen] at hnext
      have HNX := Lib.hid hnext
      have HLS := Lib.hid (lexK_step hin.2)
      have hge := endp_gt l (a + 1)
      have hgle := endp_le (l := l) (i := a + 1) (by omega)
      have hpl7 := HUP.out.lexP_le (i := a + 1) (by omega)
      have han' := hin.1
      clear hcase hin hnext
      have hb3 := (Below.refl wr.heap.size wr).alloc (Nat.le_refl _) (.cells #[] 104)
      have HO3 := Lib.hid (own_below HO.out hb3)
      have HB3 := Lib.hid (HB.out.trans (hb3.mono HB.out.size))
      have hob : ∀ g, (Value.slice Av (lexK l 0 a).length cv).ownBlock = some g → g < (wr.alloc (.cells #[] 104)).heap.size := fun g hg => by have := (HO.out.lt g hg).2; have := hb3.size; omega
      have HOB := Lib.hid hob
      clear hb3 hob HO HB
      go_wp2_with fail
      generalize wr.alloc (.cells #[] 104) = w3 at *
      refine (l07Lexes_any hlen hn200 HUP.out A c (n - a) a (by omega) (Nat.le_refl _) w3 (HNS.out.below HB3.out)).mono ?_
      rintro e w4 ⟨v4, rfl, ho4, hb4⟩
      have HM4 := Lib.hid (show _ from (OR.of_own fx_len rfl ho4))
      obtain ⟨A4, c4, rfl⟩ := own_slice ho4
      obtain ⟨M, hM⟩ : ∃ M, lexP l (a + 1) = M := ⟨_, rfl⟩
      have HXM := Lib.hid (show XS w4 A4 (lexP l (a + 1)) from HM4.out.rs fx_len)
      rw [hM] at HXM hpl7 HLS ⊢
      have HO4 := Lib.hid (own_below HO3.out hb4)
      have HB4 := Lib.hid (HB3.out.trans (hb4.mono HB3.out.size))
      have HAP := Lib.hid (show ∀ g, (Value.slice Av (lexK l 0 a).length cv).ownBlock = some g → A4.map (·.block) ≠ some g from fun g hg e => by
        have h1 := HOB.out g hg
        rcases ho4.2 with ⟨h, _⟩ | ⟨g', cap', cur', h, hB', _⟩
        · injection h with h _ _
          subst h
          simp at e
        · injection h with h _ _
          subst h
          simp at e
          omega)
      clear ho4 hb4 HM4 HO3 HB3 HOB hM
      obtain ⟨a', ha'⟩ : ∃ a', endp l (a + 1) - 1 = a' := ⟨_, rfl⟩
      rw [ha'] at HNX ⊢
      obtain ⟨PP, hPP⟩ : ∃ PP, lexK l 0 a = PP := ⟨_, rfl⟩
      have HPP := Lib.hid hPP
      rw [hPP] at HO4 HAP hll ⊢
      clear hPP
      go_wp2
      go_loopw [3, 6] (fun ov iv wr => ∃ j : Nat, iv = .int .i64 (j : Int) ∧ j ≤ M.length ∧ wr.ownsRow w.heap.size 104 3 ov (PP.length + j) (fl fx (PP ++ M.take j)) ∧ XS wr A4 M ∧ (∀ g, ov.ownBlock = some g → A4.map (·.block) ≠ some g) ∧ Below w.heap.size w wr) (fun _ iv _ => M.length - (intOf iv).toNat)
      case atStart => exact ⟨0, by simp, Nat.zero_le _, by rw [List.take_zero, List.append_nil]; exact HO4.out, HXM.out, HAP.out, HB4.out⟩
      case round =>
        clear HXM HAP HB4 HO4
        obtain ⟨j, rfl, hjM, hown, hxm, hap, hb⟩ := hrel
        have HO := Lib.hid hown
        have HB := Lib.hid hb
        have HXM := Lib.hid hxm
        have HAP := Lib.hid hap
        obtain ⟨Aw, cw, hAw⟩ := own_slice hown
        subst hAw
        clear hown hb hxm hap
        by_cases hj : j < M.length
        · obtain ⟨y, b4, o4, hy, hA, hbl4, q0, q1, q2⟩ := HXM.out.all hj
          subst hA
          have HY := Lib.hid hy
          clear hy
          have hS := BlkL.new wr 104 [.int .i64 y.k, .string y.s, .int .i64 y.a]
          have hbS := (Below.refl wr.heap.size wr).alloc (Nat.le_refl _) (.cells #[.int .i64 y.k, .string y.s, .int .i64 y.a] 104)
          have HOS := Lib.hid (own_below HO.out hbS)
          have HBS := Lib.hid (HB.out.trans (hbS.mono HB.out.size))
          have HMS := Lib.hid (HXM.out.below hbS)
          have HSS := Lib.hid hS
          have hzS : w.heap.size ≤ (wr.alloc (.cells #[.int .i64 y.k, .string y.s, .int .i64 y.a] 104)).heap.size := HBS.out.size
          have hb9 := Below.size hbS
          clear hS hbS HO HB HXM
          go_wp2_with (at_builtin; refine wpList_append_own_at _ rfl _ _ 98 rfl w.heap.size 104 i0 (.agg #[.int .i64 0, .string ByteArray.empty, .int .i64 0]) 3 32 Tryz.underlying98 hi0 hz0 hz1 hz2 rfl (by decide) _ _ _ rfl HOS.out ⟨wr.heap.size, 0, none⟩ 1 1 [.int .i64 y.k, .string y.s, .int .i64 y.a] rfl rfl (fun j u hj => by rw [Addr.add_lit, Nat.zero_add]; exact (HSS.out.cell j).trans hj) (fx_one y) (by simp only [maxLen]; omega) (by omega) hzS ?_)
          intro v' w9 howS hgrS _ hatS
          have howS' : w9.ownsRow w.heap.size 104 3 v' (PP.length + (j + 1)) (fl fx (PP ++ M.take (j + 1))) := by
            rw [List.take_add_one, HY.out, Option.toList_some, ← List.append_assoc, fl_append]
            exact howS
          have HO9 := Lib.hid howS'
          have HB9 := Lib.hid (HBS.out.grown hgrS hzS (fun g hg => (HOS.out.lt g hg).1))
          have HM9 := Lib.hid (HMS.out.apart hgrS HAP.out)
          have HA9 := Lib.hid (show ∀ g, v'.ownBlock = some g → (some (⟨b4, o4, none⟩ : Addr)).map (·.block) ≠ some g from fun g hg => by
            rcases hatS with h | h
            · exact HAP.out g (h.symm.trans hg)
            · rw [h] at hg
              injection hg with hg
              subst hg
              simp only [Option.map_some, ne_eq, Option.some.injEq]
              omega)
          clear howS howS' hgrS hatS HOS HBS HSS HMS HAP hzS q0 q1 q2
          go_wp2
          go_roundw
          case rel => exact ⟨j + 1, by go_num, by omega, HO9.out, HM9.out, HA9.out, HB9.out⟩
          case measure => simp [intOf]; omega
        · obtain rfl : j = M.length := by omega
          go_wp2
          go_roundw
          case rel =>
            have hn7 := HNX.out
            have ho7 := HO.out
            have hE : PP ++ M = lexK l 0 a' := by rw [lexK_same hn7.1, HLS.out, ← HPP.out]
            rw [List.take_length, hE] at ho7
            refine ⟨a', rfl, by omega, ?_, own_n ?_ ho7, HB.out⟩
            · rcases hn7.2 with h | h
              · exact .inl h
              · exact .inr ⟨h.1, by omega⟩
            · rw [← hE, List.length_append]
          case measure => simp [intOf]; omega
    · have hend : kidsN l 0 a = kidsN l 0 n ∧ a = n := by
        rcases hcase with h | h
        · exact (hin h).elim
        · exact h
      obtain ⟨hkn, hae⟩ := hend
      subst hae
      clear hin hcase
      go_wp2
      go_ret
      exact ⟨_, rfl, HO.out, HB.out⟩
end Go.Proofs.YtddbcifjjblkeaaGreatDoor
namespace Go.Proofs.YtddbcifjjblkeaaGreatDoor
open Go.RowKit
set_option linter.unusedVariables false

set_option maxHeartbeats 1000000 in
set_option maxRecDepth 100000 in
theorem TreeOk_any (A : Option Addr) (l : List Nd) (n c : Nat) (w : World) (hn : l.length = n) (hm : n ≤ 2097152) (hl : NS w A l) (hg : ErrV w) :
    Calls Tryz.prog 53 #[.slice A n c] w fun e w' => e = .returned (.bool (treB l)) ∧ Below w.heap.size w w' := by
  go_enter Tryz.func53, Tryz.ntmps53
  go_wp2_with fail
  refine (planted_any A l n c w hn hm hl hg).mono ?_
  rintro e w1 ⟨hb, h | ⟨ht, g, c1, ps, vs, rfl, _⟩⟩
  · obtain ⟨h0, rfl⟩ := h
    have H0 := Lib.hid h0
    clear h0
    go_wp2
    go_ret
    rw [H0.out]
    exact ⟨rfl, hb⟩
  · have H0 := Lib.hid (treB_yes ht)
    clear ht
    go_wp2
    go_ret
    rw [H0.out]
    exact ⟨rfl, hb⟩
def tdI (l : List Nd) : Nat → Int
  | 0 => 0
  | i + 1 => if tdI l i < dep l (i + 1) + 1 then dep l (i + 1) + 1 else tdI l i
noncomputable def tdB (l : List Nd) : Int := if treB l = true then tdI l l.length else -1
theorem tdI_bd {l : List Nd} {k : Nat} (h : UpTo l k) : ∀ i, i ≤ k → 0 ≤ tdI l i ∧ tdI l i ≤ 13
  | 0, _ => by simp [tdI]
  | i + 1, hi => by
    have h1 := tdI_bd h i (by omega)
    have h2 := h.dep (i := i + 1) hi
    simp only [tdI]
    split <;> omega
def pdI (l : List Nd) : Nat → Int
  | 0 => -1
  | j + 1 => tdI l j
end Go.Proofs.YtddbcifjjblkeaaGreatDoor
namespace Go.Proofs.YtddbcifjjblkeaaGreatDoor
open Go.RowKit
set_option linter.unusedVariables false

theorem bulk_bd {m : Nat} : ∀ {l : List Lx}, (∀ y ∈ l, y.s.size ≤ m) → bulk (txs l) ≤ l.length + l.length * m := by
  intro l h
  have key : ∀ (l : List Lx), (∀ y ∈ l, y.s.size ≤ m) → ((txs l).map fun (t : Tk) => t.s.size).sum ≤ l.length * m := by
    intro l
    induction l with
    | nil => intro _; simp [txs]
    | cons y l ih =>
      intro h
      have h1 := h y (List.mem_cons_self ..)
      have h2 := ih fun z hz => h z (List.mem_cons_of_mem _ hz)
      simp only [txs, tkx, List.map_cons, List.sum_cons, List.length_cons, Nat.succ_mul] at h2 ⊢
      omega
  have := key l h
  unfold bulk bulkN
  rw [List.take_length, txs_length]
  omega
theorem TrOk.bulk_le {l : List Nd} (h : TrOk l) : bulk (txs (lexK l 0 l.length)) ≤ 1048576 ∧ (lexK l 0 l.length).length ≤ 402 := by
  have h1 := h.upTo.lexK_le (i := 0) (a := l.length) (Nat.zero_le _) (Nat.le_refl _)
  have h2 := bulk_bd (h.upTo.lexK_size (i := 0) (a := l.length) (Nat.le_refl _))
  have h3 := h.len
  have h4 : (lexK l 0 l.length).length ≤ 402 := by omega
  have h5 : (lexK l 0 l.length).length * 2000 ≤ 402 * 2000 := Nat.mul_le_mul_right _ h4
  exact ⟨by omega, h4⟩
/-- what PrintTree tells. -/
noncomputable def prT (l : List Nd) : ByteArray := if treB l then pxB (lexK l 0 l.length) else ByteArray.empty
theorem prT_no {l : List Nd} (h : treB l = false) : prT l = ByteArray.empty := by unfold prT; rw [h]; rfl
theorem prT_yes {l : List Nd} (h : TrOk l) : prT l = pxB (lexK l 0 l.length) := by unfold prT; rw [treB_yes h]; rfl

theorem brs_nil (W : World) (a : Option Addr) (n c n' c' : Nat) : (binOp .eql 68 (.slice a n c) (.slice none n' c')).run Tryz.prog W = .ok (.bool a.isNone) W := Lib.run_eql_slice_nil W _ _ a n c n' c' Tryz.underlying68
set_option maxHeartbeats 2000000 in
set_option maxRecDepth 100000 in
theorem PrintTree_any (A : Option Addr) (l : List Nd) (n c : Nat) (w : World) (hn : l.length = n) (hm : n ≤ 2097152) (hl : NS w A l) (hg : ErrV w) :
    Calls Tryz.prog 26 #[.slice A n c] w fun e w' => e = .returned (.string (prT l)) ∧ Below w.heap.size w w' := by
  subst hn
  have q22 := brs_nil
  go_enter Tryz.func26, Tryz.ntmps26
  go_wp2_with fail
  refine (planted_any A l _ c w rfl hm hl hg).mono ?_
  rintro e w1 ⟨hb, h | ⟨ht, g, c1, ps, vs, rfl, hfo, hgl, hc⟩⟩
  · obtain ⟨h0, rfl⟩ := h
    have HI := Lib.hid (prT_no h0)
    have HB1 := Lib.hid hb
    clear h0 hb hl hg
    go_wp2
    go_ret
    rw [HI.out]
    exact ⟨rfl, HB1.out⟩
  · have HI := Lib.hid (prT_yes ht)
    have HT := Lib.hid ht
    have HB1 := Lib.hid hb
    have HF := Lib.hid hfo
    have c0 := hc 0 (Nat.zero_le _)
    unfold ptr at c0
    obtain ⟨A9, c9, hv, _⟩ := hfo.kid (Nat.zero_le _)
    have hcell := hfo.cells (Nat.zero_le _)
    have HV := Lib.hid hv
    rw [hv] at hcell
    obtain ⟨_, _, _, _, _, d5, dl⟩ := hcell
    have hcall := lexemesOf_any hfo rfl ht.len ht.upTo l.length 0 (Nat.zero_le _) (by omega) w1 (Below.refl _ _)
    rw [hv] at hcall
    have HCALL := Lib.hid hcall
    clear hb ht hfo hc hl hg hv hcall
    go_wp2_with fail
    refine HCALL.out.mono ?_
    rintro e w2 ⟨v2, rfl, ho2, hb2⟩
    have HM2 := Lib.hid (show _ from (OR.of_own fx_len rfl ho2))
    obtain ⟨A2, c2, rfl⟩ := own_slice ho2
    have HX2 := Lib.hid (show XS w2 A2 (lexK l 0 l.length) from HM2.out.rs fx_len)
    have HB2 := Lib.hid (HB1.out.trans (hb2.mono HB1.out.size))
    have hbk := HT.out.bulk_le
    clear ho2 hb2 HM2 c0 d5
    go_wp2_with fail
    refine (PlainLex_any A2 (lexK l 0 l.length) _ c2 w2 rfl (by omega) HX2.out hbk.1).mono ?_
    rintro e w3 ⟨rfl, hb3⟩
    have HB3 := Lib.hid (HB2.out.trans (hb3.mono HB2.out.size))
    clear hb3
    go_wp2
    go_ret
    rw [HI.out]
    exact ⟨rfl, HB3.out⟩
end Go.Proofs.YtddbcifjjblkeaaGreatDoor
namespace Go.Proofs.YtddbcifjjblkeaaGreatDoor
open Go.RowKit
set_option linter.unusedVariables false

set_option maxHeartbeats 2000000 in
set_option maxRecDepth 100000 in
theorem sPrintTree_any (A : Option Addr) (l : List Nd) (n c : Nat) (w : World) (hn : l.length = n) (hm : n ≤ 2097152) (hl : NS w A l) (hs : ∀ (i : Nat) (x : Nd), l[i]? = some x → x.s.size ≤ 1048576) :
    Calls Tryz.prog 27 #[.slice A n c] w fun e w' => e = .returned (.string (prT l)) ∧ Below w.heap.size w w' := by
  subst hn
  have HL := Lib.hid hl
  go_enter Tryz.func27, Tryz.ntmps27
  go_wp2_with fail
  refine (sTreeOk_any A l _ c w rfl hm hl hs).mono ?_
  rintro e w1 ⟨rfl, hb⟩
  have HB1 := Lib.hid hb
  clear hb hl hs
  cases ht : treB l
  · have HI := Lib.hid (prT_no ht)
    clear ht
    go_wp2
    go_ret
    rw [HI.out]
    exact ⟨rfl, HB1.out⟩
  have HT := Lib.hid (treB_ok ht)
  have HI := Lib.hid (prT_yes (treB_ok ht))
  clear ht
  go_wp2_with fail
  refine (l07All_any rfl HT.out.len HT.out.upTo A c w1 (HL.out.below HB1.out)).mono ?_
  rintro e w2 ⟨v2, rfl, ho2, hb2⟩
  have HM2 := Lib.hid (show _ from (OR.of_own fx_len rfl ho2))
  obtain ⟨A2, c2, rfl⟩ := own_slice ho2
  have HX2 := Lib.hid (show XS w2 A2 (lexK l 0 l.length) from HM2.out.rs fx_len)
  have HB2 := Lib.hid (HB1.out.trans (hb2.mono HB1.out.size))
  have hbk := HT.out.bulk_le
  clear ho2 hb2 HM2
  go_wp2_with fail
  refine (sPlainLex_any A2 (lexK l 0 l.length) _ c2 w2 rfl (by omega) HX2.out hbk.1).mono ?_
  rintro e w3 ⟨rfl, hb3⟩
  have HB3 := Lib.hid (HB2.out.trans (hb3.mono HB2.out.size))
  clear hb3
  go_wp2
  go_ret
  rw [HI.out]
  exact ⟨rfl, HB3.out⟩
end Go.Proofs.YtddbcifjjblkeaaGreatDoor
namespace Go.Proofs.YtddbcifjjblkeaaGreatDoor.fnExactPrintTree
open Go.ChangeShapes Go.WideShapes Go.ChangeAt Go.RowKit Go.Joins
set_option linter.unusedVariables false

set_option maxHeartbeats 4000000 in
set_option maxRecDepth 100000 in
theorem law (A : Option Addr) (l : List Nd) (n c : Nat) (w : World) (hn : l.length = n) (hnx : n ≤ maxLen) (ha : NS w A l) (fa : Fits (tns l)) (hg : ErrV w) :
    Calls Tryz.prog 5 #[.slice A n c] w fun e w' => e = .returned (.bool true) ∧ Below w.heap.size w w' := by
  have HN := Lib.hid hn
  have HG := Lib.hid hg
  clear hn hg
  go_enter Tryz.func5, Tryz.ntmps5
  have HB_0 := Lib.hid (Below.refl w.heap.size w)
  have ha_0 := ha
  go_wp2_with fail
  refine (szNodeS_any _ l _ _ _ _ HN.out hnx (by omega) (by omega) ha_0 fa).mono ?_
  rintro e w1 ⟨rfl, hb⟩
  have ha_1 := ha_0.below hb
  have HB_1 := Lib.hid (HB_0.out.trans (hb.mono HB_0.out.size))
  have z_1 : w.heap.size ≤ w1.heap.size := hb.size
  clear hb ha_0
  by_cases hbig : (1048576 : Int) < (bulk (tns l) : Int)
  · rw [show szB 1048576 (tns l) = -1 from if_pos hbig]
    go_wp2
    go_ret
    exact ⟨rfl, HB_1.out⟩
  rw [show szB 1048576 (tns l) = 1048576 - bulk (tns l) from if_neg hbig]
  have hsm : n ≤ 1048576 := by have := HN.out; have h8 := tns_length l; unfold bulk at hbig; omega
  have hnn : (0 : Int) ≤ 1048576 - (bulk (tns l) : Int) := by omega
  have hl2 : l.length ≤ 2097152 := by have := HN.out; omega
  have HS := Lib.hid (show ∀ (i : Nat) (x : Nd), l[i]? = some x → x.s.size ≤ 1048576 from fun i x hx => by have := bulk_at (tns_at hx); simp only [tkn] at this; omega)
  clear hbig hnx fa
  have hss : ((prT l).toList == (prT l).toList) = true := by simp
  go_wp2_with fail
  refine (toNodeS_any _ l _ _ _ HN.out hsm ha_1).mono ?_
  rintro e w2 ⟨rfl, hk, hb⟩
  have ha_2 := ha_1.below hb
  have HB_2 := Lib.hid (HB_1.out.trans (hb.mono HB_1.out.size))
  have z_2 : w1.heap.size ≤ w2.heap.size := hb.size
  clear hb ha_1
  have x_2 := NS.of_blk hk
  clear hk
  go_wp2_with fail
  refine (sPrintTree_any _ l _ _ _ rfl hl2 x_2 HS.out).mono ?_
  rintro e w3 ⟨rfl, hb⟩
  have ha_3 := ha_2.below hb
  have x_3 := x_2.below hb
  have HB_3 := Lib.hid (HB_2.out.trans (hb.mono HB_2.out.size))
  have z_3 : w2.heap.size ≤ w3.heap.size := hb.size
  clear hb ha_2 x_2
  clear x_3
  go_wp2_with fail
  refine (toNodeS_any _ l _ _ _ HN.out hsm ha_3).mono ?_
  rintro e w4 ⟨rfl, hk, hb⟩
  have ha_4 := ha_3.below hb
  have HB_4 := Lib.hid (HB_3.out.trans (hb.mono HB_3.out.size))
  have z_4 : w3.heap.size ≤ w4.heap.size := hb.size
  clear hb ha_3
  have x_4 := NS.of_blk hk
  clear hk
  go_wp2_with fail
  refine (PrintTree_any _ l _ _ _ rfl hl2 x_4 (HG.out.belowB HB_4.out HG.out.pos)).mono ?_
  rintro e w5 ⟨rfl, hb⟩
  have ha_5 := ha_4.below hb
  have x_5 := x_4.below hb
  have HB_5 := Lib.hid (HB_4.out.trans (hb.mono HB_4.out.size))
  have z_5 : w4.heap.size ≤ w5.heap.size := hb.size
  clear hb ha_4 x_4
  go_wp2_with fail
  refine (toNodeS_any _ l _ _ _ HN.out hsm ha_5).mono ?_
  rintro e w6 ⟨rfl, hk, hb⟩
  have ha_6 := ha_5.below hb
  have x_6 := x_5.below hb
  have HB_6 := Lib.hid (HB_5.out.trans (hb.mono HB_5.out.size))
  have z_6 : w5.heap.size ≤ w6.heap.size := hb.size
  clear hb ha_5 x_5
  have u_6 := NS.of_blk hk
  clear hk
  go_wp2_with fail
  refine (eqNodeS_same _ _ l _ _ _ _ rfl hl2 x_6 u_6).mono ?_
  rintro e w7 ⟨rfl, hb⟩
  have ha_7 := ha_6.below hb
  have x_7 := x_6.below hb
  have u_7 := u_6.below hb
  have HB_7 := Lib.hid (HB_6.out.trans (hb.mono HB_6.out.size))
  have z_7 : w6.heap.size ≤ w7.heap.size := hb.size
  clear hb ha_6 x_6 u_6
  go_wp2
  go_ret
  exact ⟨rfl, HB_7.out⟩

/-! the row -/
def leaf : DataW Unit → Value
  | .lit (.int k n) => .int k n
  | _ => undef
/-- the cells of a table of numbers, or of rows of numbers. -/
def cellsIn : DataW Unit → List Value
  | .agg l => l.flatMap fun x => match x with | .agg m => m.map leaf | d => [leaf d]
  | _ => []
theorem rtypeRow : (Tryz.prog.cutTypes.find? (·.1 == "internal/reflectlite.rtype")).map (·.2) = some 211 := by kernel_rfl
theorem errorRow : ((List.range Tryz.prog.types.size).filter fun t => Tryz.prog.rowNamed t [101, 114, 114, 111, 114]) = [93] := by kernel_rfl
theorem errorHandle : typeHandle Tryz.prog 93 = .pointer (some ⟨7, 93, none⟩) := by kernel_rfl
theorem errV_of_laid {W : World} (h : laidMetH Tryz.prog Rows.fnExactPrintTreeRow.laid W) : ErrV W := by
  have h' : laidMet Tryz.prog [("unicode/utf8.acceptRanges", Rows.laid_unicode_utf8_acceptRanges), ("unicode/utf8.first", Rows.laid_unicode_utf8_first)] W ∧ handlesMet Tryz.prog [("errors.errorType", Rows.laid_errors_errorType)] W := h
  obtain ⟨name, u, ty, e1, e2, e3, e4, e5⟩ := h'.2 _ (List.mem_singleton.2 rfl)
  have en : name = [101, 114, 114, 111, 114] := (Option.some.inj e1).symm
  subst en
  obtain rfl := Option.some.inj (rtypeRow.symm.trans e2)
  have hm : ty ∈ (List.range Tryz.prog.types.size).filter fun t => Tryz.prog.rowNamed t [101, 114, 114, 111, 114] := List.mem_filter.2 ⟨List.mem_range.2 e3, e4⟩
  rw [errorRow] at hm
  obtain rfl := List.mem_singleton.1 hm
  rw [errorHandle] at e5
  have h0 := World.var?_cell errVar e5 0
  unfold ErrV
  simpa using h0

/-- a world in which the listed variables read as listed. -/
def lay (g : Nat) (cs : List Value) (w : World) : World :=
  { w with heap := w.heap.modify g fun
      | .cells _ t frozen => .cells cs.toArray t frozen
      | o => o }
noncomputable def laidWorld (os : Os) : World :=
  lay 0 [.iface 211 (.agg #[.pointer (some ⟨7, 93, none⟩)])] (lay 5 (cellsIn Rows.laid_unicode_utf8_first) (lay 6 (cellsIn Rows.laid_unicode_utf8_acceptRanges) (World.holding Tryz.prog os ⟨#[], #[], []⟩)))
set_option maxRecDepth 100000 in
theorem laidWorld_data (os : Os) : laidMet Tryz.prog [("unicode/utf8.acceptRanges", Rows.laid_unicode_utf8_acceptRanges), ("unicode/utf8.first", Rows.laid_unicode_utf8_first)] ((laidWorld os).forCall (fun _ _ => 0) ⟨#[], #[.slice none 0 0], []⟩).memory :=
  laidMet_of_run' 8 (by kernel_rfl) (by kernel_rfl)
theorem laidWorld_met (os : Os) : laidMetH Tryz.prog Rows.fnExactPrintTreeRow.laid ((laidWorld os).forCall (fun _ _ => 0) ⟨#[], #[.slice none 0 0], []⟩).memory :=
  laidMetH_of_parts (laidWorld_data os) (by kernel_rfl)

set_option maxRecDepth 100000 in
theorem lifted (os : Os) (started : os.Started) (H : Type) (enc : TypeId × Value → H) :
    ReturnsInHanded {} Tryz.checked os 5 .any (fun w args => (Rows.fnExactPrintTreeSpec.pre enc Tryz.prog Tryz.f5 Rows.fnExactPrintTreeRow.domain false w args ∧ laidMetH Tryz.prog Rows.fnExactPrintTreeRow.laid w) ∧ sizedMet enc Tryz.prog Tryz.f5 (OpenSpec.ofChange Rows.fnExactPrintTreeSpec) false w args)
      (Rows.fnExactPrintTreeSpec.post enc Tryz.prog Tryz.f5 false true false false) := by
  refine returnsInHanded_of_change_and (C := Tryz.checked) (X := fun w _ => laidMetH Tryz.prog Rows.fnExactPrintTreeRow.laid w) (fun _ _ _ hh h => h.of_heap hh) own started (by kernel_rfl) Tryz.func5
    (ChangeSpec.witness_at (enc := enc) (C := Tryz.checked) (os := os) (X := fun w _ => laidMetH Tryz.prog Rows.fnExactPrintTreeRow.laid w) false (laidWorld os) #[.slice none 0 0] 8 rfl (by kernel_rfl) (by kernel_rfl) (by kernel_rfl) (by kernel_rfl) (by kernel_rfl) (laidWorld_met os)) ?_
  intro W base args ds gs before hval0 hW _ _ hL _
  have hval : ∀ (j : Nat) t v, Tryz.f5.params[j]? = some t → args[j]? = some v → Value.okWide Tryz.prog W .any base t v := hval0
  have hW' := hW
  obtain ⟨p, q, hA0, hV, rfl, _, _⟩ := hW
  have hA : DataW.TrodAll enc Tryz.prog W 0 (fun _ => true) true Tryz.f5.params.toList args.toList ds p := hA0
  rw [Tryz.params5] at hA hval
  obtain ⟨v0, vs0, d0, ds0, p0, q0, hargs0, rfl, rfl, h0, r0⟩ := trodAll_cons hA
  obtain ⟨rfl, rfl, rfl⟩ := trodAll_nil r0
  obtain rfl : args = #[v0] := by cases args; simp_all
  obtain ⟨rfl, rfl⟩ := trodVars_none hV
  have y0 := h0
  have lt0 : ∀ x ∈ p0, x.block < W.heap.size := by obtain ⟨m, hm⟩ := y0; exact DataW.trod_lt m _ _ _ hm
  obtain ⟨A0, n0, c0, l0, rfl, hl0, hn0, hts0, hf0⟩ := open_Nodes (hval 0 24 v0 rfl rfl) h0
  clear hA0 hval0
  refine (law A0 l0 n0 c0 W hl0 hn0 hts0 hf0 (errV_of_laid hL)).mono fun e W' ⟨he, bel⟩ => ?_
  subst he
  exact ⟨_, rfl, _, _, _, [], _, [], hW', trodAll_mk1 (shut_bool Tryz.underlying4 _), (trodAll_cons_mk (Below.trod laidOut (by kernel_rfl) (of_decide_eq_true (by kernel_rfl)) y0 bel lt0) trodAll_mk0), rfl, bel.frame _, (fun h => by cases h)⟩

theorem over : Rows.fnExactPrintTreeRow.holds Tryz.pinned (OpenSpec.ofChange Rows.fnExactPrintTreeSpec) :=
  OpenClaim.holds_of_wide 5 Tryz.f5 rfl rfl rfl rfl rfl rfl rfl ⟨rfl, rfl, rfl, rfl, rfl⟩ rfl rfl rfl rfl rfl (by kernel_rfl) Tryz.func5 (by kernel_rfl)
    (of_decide_eq_true (by kernel_rfl)) (by unfold Func.isWrapper; first | (rw [if_pos (by decide +kernel)]; kernel_rfl) | (rw [if_neg (by decide +kernel)]; exact ⟨rfl, rfl⟩))
    (fun os started H enc _ => lifted os started H enc)

theorem proved : Rows.FnExactPrintTreeCardSaid :=
  Claim7.holds_tied_plain_at .later [] [.data, .handle, .pinned] true Rows.fnExactPrintTreeCard.stood.harness true
    over (fun _ h => by cases h) (by kernel_rfl) (fun _ h => by cases h) fnExactPrintTree_row_tie rfl ⟨rfl, rfl⟩ (by kernel_rfl) rfl
    (fun f fn hf hfn => by
      obtain rfl : f = 5 := Option.some.inj ((show Tryz.prog.funcNamed "loop.example/g00829/laws.FnExactPrintTree" = some 5 by kernel_rfl).symm.trans hf) |>.symm
      obtain rfl : fn = Tryz.f5 := (Option.some.inj (Tryz.func5.symm.trans hfn)).symm
      exact ⟨by kernel_rfl, fun j t ht => by
        rw [Tryz.params5] at ht
        have h3 : t = 24 := by
          rcases j with _ | j
          · simpa using ht.symm
          · simp at ht
        subst h3
        exact (show Tryz.prog.wantsStandIn 24 = false by kernel_rfl)⟩)
    (by kernel_rfl)
#print axioms proved
end Go.Proofs.YtddbcifjjblkeaaGreatDoor.fnExactPrintTree
