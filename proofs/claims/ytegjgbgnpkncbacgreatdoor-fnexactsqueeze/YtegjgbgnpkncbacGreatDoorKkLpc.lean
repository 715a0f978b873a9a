/-
  The lexemes of nodes, as the model gathers them.
-/
import Derived.Test.YtegjgbgnpkncbacGreatDoorKkLpb
namespace Go.Proofs.YtegjgbgnpkncbacGreatDoor
open Go.RowKit
set_option linter.unusedVariables false

theorem l07Block_any (k : Int) (w : World) :
    Calls Tryz.prog 72 #[.int .i64 k] w fun e w' => e = .returned (.bool (inB k 3 5)) ∧ w = w' := by
  go_enter Tryz.func72, Tryz.ntmps72
  go_wp2_with (go_at_call 57; refine (l01In_any _ _ _ _).mono ?_; rintro e w' ⟨rfl, rfl⟩)
  go_ret
  exact ⟨rfl, rfl⟩
theorem XS.apart {w w' : World} {A : Option Addr} {l : List Lx} {row : Option Nat} (h : XS w A l) (hg : w.grownBy w' row) (hr : ∀ g, row = some g → A.map (·.block) ≠ some g) : XS w' A l := by
  intro i t ht
  obtain ⟨b, o, rfl, hb, hc⟩ := h i t ht
  refine ⟨b, o, rfl, Nat.lt_of_lt_of_le hb hg.size, fun j hj => (World.cell?_of_block (hg.block b hb ?_)).trans (hc j hj)⟩
  intro e
  exact hr b e.symm rfl
/-- lexemes of a call's own, and the place behind them. -/
def LxE (w : World) (xs : List Lx) (p : Nat) (e : Ending) (w' : World) : Prop := ∃ v, e = .returned (.tuple #[v, .int .i64 (p : Int)]) ∧ w'.ownsRow w.heap.size 36 3 v xs.length (fl fx xs) ∧ Below w.heap.size w w'
set_option maxHeartbeats 8000000 in
set_option maxRecDepth 100000 in
theorem l07Lexes_any {l : List Nd} {n : Nat} (hlen : l.length = n) (hn200 : n ≤ 200) (hup : UpTo l l.length) (A : Option Addr) (c : Nat) :
    ∀ (f i' : Nat), i' < n → n - i' ≤ f → ∀ (w : World), NS w A l → Calls Tryz.prog 58 #[.slice A n c, .int .i64 (i' : Int)] w (LxE w (lexP l (i' + 1)) (endp l (i' + 1) - 1)) := by
  obtain ⟨i0, hi0, hz0, hz1, hz2⟩ := info_parts infoLx
  have HUP := Lib.hid hup
  clear hup
  intro f
  induction f using Nat.strongRecOn with
  | _ f ih =>
    intro i' h2 hf w hns
    have IH := Lib.hid ih
    have HNS := Lib.hid hns
    clear ih hns
    obtain ⟨x, b, o, hx, rfl, hbl, d0, d1, d2⟩ := HNS.out.all (k := i') (by omega)
    obtain ⟨⟨x', hx', hnb⟩, _⟩ := HUP.out i' (by omega)
    obtain rfl : x = x' := Option.some.inj (hx.symm.trans hx')
    have hxk := (nodB_bd hnb).1
    have HX := Lib.hid hx
    have HPE := Lib.hid (lexP_eq (l := l) (i := i' + 1) (by omega))
    rw [nAt_succ hx] at HPE
    have hpl := HUP.out.lexP_le (i := i' + 1) (by omega)
    clear hx hx' hnb
    go_enter Tryz.func58, Tryz.ntmps58
    have hB1 := ((Below.refl w.heap.size w).alloc (Nat.le_refl _) (.cells #[.int .i64 x.d, .int .i64 x.k, .string x.s] 38)).alloc (by simp) (.cells #[] 36)
    have hX1 := (BlkL.new w 38 [.int .i64 x.d, .int .i64 x.k, .string x.s]).alloc (.cells #[] 36)
    change BlkL ((w.alloc (.cells #[.int .i64 x.d, .int .i64 x.k, .string x.s] 38)).alloc (.cells #[] 36)) _ _ _ at hX1
    have hO1 : ((w.alloc (.cells #[.int .i64 x.d, .int .i64 x.k, .string x.s] 38)).alloc (.cells #[] 36)).ownsRow w.heap.size 36 3 (.slice (some ⟨w.heap.size + 1, 0, none⟩) 0 0) 0 (fl fx []) := by
      have hN := BlkL.new (w.alloc (.cells #[.int .i64 x.d, .int .i64 x.k, .string x.s] 38)) 36 []
      rw [World.size_alloc] at hN
      exact ⟨rfl, .inr ⟨w.heap.size + 1, 0, #[], rfl, Nat.le_succ _, hN, Nat.le_refl _, by unfold maxLen; omega, rfl, rfl⟩⟩
    go_upto_region 4 with (fail)
    generalize (w.alloc (.cells #[.int .i64 x.d, .int .i64 x.k, .string x.s] 38)).alloc (.cells #[] 36) = w1 at *
    have HB1 := Lib.hid hB1
    have HX1 := Lib.hid hX1
    have HO1 := Lib.hid hO1
    have x1 : w1.cell? ⟨w.heap.size, 1, none⟩ = some (.int .i64 x.k) := (hX1.cell 1).trans rfl
    have x2 : w1.cell? ⟨w.heap.size, 2, none⟩ = some (.string x.s) := (hX1.cell 2).trans rfl
    have xl := hX1.lt
    clear hB1 hX1 hO1 d0 d1 d2
    by_cases h3 : x.k < 3
    · have h3b : decide (x.k < 3) = true := by simpa using h3
      have HHD := Lib.hid (show hdL x = [⟨x.k, x.s, 0⟩] from if_pos (by omega))
      have hS := BlkL.new w1 36 [.int .i64 x.k, .string x.s, .int .i64 0]
      have hbS := (Below.refl w1.heap.size w1).alloc (Nat.le_refl _) (.cells #[.int .i64 x.k, .string x.s, .int .i64 0] 36)
      have HOS := Lib.hid (own_below HO1.out hbS)
      have HBS := Lib.hid (HB1.out.trans (hbS.mono HB1.out.size))
      have HXS := Lib.hid (HX1.out.below hbS HX1.out.lt)
      have HSS := Lib.hid hS
      have hzS : w.heap.size ≤ (w1.alloc (.cells #[.int .i64 x.k, .string x.s, .int .i64 0] 36)).heap.size := HBS.out.size
      clear hS hbS
      go_wp2_with (at_builtin; refine wpList_append_own_at _ rfl _ _ 31 rfl w.heap.size 36 i0 (.agg #[.int .i64 0, .string ByteArray.empty, .int .i64 0]) 3 32 Tryz.underlying31 hi0 hz0 hz1 hz2 rfl (by decide) _ _ _ rfl HOS.out ⟨w1.heap.size, 0, none⟩ 1 1 [.int .i64 x.k, .string x.s, .int .i64 0] rfl rfl (fun j u hj => by rw [Addr.add_lit, Nat.zero_add]; exact (HSS.out.cell j).trans hj) (fx_one (⟨x.k, x.s, 0⟩ : Lx)) (by simp only [maxLen]; omega) (by omega) hzS ?_)
      intro v' w5 howS hgrS _ hatS
      have howS' : w5.ownsRow w.heap.size 36 3 v' (0 + 1) (fl fx ([]) ++ fl fx [(⟨x.k, x.s, 0⟩ : Lx)]) := by first | exact howS | (rw [List.append_assoc]; exact howS)
      rw [← fl_append] at howS'
      have HB5 := Lib.hid (HBS.out.grown hgrS hzS (fun g hg => (HOS.out.lt g hg).1))
      have HX5 := Lib.hid (HXS.out.grown hgrS (fun e => fo_blk HOS.out HXS.out (by decide) e.symm))
      obtain ⟨A1, c1, rfl⟩ := own_slice howS
      have HO5 := Lib.hid (show w5.ownsRow w.heap.size 36 3 (.slice A1 (0 + 1) c1) (0 + 1) (fl fx ([] ++ [(⟨x.k, x.s, 0⟩ : Lx)])) from howS')
      clear howS howS' hgrS hatS HOS HBS HSS HXS hzS
      have hfirst := HUP.out.first (i := i' + 1) (by omega)
      rw [hlen] at hfirst
      have HST := Lib.hid (show w5.ownsRow w.heap.size 36 3 (.slice A1 1 c1) (hdL x ++ lexK l (i' + 1) (i' + 1)).length (fl fx (hdL x ++ lexK l (i' + 1) (i' + 1))) by rw [lexK_zero, List.append_nil, HHD.out]; exact HO5.out)
      clear x1 x2 xl HO5 HO1 HB1 HX1
      go_wp2
      go_loopw [1, 7] (fun kv ov wr => ∃ a : Nat, kv = .int .i64 (a : Int) ∧ i' + 1 ≤ a ∧ a ≤ n ∧ ((a < n ∧ par l a = i' + 1) ∨ (kidsN l (i' + 1) a = kidsN l (i' + 1) n ∧ a + 1 = endp l (i' + 1))) ∧ wr.ownsRow w.heap.size 36 3 ov (hdL x ++ lexK l (i' + 1) a).length (fl fx (hdL x ++ lexK l (i' + 1) a)) ∧ BlkL wr w.heap.size 38 [.int .i64 x.d, .int .i64 x.k, .string x.s] ∧ Below w.heap.size w wr) (fun kv _ _ => n - (intOf kv).toNat)
      case atStart =>
        refine ⟨i' + 1, by simp, Nat.le_refl _, by omega, ?_, HST.out, HX5.out, HB5.out⟩
        rcases hfirst with h | h
        · exact .inl h
        · exact .inr ⟨by rw [h.1, kidsN_low], h.2.symm⟩
      case round =>
        clear HST HX5 HB5 hfirst
        obtain ⟨a, rfl, hia, han, hcase, hown, hxx, hb⟩ := hrel
        have HO := Lib.hid hown
        have HXX := Lib.hid hxx
        have HB := Lib.hid hb
        obtain ⟨Av, cv, hAv⟩ := own_slice hown
        subst hAv
        have hll := HUP.out.lexK_le (i := i' + 1) (a := a) (by omega) (by omega)
        have HDX := Lib.hid (dep_succ HX.out)
        have z0 := Bw.rd (show wr.cell? ⟨w.heap.size, 0, none⟩ = some (.int .i64 x.d) from (hxx.cell 0).trans rfl)
        have zl := hxx.lt
        have hsz := hb.size
        clear hown hxx hb
        by_cases hin : a < n ∧ par l a = i' + 1
        · obtain ⟨y0, b', o', hy, hA, _, _⟩ := HNS.out.all (k := a) (by omega)
          injection hA with hA
          injection hA with e1 e2 _
          subst e1 e2
          obtain ⟨hbl', c0, _, _⟩ := NS.get (HNS.out.below HB.out) hy
          have hgt : decide (x.d < y0.d) = true := by
            have h1 := ((HUP.out.par_iff (i := i' + 1) (y := a) (by omega)).1 hin.2).2.1
            rw [dep_succ hy, HDX.out] at h1
            exact decide_eq_true (by omega)
          have hnext := HUP.out.next (i := i' + 1) (a := a) (by omega) hin.2
          rw [hlen] at hnext
          have HNX := Lib.hid hnext
          have HLS := Lib.hid (lexK_step hin.2)
          have hge := endp_gt l (a + 1)
          have hgle := endp_le (l := l) (i := a + 1) (by omega)
          have hpl7 := HUP.out.lexP_le (i := a + 1) (by omega)
          have han' := hin.1
          have HHL := Lib.hid (hdL_len x)
          have hhb : (hdL x).length ≤ 1 := by have := HHL.out; omega
          have r0 := Bw.rd c0
          clear hy c0 hcase hin hnext
          go_wp2_with fail
          refine wp_region_class (Bw wr) (by kernel_rfl) (by kernel_rfl) (Bw.start wr) (fun hne => ?_)
          repeat (go_big_quiet_step (fail))
          refine wpQuiet_nil ?_
          rintro wq ⟨y, rfl⟩
          replace HB := Lib.hid (HB.out.trans (Below.mono y.ok HB.out.size))
          replace HO := Lib.hid (own_below HO.out y.ok)
          replace HXX := Lib.hid (HXX.out.below y.ok HXX.out.lt)
          have hszq : wr.heap.size ≤ y.W.heap.size := Below.size y.ok
          generalize y.W = wq at *
          clear hne z0 zl
          clear r0
          go_wp2_with fail
          have hb3 := (Below.refl wq.heap.size wq).alloc (Nat.le_refl _) (.cells #[] 36)
          have HO3 := Lib.hid (own_below HO.out hb3)
          have HB3 := Lib.hid (HB.out.trans (hb3.mono HB.out.size))
          have HXX3 := Lib.hid (HXX.out.below hb3 HXX.out.lt)
          have hob : ∀ g, (Value.slice Av (hdL x ++ lexK l (i' + 1) a).length cv).ownBlock = some g → g < (wq.alloc (.cells #[] 36)).heap.size := fun g hg => by have := (HO.out.lt g hg).2; have := hb3.size; omega
          have HOB := Lib.hid hob
          clear hb3 hob HO HB HXX
          generalize wq.alloc (.cells #[] 36) = w3 at *
          refine (IH.out (n - a) (by omega) a (by omega) (Nat.le_refl _) w3 (HNS.out.below HB3.out)).mono ?_
          rintro e w4 ⟨v4, rfl, ho4, hb4⟩
          have HM4 := Lib.hid (show _ from (OR.of_own fx_len rfl ho4))
          have hlo4 := ho4.lt
          obtain ⟨A4, c4, rfl⟩ := own_slice ho4
          obtain ⟨M, hM⟩ : ∃ M, lexP l (a + 1) = M := ⟨_, rfl⟩
          have HXM := Lib.hid (show XS w4 A4 (lexP l (a + 1)) from HM4.out.rs fx_len)
          rw [hM] at HXM hpl7 HLS hlo4 ⊢
          have HO4 := Lib.hid (own_below HO3.out hb4)
          have HB4 := Lib.hid (HB3.out.trans (hb4.mono HB3.out.size))
          have HXX4 := Lib.hid (HXX3.out.below hb4 HXX3.out.lt)
          have HAP := Lib.hid (show ∀ g, (Value.slice Av (hdL x ++ lexK l (i' + 1) a).length cv).ownBlock = some g → A4.map (·.block) ≠ some g from fun g hg e => by
            have h1 := HOB.out g hg
            rcases ho4.2 with ⟨h, _⟩ | ⟨g', cap', cur', h, hB', _⟩
            · injection h with h _ _
              subst h
              simp at e
            · injection h with h _ _
              subst h
              simp at e
              omega)
          clear ho4 hb4 HM4 hlo4 HO3 HB3 HXX3 HOB hM
          obtain ⟨a', ha'⟩ : ∃ a', endp l (a + 1) - 1 = a' := ⟨_, rfl⟩
          rw [ha'] at HNX ⊢
          have hml : (hdL x ++ lexK l (i' + 1) a).length ≤ 2 * (l.length + 1) + 1 := by rw [List.length_append]; omega
          obtain ⟨PP, hPP⟩ : ∃ PP, hdL x ++ lexK l (i' + 1) a = PP := ⟨_, rfl⟩
          have HPP := Lib.hid hPP
          rw [hPP] at HO4 HAP hml
          rw [← List.length_append, hPP]
          clear hPP
          go_wp2
          go_loopw [7, 9] (fun ov iv wr => ∃ j : Nat, iv = .int .i64 (j : Int) ∧ j ≤ M.length ∧ wr.ownsRow w.heap.size 36 3 ov (PP.length + j) (fl fx (PP ++ M.take j)) ∧ XS wr A4 M ∧ (∀ g, ov.ownBlock = some g → A4.map (·.block) ≠ some g) ∧ BlkL wr w.heap.size 38 [.int .i64 x.d, .int .i64 x.k, .string x.s] ∧ Below w.heap.size w wr) (fun _ iv _ => M.length - (intOf iv).toNat)
          case atStart => exact ⟨0, by simp, Nat.zero_le _, by rw [List.take_zero, List.append_nil]; exact HO4.out, HXM.out, HAP.out, HXX4.out, HB4.out⟩
          case round =>
            clear HXM HAP HXX4 HB4 HO4
            obtain ⟨j, rfl, hjM, hown, hxm, hap, hxx, hb⟩ := hrel
            have HO := Lib.hid hown
            have HXX := Lib.hid hxx
            have HB := Lib.hid hb
            have HXM := Lib.hid hxm
            have HAP := Lib.hid hap
            obtain ⟨Aw, cw, hAw⟩ := own_slice hown
            subst hAw
            clear hown hxx hb hxm hap
            by_cases hj : j < M.length
            · obtain ⟨y, b4, o4, hy, hA, hbl4, q0, q1, q2⟩ := HXM.out.all hj
              subst hA
              have HY := Lib.hid hy
              clear hy
              have hS := BlkL.new wr 36 [.int .i64 y.k, .string y.s, .int .i64 y.a]
              have hbS := (Below.refl wr.heap.size wr).alloc (Nat.le_refl _) (.cells #[.int .i64 y.k, .string y.s, .int .i64 y.a] 36)
              have HOS := Lib.hid (own_below HO.out hbS)
              have HBS := Lib.hid (HB.out.trans (hbS.mono HB.out.size))
              have HXS := Lib.hid (HXX.out.below hbS HXX.out.lt)
              have HMS := Lib.hid (HXM.out.below hbS)
              have HSS := Lib.hid hS
              have hzS : w.heap.size ≤ (wr.alloc (.cells #[.int .i64 y.k, .string y.s, .int .i64 y.a] 36)).heap.size := HBS.out.size
              have hb9 := Below.size hbS
              clear hS hbS HO HB HXX HXM
              go_wp2_with (at_builtin; refine wpList_append_own_at _ rfl _ _ 31 rfl w.heap.size 36 i0 (.agg #[.int .i64 0, .string ByteArray.empty, .int .i64 0]) 3 32 Tryz.underlying31 hi0 hz0 hz1 hz2 rfl (by decide) _ _ _ rfl HOS.out ⟨wr.heap.size, 0, none⟩ 1 1 [.int .i64 y.k, .string y.s, .int .i64 y.a] rfl rfl (fun j u hj => by rw [Addr.add_lit, Nat.zero_add]; exact (HSS.out.cell j).trans hj) (fx_one y) (by simp only [maxLen]; omega) (by omega) hzS ?_)
              intro v' w9 howS hgrS _ hatS
              have howS' : w9.ownsRow w.heap.size 36 3 v' (PP.length + (j + 1)) (fl fx (PP ++ M.take (j + 1))) := by
                rw [List.take_add_one, HY.out, Option.toList_some, ← List.append_assoc, fl_append]
                exact howS
              have HO9 := Lib.hid howS'
              have HB9 := Lib.hid (HBS.out.grown hgrS hzS (fun g hg => (HOS.out.lt g hg).1))
              have HX9 := Lib.hid (HXS.out.grown hgrS (fun e => fo_blk HOS.out HXS.out (by decide) e.symm))
              have HM9 := Lib.hid (HMS.out.apart hgrS HAP.out)
              have HA9 := Lib.hid (show ∀ g, v'.ownBlock = some g → (some (⟨b4, o4, none⟩ : Addr)).map (·.block) ≠ some g from fun g hg => by
                rcases hatS with h | h
                · exact HAP.out g (h.symm.trans hg)
                · rw [h] at hg
                  injection hg with hg
                  subst hg
                  simp only [Option.map_some, ne_eq, Option.some.injEq]
                  omega)
              clear howS howS' hgrS hatS HOS HBS HSS HXS HMS HAP hzS q0 q1 q2
              go_wp2
              go_roundw
              case rel => exact ⟨j + 1, by go_num, by omega, HO9.out, HM9.out, HA9.out, HX9.out, HB9.out⟩
              case measure => simp [intOf]; omega
            · obtain rfl : j = M.length := by omega
              go_wp2
              go_roundw
              case rel =>
                have hn7 := HNX.out
                have ho7 := HO.out
                have hE : PP ++ M = hdL x ++ lexK l (i' + 1) a' := by rw [lexK_same hn7.1, HLS.out, ← HPP.out, List.append_assoc]
                rw [List.take_length, hE] at ho7
                refine ⟨a', rfl, by omega, by omega, ?_, own_n ?_ ho7, HXX.out, HB.out⟩
                · rcases hn7.2 with h | h
                  · exact .inl h
                  · exact .inr ⟨h.1, by omega⟩
                · rw [← hE, List.length_append]
              case measure => simp [intOf]; omega
        · have hend : kidsN l (i' + 1) a = kidsN l (i' + 1) n ∧ a + 1 = endp l (i' + 1) := by
            rcases hcase with h | h
            · exact (hin h).elim
            · exact h
          obtain ⟨hkn, hae⟩ := hend
          clear hin hcase
          by_cases hlt : a < n
          · obtain ⟨y0, b', o', hy, hA, _, _⟩ := HNS.out.all (k := a) (by omega)
            injection hA with hA
            injection hA with e1 e2 _
            subst e1 e2
            obtain ⟨hbl', c0, _, _⟩ := NS.get (HNS.out.below HB.out) hy
            have hgt : decide (x.d < y0.d) = false := by
              have h1 := endp_out (l := l) (i := i' + 1) (by omega)
              rw [← hae, dep_succ hy, HDX.out] at h1
              exact decide_eq_false (by omega)
            have r0 := Bw.rd c0
            clear hy c0
            go_wp2_with fail
            refine wp_region_class (Bw wr) (by kernel_rfl) (by kernel_rfl) (Bw.start wr) (fun hne => ?_)
            repeat (go_big_quiet_step (fail))
            refine wpQuiet_nil ?_
            rintro wq ⟨y, rfl⟩
            replace HB := Lib.hid (HB.out.trans (Below.mono y.ok HB.out.size))
            replace HO := Lib.hid (own_below HO.out y.ok)
            replace HXX := Lib.hid (HXX.out.below y.ok HXX.out.lt)
            have hszq : wr.heap.size ≤ y.W.heap.size := Below.size y.ok
            generalize y.W = wq at *
            clear hne z0 zl
            clear r0
            have HKN := Lib.hid (lexK_same hkn)
            have ho9 := HO.out
            rw [HKN.out] at ho9
            rw [HKN.out]
            rw [List.length_append] at ho9
            have HO9 := Lib.hid ho9
            have HPL := Lib.hid (show endp l (i' + 1) - 1 = a by omega)
            have e1 : wq.cell? ⟨w.heap.size, 1, none⟩ = some (.int .i64 x.k) := (HXX.out.cell 1).trans rfl
            have el := HXX.out.lt
            have hlk := HUP.out.lexK_le (i := i' + 1) (a := l.length) (by omega) (Nat.le_refl _)
            rw [hlen] at hlk
            have HHL := Lib.hid (hdL_len x)
            have hhb : (hdL x).length ≤ 1 := by have := HHL.out; omega
            clear ho9 HO
            by_cases hbk : 3 ≤ x.k ∧ x.k ≤ 5
            · have HIB := Lib.hid (inB_true.2 hbk)
              obtain ⟨K, hK⟩ : ∃ K, x.k = K := ⟨_, rfl⟩
              have HTL := Lib.hid (show tlL x = [⟨4, clS x.k, 0⟩] from if_pos hbk)
              rw [hK] at HIB HTL e1 hbk
              have HPX := Lib.hid (show lexP l (i' + 1) = hdL x ++ lexK l (i' + 1) n ++ [⟨4, clS K, 0⟩] by rw [HPE.out, HTL.out, hlen, List.append_assoc])
              have HKK := Lib.hid hK
              clear hK
              obtain h | h | h : K = 3 ∨ K = 4 ∨ K = 5 := by omega
              · subst h
                rw [show clS 3 = ⟨#[41]⟩ from rfl] at HPX
                have HXX9 := Lib.hid (show BlkL wq w.heap.size 38 [.int .i64 x.d, .int .i64 3, .string x.s] by have := HXX.out; rw [HKK.out] at this; exact this)
                have hex : (⟨#[41, 93, 125]⟩ : ByteArray).extract 0 1 = ⟨#[41]⟩ := rfl
                go_upto_region 17 with (go_at_call 72; refine (l07Block_any _ _).mono ?_; rintro e w' ⟨rfl, rfl⟩; rw [HIB.out])
                have hS := BlkL.new wq 36 [.int .i64 4, .string ⟨#[41]⟩, .int .i64 0]
                have hbS := (Below.refl wq.heap.size wq).alloc (Nat.le_refl _) (.cells #[.int .i64 4, .string ⟨#[41]⟩, .int .i64 0] 36)
                have HOS := Lib.hid (own_below HO9.out hbS)
                have HBS := Lib.hid (HB.out.trans (hbS.mono HB.out.size))
                have HXS := Lib.hid (HXX9.out.below hbS HXX9.out.lt)
                have HSS := Lib.hid hS
                have hzS : w.heap.size ≤ (wq.alloc (.cells #[.int .i64 4, .string ⟨#[41]⟩, .int .i64 0] 36)).heap.size := HBS.out.size
                clear hS hbS
                go_wp2_with (at_builtin; refine wpList_append_own_at _ rfl _ _ 31 rfl w.heap.size 36 i0 (.agg #[.int .i64 0, .string ByteArray.empty, .int .i64 0]) 3 32 Tryz.underlying31 hi0 hz0 hz1 hz2 rfl (by decide) _ _ _ rfl HOS.out ⟨wq.heap.size, 0, none⟩ 1 1 [.int .i64 4, .string ⟨#[41]⟩, .int .i64 0] rfl rfl (fun j u hj => by rw [Addr.add_lit, Nat.zero_add]; exact (HSS.out.cell j).trans hj) (fx_one (⟨4, ⟨#[41]⟩, 0⟩ : Lx)) (by simp only [maxLen]; omega) (by omega) hzS ?_)
                intro v' w9 howS hgrS _ hatS
                have howS' : w9.ownsRow w.heap.size 36 3 v' (((hdL x).length + (lexK l (i' + 1) n).length) + 1) (fl fx (hdL x ++ lexK l (i' + 1) n) ++ fl fx [(⟨4, ⟨#[41]⟩, 0⟩ : Lx)]) := by first | exact howS | (rw [List.append_assoc]; exact howS)
                rw [← fl_append] at howS'
                have HBA := Lib.hid (HBS.out.grown hgrS hzS (fun g hg => (HOS.out.lt g hg).1))
                have HXA := Lib.hid (HXS.out.grown hgrS (fun e => fo_blk HOS.out HXS.out (by decide) e.symm))
                obtain ⟨A9, c9, rfl⟩ := own_slice howS
                have HOA := Lib.hid (show w9.ownsRow w.heap.size 36 3 (.slice A9 (((hdL x).length + (lexK l (i' + 1) n).length) + 1) c9) (((hdL x).length + (lexK l (i' + 1) n).length) + 1) (fl fx (hdL x ++ lexK l (i' + 1) n ++ [(⟨4, ⟨#[41]⟩, 0⟩ : Lx)])) from howS')
                clear howS howS' hgrS hatS HOS HBS HSS HXS hzS
                go_wp2
                go_ret2
                refine ⟨_, by rw [HPL.out]; rfl, ?_, HBA.out⟩
                rw [HPX.out]
                exact own_n (by simp only [List.length_append, List.length_cons, List.length_nil]) HOA.out
              · subst h
                rw [show clS 4 = ⟨#[93]⟩ from rfl] at HPX
                have HXX9 := Lib.hid (show BlkL wq w.heap.size 38 [.int .i64 x.d, .int .i64 4, .string x.s] by have := HXX.out; rw [HKK.out] at this; exact this)
                have hex : (⟨#[41, 93, 125]⟩ : ByteArray).extract 1 2 = ⟨#[93]⟩ := rfl
                go_upto_region 17 with (go_at_call 72; refine (l07Block_any _ _).mono ?_; rintro e w' ⟨rfl, rfl⟩; rw [HIB.out])
                have hS := BlkL.new wq 36 [.int .i64 4, .string ⟨#[93]⟩, .int .i64 0]
                have hbS := (Below.refl wq.heap.size wq).alloc (Nat.le_refl _) (.cells #[.int .i64 4, .string ⟨#[93]⟩, .int .i64 0] 36)
                have HOS := Lib.hid (own_below HO9.out hbS)
                have HBS := Lib.hid (HB.out.trans (hbS.mono HB.out.size))
                have HXS := Lib.hid (HXX9.out.below hbS HXX9.out.lt)
                have HSS := Lib.hid hS
                have hzS : w.heap.size ≤ (wq.alloc (.cells #[.int .i64 4, .string ⟨#[93]⟩, .int .i64 0] 36)).heap.size := HBS.out.size
                clear hS hbS
                go_wp2_with (at_builtin; refine wpList_append_own_at _ rfl _ _ 31 rfl w.heap.size 36 i0 (.agg #[.int .i64 0, .string ByteArray.empty, .int .i64 0]) 3 32 Tryz.underlying31 hi0 hz0 hz1 hz2 rfl (by decide) _ _ _ rfl HOS.out ⟨wq.heap.size, 0, none⟩ 1 1 [.int .i64 4, .string ⟨#[93]⟩, .int .i64 0] rfl rfl (fun j u hj => by rw [Addr.add_lit, Nat.zero_add]; exact (HSS.out.cell j).trans hj) (fx_one (⟨4, ⟨#[93]⟩, 0⟩ : Lx)) (by simp only [maxLen]; omega) (by omega) hzS ?_)
                intro v' w9 howS hgrS _ hatS
                have howS' : w9.ownsRow w.heap.size 36 3 v' (((hdL x).length + (lexK l (i' + 1) n).length) + 1) (fl fx (hdL x ++ lexK l (i' + 1) n) ++ fl fx [(⟨4, ⟨#[93]⟩, 0⟩ : Lx)]) := by first | exact howS | (rw [List.append_assoc]; exact howS)
                rw [← fl_append] at howS'
                have HBA := Lib.hid (HBS.out.grown hgrS hzS (fun g hg => (HOS.out.lt g hg).1))
                have HXA := Lib.hid (HXS.out.grown hgrS (fun e => fo_blk HOS.out HXS.out (by decide) e.symm))
                obtain ⟨A9, c9, rfl⟩ := own_slice howS
                have HOA := Lib.hid (show w9.ownsRow w.heap.size 36 3 (.slice A9 (((hdL x).length + (lexK l (i' + 1) n).length) + 1) c9) (((hdL x).length + (lexK l (i' + 1) n).length) + 1) (fl fx (hdL x ++ lexK l (i' + 1) n ++ [(⟨4, ⟨#[93]⟩, 0⟩ : Lx)])) from howS')
                clear howS howS' hgrS hatS HOS HBS HSS HXS hzS
                go_wp2
                go_ret2
                refine ⟨_, by rw [HPL.out]; rfl, ?_, HBA.out⟩
                rw [HPX.out]
                exact own_n (by simp only [List.length_append, List.length_cons, List.length_nil]) HOA.out
              · subst h
                rw [show clS 5 = ⟨#[125]⟩ from rfl] at HPX
                have HXX9 := Lib.hid (show BlkL wq w.heap.size 38 [.int .i64 x.d, .int .i64 5, .string x.s] by have := HXX.out; rw [HKK.out] at this; exact this)
                have hex : (⟨#[41, 93, 125]⟩ : ByteArray).extract 2 3 = ⟨#[125]⟩ := rfl
                go_upto_region 17 with (go_at_call 72; refine (l07Block_any _ _).mono ?_; rintro e w' ⟨rfl, rfl⟩; rw [HIB.out])
                have hS := BlkL.new wq 36 [.int .i64 4, .string ⟨#[125]⟩, .int .i64 0]
                have hbS := (Below.refl wq.heap.size wq).alloc (Nat.le_refl _) (.cells #[.int .i64 4, .string ⟨#[125]⟩, .int .i64 0] 36)
                have HOS := Lib.hid (own_below HO9.out hbS)
                have HBS := Lib.hid (HB.out.trans (hbS.mono HB.out.size))
                have HXS := Lib.hid (HXX9.out.below hbS HXX9.out.lt)
                have HSS := Lib.hid hS
                have hzS : w.heap.size ≤ (wq.alloc (.cells #[.int .i64 4, .string ⟨#[125]⟩, .int .i64 0] 36)).heap.size := HBS.out.size
                clear hS hbS
                go_wp2_with (at_builtin; refine wpList_append_own_at _ rfl _ _ 31 rfl w.heap.size 36 i0 (.agg #[.int .i64 0, .string ByteArray.empty, .int .i64 0]) 3 32 Tryz.underlying31 hi0 hz0 hz1 hz2 rfl (by decide) _ _ _ rfl HOS.out ⟨wq.heap.size, 0, none⟩ 1 1 [.int .i64 4, .string ⟨#[125]⟩, .int .i64 0] rfl rfl (fun j u hj => by rw [Addr.add_lit, Nat.zero_add]; exact (HSS.out.cell j).trans hj) (fx_one (⟨4, ⟨#[125]⟩, 0⟩ : Lx)) (by simp only [maxLen]; omega) (by omega) hzS ?_)
                intro v' w9 howS hgrS _ hatS
                have howS' : w9.ownsRow w.heap.size 36 3 v' (((hdL x).length + (lexK l (i' + 1) n).length) + 1) (fl fx (hdL x ++ lexK l (i' + 1) n) ++ fl fx [(⟨4, ⟨#[125]⟩, 0⟩ : Lx)]) := by first | exact howS | (rw [List.append_assoc]; exact howS)
                rw [← fl_append] at howS'
                have HBA := Lib.hid (HBS.out.grown hgrS hzS (fun g hg => (HOS.out.lt g hg).1))
                have HXA := Lib.hid (HXS.out.grown hgrS (fun e => fo_blk HOS.out HXS.out (by decide) e.symm))
                obtain ⟨A9, c9, rfl⟩ := own_slice howS
                have HOA := Lib.hid (show w9.ownsRow w.heap.size 36 3 (.slice A9 (((hdL x).length + (lexK l (i' + 1) n).length) + 1) c9) (((hdL x).length + (lexK l (i' + 1) n).length) + 1) (fl fx (hdL x ++ lexK l (i' + 1) n ++ [(⟨4, ⟨#[125]⟩, 0⟩ : Lx)])) from howS')
                clear howS howS' hgrS hatS HOS HBS HSS HXS hzS
                go_wp2
                go_ret2
                refine ⟨_, by rw [HPL.out]; rfl, ?_, HBA.out⟩
                rw [HPX.out]
                exact own_n (by simp only [List.length_append, List.length_cons, List.length_nil]) HOA.out
            · have HIB := Lib.hid (show inB x.k 3 5 = false by
                cases e : inB x.k 3 5
                · rfl
                · exact (hbk (inB_true.1 e)).elim)
              have HTL := Lib.hid (show tlL x = [] from if_neg hbk)
              have HPX := Lib.hid (show lexP l (i' + 1) = hdL x ++ lexK l (i' + 1) n by rw [HPE.out, HTL.out, hlen, List.append_nil])
              go_wp2_with (go_at_call 72; refine (l07Block_any _ _).mono ?_; rintro e w' ⟨rfl, rfl⟩; rw [HIB.out])
              go_ret2
              refine ⟨_, by rw [HPL.out]; rfl, ?_, HB.out⟩
              rw [HPX.out, List.length_append]
              exact HO9.out
          · have hlb : decide ((a : Int) < (n : Int)) = false := by simp; omega
            have hlb' : decide (a < n) = false := by simp; omega
            go_wp2_with fail
            refine wp_region_class (Bw wr) (by kernel_rfl) (by kernel_rfl) (Bw.start wr) (fun hne => ?_)
            repeat (go_big_quiet_step (fail))
            refine wpQuiet_nil ?_
            rintro wq ⟨y, rfl⟩
            replace HB := Lib.hid (HB.out.trans (Below.mono y.ok HB.out.size))
            replace HO := Lib.hid (own_below HO.out y.ok)
            replace HXX := Lib.hid (HXX.out.below y.ok HXX.out.lt)
            have hszq : wr.heap.size ≤ y.W.heap.size := Below.size y.ok
            generalize y.W = wq at *
            clear hne z0 zl
            have HKN := Lib.hid (lexK_same hkn)
            have ho9 := HO.out
            rw [HKN.out] at ho9
            rw [HKN.out]
            rw [List.length_append] at ho9
            have HO9 := Lib.hid ho9
            have HPL := Lib.hid (show endp l (i' + 1) - 1 = a by omega)
            have e1 : wq.cell? ⟨w.heap.size, 1, none⟩ = some (.int .i64 x.k) := (HXX.out.cell 1).trans rfl
            have el := HXX.out.lt
            have hlk := HUP.out.lexK_le (i := i' + 1) (a := l.length) (by omega) (Nat.le_refl _)
            rw [hlen] at hlk
            have HHL := Lib.hid (hdL_len x)
            have hhb : (hdL x).length ≤ 1 := by have := HHL.out; omega
            clear ho9 HO
            by_cases hbk : 3 ≤ x.k ∧ x.k ≤ 5
            · have HIB := Lib.hid (inB_true.2 hbk)
              obtain ⟨K, hK⟩ : ∃ K, x.k = K := ⟨_, rfl⟩
              have HTL := Lib.hid (show tlL x = [⟨4, clS x.k, 0⟩] from if_pos hbk)
              rw [hK] at HIB HTL e1 hbk
              have HPX := Lib.hid (show lexP l (i' + 1) = hdL x ++ lexK l (i' + 1) n ++ [⟨4, clS K, 0⟩] by rw [HPE.out, HTL.out, hlen, List.append_assoc])
              have HKK := Lib.hid hK
              clear hK
              obtain h | h | h : K = 3 ∨ K = 4 ∨ K = 5 := by omega
              · subst h
                rw [show clS 3 = ⟨#[41]⟩ from rfl] at HPX
                have HXX9 := Lib.hid (show BlkL wq w.heap.size 38 [.int .i64 x.d, .int .i64 3, .string x.s] by have := HXX.out; rw [HKK.out] at this; exact this)
                have hex : (⟨#[41, 93, 125]⟩ : ByteArray).extract 0 1 = ⟨#[41]⟩ := rfl
                go_upto_region 17 with (go_at_call 72; refine (l07Block_any _ _).mono ?_; rintro e w' ⟨rfl, rfl⟩; rw [HIB.out])
                have hS := BlkL.new wq 36 [.int .i64 4, .string ⟨#[41]⟩, .int .i64 0]
                have hbS := (Below.refl wq.heap.size wq).alloc (Nat.le_refl _) (.cells #[.int .i64 4, .string ⟨#[41]⟩, .int .i64 0] 36)
                have HOS := Lib.hid (own_below HO9.out hbS)
                have HBS := Lib.hid (HB.out.trans (hbS.mono HB.out.size))
                have HXS := Lib.hid (HXX9.out.below hbS HXX9.out.lt)
                have HSS := Lib.hid hS
                have hzS : w.heap.size ≤ (wq.alloc (.cells #[.int .i64 4, .string ⟨#[41]⟩, .int .i64 0] 36)).heap.size := HBS.out.size
                clear hS hbS
                go_wp2_with (at_builtin; refine wpList_append_own_at _ rfl _ _ 31 rfl w.heap.size 36 i0 (.agg #[.int .i64 0, .string ByteArray.empty, .int .i64 0]) 3 32 Tryz.underlying31 hi0 hz0 hz1 hz2 rfl (by decide) _ _ _ rfl HOS.out ⟨wq.heap.size, 0, none⟩ 1 1 [.int .i64 4, .string ⟨#[41]⟩, .int .i64 0] rfl rfl (fun j u hj => by rw [Addr.add_lit, Nat.zero_add]; exact (HSS.out.cell j).trans hj) (fx_one (⟨4, ⟨#[41]⟩, 0⟩ : Lx)) (by simp only [maxLen]; omega) (by omega) hzS ?_)
                intro v' w9 howS hgrS _ hatS
                have howS' : w9.ownsRow w.heap.size 36 3 v' (((hdL x).length + (lexK l (i' + 1) n).length) + 1) (fl fx (hdL x ++ lexK l (i' + 1) n) ++ fl fx [(⟨4, ⟨#[41]⟩, 0⟩ : Lx)]) := by first | exact howS | (rw [List.append_assoc]; exact howS)
                rw [← fl_append] at howS'
                have HBA := Lib.hid (HBS.out.grown hgrS hzS (fun g hg => (HOS.out.lt g hg).1))
                have HXA := Lib.hid (HXS.out.grown hgrS (fun e => fo_blk HOS.out HXS.out (by decide) e.symm))
                obtain ⟨A9, c9, rfl⟩ := own_slice howS
                have HOA := Lib.hid (show w9.ownsRow w.heap.size 36 3 (.slice A9 (((hdL x).length + (lexK l (i' + 1) n).length) + 1) c9) (((hdL x).length + (lexK l (i' + 1) n).length) + 1) (fl fx (hdL x ++ lexK l (i' + 1) n ++ [(⟨4, ⟨#[41]⟩, 0⟩ : Lx)])) from howS')
                clear howS howS' hgrS hatS HOS HBS HSS HXS hzS
                go_wp2
                go_ret2
                refine ⟨_, by rw [HPL.out]; rfl, ?_, HBA.out⟩
                rw [HPX.out]
                exact own_n (by simp only [List.length_append, List.length_cons, List.length_nil]) HOA.out
              · subst h
                rw [show clS 4 = ⟨#[93]⟩ from rfl] at HPX
                have HXX9 := Lib.hid (show BlkL wq w.heap.size 38 [.int .i64 x.d, .int .i64 4, .string x.s] by have := HXX.out; rw [HKK.out] at this; exact this)
                have hex : (⟨#[41, 93, 125]⟩ : ByteArray).extract 1 2 = ⟨#[93]⟩ := rfl
                go_upto_region 17 with (go_at_call 72; refine (l07Block_any _ _).mono ?_; rintro e w' ⟨rfl, rfl⟩; rw [HIB.out])
                have hS := BlkL.new wq 36 [.int .i64 4, .string ⟨#[93]⟩, .int .i64 0]
                have hbS := (Below.refl wq.heap.size wq).alloc (Nat.le_refl _) (.cells #[.int .i64 4, .string ⟨#[93]⟩, .int .i64 0] 36)
                have HOS := Lib.hid (own_below HO9.out hbS)
                have HBS := Lib.hid (HB.out.trans (hbS.mono HB.out.size))
                have HXS := Lib.hid (HXX9.out.below hbS HXX9.out.lt)
                have HSS := Lib.hid hS
                have hzS : w.heap.size ≤ (wq.alloc (.cells #[.int .i64 4, .string ⟨#[93]⟩, .int .i64 0] 36)).heap.size := HBS.out.size
                clear hS hbS
                go_wp2_with (at_builtin; refine wpList_append_own_at _ rfl _ _ 31 rfl w.heap.size 36 i0 (.agg #[.int .i64 0, .string ByteArray.empty, .int .i64 0]) 3 32 Tryz.underlying31 hi0 hz0 hz1 hz2 rfl (by decide) _ _ _ rfl HOS.out ⟨wq.heap.size, 0, none⟩ 1 1 [.int .i64 4, .string ⟨#[93]⟩, .int .i64 0] rfl rfl (fun j u hj => by rw [Addr.add_lit, Nat.zero_add]; exact (HSS.out.cell j).trans hj) (fx_one (⟨4, ⟨#[93]⟩, 0⟩ : Lx)) (by simp only [maxLen]; omega) (by omega) hzS ?_)
                intro v' w9 howS hgrS _ hatS
                have howS' : w9.ownsRow w.heap.size 36 3 v' (((hdL x).length + (lexK l (i' + 1) n).length) + 1) (fl fx (hdL x ++ lexK l (i' + 1) n) ++ fl fx [(⟨4, ⟨#[93]⟩, 0⟩ : Lx)]) := by first | exact howS | (rw [List.append_assoc]; exact howS)
                rw [← fl_append] at howS'
                have HBA := Lib.hid (HBS.out.grown hgrS hzS (fun g hg => (HOS.out.lt g hg).1))
                have HXA := Lib.hid (HXS.out.grown hgrS (fun e => fo_blk HOS.out HXS.out (by decide) e.symm))
                obtain ⟨A9, c9, rfl⟩ := own_slice howS
                have HOA := Lib.hid (show w9.ownsRow w.heap.size 36 3 (.slice A9 (((hdL x).length + (lexK l (i' + 1) n).length) + 1) c9) (((hdL x).length + (lexK l (i' + 1) n).length) + 1) (fl fx (hdL x ++ lexK l (i' + 1) n ++ [(⟨4, ⟨#[93]⟩, 0⟩ : Lx)])) from howS')
                clear howS howS' hgrS hatS HOS HBS HSS HXS hzS
                go_wp2
                go_ret2
                refine ⟨_, by rw [HPL.out]; rfl, ?_, HBA.out⟩
                rw [HPX.out]
                exact own_n (by simp only [List.length_append, List.length_cons, List.length_nil]) HOA.out
              · subst h
                rw [show clS 5 = ⟨#[125]⟩ from rfl] at HPX
                have HXX9 := Lib.hid (show BlkL wq w.heap.size 38 [.int .i64 x.d, .int .i64 5, .string x.s] by have := HXX.out; rw [HKK.out] at this; exact this)
                have hex : (⟨#[41, 93, 125]⟩ : ByteArray).extract 2 3 = ⟨#[125]⟩ := rfl
                go_upto_region 17 with (go_at_call 72; refine (l07Block_any _ _).mono ?_; rintro e w' ⟨rfl, rfl⟩; rw [HIB.out])
                have hS := BlkL.new wq 36 [.int .i64 4, .string ⟨#[125]⟩, .int .i64 0]
                have hbS := (Below.refl wq.heap.size wq).alloc (Nat.le_refl _) (.cells #[.int .i64 4, .string ⟨#[125]⟩, .int .i64 0] 36)
                have HOS := Lib.hid (own_below HO9.out hbS)
                have HBS := Lib.hid (HB.out.trans (hbS.mono HB.out.size))
                have HXS := Lib.hid (HXX9.out.below hbS HXX9.out.lt)
                have HSS := Lib.hid hS
                have hzS : w.heap.size ≤ (wq.alloc (.cells #[.int .i64 4, .string ⟨#[125]⟩, .int .i64 0] 36)).heap.size := HBS.out.size
                clear hS hbS
                go_wp2_with (at_builtin; refine wpList_append_own_at _ rfl _ _ 31 rfl w.heap.size 36 i0 (.agg #[.int .i64 0, .string ByteArray.empty, .int .i64 0]) 3 32 Tryz.underlying31 hi0 hz0 hz1 hz2 rfl (by decide) _ _ _ rfl HOS.out ⟨wq.heap.size, 0, none⟩ 1 1 [.int .i64 4, .string ⟨#[125]⟩, .int .i64 0] rfl rfl (fun j u hj => by rw [Addr.add_lit, Nat.zero_add]; exact (HSS.out.cell j).trans hj) (fx_one (⟨4, ⟨#[125]⟩, 0⟩ : Lx)) (by simp only [maxLen]; omega) (by omega) hzS ?_)
                intro v' w9 howS hgrS _ hatS
                have howS' : w9.ownsRow w.heap.size 36 3 v' (((hdL x).length + (lexK l (i' + 1) n).length) + 1) (fl fx (hdL x ++ lexK l (i' + 1) n) ++ fl fx [(⟨4, ⟨#[125]⟩, 0⟩ : Lx)]) := by first | exact howS | (rw [List.append_assoc]; exact howS)
                rw [← fl_append] at howS'
                have HBA := Lib.hid (HBS.out.grown hgrS hzS (fun g hg => (HOS.out.lt g hg).1))
                have HXA := Lib.hid (HXS.out.grown hgrS (fun e => fo_blk HOS.out HXS.out (by decide) e.symm))
                obtain ⟨A9, c9, rfl⟩ := own_slice howS
                have HOA := Lib.hid (show w9.ownsRow w.heap.size 36 3 (.slice A9 (((hdL x).length + (lexK l (i' + 1) n).length) + 1) c9) (((hdL x).length + (lexK l (i' + 1) n).length) + 1) (fl fx (hdL x ++ lexK l (i' + 1) n ++ [(⟨4, ⟨#[125]⟩, 0⟩ : Lx)])) from howS')
                clear howS howS' hgrS hatS HOS HBS HSS HXS hzS
                go_wp2
                go_ret2
                refine ⟨_, by rw [HPL.out]; rfl, ?_, HBA.out⟩
                rw [HPX.out]
                exact own_n (by simp only [List.length_append, List.length_cons, List.length_nil]) HOA.out
            · have HIB := Lib.hid (show inB x.k 3 5 = false by
                cases e : inB x.k 3 5
                · rfl
                · exact (hbk (inB_true.1 e)).elim)
              have HTL := Lib.hid (show tlL x = [] from if_neg hbk)
              have HPX := Lib.hid (show lexP l (i' + 1) = hdL x ++ lexK l (i' + 1) n by rw [HPE.out, HTL.out, hlen, List.append_nil])
              go_wp2_with (go_at_call 72; refine (l07Block_any _ _).mono ?_; rintro e w' ⟨rfl, rfl⟩; rw [HIB.out])
              go_ret2
              refine ⟨_, by rw [HPL.out]; rfl, ?_, HB.out⟩
              rw [HPX.out, List.length_append]
              exact HO9.out
    · obtain ⟨K, hK⟩ : ∃ K, x.k = K := ⟨_, rfl⟩
      rw [hK] at x1 hxk h3
      have HKZ := Lib.hid hK
      clear hK
      obtain h | h | h | h : K = 6 ∨ K = 3 ∨ K = 4 ∨ K = 5 := by omega
      · subst h
        have HHD := Lib.hid (show hdL x = [⟨5, ⟨#[39]⟩, 0⟩] by unfold hdL; rw [HKZ.out]; rfl)
        clear h3 hxk
        have hS := BlkL.new w1 36 [.int .i64 5, .string ⟨#[39]⟩, .int .i64 0]
        have hbS := (Below.refl w1.heap.size w1).alloc (Nat.le_refl _) (.cells #[.int .i64 5, .string ⟨#[39]⟩, .int .i64 0] 36)
        have HOS := Lib.hid (own_below HO1.out hbS)
        have HBS := Lib.hid (HB1.out.trans (hbS.mono HB1.out.size))
        have HXS := Lib.hid (HX1.out.below hbS HX1.out.lt)
        have HSS := Lib.hid hS
        have hzS : w.heap.size ≤ (w1.alloc (.cells #[.int .i64 5, .string ⟨#[39]⟩, .int .i64 0] 36)).heap.size := HBS.out.size
        clear hS hbS
        go_wp2_with (at_builtin; refine wpList_append_own_at _ rfl _ _ 31 rfl w.heap.size 36 i0 (.agg #[.int .i64 0, .string ByteArray.empty, .int .i64 0]) 3 32 Tryz.underlying31 hi0 hz0 hz1 hz2 rfl (by decide) _ _ _ rfl HOS.out ⟨w1.heap.size, 0, none⟩ 1 1 [.int .i64 5, .string ⟨#[39]⟩, .int .i64 0] rfl rfl (fun j u hj => by rw [Addr.add_lit, Nat.zero_add]; exact (HSS.out.cell j).trans hj) (fx_one (⟨5, ⟨#[39]⟩, 0⟩ : Lx)) (by simp only [maxLen]; omega) (by omega) hzS ?_)
        intro v' w5 howS hgrS _ hatS
        have howS' : w5.ownsRow w.heap.size 36 3 v' (0 + 1) (fl fx ([]) ++ fl fx [(⟨5, ⟨#[39]⟩, 0⟩ : Lx)]) := by first | exact howS | (rw [List.append_assoc]; exact howS)
        rw [← fl_append] at howS'
        have HB5 := Lib.hid (HBS.out.grown hgrS hzS (fun g hg => (HOS.out.lt g hg).1))
        have HX5 := Lib.hid (HXS.out.grown hgrS (fun e => fo_blk HOS.out HXS.out (by decide) e.symm))
        obtain ⟨A1, c1, rfl⟩ := own_slice howS
        have HO5 := Lib.hid (show w5.ownsRow w.heap.size 36 3 (.slice A1 (0 + 1) c1) (0 + 1) (fl fx ([] ++ [(⟨5, ⟨#[39]⟩, 0⟩ : Lx)])) from howS')
        clear howS howS' hgrS hatS HOS HBS HSS HXS hzS
        have hfirst := HUP.out.first (i := i' + 1) (by omega)
        rw [hlen] at hfirst
        have HST := Lib.hid (show w5.ownsRow w.heap.size 36 3 (.slice A1 1 c1) (hdL x ++ lexK l (i' + 1) (i' + 1)).length (fl fx (hdL x ++ lexK l (i' + 1) (i' + 1))) by rw [lexK_zero, List.append_nil, HHD.out]; exact HO5.out)
        clear x1 x2 xl HO5 HO1 HB1 HX1
        go_wp2
        go_loopw [1, 7] (fun kv ov wr => ∃ a : Nat, kv = .int .i64 (a : Int) ∧ i' + 1 ≤ a ∧ a ≤ n ∧ ((a < n ∧ par l a = i' + 1) ∨ (kidsN l (i' + 1) a = kidsN l (i' + 1) n ∧ a + 1 = endp l (i' + 1))) ∧ wr.ownsRow w.heap.size 36 3 ov (hdL x ++ lexK l (i' + 1) a).length (fl fx (hdL x ++ lexK l (i' + 1) a)) ∧ BlkL wr w.heap.size 38 [.int .i64 x.d, .int .i64 x.k, .string x.s] ∧ Below w.heap.size w wr) (fun kv _ _ => n - (intOf kv).toNat)
        case atStart =>
          refine ⟨i' + 1, by simp, Nat.le_refl _, by omega, ?_, HST.out, HX5.out, HB5.out⟩
          rcases hfirst with h | h
          · exact .inl h
          · exact .inr ⟨by rw [h.1, kidsN_low], h.2.symm⟩
        case round =>
          clear HST HX5 HB5 hfirst
          obtain ⟨a, rfl, hia, han, hcase, hown, hxx, hb⟩ := hrel
          have HO := Lib.hid hown
          have HXX := Lib.hid hxx
          have HB := Lib.hid hb
          obtain ⟨Av, cv, hAv⟩ := own_slice hown
          subst hAv
          have hll := HUP.out.lexK_le (i := i' + 1) (a := a) (by omega) (by omega)
          have HDX := Lib.hid (dep_succ HX.out)
          have z0 := Bw.rd (show wr.cell? ⟨w.heap.size, 0, none⟩ = some (.int .i64 x.d) from (hxx.cell 0).trans rfl)
          have zl := hxx.lt
          have hsz := hb.size
          clear hown hxx hb
          by_cases hin : a < n ∧ par l a = i' + 1
          · obtain ⟨y0, b', o', hy, hA, _, _⟩ := HNS.out.all (k := a) (by omega)
            injection hA with hA
            injection hA with e1 e2 _
            subst e1 e2
            obtain ⟨hbl', c0, _, _⟩ := NS.get (HNS.out.below HB.out) hy
            have hgt : decide (x.d < y0.d) = true := by
              have h1 := ((HUP.out.par_iff (i := i' + 1) (y := a) (by omega)).1 hin.2).2.1
              rw [dep_succ hy, HDX.out] at h1
              exact decide_eq_true (by omega)
            have hnext := HUP.out.next (i := i' + 1) (a := a) (by omega) hin.2
            rw [hlen] at hnext
            have HNX := Lib.hid hnext
            have HLS := Lib.hid (lexK_step hin.2)
            have hge := endp_gt l (a + 1)
            have hgle := endp_le (l := l) (i := a + 1) (by omega)
            have hpl7 := HUP.out.lexP_le (i := a + 1) (by omega)
            have han' := hin.1
            have HHL := Lib.hid (hdL_len x)
            have hhb : (hdL x).length ≤ 1 := by have := HHL.out; omega
            have r0 := Bw.rd c0
            clear hy c0 hcase hin hnext
            go_wp2_with fail
            refine wp_region_class (Bw wr) (by kernel_rfl) (by kernel_rfl) (Bw.start wr) (fun hne => ?_)
            repeat (go_big_quiet_step (fail))
            refine wpQuiet_nil ?_
            rintro wq ⟨y, rfl⟩
            replace HB := Lib.hid (HB.out.trans (Below.mono y.ok HB.out.size))
            replace HO := Lib.hid (own_below HO.out y.ok)
            replace HXX := Lib.hid (HXX.out.below y.ok HXX.out.lt)
            have hszq : wr.heap.size ≤ y.W.heap.size := Below.size y.ok
            generalize y.W = wq at *
            clear hne z0 zl
            clear r0
            go_wp2_with fail
            have hb3 := (Below.refl wq.heap.size wq).alloc (Nat.le_refl _) (.cells #[] 36)
            have HO3 := Lib.hid (own_below HO.out hb3)
            have HB3 := Lib.hid (HB.out.trans (hb3.mono HB.out.size))
            have HXX3 := Lib.hid (HXX.out.below hb3 HXX.out.lt)
            have hob : ∀ g, (Value.slice Av (hdL x ++ lexK l (i' + 1) a).length cv).ownBlock = some g → g < (wq.alloc (.cells #[] 36)).heap.size := fun g hg => by have := (HO.out.lt g hg).2; have := hb3.size; omega
            have HOB := Lib.hid hob
            clear hb3 hob HO HB HXX
            generalize wq.alloc (.cells #[] 36) = w3 at *
            refine (IH.out (n - a) (by omega) a (by omega) (Nat.le_refl _) w3 (HNS.out.below HB3.out)).mono ?_
            rintro e w4 ⟨v4, rfl, ho4, hb4⟩
            have HM4 := Lib.hid (show _ from (OR.of_own fx_len rfl ho4))
            have hlo4 := ho4.lt
            obtain ⟨A4, c4, rfl⟩ := own_slice ho4
            obtain ⟨M, hM⟩ : ∃ M, lexP l (a + 1) = M := ⟨_, rfl⟩
            have HXM := Lib.hid (show XS w4 A4 (lexP l (a + 1)) from HM4.out.rs fx_len)
            rw [hM] at HXM hpl7 HLS hlo4 ⊢
            have HO4 := Lib.hid (own_below HO3.out hb4)
            have HB4 := Lib.hid (HB3.out.trans (hb4.mono HB3.out.size))
            have HXX4 := Lib.hid (HXX3.out.below hb4 HXX3.out.lt)
            have HAP := Lib.hid (show ∀ g, (Value.slice Av (hdL x ++ lexK l (i' + 1) a).length cv).ownBlock = some g → A4.map (·.block) ≠ some g from fun g hg e => by
              have h1 := HOB.out g hg
              rcases ho4.2 with ⟨h, _⟩ | ⟨g', cap', cur', h, hB', _⟩
              · injection h with h _ _
                subst h
                simp at e
              · injection h with h _ _
                subst h
                simp at e
                omega)
            clear ho4 hb4 HM4 hlo4 HO3 HB3 HXX3 HOB hM
            obtain ⟨a', ha'⟩ : ∃ a', endp l (a + 1) - 1 = a' := ⟨_, rfl⟩
            rw [ha'] at HNX ⊢
            have hml : (hdL x ++ lexK l (i' + 1) a).length ≤ 2 * (l.length + 1) + 1 := by rw [List.length_append]; omega
            obtain ⟨PP, hPP⟩ : ∃ PP, hdL x ++ lexK l (i' + 1) a = PP := ⟨_, rfl⟩
            have HPP := Lib.hid hPP
            rw [hPP] at HO4 HAP hml
            rw [← List.length_append, hPP]
            clear hPP
            go_wp2
            go_loopw [7, 9] (fun ov iv wr => ∃ j : Nat, iv = .int .i64 (j : Int) ∧ j ≤ M.length ∧ wr.ownsRow w.heap.size 36 3 ov (PP.length + j) (fl fx (PP ++ M.take j)) ∧ XS wr A4 M ∧ (∀ g, ov.ownBlock = some g → A4.map (·.block) ≠ some g) ∧ BlkL wr w.heap.size 38 [.int .i64 x.d, .int .i64 x.k, .string x.s] ∧ Below w.heap.size w wr) (fun _ iv _ => M.length - (intOf iv).toNat)
            case atStart => exact ⟨0, by simp, Nat.zero_le _, by rw [List.take_zero, List.append_nil]; exact HO4.out, HXM.out, HAP.out, HXX4.out, HB4.out⟩
            case round =>
              clear HXM HAP HXX4 HB4 HO4
              obtain ⟨j, rfl, hjM, hown, hxm, hap, hxx, hb⟩ := hrel
              have HO := Lib.hid hown
              have HXX := Lib.hid hxx
              have HB := Lib.hid hb
              have HXM := Lib.hid hxm
              have HAP := Lib.hid hap
              obtain ⟨Aw, cw, hAw⟩ := own_slice hown
              subst hAw
              clear hown hxx hb hxm hap
              by_cases hj : j < M.length
              · obtain ⟨y, b4, o4, hy, hA, hbl4, q0, q1, q2⟩ := HXM.out.all hj
                subst hA
                have HY := Lib.hid hy
                clear hy
                have hS := BlkL.new wr 36 [.int .i64 y.k, .string y.s, .int .i64 y.a]
                have hbS := (Below.refl wr.heap.size wr).alloc (Nat.le_refl _) (.cells #[.int .i64 y.k, .string y.s, .int .i64 y.a] 36)
                have HOS := Lib.hid (own_below HO.out hbS)
                have HBS := Lib.hid (HB.out.trans (hbS.mono HB.out.size))
                have HXS := Lib.hid (HXX.out.below hbS HXX.out.lt)
                have HMS := Lib.hid (HXM.out.below hbS)
                have HSS := Lib.hid hS
                have hzS : w.heap.size ≤ (wr.alloc (.cells #[.int .i64 y.k, .string y.s, .int .i64 y.a] 36)).heap.size := HBS.out.size
                have hb9 := Below.size hbS
                clear hS hbS HO HB HXX HXM
                go_wp2_with (at_builtin; refine wpList_append_own_at _ rfl _ _ 31 rfl w.heap.size 36 i0 (.agg #[.int .i64 0, .string ByteArray.empty, .int .i64 0]) 3 32 Tryz.underlying31 hi0 hz0 hz1 hz2 rfl (by decide) _ _ _ rfl HOS.out ⟨wr.heap.size, 0, none⟩ 1 1 [.int .i64 y.k, .string y.s, .int .i64 y.a] rfl rfl (fun j u hj => by rw [Addr.add_lit, Nat.zero_add]; exact (HSS.out.cell j).trans hj) (fx_one y) (by simp only [maxLen]; omega) (by omega) hzS ?_)
                intro v' w9 howS hgrS _ hatS
                have howS' : w9.ownsRow w.heap.size 36 3 v' (PP.length + (j + 1)) (fl fx (PP ++ M.take (j + 1))) := by
                  rw [List.take_add_one, HY.out, Option.toList_some, ← List.append_assoc, fl_append]
                  exact howS
                have HO9 := Lib.hid howS'
                have HB9 := Lib.hid (HBS.out.grown hgrS hzS (fun g hg => (HOS.out.lt g hg).1))
                have HX9 := Lib.hid (HXS.out.grown hgrS (fun e => fo_blk HOS.out HXS.out (by decide) e.symm))
                have HM9 := Lib.hid (HMS.out.apart hgrS HAP.out)
                have HA9 := Lib.hid (show ∀ g, v'.ownBlock = some g → (some (⟨b4, o4, none⟩ : Addr)).map (·.block) ≠ some g from fun g hg => by
                  rcases hatS with h | h
                  · exact HAP.out g (h.symm.trans hg)
                  · rw [h] at hg
                    injection hg with hg
                    subst hg
                    simp only [Option.map_some, ne_eq, Option.some.injEq]
                    omega)
                clear howS howS' hgrS hatS HOS HBS HSS HXS HMS HAP hzS q0 q1 q2
                go_wp2
                go_roundw
                case rel => exact ⟨j + 1, by go_num, by omega, HO9.out, HM9.out, HA9.out, HX9.out, HB9.out⟩
                case measure => simp [intOf]; omega
              · obtain rfl : j = M.length := by omega
                go_wp2
                go_roundw
                case rel =>
                  have hn7 := HNX.out
                  have ho7 := HO.out
                  have hE : PP ++ M = hdL x ++ lexK l (i' + 1) a' := by rw [lexK_same hn7.1, HLS.out, ← HPP.out, List.append_assoc]
                  rw [List.take_length, hE] at ho7
                  refine ⟨a', rfl, by omega, by omega, ?_, own_n ?_ ho7, HXX.out, HB.out⟩
                  · rcases hn7.2 with h | h
                    · exact .inl h
                    · exact .inr ⟨h.1, by omega⟩
                  · rw [← hE, List.length_append]
                case measure => simp [intOf]; omega
          · have hend : kidsN l (i' + 1) a = kidsN l (i' + 1) n ∧ a + 1 = endp l (i' + 1) := by
              rcases hcase with h | h
              · exact (hin h).elim
              · exact h
            obtain ⟨hkn, hae⟩ := hend
            clear hin hcase
            by_cases hlt : a < n
            · obtain ⟨y0, b', o', hy, hA, _, _⟩ := HNS.out.all (k := a) (by omega)
              injection hA with hA
              injection hA with e1 e2 _
              subst e1 e2
              obtain ⟨hbl', c0, _, _⟩ := NS.get (HNS.out.below HB.out) hy
              have hgt : decide (x.d < y0.d) = false := by
                have h1 := endp_out (l := l) (i := i' + 1) (by omega)
                rw [← hae, dep_succ hy, HDX.out] at h1
                exact decide_eq_false (by omega)
              have r0 := Bw.rd c0
              clear hy c0
              go_wp2_with fail
              refine wp_region_class (Bw wr) (by kernel_rfl) (by kernel_rfl) (Bw.start wr) (fun hne => ?_)
              repeat (go_big_quiet_step (fail))
              refine wpQuiet_nil ?_
              rintro wq ⟨y, rfl⟩
              replace HB := Lib.hid (HB.out.trans (Below.mono y.ok HB.out.size))
              replace HO := Lib.hid (own_below HO.out y.ok)
              replace HXX := Lib.hid (HXX.out.below y.ok HXX.out.lt)
              have hszq : wr.heap.size ≤ y.W.heap.size := Below.size y.ok
              generalize y.W = wq at *
              clear hne z0 zl
              clear r0
              have HKN := Lib.hid (lexK_same hkn)
              have ho9 := HO.out
              rw [HKN.out] at ho9
              rw [HKN.out]
              rw [List.length_append] at ho9
              have HO9 := Lib.hid ho9
              have HPL := Lib.hid (show endp l (i' + 1) - 1 = a by omega)
              have e1 : wq.cell? ⟨w.heap.size, 1, none⟩ = some (.int .i64 x.k) := (HXX.out.cell 1).trans rfl
              have el := HXX.out.lt
              have hlk := HUP.out.lexK_le (i := i' + 1) (a := l.length) (by omega) (Nat.le_refl _)
              rw [hlen] at hlk
              have HHL := Lib.hid (hdL_len x)
              have hhb : (hdL x).length ≤ 1 := by have := HHL.out; omega
              clear ho9 HO
              by_cases hbk : 3 ≤ x.k ∧ x.k ≤ 5
              · have HIB := Lib.hid (inB_true.2 hbk)
                obtain ⟨K, hK⟩ : ∃ K, x.k = K := ⟨_, rfl⟩
                have HTL := Lib.hid (show tlL x = [⟨4, clS x.k, 0⟩] from if_pos hbk)
                rw [hK] at HIB HTL e1 hbk
                have HPX := Lib.hid (show lexP l (i' + 1) = hdL x ++ lexK l (i' + 1) n ++ [⟨4, clS K, 0⟩] by rw [HPE.out, HTL.out, hlen, List.append_assoc])
                have HKK := Lib.hid hK
                clear hK
                obtain h | h | h : K = 3 ∨ K = 4 ∨ K = 5 := by omega
                · subst h
                  rw [show clS 3 = ⟨#[41]⟩ from rfl] at HPX
                  have HXX9 := Lib.hid (show BlkL wq w.heap.size 38 [.int .i64 x.d, .int .i64 3, .string x.s] by have := HXX.out; rw [HKK.out] at this; exact this)
                  have hex : (⟨#[41, 93, 125]⟩ : ByteArray).extract 0 1 = ⟨#[41]⟩ := rfl
                  go_upto_region 17 with (go_at_call 72; refine (l07Block_any _ _).mono ?_; rintro e w' ⟨rfl, rfl⟩; rw [HIB.out])
                  have hS := BlkL.new wq 36 [.int .i64 4, .string ⟨#[41]⟩, .int .i64 0]
                  have hbS := (Below.refl wq.heap.size wq).alloc (Nat.le_refl _) (.cells #[.int .i64 4, .string ⟨#[41]⟩, .int .i64 0] 36)
                  have HOS := Lib.hid (own_below HO9.out hbS)
                  have HBS := Lib.hid (HB.out.trans (hbS.mono HB.out.size))
                  have HXS := Lib.hid (HXX9.out.below hbS HXX9.out.lt)
                  have HSS := Lib.hid hS
                  have hzS : w.heap.size ≤ (wq.alloc (.cells #[.int .i64 4, .string ⟨#[41]⟩, .int .i64 0] 36)).heap.size := HBS.out.size
                  clear hS hbS
                  go_wp2_with (at_builtin; refine wpList_append_own_at _ rfl _ _ 31 rfl w.heap.size 36 i0 (.agg #[.int .i64 0, .string ByteArray.empty, .int .i64 0]) 3 32 Tryz.underlying31 hi0 hz0 hz1 hz2 rfl (by decide) _ _ _ rfl HOS.out ⟨wq.heap.size, 0, none⟩ 1 1 [.int .i64 4, .string ⟨#[41]⟩, .int .i64 0] rfl rfl (fun j u hj => by rw [Addr.add_lit, Nat.zero_add]; exact (HSS.out.cell j).trans hj) (fx_one (⟨4, ⟨#[41]⟩, 0⟩ : Lx)) (by simp only [maxLen]; omega) (by omega) hzS ?_)
                  intro v' w9 howS hgrS _ hatS
                  have howS' : w9.ownsRow w.heap.size 36 3 v' (((hdL x).length + (lexK l (i' + 1) n).length) + 1) (fl fx (hdL x ++ lexK l (i' + 1) n) ++ fl fx [(⟨4, ⟨#[41]⟩, 0⟩ : Lx)]) := by first | exact howS | (rw [List.append_assoc]; exact howS)
                  rw [← fl_append] at howS'
                  have HBA := Lib.hid (HBS.out.grown hgrS hzS (fun g hg => (HOS.out.lt g hg).1))
                  have HXA := Lib.hid (HXS.out.grown hgrS (fun e => fo_blk HOS.out HXS.out (by decide) e.symm))
                  obtain ⟨A9, c9, rfl⟩ := own_slice howS
                  have HOA := Lib.hid (show w9.ownsRow w.heap.size 36 3 (.slice A9 (((hdL x).length + (lexK l (i' + 1) n).length) + 1) c9) (((hdL x).length + (lexK l (i' + 1) n).length) + 1) (fl fx (hdL x ++ lexK l (i' + 1) n ++ [(⟨4, ⟨#[41]⟩, 0⟩ : Lx)])) from howS')
                  clear howS howS' hgrS hatS HOS HBS HSS HXS hzS
                  go_wp2
                  go_ret2
                  refine ⟨_, by rw [HPL.out]; rfl, ?_, HBA.out⟩
                  rw [HPX.out]
                  exact own_n (by simp only [List.length_append, List.length_cons, List.length_nil]) HOA.out
                · subst h
                  rw [show clS 4 = ⟨#[93]⟩ from rfl] at HPX
                  have HXX9 := Lib.hid (show BlkL wq w.heap.size 38 [.int .i64 x.d, .int .i64 4, .string x.s] by have := HXX.out; rw [HKK.out] at this; exact this)
                  have hex : (⟨#[41, 93, 125]⟩ : ByteArray).extract 1 2 = ⟨#[93]⟩ := rfl
                  go_upto_region 17 with (go_at_call 72; refine (l07Block_any _ _).mono ?_; rintro e w' ⟨rfl, rfl⟩; rw [HIB.out])
                  have hS := BlkL.new wq 36 [.int .i64 4, .string ⟨#[93]⟩, .int .i64 0]
                  have hbS := (Below.refl wq.heap.size wq).alloc (Nat.le_refl _) (.cells #[.int .i64 4, .string ⟨#[93]⟩, .int .i64 0] 36)
                  have HOS := Lib.hid (own_below HO9.out hbS)
                  have HBS := Lib.hid (HB.out.trans (hbS.mono HB.out.size))
                  have HXS := Lib.hid (HXX9.out.below hbS HXX9.out.lt)
                  have HSS := Lib.hid hS
                  have hzS : w.heap.size ≤ (wq.alloc (.cells #[.int .i64 4, .string ⟨#[93]⟩, .int .i64 0] 36)).heap.size := HBS.out.size
                  clear hS hbS
                  go_wp2_with (at_builtin; refine wpList_append_own_at _ rfl _ _ 31 rfl w.heap.size 36 i0 (.agg #[.int .i64 0, .string ByteArray.empty, .int .i64 0]) 3 32 Tryz.underlying31 hi0 hz0 hz1 hz2 rfl (by decide) _ _ _ rfl HOS.out ⟨wq.heap.size, 0, none⟩ 1 1 [.int .i64 4, .string ⟨#[93]⟩, .int .i64 0] rfl rfl (fun j u hj => by rw [Addr.add_lit, Nat.zero_add]; exact (HSS.out.cell j).trans hj) (fx_one (⟨4, ⟨#[93]⟩, 0⟩ : Lx)) (by simp only [maxLen]; omega) (by omega) hzS ?_)
                  intro v' w9 howS hgrS _ hatS
                  have howS' : w9.ownsRow w.heap.size 36 3 v' (((hdL x).length + (lexK l (i' + 1) n).length) + 1) (fl fx (hdL x ++ lexK l (i' + 1) n) ++ fl fx [(⟨4, ⟨#[93]⟩, 0⟩ : Lx)]) := by first | exact howS | (rw [List.append_assoc]; exact howS)
                  rw [← fl_append] at howS'
                  have HBA := Lib.hid (HBS.out.grown hgrS hzS (fun g hg => (HOS.out.lt g hg).1))
                  have HXA := Lib.hid (HXS.out.grown hgrS (fun e => fo_blk HOS.out HXS.out (by decide) e.symm))
                  obtain ⟨A9, c9, rfl⟩ := own_slice howS
                  have HOA := Lib.hid (show w9.ownsRow w.heap.size 36 3 (.slice A9 (((hdL x).length + (lexK l (i' + 1) n).length) + 1) c9) (((hdL x).length + (lexK l (i' + 1) n).length) + 1) (fl fx (hdL x ++ lexK l (i' + 1) n ++ [(⟨4, ⟨#[93]⟩, 0⟩ : Lx)])) from howS')
                  clear howS howS' hgrS hatS HOS HBS HSS HXS hzS
                  go_wp2
                  go_ret2
                  refine ⟨_, by rw [HPL.out]; rfl, ?_, HBA.out⟩
                  rw [HPX.out]
                  exact own_n (by simp only [List.length_append, List.length_cons, List.length_nil]) HOA.out
                · subst h
                  rw [show clS 5 = ⟨#[125]⟩ from rfl] at HPX
                  have HXX9 := Lib.hid (show BlkL wq w.heap.size 38 [.int .i64 x.d, .int .i64 5, .string x.s] by have := HXX.out; rw [HKK.out] at this; exact this)
                  have hex : (⟨#[41, 93, 125]⟩ : ByteArray).extract 2 3 = ⟨#[125]⟩ := rfl
                  go_upto_region 17 with (go_at_call 72; refine (l07Block_any _ _).mono ?_; rintro e w' ⟨rfl, rfl⟩; rw [HIB.out])
                  have hS := BlkL.new wq 36 [.int .i64 4, .string ⟨#[125]⟩, .int .i64 0]
                  have hbS := (Below.refl wq.heap.size wq).alloc (Nat.le_refl _) (.cells #[.int .i64 4, .string ⟨#[125]⟩, .int .i64 0] 36)
                  have HOS := Lib.hid (own_below HO9.out hbS)
                  have HBS := Lib.hid (HB.out.trans (hbS.mono HB.out.size))
                  have HXS := Lib.hid (HXX9.out.below hbS HXX9.out.lt)
                  have HSS := Lib.hid hS
                  have hzS : w.heap.size ≤ (wq.alloc (.cells #[.int .i64 4, .string ⟨#[125]⟩, .int .i64 0] 36)).heap.size := HBS.out.size
                  clear hS hbS
                  go_wp2_with (at_builtin; refine wpList_append_own_at _ rfl _ _ 31 rfl w.heap.size 36 i0 (.agg #[.int .i64 0, .string ByteArray.empty, .int .i64 0]) 3 32 Tryz.underlying31 hi0 hz0 hz1 hz2 rfl (by decide) _ _ _ rfl HOS.out ⟨wq.heap.size, 0, none⟩ 1 1 [.int .i64 4, .string ⟨#[125]⟩, .int .i64 0] rfl rfl (fun j u hj => by rw [Addr.add_lit, Nat.zero_add]; exact (HSS.out.cell j).trans hj) (fx_one (⟨4, ⟨#[125]⟩, 0⟩ : Lx)) (by simp only [maxLen]; omega) (by omega) hzS ?_)
                  intro v' w9 howS hgrS _ hatS
                  have howS' : w9.ownsRow w.heap.size 36 3 v' (((hdL x).length + (lexK l (i' + 1) n).length) + 1) (fl fx (hdL x ++ lexK l (i' + 1) n) ++ fl fx [(⟨4, ⟨#[125]⟩, 0⟩ : Lx)]) := by first | exact howS | (rw [List.append_assoc]; exact howS)
                  rw [← fl_append] at howS'
                  have HBA := Lib.hid (HBS.out.grown hgrS hzS (fun g hg => (HOS.out.lt g hg).1))
                  have HXA := Lib.hid (HXS.out.grown hgrS (fun e => fo_blk HOS.out HXS.out (by decide) e.symm))
                  obtain ⟨A9, c9, rfl⟩ := own_slice howS
                  have HOA := Lib.hid (show w9.ownsRow w.heap.size 36 3 (.slice A9 (((hdL x).length + (lexK l (i' + 1) n).length) + 1) c9) (((hdL x).length + (lexK l (i' + 1) n).length) + 1) (fl fx (hdL x ++ lexK l (i' + 1) n ++ [(⟨4, ⟨#[125]⟩, 0⟩ : Lx)])) from howS')
                  clear howS howS' hgrS hatS HOS HBS HSS HXS hzS
                  go_wp2
                  go_ret2
                  refine ⟨_, by rw [HPL.out]; rfl, ?_, HBA.out⟩
                  rw [HPX.out]
                  exact own_n (by simp only [List.length_append, List.length_cons, List.length_nil]) HOA.out
              · have HIB := Lib.hid (show inB x.k 3 5 = false by
                  cases e : inB x.k 3 5
                  · rfl
                  · exact (hbk (inB_true.1 e)).elim)
                have HTL := Lib.hid (show tlL x = [] from if_neg hbk)
                have HPX := Lib.hid (show lexP l (i' + 1) = hdL x ++ lexK l (i' + 1) n by rw [HPE.out, HTL.out, hlen, List.append_nil])
                go_wp2_with (go_at_call 72; refine (l07Block_any _ _).mono ?_; rintro e w' ⟨rfl, rfl⟩; rw [HIB.out])
                go_ret2
                refine ⟨_, by rw [HPL.out]; rfl, ?_, HB.out⟩
                rw [HPX.out, List.length_append]
                exact HO9.out
            · have hlb : decide ((a : Int) < (n : Int)) = false := by simp; omega
              have hlb' : decide (a < n) = false := by simp; omega
              go_wp2_with fail
              refine wp_region_class (Bw wr) (by kernel_rfl) (by kernel_rfl) (Bw.start wr) (fun hne => ?_)
              repeat (go_big_quiet_step (fail))
              refine wpQuiet_nil ?_
              rintro wq ⟨y, rfl⟩
              replace HB := Lib.hid (HB.out.trans (Below.mono y.ok HB.out.size))
              replace HO := Lib.hid (own_below HO.out y.ok)
              replace HXX := Lib.hid (HXX.out.below y.ok HXX.out.lt)
              have hszq : wr.heap.size ≤ y.W.heap.size := Below.size y.ok
              generalize y.W = wq at *
              clear hne z0 zl
              have HKN := Lib.hid (lexK_same hkn)
              have ho9 := HO.out
              rw [HKN.out] at ho9
              rw [HKN.out]
              rw [List.length_append] at ho9
              have HO9 := Lib.hid ho9
              have HPL := Lib.hid (show endp l (i' + 1) - 1 = a by omega)
              have e1 : wq.cell? ⟨w.heap.size, 1, none⟩ = some (.int .i64 x.k) := (HXX.out.cell 1).trans rfl
              have el := HXX.out.lt
              have hlk := HUP.out.lexK_le (i := i' + 1) (a := l.length) (by omega) (Nat.le_refl _)
              rw [hlen] at hlk
              have HHL := Lib.hid (hdL_len x)
              have hhb : (hdL x).length ≤ 1 := by have := HHL.out; omega
              clear ho9 HO
              by_cases hbk : 3 ≤ x.k ∧ x.k ≤ 5
              · have HIB := Lib.hid (inB_true.2 hbk)
                obtain ⟨K, hK⟩ : ∃ K, x.k = K := ⟨_, rfl⟩
                have HTL := Lib.hid (show tlL x = [⟨4, clS x.k, 0⟩] from if_pos hbk)
                rw [hK] at HIB HTL e1 hbk
                have HPX := Lib.hid (show lexP l (i' + 1) = hdL x ++ lexK l (i' + 1) n ++ [⟨4, clS K, 0⟩] by rw [HPE.out, HTL.out, hlen, List.append_assoc])
                have HKK := Lib.hid hK
                clear hK
                obtain h | h | h : K = 3 ∨ K = 4 ∨ K = 5 := by omega
                · subst h
                  rw [show clS 3 = ⟨#[41]⟩ from rfl] at HPX
                  have HXX9 := Lib.hid (show BlkL wq w.heap.size 38 [.int .i64 x.d, .int .i64 3, .string x.s] by have := HXX.out; rw [HKK.out] at this; exact this)
                  have hex : (⟨#[41, 93, 125]⟩ : ByteArray).extract 0 1 = ⟨#[41]⟩ := rfl
                  go_upto_region 17 with (go_at_call 72; refine (l07Block_any _ _).mono ?_; rintro e w' ⟨rfl, rfl⟩; rw [HIB.out])
                  have hS := BlkL.new wq 36 [.int .i64 4, .string ⟨#[41]⟩, .int .i64 0]
                  have hbS := (Below.refl wq.heap.size wq).alloc (Nat.le_refl _) (.cells #[.int .i64 4, .string ⟨#[41]⟩, .int .i64 0] 36)
                  have HOS := Lib.hid (own_below HO9.out hbS)
                  have HBS := Lib.hid (HB.out.trans (hbS.mono HB.out.size))
                  have HXS := Lib.hid (HXX9.out.below hbS HXX9.out.lt)
                  have HSS := Lib.hid hS
                  have hzS : w.heap.size ≤ (wq.alloc (.cells #[.int .i64 4, .string ⟨#[41]⟩, .int .i64 0] 36)).heap.size := HBS.out.size
                  clear hS hbS
                  go_wp2_with (at_builtin; refine wpList_append_own_at _ rfl _ _ 31 rfl w.heap.size 36 i0 (.agg #[.int .i64 0, .string ByteArray.empty, .int .i64 0]) 3 32 Tryz.underlying31 hi0 hz0 hz1 hz2 rfl (by decide) _ _ _ rfl HOS.out ⟨wq.heap.size, 0, none⟩ 1 1 [.int .i64 4, .string ⟨#[41]⟩, .int .i64 0] rfl rfl (fun j u hj => by rw [Addr.add_lit, Nat.zero_add]; exact (HSS.out.cell j).trans hj) (fx_one (⟨4, ⟨#[41]⟩, 0⟩ : Lx)) (by simp only [maxLen]; omega) (by omega) hzS ?_)
                  intro v' w9 howS hgrS _ hatS
                  have howS' : w9.ownsRow w.heap.size 36 3 v' (((hdL x).length + (lexK l (i' + 1) n).length) + 1) (fl fx (hdL x ++ lexK l (i' + 1) n) ++ fl fx [(⟨4, ⟨#[41]⟩, 0⟩ : Lx)]) := by first | exact howS | (rw [List.append_assoc]; exact howS)
                  rw [← fl_append] at howS'
                  have HBA := Lib.hid (HBS.out.grown hgrS hzS (fun g hg => (HOS.out.lt g hg).1))
                  have HXA := Lib.hid (HXS.out.grown hgrS (fun e => fo_blk HOS.out HXS.out (by decide) e.symm))
                  obtain ⟨A9, c9, rfl⟩ := own_slice howS
                  have HOA := Lib.hid (show w9.ownsRow w.heap.size 36 3 (.slice A9 (((hdL x).length + (lexK l (i' + 1) n).length) + 1) c9) (((hdL x).length + (lexK l (i' + 1) n).length) + 1) (fl fx (hdL x ++ lexK l (i' + 1) n ++ [(⟨4, ⟨#[41]⟩, 0⟩ : Lx)])) from howS')
                  clear howS howS' hgrS hatS HOS HBS HSS HXS hzS
                  go_wp2
                  go_ret2
                  refine ⟨_, by rw [HPL.out]; rfl, ?_, HBA.out⟩
                  rw [HPX.out]
                  exact own_n (by simp only [List.length_append, List.length_cons, List.length_nil]) HOA.out
                · subst h
                  rw [show clS 4 = ⟨#[93]⟩ from rfl] at HPX
                  have HXX9 := Lib.hid (show BlkL wq w.heap.size 38 [.int .i64 x.d, .int .i64 4, .string x.s] by have := HXX.out; rw [HKK.out] at this; exact this)
                  have hex : (⟨#[41, 93, 125]⟩ : ByteArray).extract 1 2 = ⟨#[93]⟩ := rfl
                  go_upto_region 17 with (go_at_call 72; refine (l07Block_any _ _).mono ?_; rintro e w' ⟨rfl, rfl⟩; rw [HIB.out])
                  have hS := BlkL.new wq 36 [.int .i64 4, .string ⟨#[93]⟩, .int .i64 0]
                  have hbS := (Below.refl wq.heap.size wq).alloc (Nat.le_refl _) (.cells #[.int .i64 4, .string ⟨#[93]⟩, .int .i64 0] 36)
                  have HOS := Lib.hid (own_below HO9.out hbS)
                  have HBS := Lib.hid (HB.out.trans (hbS.mono HB.out.size))
                  have HXS := Lib.hid (HXX9.out.below hbS HXX9.out.lt)
                  have HSS := Lib.hid hS
                  have hzS : w.heap.size ≤ (wq.alloc (.cells #[.int .i64 4, .string ⟨#[93]⟩, .int .i64 0] 36)).heap.size := HBS.out.size
                  clear hS hbS
                  go_wp2_with (at_builtin; refine wpList_append_own_at _ rfl _ _ 31 rfl w.heap.size 36 i0 (.agg #[.int .i64 0, .string ByteArray.empty, .int .i64 0]) 3 32 Tryz.underlying31 hi0 hz0 hz1 hz2 rfl (by decide) _ _ _ rfl HOS.out ⟨wq.heap.size, 0, none⟩ 1 1 [.int .i64 4, .string ⟨#[93]⟩, .int .i64 0] rfl rfl (fun j u hj => by rw [Addr.add_lit, Nat.zero_add]; exact (HSS.out.cell j).trans hj) (fx_one (⟨4, ⟨#[93]⟩, 0⟩ : Lx)) (by simp only [maxLen]; omega) (by omega) hzS ?_)
                  intro v' w9 howS hgrS _ hatS
                  have howS' : w9.ownsRow w.heap.size 36 3 v' (((hdL x).length + (lexK l (i' + 1) n).length) + 1) (fl fx (hdL x ++ lexK l (i' + 1) n) ++ fl fx [(⟨4, ⟨#[93]⟩, 0⟩ : Lx)]) := by first | exact howS | (rw [List.append_assoc]; exact howS)
                  rw [← fl_append] at howS'
                  have HBA := Lib.hid (HBS.out.grown hgrS hzS (fun g hg => (HOS.out.lt g hg).1))
                  have HXA := Lib.hid (HXS.out.grown hgrS (fun e => fo_blk HOS.out HXS.out (by decide) e.symm))
                  obtain ⟨A9, c9, rfl⟩ := own_slice howS
                  have HOA := Lib.hid (show w9.ownsRow w.heap.size 36 3 (.slice A9 (((hdL x).length + (lexK l (i' + 1) n).length) + 1) c9) (((hdL x).length + (lexK l (i' + 1) n).length) + 1) (fl fx (hdL x ++ lexK l (i' + 1) n ++ [(⟨4, ⟨#[93]⟩, 0⟩ : Lx)])) from howS')
                  clear howS howS' hgrS hatS HOS HBS HSS HXS hzS
                  go_wp2
                  go_ret2
                  refine ⟨_, by rw [HPL.out]; rfl, ?_, HBA.out⟩
                  rw [HPX.out]
                  exact own_n (by simp only [List.length_append, List.length_cons, List.length_nil]) HOA.out
                · subst h
                  rw [show clS 5 = ⟨#[125]⟩ from rfl] at HPX
                  have HXX9 := Lib.hid (show BlkL wq w.heap.size 38 [.int .i64 x.d, .int .i64 5, .string x.s] by have := HXX.out; rw [HKK.out] at this; exact this)
                  have hex : (⟨#[41, 93, 125]⟩ : ByteArray).extract 2 3 = ⟨#[125]⟩ := rfl
                  go_upto_region 17 with (go_at_call 72; refine (l07Block_any _ _).mono ?_; rintro e w' ⟨rfl, rfl⟩; rw [HIB.out])
                  have hS := BlkL.new wq 36 [.int .i64 4, .string ⟨#[125]⟩, .int .i64 0]
                  have hbS := (Below.refl wq.heap.size wq).alloc (Nat.le_refl _) (.cells #[.int .i64 4, .string ⟨#[125]⟩, .int .i64 0] 36)
                  have HOS := Lib.hid (own_below HO9.out hbS)
                  have HBS := Lib.hid (HB.out.trans (hbS.mono HB.out.size))
                  have HXS := Lib.hid (HXX9.out.below hbS HXX9.out.lt)
                  have HSS := Lib.hid hS
                  have hzS : w.heap.size ≤ (wq.alloc (.cells #[.int .i64 4, .string ⟨#[125]⟩, .int .i64 0] 36)).heap.size := HBS.out.size
                  clear hS hbS
                  go_wp2_with (at_builtin; refine wpList_append_own_at _ rfl _ _ 31 rfl w.heap.size 36 i0 (.agg #[.int .i64 0, .string ByteArray.empty, .int .i64 0]) 3 32 Tryz.underlying31 hi0 hz0 hz1 hz2 rfl (by decide) _ _ _ rfl HOS.out ⟨wq.heap.size, 0, none⟩ 1 1 [.int .i64 4, .string ⟨#[125]⟩, .int .i64 0] rfl rfl (fun j u hj => by rw [Addr.add_lit, Nat.zero_add]; exact (HSS.out.cell j).trans hj) (fx_one (⟨4, ⟨#[125]⟩, 0⟩ : Lx)) (by simp only [maxLen]; omega) (by omega) hzS ?_)
                  intro v' w9 howS hgrS _ hatS
                  have howS' : w9.ownsRow w.heap.size 36 3 v' (((hdL x).length + (lexK l (i' + 1) n).length) + 1) (fl fx (hdL x ++ lexK l (i' + 1) n) ++ fl fx [(⟨4, ⟨#[125]⟩, 0⟩ : Lx)]) := by first | exact howS | (rw [List.append_assoc]; exact howS)
                  rw [← fl_append] at howS'
                  have HBA := Lib.hid (HBS.out.grown hgrS hzS (fun g hg => (HOS.out.lt g hg).1))
                  have HXA := Lib.hid (HXS.out.grown hgrS (fun e => fo_blk HOS.out HXS.out (by decide) e.symm))
                  obtain ⟨A9, c9, rfl⟩ := own_slice howS
                  have HOA := Lib.hid (show w9.ownsRow w.heap.size 36 3 (.slice A9 (((hdL x).length + (lexK l (i' + 1) n).length) + 1) c9) (((hdL x).length + (lexK l (i' + 1) n).length) + 1) (fl fx (hdL x ++ lexK l (i' + 1) n ++ [(⟨4, ⟨#[125]⟩, 0⟩ : Lx)])) from howS')
                  clear howS howS' hgrS hatS HOS HBS HSS HXS hzS
                  go_wp2
                  go_ret2
                  refine ⟨_, by rw [HPL.out]; rfl, ?_, HBA.out⟩
                  rw [HPX.out]
                  exact own_n (by simp only [List.length_append, List.length_cons, List.length_nil]) HOA.out
              · have HIB := Lib.hid (show inB x.k 3 5 = false by
                  cases e : inB x.k 3 5
                  · rfl
                  · exact (hbk (inB_true.1 e)).elim)
                have HTL := Lib.hid (show tlL x = [] from if_neg hbk)
                have HPX := Lib.hid (show lexP l (i' + 1) = hdL x ++ lexK l (i' + 1) n by rw [HPE.out, HTL.out, hlen, List.append_nil])
                go_wp2_with (go_at_call 72; refine (l07Block_any _ _).mono ?_; rintro e w' ⟨rfl, rfl⟩; rw [HIB.out])
                go_ret2
                refine ⟨_, by rw [HPL.out]; rfl, ?_, HB.out⟩
                rw [HPX.out, List.length_append]
                exact HO9.out
      · subst h
        have HHD := Lib.hid (show hdL x = [⟨3, ⟨#[40]⟩, 0⟩] by unfold hdL; rw [HKZ.out]; rfl)
        clear h3 hxk
        have hex0 : (⟨#[40, 91, 123]⟩ : ByteArray).extract 0 1 = ⟨#[40]⟩ := rfl
        have hS := BlkL.new w1 36 [.int .i64 3, .string ⟨#[40]⟩, .int .i64 0]
        have hbS := (Below.refl w1.heap.size w1).alloc (Nat.le_refl _) (.cells #[.int .i64 3, .string ⟨#[40]⟩, .int .i64 0] 36)
        have HOS := Lib.hid (own_below HO1.out hbS)
        have HBS := Lib.hid (HB1.out.trans (hbS.mono HB1.out.size))
        have HXS := Lib.hid (HX1.out.below hbS HX1.out.lt)
        have HSS := Lib.hid hS
        have hzS : w.heap.size ≤ (w1.alloc (.cells #[.int .i64 3, .string ⟨#[40]⟩, .int .i64 0] 36)).heap.size := HBS.out.size
        clear hS hbS
        go_wp2_with (at_builtin; refine wpList_append_own_at _ rfl _ _ 31 rfl w.heap.size 36 i0 (.agg #[.int .i64 0, .string ByteArray.empty, .int .i64 0]) 3 32 Tryz.underlying31 hi0 hz0 hz1 hz2 rfl (by decide) _ _ _ rfl HOS.out ⟨w1.heap.size, 0, none⟩ 1 1 [.int .i64 3, .string ⟨#[40]⟩, .int .i64 0] rfl rfl (fun j u hj => by rw [Addr.add_lit, Nat.zero_add]; exact (HSS.out.cell j).trans hj) (fx_one (⟨3, ⟨#[40]⟩, 0⟩ : Lx)) (by simp only [maxLen]; omega) (by omega) hzS ?_)
        intro v' w5 howS hgrS _ hatS
        have howS' : w5.ownsRow w.heap.size 36 3 v' (0 + 1) (fl fx ([]) ++ fl fx [(⟨3, ⟨#[40]⟩, 0⟩ : Lx)]) := by first | exact howS | (rw [List.append_assoc]; exact howS)
        rw [← fl_append] at howS'
        have HB5 := Lib.hid (HBS.out.grown hgrS hzS (fun g hg => (HOS.out.lt g hg).1))
        have HX5 := Lib.hid (HXS.out.grown hgrS (fun e => fo_blk HOS.out HXS.out (by decide) e.symm))
        obtain ⟨A1, c1, rfl⟩ := own_slice howS
        have HO5 := Lib.hid (show w5.ownsRow w.heap.size 36 3 (.slice A1 (0 + 1) c1) (0 + 1) (fl fx ([] ++ [(⟨3, ⟨#[40]⟩, 0⟩ : Lx)])) from howS')
        clear howS howS' hgrS hatS HOS HBS HSS HXS hzS
        have hfirst := HUP.out.first (i := i' + 1) (by omega)
        rw [hlen] at hfirst
        have HST := Lib.hid (show w5.ownsRow w.heap.size 36 3 (.slice A1 1 c1) (hdL x ++ lexK l (i' + 1) (i' + 1)).length (fl fx (hdL x ++ lexK l (i' + 1) (i' + 1))) by rw [lexK_zero, List.append_nil, HHD.out]; exact HO5.out)
        clear x1 x2 xl HO5 HO1 HB1 HX1
        go_wp2
        go_loopw [1, 7] (fun kv ov wr => ∃ a : Nat, kv = .int .i64 (a : Int) ∧ i' + 1 ≤ a ∧ a ≤ n ∧ ((a < n ∧ par l a = i' + 1) ∨ (kidsN l (i' + 1) a = kidsN l (i' + 1) n ∧ a + 1 = endp l (i' + 1))) ∧ wr.ownsRow w.heap.size 36 3 ov (hdL x ++ lexK l (i' + 1) a).length (fl fx (hdL x ++ lexK l (i' + 1) a)) ∧ BlkL wr w.heap.size 38 [.int .i64 x.d, .int .i64 x.k, .string x.s] ∧ Below w.heap.size w wr) (fun kv _ _ => n - (intOf kv).toNat)
        case atStart =>
          refine ⟨i' + 1, by simp, Nat.le_refl _, by omega, ?_, HST.out, HX5.out, HB5.out⟩
          rcases hfirst with h | h
          · exact .inl h
          · exact .inr ⟨by rw [h.1, kidsN_low], h.2.symm⟩
        case round =>
          clear HST HX5 HB5 hfirst
          obtain ⟨a, rfl, hia, han, hcase, hown, hxx, hb⟩ := hrel
          have HO := Lib.hid hown
          have HXX := Lib.hid hxx
          have HB := Lib.hid hb
          obtain ⟨Av, cv, hAv⟩ := own_slice hown
          subst hAv
          have hll := HUP.out.lexK_le (i := i' + 1) (a := a) (by omega) (by omega)
          have HDX := Lib.hid (dep_succ HX.out)
          have z0 := Bw.rd (show wr.cell? ⟨w.heap.size, 0, none⟩ = some (.int .i64 x.d) from (hxx.cell 0).trans rfl)
          have zl := hxx.lt
          have hsz := hb.size
          clear hown hxx hb
          by_cases hin : a < n ∧ par l a = i' + 1
          · obtain ⟨y0, b', o', hy, hA, _, _⟩ := HNS.out.all (k := a) (by omega)
            injection hA with hA
            injection hA with e1 e2 _
            subst e1 e2
            obtain ⟨hbl', c0, _, _⟩ := NS.get (HNS.out.below HB.out) hy
            have hgt : decide (x.d < y0.d) = true := by
              have h1 := ((HUP.out.par_iff (i := i' + 1) (y := a) (by omega)).1 hin.2).2.1
              rw [dep_succ hy, HDX.out] at h1
              exact decide_eq_true (by omega)
            have hnext := HUP.out.next (i := i' + 1) (a := a) (by omega) hin.2
            rw [hlen] at hnext
            have HNX := Lib.hid hnext
            have HLS := Lib.hid (lexK_step hin.2)
            have hge := endp_gt l (a + 1)
            have hgle := endp_le (l := l) (i := a + 1) (by omega)
            have hpl7 := HUP.out.lexP_le (i := a + 1) (by omega)
            have han' := hin.1
            have HHL := Lib.hid (hdL_len x)
            have hhb : (hdL x).length ≤ 1 := by have := HHL.out; omega
            have r0 := Bw.rd c0
            clear hy c0 hcase hin hnext
            go_wp2_with fail
            refine wp_region_class (Bw wr) (by kernel_rfl) (by kernel_rfl) (Bw.start wr) (fun hne => ?_)
            repeat (go_big_quiet_step (fail))
            refine wpQuiet_nil ?_
            rintro wq ⟨y, rfl⟩
            replace HB := Lib.hid (HB.out.trans (Below.mono y.ok HB.out.size))
            replace HO := Lib.hid (own_below HO.out y.ok)
            replace HXX := Lib.hid (HXX.out.below y.ok HXX.out.lt)
            have hszq : wr.heap.size ≤ y.W.heap.size := Below.size y.ok
            generalize y.W = wq at *
            clear hne z0 zl
            clear r0
            go_wp2_with fail
            have hb3 := (Below.refl wq.heap.size wq).alloc (Nat.le_refl _) (.cells #[] 36)
            have HO3 := Lib.hid (own_below HO.out hb3)
            have HB3 := Lib.hid (HB.out.trans (hb3.mono HB.out.size))
            have HXX3 := Lib.hid (HXX.out.below hb3 HXX.out.lt)
            have hob : ∀ g, (Value.slice Av (hdL x ++ lexK l (i' + 1) a).length cv).ownBlock = some g → g < (wq.alloc (.cells #[] 36)).heap.size := fun g hg => by have := (HO.out.lt g hg).2; have := hb3.size; omega
            have HOB := Lib.hid hob
            clear hb3 hob HO HB HXX
            generalize wq.alloc (.cells #[] 36) = w3 at *
            refine (IH.out (n - a) (by omega) a (by omega) (Nat.le_refl _) w3 (HNS.out.below HB3.out)).mono ?_
            rintro e w4 ⟨v4, rfl, ho4, hb4⟩
            have HM4 := Lib.hid (show _ from (OR.of_own fx_len rfl ho4))
            have hlo4 := ho4.lt
            obtain ⟨A4, c4, rfl⟩ := own_slice ho4
            obtain ⟨M, hM⟩ : ∃ M, lexP l (a + 1) = M := ⟨_, rfl⟩
            have HXM := Lib.hid (show XS w4 A4 (lexP l (a + 1)) from HM4.out.rs fx_len)
            rw [hM] at HXM hpl7 HLS hlo4 ⊢
            have HO4 := Lib.hid (own_below HO3.out hb4)
            have HB4 := Lib.hid (HB3.out.trans (hb4.mono HB3.out.size))
            have HXX4 := Lib.hid (HXX3.out.below hb4 HXX3.out.lt)
            have HAP := Lib.hid (show ∀ g, (Value.slice Av (hdL x ++ lexK l (i' + 1) a).length cv).ownBlock = some g → A4.map (·.block) ≠ some g from fun g hg e => by
              have h1 := HOB.out g hg
              rcases ho4.2 with ⟨h, _⟩ | ⟨g', cap', cur', h, hB', _⟩
              · injection h with h _ _
                subst h
                simp at e
              · injection h with h _ _
                subst h
                simp at e
                omega)
            clear ho4 hb4 HM4 hlo4 HO3 HB3 HXX3 HOB hM
            obtain ⟨a', ha'⟩ : ∃ a', endp l (a + 1) - 1 = a' := ⟨_, rfl⟩
            rw [ha'] at HNX ⊢
            have hml : (hdL x ++ lexK l (i' + 1) a).length ≤ 2 * (l.length + 1) + 1 := by rw [List.length_append]; omega
            obtain ⟨PP, hPP⟩ : ∃ PP, hdL x ++ lexK l (i' + 1) a = PP := ⟨_, rfl⟩
            have HPP := Lib.hid hPP
            rw [hPP] at HO4 HAP hml
            rw [← List.length_append, hPP]
            clear hPP
            go_wp2
            go_loopw [7, 9] (fun ov iv wr => ∃ j : Nat, iv = .int .i64 (j : Int) ∧ j ≤ M.length ∧ wr.ownsRow w.heap.size 36 3 ov (PP.length + j) (fl fx (PP ++ M.take j)) ∧ XS wr A4 M ∧ (∀ g, ov.ownBlock = some g → A4.map (·.block) ≠ some g) ∧ BlkL wr w.heap.size 38 [.int .i64 x.d, .int .i64 x.k, .string x.s] ∧ Below w.heap.size w wr) (fun _ iv _ => M.length - (intOf iv).toNat)
            case atStart => exact ⟨0, by simp, Nat.zero_le _, by rw [List.take_zero, List.append_nil]; exact HO4.out, HXM.out, HAP.out, HXX4.out, HB4.out⟩
            case round =>
              clear HXM HAP HXX4 HB4 HO4
              obtain ⟨j, rfl, hjM, hown, hxm, hap, hxx, hb⟩ := hrel
              have HO := Lib.hid hown
              have HXX := Lib.hid hxx
              have HB := Lib.hid hb
              have HXM := Lib.hid hxm
              have HAP := Lib.hid hap
              obtain ⟨Aw, cw, hAw⟩ := own_slice hown
              subst hAw
              clear hown hxx hb hxm hap
              by_cases hj : j < M.length
              · obtain ⟨y, b4, o4, hy, hA, hbl4, q0, q1, q2⟩ := HXM.out.all hj
                subst hA
                have HY := Lib.hid hy
                clear hy
                have hS := BlkL.new wr 36 [.int .i64 y.k, .string y.s, .int .i64 y.a]
                have hbS := (Below.refl wr.heap.size wr).alloc (Nat.le_refl _) (.cells #[.int .i64 y.k, .string y.s, .int .i64 y.a] 36)
                have HOS := Lib.hid (own_below HO.out hbS)
                have HBS := Lib.hid (HB.out.trans (hbS.mono HB.out.size))
                have HXS := Lib.hid (HXX.out.below hbS HXX.out.lt)
                have HMS := Lib.hid (HXM.out.below hbS)
                have HSS := Lib.hid hS
                have hzS : w.heap.size ≤ (wr.alloc (.cells #[.int .i64 y.k, .string y.s, .int .i64 y.a] 36)).heap.size := HBS.out.size
                have hb9 := Below.size hbS
                clear hS hbS HO HB HXX HXM
                go_wp2_with (at_builtin; refine wpList_append_own_at _ rfl _ _ 31 rfl w.heap.size 36 i0 (.agg #[.int .i64 0, .string ByteArray.empty, .int .i64 0]) 3 32 Tryz.underlying31 hi0 hz0 hz1 hz2 rfl (by decide) _ _ _ rfl HOS.out ⟨wr.heap.size, 0, none⟩ 1 1 [.int .i64 y.k, .string y.s, .int .i64 y.a] rfl rfl (fun j u hj => by rw [Addr.add_lit, Nat.zero_add]; exact (HSS.out.cell j).trans hj) (fx_one y) (by simp only [maxLen]; omega) (by omega) hzS ?_)
                intro v' w9 howS hgrS _ hatS
                have howS' : w9.ownsRow w.heap.size 36 3 v' (PP.length + (j + 1)) (fl fx (PP ++ M.take (j + 1))) := by
                  rw [List.take_add_one, HY.out, Option.toList_some, ← List.append_assoc, fl_append]
                  exact howS
                have HO9 := Lib.hid howS'
                have HB9 := Lib.hid (HBS.out.grown hgrS hzS (fun g hg => (HOS.out.lt g hg).1))
                have HX9 := Lib.hid (HXS.out.grown hgrS (fun e => fo_blk HOS.out HXS.out (by decide) e.symm))
                have HM9 := Lib.hid (HMS.out.apart hgrS HAP.out)
                have HA9 := Lib.hid (show ∀ g, v'.ownBlock = some g → (some (⟨b4, o4, none⟩ : Addr)).map (·.block) ≠ some g from fun g hg => by
                  rcases hatS with h | h
                  · exact HAP.out g (h.symm.trans hg)
                  · rw [h] at hg
                    injection hg with hg
                    subst hg
                    simp only [Option.map_some, ne_eq, Option.some.injEq]
                    omega)
                clear howS howS' hgrS hatS HOS HBS HSS HXS HMS HAP hzS q0 q1 q2
                go_wp2
                go_roundw
                case rel => exact ⟨j + 1, by go_num, by omega, HO9.out, HM9.out, HA9.out, HX9.out, HB9.out⟩
                case measure => simp [intOf]; omega
              · obtain rfl : j = M.length := by omega
                go_wp2
                go_roundw
                case rel =>
                  have hn7 := HNX.out
                  have ho7 := HO.out
                  have hE : PP ++ M = hdL x ++ lexK l (i' + 1) a' := by rw [lexK_same hn7.1, HLS.out, ← HPP.out, List.append_assoc]
                  rw [List.take_length, hE] at ho7
                  refine ⟨a', rfl, by omega, by omega, ?_, own_n ?_ ho7, HXX.out, HB.out⟩
                  · rcases hn7.2 with h | h
                    · exact .inl h
                    · exact .inr ⟨h.1, by omega⟩
                  · rw [← hE, List.length_append]
                case measure => simp [intOf]; omega
          · have hend : kidsN l (i' + 1) a = kidsN l (i' + 1) n ∧ a + 1 = endp l (i' + 1) := by
              rcases hcase with h | h
              · exact (hin h).elim
              · exact h
            obtain ⟨hkn, hae⟩ := hend
            clear hin hcase
            by_cases hlt : a < n
            · obtain ⟨y0, b', o', hy, hA, _, _⟩ := HNS.out.all (k := a) (by omega)
              injection hA with hA
              injection hA with e1 e2 _
              subst e1 e2
              obtain ⟨hbl', c0, _, _⟩ := NS.get (HNS.out.below HB.out) hy
              have hgt : decide (x.d < y0.d) = false := by
                have h1 := endp_out (l := l) (i := i' + 1) (by omega)
                rw [← hae, dep_succ hy, HDX.out] at h1
                exact decide_eq_false (by omega)
              have r0 := Bw.rd c0
              clear hy c0
              go_wp2_with fail
              refine wp_region_class (Bw wr) (by kernel_rfl) (by kernel_rfl) (Bw.start wr) (fun hne => ?_)
              repeat (go_big_quiet_step (fail))
              refine wpQuiet_nil ?_
              rintro wq ⟨y, rfl⟩
              replace HB := Lib.hid (HB.out.trans (Below.mono y.ok HB.out.size))
              replace HO := Lib.hid (own_below HO.out y.ok)
              replace HXX := Lib.hid (HXX.out.below y.ok HXX.out.lt)
              have hszq : wr.heap.size ≤ y.W.heap.size := Below.size y.ok
              generalize y.W = wq at *
              clear hne z0 zl
              clear r0
              have HKN := Lib.hid (lexK_same hkn)
              have ho9 := HO.out
              rw [HKN.out] at ho9
              rw [HKN.out]
              rw [List.length_append] at ho9
              have HO9 := Lib.hid ho9
              have HPL := Lib.hid (show endp l (i' + 1) - 1 = a by omega)
              have e1 : wq.cell? ⟨w.heap.size, 1, none⟩ = some (.int .i64 x.k) := (HXX.out.cell 1).trans rfl
              have el := HXX.out.lt
              have hlk := HUP.out.lexK_le (i := i' + 1) (a := l.length) (by omega) (Nat.le_refl _)
              rw [hlen] at hlk
              have HHL := Lib.hid (hdL_len x)
              have hhb : (hdL x).length ≤ 1 := by have := HHL.out; omega
              clear ho9 HO
              by_cases hbk : 3 ≤ x.k ∧ x.k ≤ 5
              · have HIB := Lib.hid (inB_true.2 hbk)
                obtain ⟨K, hK⟩ : ∃ K, x.k = K := ⟨_, rfl⟩
                have HTL := Lib.hid (show tlL x = [⟨4, clS x.k, 0⟩] from if_pos hbk)
                rw [hK] at HIB HTL e1 hbk
                have HPX := Lib.hid (show lexP l (i' + 1) = hdL x ++ lexK l (i' + 1) n ++ [⟨4, clS K, 0⟩] by rw [HPE.out, HTL.out, hlen, List.append_assoc])
                have HKK := Lib.hid hK
                clear hK
                obtain h | h | h : K = 3 ∨ K = 4 ∨ K = 5 := by omega
                · subst h
                  rw [show clS 3 = ⟨#[41]⟩ from rfl] at HPX
                  have HXX9 := Lib.hid (show BlkL wq w.heap.size 38 [.int .i64 x.d, .int .i64 3, .string x.s] by have := HXX.out; rw [HKK.out] at this; exact this)
                  have hex : (⟨#[41, 93, 125]⟩ : ByteArray).extract 0 1 = ⟨#[41]⟩ := rfl
                  go_upto_region 17 with (go_at_call 72; refine (l07Block_any _ _).mono ?_; rintro e w' ⟨rfl, rfl⟩; rw [HIB.out])
                  have hS := BlkL.new wq 36 [.int .i64 4, .string ⟨#[41]⟩, .int .i64 0]
                  have hbS := (Below.refl wq.heap.size wq).alloc (Nat.le_refl _) (.cells #[.int .i64 4, .string ⟨#[41]⟩, .int .i64 0] 36)
                  have HOS := Lib.hid (own_below HO9.out hbS)
                  have HBS := Lib.hid (HB.out.trans (hbS.mono HB.out.size))
                  have HXS := Lib.hid (HXX9.out.below hbS HXX9.out.lt)
                  have HSS := Lib.hid hS
                  have hzS : w.heap.size ≤ (wq.alloc (.cells #[.int .i64 4, .string ⟨#[41]⟩, .int .i64 0] 36)).heap.size := HBS.out.size
                  clear hS hbS
                  go_wp2_with (at_builtin; refine wpList_append_own_at _ rfl _ _ 31 rfl w.heap.size 36 i0 (.agg #[.int .i64 0, .string ByteArray.empty, .int .i64 0]) 3 32 Tryz.underlying31 hi0 hz0 hz1 hz2 rfl (by decide) _ _ _ rfl HOS.out ⟨wq.heap.size, 0, none⟩ 1 1 [.int .i64 4, .string ⟨#[41]⟩, .int .i64 0] rfl rfl (fun j u hj => by rw [Addr.add_lit, Nat.zero_add]; exact (HSS.out.cell j).trans hj) (fx_one (⟨4, ⟨#[41]⟩, 0⟩ : Lx)) (by simp only [maxLen]; omega) (by omega) hzS ?_)
                  intro v' w9 howS hgrS _ hatS
                  have howS' : w9.ownsRow w.heap.size 36 3 v' (((hdL x).length + (lexK l (i' + 1) n).length) + 1) (fl fx (hdL x ++ lexK l (i' + 1) n) ++ fl fx [(⟨4, ⟨#[41]⟩, 0⟩ : Lx)]) := by first | exact howS | (rw [List.append_assoc]; exact howS)
                  rw [← fl_append] at howS'
                  have HBA := Lib.hid (HBS.out.grown hgrS hzS (fun g hg => (HOS.out.lt g hg).1))
                  have HXA := Lib.hid (HXS.out.grown hgrS (fun e => fo_blk HOS.out HXS.out (by decide) e.symm))
                  obtain ⟨A9, c9, rfl⟩ := own_slice howS
                  have HOA := Lib.hid (show w9.ownsRow w.heap.size 36 3 (.slice A9 (((hdL x).length + (lexK l (i' + 1) n).length) + 1) c9) (((hdL x).length + (lexK l (i' + 1) n).length) + 1) (fl fx (hdL x ++ lexK l (i' + 1) n ++ [(⟨4, ⟨#[41]⟩, 0⟩ : Lx)])) from howS')
                  clear howS howS' hgrS hatS HOS HBS HSS HXS hzS
                  go_wp2
                  go_ret2
                  refine ⟨_, by rw [HPL.out]; rfl, ?_, HBA.out⟩
                  rw [HPX.out]
                  exact own_n (by simp only [List.length_append, List.length_cons, List.length_nil]) HOA.out
                · subst h
                  rw [show clS 4 = ⟨#[93]⟩ from rfl] at HPX
                  have HXX9 := Lib.hid (show BlkL wq w.heap.size 38 [.int .i64 x.d, .int .i64 4, .string x.s] by have := HXX.out; rw [HKK.out] at this; exact this)
                  have hex : (⟨#[41, 93, 125]⟩ : ByteArray).extract 1 2 = ⟨#[93]⟩ := rfl
                  go_upto_region 17 with (go_at_call 72; refine (l07Block_any _ _).mono ?_; rintro e w' ⟨rfl, rfl⟩; rw [HIB.out])
                  have hS := BlkL.new wq 36 [.int .i64 4, .string ⟨#[93]⟩, .int .i64 0]
                  have hbS := (Below.refl wq.heap.size wq).alloc (Nat.le_refl _) (.cells #[.int .i64 4, .string ⟨#[93]⟩, .int .i64 0] 36)
                  have HOS := Lib.hid (own_below HO9.out hbS)
                  have HBS := Lib.hid (HB.out.trans (hbS.mono HB.out.size))
                  have HXS := Lib.hid (HXX9.out.below hbS HXX9.out.lt)
                  have HSS := Lib.hid hS
                  have hzS : w.heap.size ≤ (wq.alloc (.cells #[.int .i64 4, .string ⟨#[93]⟩, .int .i64 0] 36)).heap.size := HBS.out.size
                  clear hS hbS
                  go_wp2_with (at_builtin; refine wpList_append_own_at _ rfl _ _ 31 rfl w.heap.size 36 i0 (.agg #[.int .i64 0, .string ByteArray.empty, .int .i64 0]) 3 32 Tryz.underlying31 hi0 hz0 hz1 hz2 rfl (by decide) _ _ _ rfl HOS.out ⟨wq.heap.size, 0, none⟩ 1 1 [.int .i64 4, .string ⟨#[93]⟩, .int .i64 0] rfl rfl (fun j u hj => by rw [Addr.add_lit, Nat.zero_add]; exact (HSS.out.cell j).trans hj) (fx_one (⟨4, ⟨#[93]⟩, 0⟩ : Lx)) (by simp only [maxLen]; omega) (by omega) hzS ?_)
                  intro v' w9 howS hgrS _ hatS
                  have howS' : w9.ownsRow w.heap.size 36 3 v' (((hdL x).length + (lexK l (i' + 1) n).length) + 1) (fl fx (hdL x ++ lexK l (i' + 1) n) ++ fl fx [(⟨4, ⟨#[93]⟩, 0⟩ : Lx)]) := by first | exact howS | (rw [List.append_assoc]; exact howS)
                  rw [← fl_append] at howS'
                  have HBA := Lib.hid (HBS.out.grown hgrS hzS (fun g hg => (HOS.out.lt g hg).1))
                  have HXA := Lib.hid (HXS.out.grown hgrS (fun e => fo_blk HOS.out HXS.out (by decide) e.symm))
                  obtain ⟨A9, c9, rfl⟩ := own_slice howS
                  have HOA := Lib.hid (show w9.ownsRow w.heap.size 36 3 (.slice A9 (((hdL x).length + (lexK l (i' + 1) n).length) + 1) c9) (((hdL x).length + (lexK l (i' + 1) n).length) + 1) (fl fx (hdL x ++ lexK l (i' + 1) n ++ [(⟨4, ⟨#[93]⟩, 0⟩ : Lx)])) from howS')
                  clear howS howS' hgrS hatS HOS HBS HSS HXS hzS
                  go_wp2
                  go_ret2
                  refine ⟨_, by rw [HPL.out]; rfl, ?_, HBA.out⟩
                  rw [HPX.out]
                  exact own_n (by simp only [List.length_append, List.length_cons, List.length_nil]) HOA.out
                · subst h
                  rw [show clS 5 = ⟨#[125]⟩ from rfl] at HPX
                  have HXX9 := Lib.hid (show BlkL wq w.heap.size 38 [.int .i64 x.d, .int .i64 5, .string x.s] by have := HXX.out; rw [HKK.out] at this; exact this)
                  have hex : (⟨#[41, 93, 125]⟩ : ByteArray).extract 2 3 = ⟨#[125]⟩ := rfl
                  go_upto_region 17 with (go_at_call 72; refine (l07Block_any _ _).mono ?_; rintro e w' ⟨rfl, rfl⟩; rw [HIB.out])
                  have hS := BlkL.new wq 36 [.int .i64 4, .string ⟨#[125]⟩, .int .i64 0]
                  have hbS := (Below.refl wq.heap.size wq).alloc (Nat.le_refl _) (.cells #[.int .i64 4, .string ⟨#[125]⟩, .int .i64 0] 36)
                  have HOS := Lib.hid (own_below HO9.out hbS)
                  have HBS := Lib.hid (HB.out.trans (hbS.mono HB.out.size))
                  have HXS := Lib.hid (HXX9.out.below hbS HXX9.out.lt)
                  have HSS := Lib.hid hS
                  have hzS : w.heap.size ≤ (wq.alloc (.cells #[.int .i64 4, .string ⟨#[125]⟩, .int .i64 0] 36)).heap.size := HBS.out.size
                  clear hS hbS
                  go_wp2_with (at_builtin; refine wpList_append_own_at _ rfl _ _ 31 rfl w.heap.size 36 i0 (.agg #[.int .i64 0, .string ByteArray.empty, .int .i64 0]) 3 32 Tryz.underlying31 hi0 hz0 hz1 hz2 rfl (by decide) _ _ _ rfl HOS.out ⟨wq.heap.size, 0, none⟩ 1 1 [.int .i64 4, .string ⟨#[125]⟩, .int .i64 0] rfl rfl (fun j u hj => by rw [Addr.add_lit, Nat.zero_add]; exact (HSS.out.cell j).trans hj) (fx_one (⟨4, ⟨#[125]⟩, 0⟩ : Lx)) (by simp only [maxLen]; omega) (by omega) hzS ?_)
                  intro v' w9 howS hgrS _ hatS
                  have howS' : w9.ownsRow w.heap.size 36 3 v' (((hdL x).length + (lexK l (i' + 1) n).length) + 1) (fl fx (hdL x ++ lexK l (i' + 1) n) ++ fl fx [(⟨4, ⟨#[125]⟩, 0⟩ : Lx)]) := by first | exact howS | (rw [List.append_assoc]; exact howS)
                  rw [← fl_append] at howS'
                  have HBA := Lib.hid (HBS.out.grown hgrS hzS (fun g hg => (HOS.out.lt g hg).1))
                  have HXA := Lib.hid (HXS.out.grown hgrS (fun e => fo_blk HOS.out HXS.out (by decide) e.symm))
                  obtain ⟨A9, c9, rfl⟩ := own_slice howS
                  have HOA := Lib.hid (show w9.ownsRow w.heap.size 36 3 (.slice A9 (((hdL x).length + (lexK l (i' + 1) n).length) + 1) c9) (((hdL x).length + (lexK l (i' + 1) n).length) + 1) (fl fx (hdL x ++ lexK l (i' + 1) n ++ [(⟨4, ⟨#[125]⟩, 0⟩ : Lx)])) from howS')
                  clear howS howS' hgrS hatS HOS HBS HSS HXS hzS
                  go_wp2
                  go_ret2
                  refine ⟨_, by rw [HPL.out]; rfl, ?_, HBA.out⟩
                  rw [HPX.out]
                  exact own_n (by simp only [List.length_append, List.length_cons, List.length_nil]) HOA.out
              · have HIB := Lib.hid (show inB x.k 3 5 = false by
                  cases e : inB x.k 3 5
                  · rfl
                  · exact (hbk (inB_true.1 e)).elim)
                have HTL := Lib.hid (show tlL x = [] from if_neg hbk)
                have HPX := Lib.hid (show lexP l (i' + 1) = hdL x ++ lexK l (i' + 1) n by rw [HPE.out, HTL.out, hlen, List.append_nil])
                go_wp2_with (go_at_call 72; refine (l07Block_any _ _).mono ?_; rintro e w' ⟨rfl, rfl⟩; rw [HIB.out])
                go_ret2
                refine ⟨_, by rw [HPL.out]; rfl, ?_, HB.out⟩
                rw [HPX.out, List.length_append]
                exact HO9.out
            · have hlb : decide ((a : Int) < (n : Int)) = false := by simp; omega
              have hlb' : decide (a < n) = false := by simp; omega
              go_wp2_with fail
              refine wp_region_class (Bw wr) (by kernel_rfl) (by kernel_rfl) (Bw.start wr) (fun hne => ?_)
              repeat (go_big_quiet_step (fail))
              refine wpQuiet_nil ?_
              rintro wq ⟨y, rfl⟩
              replace HB := Lib.hid (HB.out.trans (Below.mono y.ok HB.out.size))
              replace HO := Lib.hid (own_below HO.out y.ok)
              replace HXX := Lib.hid (HXX.out.below y.ok HXX.out.lt)
              have hszq : wr.heap.size ≤ y.W.heap.size := Below.size y.ok
              generalize y.W = wq at *
              clear hne z0 zl
              have HKN := Lib.hid (lexK_same hkn)
              have ho9 := HO.out
              rw [HKN.out] at ho9
              rw [HKN.out]
              rw [List.length_append] at ho9
              have HO9 := Lib.hid ho9
              have HPL := Lib.hid (show endp l (i' + 1) - 1 = a by omega)
              have e1 : wq.cell? ⟨w.heap.size, 1, none⟩ = some (.int .i64 x.k) := (HXX.out.cell 1).trans rfl
              have el := HXX.out.lt
              have hlk := HUP.out.lexK_le (i := i' + 1) (a := l.length) (by omega) (Nat.le_refl _)
              rw [hlen] at hlk
              have HHL := Lib.hid (hdL_len x)
              have hhb : (hdL x).length ≤ 1 := by have := HHL.out; omega
              clear ho9 HO
              by_cases hbk : 3 ≤ x.k ∧ x.k ≤ 5
              · have HIB := Lib.hid (inB_true.2 hbk)
                obtain ⟨K, hK⟩ : ∃ K, x.k = K := ⟨_, rfl⟩
                have HTL := Lib.hid (show tlL x = [⟨4, clS x.k, 0⟩] from if_pos hbk)
                rw [hK] at HIB HTL e1 hbk
                have HPX := Lib.hid (show lexP l (i' + 1) = hdL x ++ lexK l (i' + 1) n ++ [⟨4, clS K, 0⟩] by rw [HPE.out, HTL.out, hlen, List.append_assoc])
                have HKK := Lib.hid hK
                clear hK
                obtain h | h | h : K = 3 ∨ K = 4 ∨ K = 5 := by omega
                · subst h
                  rw [show clS 3 = ⟨#[41]⟩ from rfl] at HPX
                  have HXX9 := Lib.hid (show BlkL wq w.heap.size 38 [.int .i64 x.d, .int .i64 3, .string x.s] by have := HXX.out; rw [HKK.out] at this; exact this)
                  have hex : (⟨#[41, 93, 125]⟩ : ByteArray).extract 0 1 = ⟨#[41]⟩ := rfl
                  go_upto_region 17 with (go_at_call 72; refine (l07Block_any _ _).mono ?_; rintro e w' ⟨rfl, rfl⟩; rw [HIB.out])
                  have hS := BlkL.new wq 36 [.int .i64 4, .string ⟨#[41]⟩, .int .i64 0]
                  have hbS := (Below.refl wq.heap.size wq).alloc (Nat.le_refl _) (.cells #[.int .i64 4, .string ⟨#[41]⟩, .int .i64 0] 36)
                  have HOS := Lib.hid (own_below HO9.out hbS)
                  have HBS := Lib.hid (HB.out.trans (hbS.mono HB.out.size))
                  have HXS := Lib.hid (HXX9.out.below hbS HXX9.out.lt)
                  have HSS := Lib.hid hS
                  have hzS : w.heap.size ≤ (wq.alloc (.cells #[.int .i64 4, .string ⟨#[41]⟩, .int .i64 0] 36)).heap.size := HBS.out.size
                  clear hS hbS
                  go_wp2_with (at_builtin; refine wpList_append_own_at _ rfl _ _ 31 rfl w.heap.size 36 i0 (.agg #[.int .i64 0, .string ByteArray.empty, .int .i64 0]) 3 32 Tryz.underlying31 hi0 hz0 hz1 hz2 rfl (by decide) _ _ _ rfl HOS.out ⟨wq.heap.size, 0, none⟩ 1 1 [.int .i64 4, .string ⟨#[41]⟩, .int .i64 0] rfl rfl (fun j u hj => by rw [Addr.add_lit, Nat.zero_add]; exact (HSS.out.cell j).trans hj) (fx_one (⟨4, ⟨#[41]⟩, 0⟩ : Lx)) (by simp only [maxLen]; omega) (by omega) hzS ?_)
                  intro v' w9 howS hgrS _ hatS
                  have howS' : w9.ownsRow w.heap.size 36 3 v' (((hdL x).length + (lexK l (i' + 1) n).length) + 1) (fl fx (hdL x ++ lexK l (i' + 1) n) ++ fl fx [(⟨4, ⟨#[41]⟩, 0⟩ : Lx)]) := by first | exact howS | (rw [List.append_assoc]; exact howS)
                  rw [← fl_append] at howS'
                  have HBA := Lib.hid (HBS.out.grown hgrS hzS (fun g hg => (HOS.out.lt g hg).1))
                  have HXA := Lib.hid (HXS.out.grown hgrS (fun e => fo_blk HOS.out HXS.out (by decide) e.symm))
                  obtain ⟨A9, c9, rfl⟩ := own_slice howS
                  have HOA := Lib.hid (show w9.ownsRow w.heap.size 36 3 (.slice A9 (((hdL x).length + (lexK l (i' + 1) n).length) + 1) c9) (((hdL x).length + (lexK l (i' + 1) n).length) + 1) (fl fx (hdL x ++ lexK l (i' + 1) n ++ [(⟨4, ⟨#[41]⟩, 0⟩ : Lx)])) from howS')
                  clear howS howS' hgrS hatS HOS HBS HSS HXS hzS
                  go_wp2
                  go_ret2
                  refine ⟨_, by rw [HPL.out]; rfl, ?_, HBA.out⟩
                  rw [HPX.out]
                  exact own_n (by simp only [List.length_append, List.length_cons, List.length_nil]) HOA.out
                · subst h
                  rw [show clS 4 = ⟨#[93]⟩ from rfl] at HPX
                  have HXX9 := Lib.hid (show BlkL wq w.heap.size 38 [.int .i64 x.d, .int .i64 4, .string x.s] by have := HXX.out; rw [HKK.out] at this; exact this)
                  have hex : (⟨#[41, 93, 125]⟩ : ByteArray).extract 1 2 = ⟨#[93]⟩ := rfl
                  go_upto_region 17 with (go_at_call 72; refine (l07Block_any _ _).mono ?_; rintro e w' ⟨rfl, rfl⟩; rw [HIB.out])
                  have hS := BlkL.new wq 36 [.int .i64 4, .string ⟨#[93]⟩, .int .i64 0]
                  have hbS := (Below.refl wq.heap.size wq).alloc (Nat.le_refl _) (.cells #[.int .i64 4, .string ⟨#[93]⟩, .int .i64 0] 36)
                  have HOS := Lib.hid (own_below HO9.out hbS)
                  have HBS := Lib.hid (HB.out.trans (hbS.mono HB.out.size))
                  have HXS := Lib.hid (HXX9.out.below hbS HXX9.out.lt)
                  have HSS := Lib.hid hS
                  have hzS : w.heap.size ≤ (wq.alloc (.cells #[.int .i64 4, .string ⟨#[93]⟩, .int .i64 0] 36)).heap.size := HBS.out.size
                  clear hS hbS
                  go_wp2_with (at_builtin; refine wpList_append_own_at _ rfl _ _ 31 rfl w.heap.size 36 i0 (.agg #[.int .i64 0, .string ByteArray.empty, .int .i64 0]) 3 32 Tryz.underlying31 hi0 hz0 hz1 hz2 rfl (by decide) _ _ _ rfl HOS.out ⟨wq.heap.size, 0, none⟩ 1 1 [.int .i64 4, .string ⟨#[93]⟩, .int .i64 0] rfl rfl (fun j u hj => by rw [Addr.add_lit, Nat.zero_add]; exact (HSS.out.cell j).trans hj) (fx_one (⟨4, ⟨#[93]⟩, 0⟩ : Lx)) (by simp only [maxLen]; omega) (by omega) hzS ?_)
                  intro v' w9 howS hgrS _ hatS
                  have howS' : w9.ownsRow w.heap.size 36 3 v' (((hdL x).length + (lexK l (i' + 1) n).length) + 1) (fl fx (hdL x ++ lexK l (i' + 1) n) ++ fl fx [(⟨4, ⟨#[93]⟩, 0⟩ : Lx)]) := by first | exact howS | (rw [List.append_assoc]; exact howS)
                  rw [← fl_append] at howS'
                  have HBA := Lib.hid (HBS.out.grown hgrS hzS (fun g hg => (HOS.out.lt g hg).1))
                  have HXA := Lib.hid (HXS.out.grown hgrS (fun e => fo_blk HOS.out HXS.out (by decide) e.symm))
                  obtain ⟨A9, c9, rfl⟩ := own_slice howS
                  have HOA := Lib.hid (show w9.ownsRow w.heap.size 36 3 (.slice A9 (((hdL x).length + (lexK l (i' + 1) n).length) + 1) c9) (((hdL x).length + (lexK l (i' + 1) n).length) + 1) (fl fx (hdL x ++ lexK l (i' + 1) n ++ [(⟨4, ⟨#[93]⟩, 0⟩ : Lx)])) from howS')
                  clear howS howS' hgrS hatS HOS HBS HSS HXS hzS
                  go_wp2
                  go_ret2
                  refine ⟨_, by rw [HPL.out]; rfl, ?_, HBA.out⟩
                  rw [HPX.out]
                  exact own_n (by simp only [List.length_append, List.length_cons, List.length_nil]) HOA.out
                · subst h
                  rw [show clS 5 = ⟨#[125]⟩ from rfl] at HPX
                  have HXX9 := Lib.hid (show BlkL wq w.heap.size 38 [.int .i64 x.d, .int .i64 5, .string x.s] by have := HXX.out; rw [HKK.out] at this; exact this)
                  have hex : (⟨#[41, 93, 125]⟩ : ByteArray).extract 2 3 = ⟨#[125]⟩ := rfl
                  go_upto_region 17 with (go_at_call 72; refine (l07Block_any _ _).mono ?_; rintro e w' ⟨rfl, rfl⟩; rw [HIB.out])
                  have hS := BlkL.new wq 36 [.int .i64 4, .string ⟨#[125]⟩, .int .i64 0]
                  have hbS := (Below.refl wq.heap.size wq).alloc (Nat.le_refl _) (.cells #[.int .i64 4, .string ⟨#[125]⟩, .int .i64 0] 36)
                  have HOS := Lib.hid (own_below HO9.out hbS)
                  have HBS := Lib.hid (HB.out.trans (hbS.mono HB.out.size))
                  have HXS := Lib.hid (HXX9.out.below hbS HXX9.out.lt)
                  have HSS := Lib.hid hS
                  have hzS : w.heap.size ≤ (wq.alloc (.cells #[.int .i64 4, .string ⟨#[125]⟩, .int .i64 0] 36)).heap.size := HBS.out.size
                  clear hS hbS
                  go_wp2_with (at_builtin; refine wpList_append_own_at _ rfl _ _ 31 rfl w.heap.size 36 i0 (.agg #[.int .i64 0, .string ByteArray.empty, .int .i64 0]) 3 32 Tryz.underlying31 hi0 hz0 hz1 hz2 rfl (by decide) _ _ _ rfl HOS.out ⟨wq.heap.size, 0, none⟩ 1 1 [.int .i64 4, .string ⟨#[125]⟩, .int .i64 0] rfl rfl (fun j u hj => by rw [Addr.add_lit, Nat.zero_add]; exact (HSS.out.cell j).trans hj) (fx_one (⟨4, ⟨#[125]⟩, 0⟩ : Lx)) (by simp only [maxLen]; omega) (by omega) hzS ?_)
                  intro v' w9 howS hgrS _ hatS
                  have howS' : w9.ownsRow w.heap.size 36 3 v' (((hdL x).length + (lexK l (i' + 1) n).length) + 1) (fl fx (hdL x ++ lexK l (i' + 1) n) ++ fl fx [(⟨4, ⟨#[125]⟩, 0⟩ : Lx)]) := by first | exact howS | (rw [List.append_assoc]; exact howS)
                  rw [← fl_append] at howS'
                  have HBA := Lib.hid (HBS.out.grown hgrS hzS (fun g hg => (HOS.out.lt g hg).1))
                  have HXA := Lib.hid (HXS.out.grown hgrS (fun e => fo_blk HOS.out HXS.out (by decide) e.symm))
                  obtain ⟨A9, c9, rfl⟩ := own_slice howS
                  have HOA := Lib.hid (show w9.ownsRow w.heap.size 36 3 (.slice A9 (((hdL x).length + (lexK l (i' + 1) n).length) + 1) c9) (((hdL x).length + (lexK l (i' + 1) n).length) + 1) (fl fx (hdL x ++ lexK l (i' + 1) n ++ [(⟨4, ⟨#[125]⟩, 0⟩ : Lx)])) from howS')
                  clear howS howS' hgrS hatS HOS HBS HSS HXS hzS
                  go_wp2
                  go_ret2
                  refine ⟨_, by rw [HPL.out]; rfl, ?_, HBA.out⟩
                  rw [HPX.out]
                  exact own_n (by simp only [List.length_append, List.length_cons, List.length_nil]) HOA.out
              · have HIB := Lib.hid (show inB x.k 3 5 = false by
                  cases e : inB x.k 3 5
                  · rfl
                  · exact (hbk (inB_true.1 e)).elim)
                have HTL := Lib.hid (show tlL x = [] from if_neg hbk)
                have HPX := Lib.hid (show lexP l (i' + 1) = hdL x ++ lexK l (i' + 1) n by rw [HPE.out, HTL.out, hlen, List.append_nil])
                go_wp2_with (go_at_call 72; refine (l07Block_any _ _).mono ?_; rintro e w' ⟨rfl, rfl⟩; rw [HIB.out])
                go_ret2
                refine ⟨_, by rw [HPL.out]; rfl, ?_, HB.out⟩
                rw [HPX.out, List.length_append]
                exact HO9.out
      · subst h
        have HHD := Lib.hid (show hdL x = [⟨3, ⟨#[91]⟩, 0⟩] by unfold hdL; rw [HKZ.out]; rfl)
        clear h3 hxk
        have hex0 : (⟨#[40, 91, 123]⟩ : ByteArray).extract 1 2 = ⟨#[91]⟩ := rfl
        have hS := BlkL.new w1 36 [.int .i64 3, .string ⟨#[91]⟩, .int .i64 0]
        have hbS := (Below.refl w1.heap.size w1).alloc (Nat.le_refl _) (.cells #[.int .i64 3, .string ⟨#[91]⟩, .int .i64 0] 36)
        have HOS := Lib.hid (own_below HO1.out hbS)
        have HBS := Lib.hid (HB1.out.trans (hbS.mono HB1.out.size))
        have HXS := Lib.hid (HX1.out.below hbS HX1.out.lt)
        have HSS := Lib.hid hS
        have hzS : w.heap.size ≤ (w1.alloc (.cells #[.int .i64 3, .string ⟨#[91]⟩, .int .i64 0] 36)).heap.size := HBS.out.size
        clear hS hbS
        go_wp2_with (at_builtin; refine wpList_append_own_at _ rfl _ _ 31 rfl w.heap.size 36 i0 (.agg #[.int .i64 0, .string ByteArray.empty, .int .i64 0]) 3 32 Tryz.underlying31 hi0 hz0 hz1 hz2 rfl (by decide) _ _ _ rfl HOS.out ⟨w1.heap.size, 0, none⟩ 1 1 [.int .i64 3, .string ⟨#[91]⟩, .int .i64 0] rfl rfl (fun j u hj => by rw [Addr.add_lit, Nat.zero_add]; exact (HSS.out.cell j).trans hj) (fx_one (⟨3, ⟨#[91]⟩, 0⟩ : Lx)) (by simp only [maxLen]; omega) (by omega) hzS ?_)
        intro v' w5 howS hgrS _ hatS
        have howS' : w5.ownsRow w.heap.size 36 3 v' (0 + 1) (fl fx ([]) ++ fl fx [(⟨3, ⟨#[91]⟩, 0⟩ : Lx)]) := by first | exact howS | (rw [List.append_assoc]; exact howS)
        rw [← fl_append] at howS'
        have HB5 := Lib.hid (HBS.out.grown hgrS hzS (fun g hg => (HOS.out.lt g hg).1))
        have HX5 := Lib.hid (HXS.out.grown hgrS (fun e => fo_blk HOS.out HXS.out (by decide) e.symm))
        obtain ⟨A1, c1, rfl⟩ := own_slice howS
        have HO5 := Lib.hid (show w5.ownsRow w.heap.size 36 3 (.slice A1 (0 + 1) c1) (0 + 1) (fl fx ([] ++ [(⟨3, ⟨#[91]⟩, 0⟩ : Lx)])) from howS')
        clear howS howS' hgrS hatS HOS HBS HSS HXS hzS
        have hfirst := HUP.out.first (i := i' + 1) (by omega)
        rw [hlen] at hfirst
        have HST := Lib.hid (show w5.ownsRow w.heap.size 36 3 (.slice A1 1 c1) (hdL x ++ lexK l (i' + 1) (i' + 1)).length (fl fx (hdL x ++ lexK l (i' + 1) (i' + 1))) by rw [lexK_zero, List.append_nil, HHD.out]; exact HO5.out)
        clear x1 x2 xl HO5 HO1 HB1 HX1
        go_wp2
        go_loopw [1, 7] (fun kv ov wr => ∃ a : Nat, kv = .int .i64 (a : Int) ∧ i' + 1 ≤ a ∧ a ≤ n ∧ ((a < n ∧ par l a = i' + 1) ∨ (kidsN l (i' + 1) a = kidsN l (i' + 1) n ∧ a + 1 = endp l (i' + 1))) ∧ wr.ownsRow w.heap.size 36 3 ov (hdL x ++ lexK l (i' + 1) a).length (fl fx (hdL x ++ lexK l (i' + 1) a)) ∧ BlkL wr w.heap.size 38 [.int .i64 x.d, .int .i64 x.k, .string x.s] ∧ Below w.heap.size w wr) (fun kv _ _ => n - (intOf kv).toNat)
        case atStart =>
          refine ⟨i' + 1, by simp, Nat.le_refl _, by omega, ?_, HST.out, HX5.out, HB5.out⟩
          rcases hfirst with h | h
          · exact .inl h
          · exact .inr ⟨by rw [h.1, kidsN_low], h.2.symm⟩
        case round =>
          clear HST HX5 HB5 hfirst
          obtain ⟨a, rfl, hia, han, hcase, hown, hxx, hb⟩ := hrel
          have HO := Lib.hid hown
          have HXX := Lib.hid hxx
          have HB := Lib.hid hb
          obtain ⟨Av, cv, hAv⟩ := own_slice hown
          subst hAv
          have hll := HUP.out.lexK_le (i := i' + 1) (a := a) (by omega) (by omega)
          have HDX := Lib.hid (dep_succ HX.out)
          have z0 := Bw.rd (show wr.cell? ⟨w.heap.size, 0, none⟩ = some (.int .i64 x.d) from (hxx.cell 0).trans rfl)
          have zl := hxx.lt
          have hsz := hb.size
          clear hown hxx hb
          by_cases hin : a < n ∧ par l a = i' + 1
          · obtain ⟨y0, b', o', hy, hA, _, _⟩ := HNS.out.all (k := a) (by omega)
            injection hA with hA
            injection hA with e1 e2 _
            subst e1 e2
            obtain ⟨hbl', c0, _, _⟩ := NS.get (HNS.out.below HB.out) hy
            have hgt : decide (x.d < y0.d) = true := by
              have h1 := ((HUP.out.par_iff (i := i' + 1) (y := a) (by omega)).1 hin.2).2.1
              rw [dep_succ hy, HDX.out] at h1
              exact decide_eq_true (by omega)
            have hnext := HUP.out.next (i := i' + 1) (a := a) (by omega) hin.2
            rw [hlen] at hnext
            have HNX := Lib.hid hnext
            have HLS := Lib.hid (lexK_step hin.2)
            have hge := endp_gt l (a + 1)
            have hgle := endp_le (l := l) (i := a + 1) (by omega)
            have hpl7 := HUP.out.lexP_le (i := a + 1) (by omega)
            have han' := hin.1
            have HHL := Lib.hid (hdL_len x)
            have hhb : (hdL x).length ≤ 1 := by have := HHL.out; omega
            have r0 := Bw.rd c0
            clear hy c0 hcase hin hnext
            go_wp2_with fail
            refine wp_region_class (Bw wr) (by kernel_rfl) (by kernel_rfl) (Bw.start wr) (fun hne => ?_)
            repeat (go_big_quiet_step (fail))
            refine wpQuiet_nil ?_
            rintro wq ⟨y, rfl⟩
            replace HB := Lib.hid (HB.out.trans (Below.mono y.ok HB.out.size))
            replace HO := Lib.hid (own_below HO.out y.ok)
            replace HXX := Lib.hid (HXX.out.below y.ok HXX.out.lt)
            have hszq : wr.heap.size ≤ y.W.heap.size := Below.size y.ok
            generalize y.W = wq at *
            clear hne z0 zl
            clear r0
            go_wp2_with fail
            have hb3 := (Below.refl wq.heap.size wq).alloc (Nat.le_refl _) (.cells #[] 36)
            have HO3 := Lib.hid (own_below HO.out hb3)
            have HB3 := Lib.hid (HB.out.trans (hb3.mono HB.out.size))
            have HXX3 := Lib.hid (HXX.out.below hb3 HXX.out.lt)
            have hob : ∀ g, (Value.slice Av (hdL x ++ lexK l (i' + 1) a).length cv).ownBlock = some g → g < (wq.alloc (.cells #[] 36)).heap.size := fun g hg => by have := (HO.out.lt g hg).2; have := hb3.size; omega
            have HOB := Lib.hid hob
            clear hb3 hob HO HB HXX
            generalize wq.alloc (.cells #[] 36) = w3 at *
            refine (IH.out (n - a) (by omega) a (by omega) (Nat.le_refl _) w3 (HNS.out.below HB3.out)).mono ?_
            rintro e w4 ⟨v4, rfl, ho4, hb4⟩
            have HM4 := Lib.hid (show _ from (OR.of_own fx_len rfl ho4))
            have hlo4 := ho4.lt
            obtain ⟨A4, c4, rfl⟩ := own_slice ho4
            obtain ⟨M, hM⟩ : ∃ M, lexP l (a + 1) = M := ⟨_, rfl⟩
            have HXM := Lib.hid (show XS w4 A4 (lexP l (a + 1)) from HM4.out.rs fx_len)
            rw [hM] at HXM hpl7 HLS hlo4 ⊢
            have HO4 := Lib.hid (own_below HO3.out hb4)
            have HB4 := Lib.hid (HB3.out.trans (hb4.mono HB3.out.size))
            have HXX4 := Lib.hid (HXX3.out.below hb4 HXX3.out.lt)
            have HAP := Lib.hid (show ∀ g, (Value.slice Av (hdL x ++ lexK l (i' + 1) a).length cv).ownBlock = some g → A4.map (·.block) ≠ some g from fun g hg e => by
              have h1 := HOB.out g hg
              rcases ho4.2 with ⟨h, _⟩ | ⟨g', cap', cur', h, hB', _⟩
              · injection h with h _ _
                subst h
                simp at e
              · injection h with h _ _
                subst h
                simp at e
                omega)
            clear ho4 hb4 HM4 hlo4 HO3 HB3 HXX3 HOB hM
            obtain ⟨a', ha'⟩ : ∃ a', endp l (a + 1) - 1 = a' := ⟨_, rfl⟩
            rw [ha'] at HNX ⊢
            have hml : (hdL x ++ lexK l (i' + 1) a).length ≤ 2 * (l.length + 1) + 1 := by rw [List.length_append]; omega
            obtain ⟨PP, hPP⟩ : ∃ PP, hdL x ++ lexK l (i' + 1) a = PP := ⟨_, rfl⟩
            have HPP := Lib.hid hPP
            rw [hPP] at HO4 HAP hml
            rw [← List.length_append, hPP]
            clear hPP
            go_wp2
            go_loopw [7, 9] (fun ov iv wr => ∃ j : Nat, iv = .int .i64 (j : Int) ∧ j ≤ M.length ∧ wr.ownsRow w.heap.size 36 3 ov (PP.length + j) (fl fx (PP ++ M.take j)) ∧ XS wr A4 M ∧ (∀ g, ov.ownBlock = some g → A4.map (·.block) ≠ some g) ∧ BlkL wr w.heap.size 38 [.int .i64 x.d, .int .i64 x.k, .string x.s] ∧ Below w.heap.size w wr) (fun _ iv _ => M.length - (intOf iv).toNat)
            case atStart => exact ⟨0, by simp, Nat.zero_le _, by rw [List.take_zero, List.append_nil]; exact HO4.out, HXM.out, HAP.out, HXX4.out, HB4.out⟩
            case round =>
              clear HXM HAP HXX4 HB4 HO4
              obtain ⟨j, rfl, hjM, hown, hxm, hap, hxx, hb⟩ := hrel
              have HO := Lib.hid hown
              have HXX := Lib.hid hxx
              have HB := Lib.hid hb
              have HXM := Lib.hid hxm
              have HAP := Lib.hid hap
              obtain ⟨Aw, cw, hAw⟩ := own_slice hown
              subst hAw
              clear hown hxx hb hxm hap
              by_cases hj : j < M.length
              · obtain ⟨y, b4, o4, hy, hA, hbl4, q0, q1, q2⟩ := HXM.out.all hj
                subst hA
                have HY := Lib.hid hy
                clear hy
                have hS := BlkL.new wr 36 [.int .i64 y.k, .string y.s, .int .i64 y.a]
                have hbS := (Below.refl wr.heap.size wr).alloc (Nat.le_refl _) (.cells #[.int .i64 y.k, .string y.s, .int .i64 y.a] 36)
                have HOS := Lib.hid (own_below HO.out hbS)
                have HBS := Lib.hid (HB.out.trans (hbS.mono HB.out.size))
                have HXS := Lib.hid (HXX.out.below hbS HXX.out.lt)
                have HMS := Lib.hid (HXM.out.below hbS)
                have HSS := Lib.hid hS
                have hzS : w.heap.size ≤ (wr.alloc (.cells #[.int .i64 y.k, .string y.s, .int .i64 y.a] 36)).heap.size := HBS.out.size
                have hb9 := Below.size hbS
                clear hS hbS HO HB HXX HXM
                go_wp2_with (at_builtin; refine wpList_append_own_at _ rfl _ _ 31 rfl w.heap.size 36 i0 (.agg #[.int .i64 0, .string ByteArray.empty, .int .i64 0]) 3 32 Tryz.underlying31 hi0 hz0 hz1 hz2 rfl (by decide) _ _ _ rfl HOS.out ⟨wr.heap.size, 0, none⟩ 1 1 [.int .i64 y.k, .string y.s, .int .i64 y.a] rfl rfl (fun j u hj => by rw [Addr.add_lit, Nat.zero_add]; exact (HSS.out.cell j).trans hj) (fx_one y) (by simp only [maxLen]; omega) (by omega) hzS ?_)
                intro v' w9 howS hgrS _ hatS
                have howS' : w9.ownsRow w.heap.size 36 3 v' (PP.length + (j + 1)) (fl fx (PP ++ M.take (j + 1))) := by
                  rw [List.take_add_one, HY.out, Option.toList_some, ← List.append_assoc, fl_append]
                  exact howS
                have HO9 := Lib.hid howS'
                have HB9 := Lib.hid (HBS.out.grown hgrS hzS (fun g hg => (HOS.out.lt g hg).1))
                have HX9 := Lib.hid (HXS.out.grown hgrS (fun e => fo_blk HOS.out HXS.out (by decide) e.symm))
                have HM9 := Lib.hid (HMS.out.apart hgrS HAP.out)
                have HA9 := Lib.hid (show ∀ g, v'.ownBlock = some g → (some (⟨b4, o4, none⟩ : Addr)).map (·.block) ≠ some g from fun g hg => by
                  rcases hatS with h | h
                  · exact HAP.out g (h.symm.trans hg)
                  · rw [h] at hg
                    injection hg with hg
                    subst hg
                    simp only [Option.map_some, ne_eq, Option.some.injEq]
                    omega)
                clear howS howS' hgrS hatS HOS HBS HSS HXS HMS HAP hzS q0 q1 q2
                go_wp2
                go_roundw
                case rel => exact ⟨j + 1, by go_num, by omega, HO9.out, HM9.out, HA9.out, HX9.out, HB9.out⟩
                case measure => simp [intOf]; omega
              · obtain rfl : j = M.length := by omega
                go_wp2
                go_roundw
                case rel =>
                  have hn7 := HNX.out
                  have ho7 := HO.out
                  have hE : PP ++ M = hdL x ++ lexK l (i' + 1) a' := by rw [lexK_same hn7.1, HLS.out, ← HPP.out, List.append_assoc]
                  rw [List.take_length, hE] at ho7
                  refine ⟨a', rfl, by omega, by omega, ?_, own_n ?_ ho7, HXX.out, HB.out⟩
                  · rcases hn7.2 with h | h
                    · exact .inl h
                    · exact .inr ⟨h.1, by omega⟩
                  · rw [← hE, List.length_append]
                case measure => simp [intOf]; omega
          · have hend : kidsN l (i' + 1) a = kidsN l (i' + 1) n ∧ a + 1 = endp l (i' + 1) := by
              rcases hcase with h | h
              · exact (hin h).elim
              · exact h
            obtain ⟨hkn, hae⟩ := hend
            clear hin hcase
            by_cases hlt : a < n
            · obtain ⟨y0, b', o', hy, hA, _, _⟩ := HNS.out.all (k := a) (by omega)
              injection hA with hA
              injection hA with e1 e2 _
              subst e1 e2
              obtain ⟨hbl', c0, _, _⟩ := NS.get (HNS.out.below HB.out) hy
              have hgt : decide (x.d < y0.d) = false := by
                have h1 := endp_out (l := l) (i := i' + 1) (by omega)
                rw [← hae, dep_succ hy, HDX.out] at h1
                exact decide_eq_false (by omega)
              have r0 := Bw.rd c0
              clear hy c0
              go_wp2_with fail
              refine wp_region_class (Bw wr) (by kernel_rfl) (by kernel_rfl) (Bw.start wr) (fun hne => ?_)
              repeat (go_big_quiet_step (fail))
              refine wpQuiet_nil ?_
              rintro wq ⟨y, rfl⟩
              replace HB := Lib.hid (HB.out.trans (Below.mono y.ok HB.out.size))
              replace HO := Lib.hid (own_below HO.out y.ok)
              replace HXX := Lib.hid (HXX.out.below y.ok HXX.out.lt)
              have hszq : wr.heap.size ≤ y.W.heap.size := Below.size y.ok
              generalize y.W = wq at *
              clear hne z0 zl
              clear r0
              have HKN := Lib.hid (lexK_same hkn)
              have ho9 := HO.out
              rw [HKN.out] at ho9
              rw [HKN.out]
              rw [List.length_append] at ho9
              have HO9 := Lib.hid ho9
              have HPL := Lib.hid (show endp l (i' + 1) - 1 = a by omega)
              have e1 : wq.cell? ⟨w.heap.size, 1, none⟩ = some (.int .i64 x.k) := (HXX.out.cell 1).trans rfl
              have el := HXX.out.lt
              have hlk := HUP.out.lexK_le (i := i' + 1) (a := l.length) (by omega) (Nat.le_refl _)
              rw [hlen] at hlk
              have HHL := Lib.hid (hdL_len x)
              have hhb : (hdL x).length ≤ 1 := by have := HHL.out; omega
              clear ho9 HO
              by_cases hbk : 3 ≤ x.k ∧ x.k ≤ 5
              · have HIB := Lib.hid (inB_true.2 hbk)
                obtain ⟨K, hK⟩ : ∃ K, x.k = K := ⟨_, rfl⟩
                have HTL := Lib.hid (show tlL x = [⟨4, clS x.k, 0⟩] from if_pos hbk)
                rw [hK] at HIB HTL e1 hbk
                have HPX := Lib.hid (show lexP l (i' + 1) = hdL x ++ lexK l (i' + 1) n ++ [⟨4, clS K, 0⟩] by rw [HPE.out, HTL.out, hlen, List.append_assoc])
                have HKK := Lib.hid hK
                clear hK
                obtain h | h | h : K = 3 ∨ K = 4 ∨ K = 5 := by omega
                · subst h
                  rw [show clS 3 = ⟨#[41]⟩ from rfl] at HPX
                  have HXX9 := Lib.hid (show BlkL wq w.heap.size 38 [.int .i64 x.d, .int .i64 3, .string x.s] by have := HXX.out; rw [HKK.out] at this; exact this)
                  have hex : (⟨#[41, 93, 125]⟩ : ByteArray).extract 0 1 = ⟨#[41]⟩ := rfl
                  go_upto_region 17 with (go_at_call 72; refine (l07Block_any _ _).mono ?_; rintro e w' ⟨rfl, rfl⟩; rw [HIB.out])
                  have hS := BlkL.new wq 36 [.int .i64 4, .string ⟨#[41]⟩, .int .i64 0]
                  have hbS := (Below.refl wq.heap.size wq).alloc (Nat.le_refl _) (.cells #[.int .i64 4, .string ⟨#[41]⟩, .int .i64 0] 36)
                  have HOS := Lib.hid (own_below HO9.out hbS)
                  have HBS := Lib.hid (HB.out.trans (hbS.mono HB.out.size))
                  have HXS := Lib.hid (HXX9.out.below hbS HXX9.out.lt)
                  have HSS := Lib.hid hS
                  have hzS : w.heap.size ≤ (wq.alloc (.cells #[.int .i64 4, .string ⟨#[41]⟩, .int .i64 0] 36)).heap.size := HBS.out.size
                  clear hS hbS
                  go_wp2_with (at_builtin; refine wpList_append_own_at _ rfl _ _ 31 rfl w.heap.size 36 i0 (.agg #[.int .i64 0, .string ByteArray.empty, .int .i64 0]) 3 32 Tryz.underlying31 hi0 hz0 hz1 hz2 rfl (by decide) _ _ _ rfl HOS.out ⟨wq.heap.size, 0, none⟩ 1 1 [.int .i64 4, .string ⟨#[41]⟩, .int .i64 0] rfl rfl (fun j u hj => by rw [Addr.add_lit, Nat.zero_add]; exact (HSS.out.cell j).trans hj) (fx_one (⟨4, ⟨#[41]⟩, 0⟩ : Lx)) (by simp only [maxLen]; omega) (by omega) hzS ?_)
                  intro v' w9 howS hgrS _ hatS
                  have howS' : w9.ownsRow w.heap.size 36 3 v' (((hdL x).length + (lexK l (i' + 1) n).length) + 1) (fl fx (hdL x ++ lexK l (i' + 1) n) ++ fl fx [(⟨4, ⟨#[41]⟩, 0⟩ : Lx)]) := by first | exact howS | (rw [List.append_assoc]; exact howS)
                  rw [← fl_append] at howS'
                  have HBA := Lib.hid (HBS.out.grown hgrS hzS (fun g hg => (HOS.out.lt g hg).1))
                  have HXA := Lib.hid (HXS.out.grown hgrS (fun e => fo_blk HOS.out HXS.out (by decide) e.symm))
                  obtain ⟨A9, c9, rfl⟩ := own_slice howS
                  have HOA := Lib.hid (show w9.ownsRow w.heap.size 36 3 (.slice A9 (((hdL x).length + (lexK l (i' + 1) n).length) + 1) c9) (((hdL x).length + (lexK l (i' + 1) n).length) + 1) (fl fx (hdL x ++ lexK l (i' + 1) n ++ [(⟨4, ⟨#[41]⟩, 0⟩ : Lx)])) from howS')
                  clear howS howS' hgrS hatS HOS HBS HSS HXS hzS
                  go_wp2
                  go_ret2
                  refine ⟨_, by rw [HPL.out]; rfl, ?_, HBA.out⟩
                  rw [HPX.out]
                  exact own_n (by simp only [List.length_append, List.length_cons, List.length_nil]) HOA.out
                · subst h
                  rw [show clS 4 = ⟨#[93]⟩ from rfl] at HPX
                  have HXX9 := Lib.hid (show BlkL wq w.heap.size 38 [.int .i64 x.d, .int .i64 4, .string x.s] by have := HXX.out; rw [HKK.out] at this; exact this)
                  have hex : (⟨#[41, 93, 125]⟩ : ByteArray).extract 1 2 = ⟨#[93]⟩ := rfl
                  go_upto_region 17 with (go_at_call 72; refine (l07Block_any _ _).mono ?_; rintro e w' ⟨rfl, rfl⟩; rw [HIB.out])
                  have hS := BlkL.new wq 36 [.int .i64 4, .string ⟨#[93]⟩, .int .i64 0]
                  have hbS := (Below.refl wq.heap.size wq).alloc (Nat.le_refl _) (.cells #[.int .i64 4, .string ⟨#[93]⟩, .int .i64 0] 36)
                  have HOS := Lib.hid (own_below HO9.out hbS)
                  have HBS := Lib.hid (HB.out.trans (hbS.mono HB.out.size))
                  have HXS := Lib.hid (HXX9.out.below hbS HXX9.out.lt)
                  have HSS := Lib.hid hS
                  have hzS : w.heap.size ≤ (wq.alloc (.cells #[.int .i64 4, .string ⟨#[93]⟩, .int .i64 0] 36)).heap.size := HBS.out.size
                  clear hS hbS
                  go_wp2_with (at_builtin; refine wpList_append_own_at _ rfl _ _ 31 rfl w.heap.size 36 i0 (.agg #[.int .i64 0, .string ByteArray.empty, .int .i64 0]) 3 32 Tryz.underlying31 hi0 hz0 hz1 hz2 rfl (by decide) _ _ _ rfl HOS.out ⟨wq.heap.size, 0, none⟩ 1 1 [.int .i64 4, .string ⟨#[93]⟩, .int .i64 0] rfl rfl (fun j u hj => by rw [Addr.add_lit, Nat.zero_add]; exact (HSS.out.cell j).trans hj) (fx_one (⟨4, ⟨#[93]⟩, 0⟩ : Lx)) (by simp only [maxLen]; omega) (by omega) hzS ?_)
                  intro v' w9 howS hgrS _ hatS
                  have howS' : w9.ownsRow w.heap.size 36 3 v' (((hdL x).length + (lexK l (i' + 1) n).length) + 1) (fl fx (hdL x ++ lexK l (i' + 1) n) ++ fl fx [(⟨4, ⟨#[93]⟩, 0⟩ : Lx)]) := by first | exact howS | (rw [List.append_assoc]; exact howS)
                  rw [← fl_append] at howS'
                  have HBA := Lib.hid (HBS.out.grown hgrS hzS (fun g hg => (HOS.out.lt g hg).1))
                  have HXA := Lib.hid (HXS.out.grown hgrS (fun e => fo_blk HOS.out HXS.out (by decide) e.symm))
                  obtain ⟨A9, c9, rfl⟩ := own_slice howS
                  have HOA := Lib.hid (show w9.ownsRow w.heap.size 36 3 (.slice A9 (((hdL x).length + (lexK l (i' + 1) n).length) + 1) c9) (((hdL x).length + (lexK l (i' + 1) n).length) + 1) (fl fx (hdL x ++ lexK l (i' + 1) n ++ [(⟨4, ⟨#[93]⟩, 0⟩ : Lx)])) from howS')
                  clear howS howS' hgrS hatS HOS HBS HSS HXS hzS
                  go_wp2
                  go_ret2
                  refine ⟨_, by rw [HPL.out]; rfl, ?_, HBA.out⟩
                  rw [HPX.out]
                  exact own_n (by simp only [List.length_append, List.length_cons, List.length_nil]) HOA.out
                · subst h
                  rw [show clS 5 = ⟨#[125]⟩ from rfl] at HPX
                  have HXX9 := Lib.hid (show BlkL wq w.heap.size 38 [.int .i64 x.d, .int .i64 5, .string x.s] by have := HXX.out; rw [HKK.out] at this; exact this)
                  have hex : (⟨#[41, 93, 125]⟩ : ByteArray).extract 2 3 = ⟨#[125]⟩ := rfl
                  go_upto_region 17 with (go_at_call 72; refine (l07Block_any _ _).mono ?_; rintro e w' ⟨rfl, rfl⟩; rw [HIB.out])
                  have hS := BlkL.new wq 36 [.int .i64 4, .string ⟨#[125]⟩, .int .i64 0]
                  have hbS := (Below.refl wq.heap.size wq).alloc (Nat.le_refl _) (.cells #[.int .i64 4, .string ⟨#[125]⟩, .int .i64 0] 36)
                  have HOS := Lib.hid (own_below HO9.out hbS)
                  have HBS := Lib.hid (HB.out.trans (hbS.mono HB.out.size))
                  have HXS := Lib.hid (HXX9.out.below hbS HXX9.out.lt)
                  have HSS := Lib.hid hS
                  have hzS : w.heap.size ≤ (wq.alloc (.cells #[.int .i64 4, .string ⟨#[125]⟩, .int .i64 0] 36)).heap.size := HBS.out.size
                  clear hS hbS
                  go_wp2_with (at_builtin; refine wpList_append_own_at _ rfl _ _ 31 rfl w.heap.size 36 i0 (.agg #[.int .i64 0, .string ByteArray.empty, .int .i64 0]) 3 32 Tryz.underlying31 hi0 hz0 hz1 hz2 rfl (by decide) _ _ _ rfl HOS.out ⟨wq.heap.size, 0, none⟩ 1 1 [.int .i64 4, .string ⟨#[125]⟩, .int .i64 0] rfl rfl (fun j u hj => by rw [Addr.add_lit, Nat.zero_add]; exact (HSS.out.cell j).trans hj) (fx_one (⟨4, ⟨#[125]⟩, 0⟩ : Lx)) (by simp only [maxLen]; omega) (by omega) hzS ?_)
                  intro v' w9 howS hgrS _ hatS
                  have howS' : w9.ownsRow w.heap.size 36 3 v' (((hdL x).length + (lexK l (i' + 1) n).length) + 1) (fl fx (hdL x ++ lexK l (i' + 1) n) ++ fl fx [(⟨4, ⟨#[125]⟩, 0⟩ : Lx)]) := by first | exact howS | (rw [List.append_assoc]; exact howS)
                  rw [← fl_append] at howS'
                  have HBA := Lib.hid (HBS.out.grown hgrS hzS (fun g hg => (HOS.out.lt g hg).1))
                  have HXA := Lib.hid (HXS.out.grown hgrS (fun e => fo_blk HOS.out HXS.out (by decide) e.symm))
                  obtain ⟨A9, c9, rfl⟩ := own_slice howS
                  have HOA := Lib.hid (show w9.ownsRow w.heap.size 36 3 (.slice A9 (((hdL x).length + (lexK l (i' + 1) n).length) + 1) c9) (((hdL x).length + (lexK l (i' + 1) n).length) + 1) (fl fx (hdL x ++ lexK l (i' + 1) n ++ [(⟨4, ⟨#[125]⟩, 0⟩ : Lx)])) from howS')
                  clear howS howS' hgrS hatS HOS HBS HSS HXS hzS
                  go_wp2
                  go_ret2
                  refine ⟨_, by rw [HPL.out]; rfl, ?_, HBA.out⟩
                  rw [HPX.out]
                  exact own_n (by simp only [List.length_append, List.length_cons, List.length_nil]) HOA.out
              · have HIB := Lib.hid (show inB x.k 3 5 = false by
                  cases e : inB x.k 3 5
                  · rfl
                  · exact (hbk (inB_true.1 e)).elim)
                have HTL := Lib.hid (show tlL x = [] from if_neg hbk)
                have HPX := Lib.hid (show lexP l (i' + 1) = hdL x ++ lexK l (i' + 1) n by rw [HPE.out, HTL.out, hlen, List.append_nil])
                go_wp2_with (go_at_call 72; refine (l07Block_any _ _).mono ?_; rintro e w' ⟨rfl, rfl⟩; rw [HIB.out])
                go_ret2
                refine ⟨_, by rw [HPL.out]; rfl, ?_, HB.out⟩
                rw [HPX.out, List.length_append]
                exact HO9.out
            · have hlb : decide ((a : Int) < (n : Int)) = false := by simp; omega
              have hlb' : decide (a < n) = false := by simp; omega
              go_wp2_with fail
              refine wp_region_class (Bw wr) (by kernel_rfl) (by kernel_rfl) (Bw.start wr) (fun hne => ?_)
              repeat (go_big_quiet_step (fail))
              refine wpQuiet_nil ?_
              rintro wq ⟨y, rfl⟩
              replace HB := Lib.hid (HB.out.trans (Below.mono y.ok HB.out.size))
              replace HO := Lib.hid (own_below HO.out y.ok)
              replace HXX := Lib.hid (HXX.out.below y.ok HXX.out.lt)
              have hszq : wr.heap.size ≤ y.W.heap.size := Below.size y.ok
              generalize y.W = wq at *
              clear hne z0 zl
              have HKN := Lib.hid (lexK_same hkn)
              have ho9 := HO.out
              rw [HKN.out] at ho9
              rw [HKN.out]
              rw [List.length_append] at ho9
              have HO9 := Lib.hid ho9
              have HPL := Lib.hid (show endp l (i' + 1) - 1 = a by omega)
              have e1 : wq.cell? ⟨w.heap.size, 1, none⟩ = some (.int .i64 x.k) := (HXX.out.cell 1).trans rfl
              have el := HXX.out.lt
              have hlk := HUP.out.lexK_le (i := i' + 1) (a := l.length) (by omega) (Nat.le_refl _)
              rw [hlen] at hlk
              have HHL := Lib.hid (hdL_len x)
              have hhb : (hdL x).length ≤ 1 := by have := HHL.out; omega
              clear ho9 HO
              by_cases hbk : 3 ≤ x.k ∧ x.k ≤ 5
              · have HIB := Lib.hid (inB_true.2 hbk)
                obtain ⟨K, hK⟩ : ∃ K, x.k = K := ⟨_, rfl⟩
                have HTL := Lib.hid (show tlL x = [⟨4, clS x.k, 0⟩] from if_pos hbk)
                rw [hK] at HIB HTL e1 hbk
                have HPX := Lib.hid (show lexP l (i' + 1) = hdL x ++ lexK l (i' + 1) n ++ [⟨4, clS K, 0⟩] by rw [HPE.out, HTL.out, hlen, List.append_assoc])
                have HKK := Lib.hid hK
                clear hK
                obtain h | h | h : K = 3 ∨ K = 4 ∨ K = 5 := by omega
                · subst h
                  rw [show clS 3 = ⟨#[41]⟩ from rfl] at HPX
                  have HXX9 := Lib.hid (show BlkL wq w.heap.size 38 [.int .i64 x.d, .int .i64 3, .string x.s] by have := HXX.out; rw [HKK.out] at this; exact this)
                  have hex : (⟨#[41, 93, 125]⟩ : ByteArray).extract 0 1 = ⟨#[41]⟩ := rfl
                  go_upto_region 17 with (go_at_call 72; refine (l07Block_any _ _).mono ?_; rintro e w' ⟨rfl, rfl⟩; rw [HIB.out])
                  have hS := BlkL.new wq 36 [.int .i64 4, .string ⟨#[41]⟩, .int .i64 0]
                  have hbS := (Below.refl wq.heap.size wq).alloc (Nat.le_refl _) (.cells #[.int .i64 4, .string ⟨#[41]⟩, .int .i64 0] 36)
                  have HOS := Lib.hid (own_below HO9.out hbS)
                  have HBS := Lib.hid (HB.out.trans (hbS.mono HB.out.size))
                  have HXS := Lib.hid (HXX9.out.below hbS HXX9.out.lt)
                  have HSS := Lib.hid hS
                  have hzS : w.heap.size ≤ (wq.alloc (.cells #[.int .i64 4, .string ⟨#[41]⟩, .int .i64 0] 36)).heap.size := HBS.out.size
                  clear hS hbS
                  go_wp2_with (at_builtin; refine wpList_append_own_at _ rfl _ _ 31 rfl w.heap.size 36 i0 (.agg #[.int .i64 0, .string ByteArray.empty, .int .i64 0]) 3 32 Tryz.underlying31 hi0 hz0 hz1 hz2 rfl (by decide) _ _ _ rfl HOS.out ⟨wq.heap.size, 0, none⟩ 1 1 [.int .i64 4, .string ⟨#[41]⟩, .int .i64 0] rfl rfl (fun j u hj => by rw [Addr.add_lit, Nat.zero_add]; exact (HSS.out.cell j).trans hj) (fx_one (⟨4, ⟨#[41]⟩, 0⟩ : Lx)) (by simp only [maxLen]; omega) (by omega) hzS ?_)
                  intro v' w9 howS hgrS _ hatS
                  have howS' : w9.ownsRow w.heap.size 36 3 v' (((hdL x).length + (lexK l (i' + 1) n).length) + 1) (fl fx (hdL x ++ lexK l (i' + 1) n) ++ fl fx [(⟨4, ⟨#[41]⟩, 0⟩ : Lx)]) := by first | exact howS | (rw [List.append_assoc]; exact howS)
                  rw [← fl_append] at howS'
                  have HBA := Lib.hid (HBS.out.grown hgrS hzS (fun g hg => (HOS.out.lt g hg).1))
                  have HXA := Lib.hid (HXS.out.grown hgrS (fun e => fo_blk HOS.out HXS.out (by decide) e.symm))
                  obtain ⟨A9, c9, rfl⟩ := own_slice howS
                  have HOA := Lib.hid (show w9.ownsRow w.heap.size 36 3 (.slice A9 (((hdL x).length + (lexK l (i' + 1) n).length) + 1) c9) (((hdL x).length + (lexK l (i' + 1) n).length) + 1) (fl fx (hdL x ++ lexK l (i' + 1) n ++ [(⟨4, ⟨#[41]⟩, 0⟩ : Lx)])) from howS')
                  clear howS howS' hgrS hatS HOS HBS HSS HXS hzS
                  go_wp2
                  go_ret2
                  refine ⟨_, by rw [HPL.out]; rfl, ?_, HBA.out⟩
                  rw [HPX.out]
                  exact own_n (by simp only [List.length_append, List.length_cons, List.length_nil]) HOA.out
                · subst h
                  rw [show clS 4 = ⟨#[93]⟩ from rfl] at HPX
                  have HXX9 := Lib.hid (show BlkL wq w.heap.size 38 [.int .i64 x.d, .int .i64 4, .string x.s] by have := HXX.out; rw [HKK.out] at this; exact this)
                  have hex : (⟨#[41, 93, 125]⟩ : ByteArray).extract 1 2 = ⟨#[93]⟩ := rfl
                  go_upto_region 17 with (go_at_call 72; refine (l07Block_any _ _).mono ?_; rintro e w' ⟨rfl, rfl⟩; rw [HIB.out])
                  have hS := BlkL.new wq 36 [.int .i64 4, .string ⟨#[93]⟩, .int .i64 0]
                  have hbS := (Below.refl wq.heap.size wq).alloc (Nat.le_refl _) (.cells #[.int .i64 4, .string ⟨#[93]⟩, .int .i64 0] 36)
                  have HOS := Lib.hid (own_below HO9.out hbS)
                  have HBS := Lib.hid (HB.out.trans (hbS.mono HB.out.size))
                  have HXS := Lib.hid (HXX9.out.below hbS HXX9.out.lt)
                  have HSS := Lib.hid hS
                  have hzS : w.heap.size ≤ (wq.alloc (.cells #[.int .i64 4, .string ⟨#[93]⟩, .int .i64 0] 36)).heap.size := HBS.out.size
                  clear hS hbS
                  go_wp2_with (at_builtin; refine wpList_append_own_at _ rfl _ _ 31 rfl w.heap.size 36 i0 (.agg #[.int .i64 0, .string ByteArray.empty, .int .i64 0]) 3 32 Tryz.underlying31 hi0 hz0 hz1 hz2 rfl (by decide) _ _ _ rfl HOS.out ⟨wq.heap.size, 0, none⟩ 1 1 [.int .i64 4, .string ⟨#[93]⟩, .int .i64 0] rfl rfl (fun j u hj => by rw [Addr.add_lit, Nat.zero_add]; exact (HSS.out.cell j).trans hj) (fx_one (⟨4, ⟨#[93]⟩, 0⟩ : Lx)) (by simp only [maxLen]; omega) (by omega) hzS ?_)
                  intro v' w9 howS hgrS _ hatS
                  have howS' : w9.ownsRow w.heap.size 36 3 v' (((hdL x).length + (lexK l (i' + 1) n).length) + 1) (fl fx (hdL x ++ lexK l (i' + 1) n) ++ fl fx [(⟨4, ⟨#[93]⟩, 0⟩ : Lx)]) := by first | exact howS | (rw [List.append_assoc]; exact howS)
                  rw [← fl_append] at howS'
                  have HBA := Lib.hid (HBS.out.grown hgrS hzS (fun g hg => (HOS.out.lt g hg).1))
                  have HXA := Lib.hid (HXS.out.grown hgrS (fun e => fo_blk HOS.out HXS.out (by decide) e.symm))
                  obtain ⟨A9, c9, rfl⟩ := own_slice howS
                  have HOA := Lib.hid (show w9.ownsRow w.heap.size 36 3 (.slice A9 (((hdL x).length + (lexK l (i' + 1) n).length) + 1) c9) (((hdL x).length + (lexK l (i' + 1) n).length) + 1) (fl fx (hdL x ++ lexK l (i' + 1) n ++ [(⟨4, ⟨#[93]⟩, 0⟩ : Lx)])) from howS')
                  clear howS howS' hgrS hatS HOS HBS HSS HXS hzS
                  go_wp2
                  go_ret2
                  refine ⟨_, by rw [HPL.out]; rfl, ?_, HBA.out⟩
                  rw [HPX.out]
                  exact own_n (by simp only [List.length_append, List.length_cons, List.length_nil]) HOA.out
                · subst h
                  rw [show clS 5 = ⟨#[125]⟩ from rfl] at HPX
                  have HXX9 := Lib.hid (show BlkL wq w.heap.size 38 [.int .i64 x.d, .int .i64 5, .string x.s] by have := HXX.out; rw [HKK.out] at this; exact this)
                  have hex : (⟨#[41, 93, 125]⟩ : ByteArray).extract 2 3 = ⟨#[125]⟩ := rfl
                  go_upto_region 17 with (go_at_call 72; refine (l07Block_any _ _).mono ?_; rintro e w' ⟨rfl, rfl⟩; rw [HIB.out])
                  have hS := BlkL.new wq 36 [.int .i64 4, .string ⟨#[125]⟩, .int .i64 0]
                  have hbS := (Below.refl wq.heap.size wq).alloc (Nat.le_refl _) (.cells #[.int .i64 4, .string ⟨#[125]⟩, .int .i64 0] 36)
                  have HOS := Lib.hid (own_below HO9.out hbS)
                  have HBS := Lib.hid (HB.out.trans (hbS.mono HB.out.size))
                  have HXS := Lib.hid (HXX9.out.below hbS HXX9.out.lt)
                  have HSS := Lib.hid hS
                  have hzS : w.heap.size ≤ (wq.alloc (.cells #[.int .i64 4, .string ⟨#[125]⟩, .int .i64 0] 36)).heap.size := HBS.out.size
                  clear hS hbS
                  go_wp2_with (at_builtin; refine wpList_append_own_at _ rfl _ _ 31 rfl w.heap.size 36 i0 (.agg #[.int .i64 0, .string ByteArray.empty, .int .i64 0]) 3 32 Tryz.underlying31 hi0 hz0 hz1 hz2 rfl (by decide) _ _ _ rfl HOS.out ⟨wq.heap.size, 0, none⟩ 1 1 [.int .i64 4, .string ⟨#[125]⟩, .int .i64 0] rfl rfl (fun j u hj => by rw [Addr.add_lit, Nat.zero_add]; exact (HSS.out.cell j).trans hj) (fx_one (⟨4, ⟨#[125]⟩, 0⟩ : Lx)) (by simp only [maxLen]; omega) (by omega) hzS ?_)
                  intro v' w9 howS hgrS _ hatS
                  have howS' : w9.ownsRow w.heap.size 36 3 v' (((hdL x).length + (lexK l (i' + 1) n).length) + 1) (fl fx (hdL x ++ lexK l (i' + 1) n) ++ fl fx [(⟨4, ⟨#[125]⟩, 0⟩ : Lx)]) := by first | exact howS | (rw [List.append_assoc]; exact howS)
                  rw [← fl_append] at howS'
                  have HBA := Lib.hid (HBS.out.grown hgrS hzS (fun g hg => (HOS.out.lt g hg).1))
                  have HXA := Lib.hid (HXS.out.grown hgrS (fun e => fo_blk HOS.out HXS.out (by decide) e.symm))
                  obtain ⟨A9, c9, rfl⟩ := own_slice howS
                  have HOA := Lib.hid (show w9.ownsRow w.heap.size 36 3 (.slice A9 (((hdL x).length + (lexK l (i' + 1) n).length) + 1) c9) (((hdL x).length + (lexK l (i' + 1) n).length) + 1) (fl fx (hdL x ++ lexK l (i' + 1) n ++ [(⟨4, ⟨#[125]⟩, 0⟩ : Lx)])) from howS')
                  clear howS howS' hgrS hatS HOS HBS HSS HXS hzS
                  go_wp2
                  go_ret2
                  refine ⟨_, by rw [HPL.out]; rfl, ?_, HBA.out⟩
                  rw [HPX.out]
                  exact own_n (by simp only [List.length_append, List.length_cons, List.length_nil]) HOA.out
              · have HIB := Lib.hid (show inB x.k 3 5 = false by
                  cases e : inB x.k 3 5
                  · rfl
                  · exact (hbk (inB_true.1 e)).elim)
                have HTL := Lib.hid (show tlL x = [] from if_neg hbk)
                have HPX := Lib.hid (show lexP l (i' + 1) = hdL x ++ lexK l (i' + 1) n by rw [HPE.out, HTL.out, hlen, List.append_nil])
                go_wp2_with (go_at_call 72; refine (l07Block_any _ _).mono ?_; rintro e w' ⟨rfl, rfl⟩; rw [HIB.out])
                go_ret2
                refine ⟨_, by rw [HPL.out]; rfl, ?_, HB.out⟩
                rw [HPX.out, List.length_append]
                exact HO9.out
      · subst h
        have HHD := Lib.hid (show hdL x = [⟨3, ⟨#[123]⟩, 0⟩] by unfold hdL; rw [HKZ.out]; rfl)
        clear h3 hxk
        have hex0 : (⟨#[40, 91, 123]⟩ : ByteArray).extract 2 3 = ⟨#[123]⟩ := rfl
        have hS := BlkL.new w1 36 [.int .i64 3, .string ⟨#[123]⟩, .int .i64 0]
        have hbS := (Below.refl w1.heap.size w1).alloc (Nat.le_refl _) (.cells #[.int .i64 3, .string ⟨#[123]⟩, .int .i64 0] 36)
        have HOS := Lib.hid (own_below HO1.out hbS)
        have HBS := Lib.hid (HB1.out.trans (hbS.mono HB1.out.size))
        have HXS := Lib.hid (HX1.out.below hbS HX1.out.lt)
        have HSS := Lib.hid hS
        have hzS : w.heap.size ≤ (w1.alloc (.cells #[.int .i64 3, .string ⟨#[123]⟩, .int .i64 0] 36)).heap.size := HBS.out.size
        clear hS hbS
        go_wp2_with (at_builtin; refine wpList_append_own_at _ rfl _ _ 31 rfl w.heap.size 36 i0 (.agg #[.int .i64 0, .string ByteArray.empty, .int .i64 0]) 3 32 Tryz.underlying31 hi0 hz0 hz1 hz2 rfl (by decide) _ _ _ rfl HOS.out ⟨w1.heap.size, 0, none⟩ 1 1 [.int .i64 3, .string ⟨#[123]⟩, .int .i64 0] rfl rfl (fun j u hj => by rw [Addr.add_lit, Nat.zero_add]; exact (HSS.out.cell j).trans hj) (fx_one (⟨3, ⟨#[123]⟩, 0⟩ : Lx)) (by simp only [maxLen]; omega) (by omega) hzS ?_)
        intro v' w5 howS hgrS _ hatS
        have howS' : w5.ownsRow w.heap.size 36 3 v' (0 + 1) (fl fx ([]) ++ fl fx [(⟨3, ⟨#[123]⟩, 0⟩ : Lx)]) := by first | exact howS | (rw [List.append_assoc]; exact howS)
        rw [← fl_append] at howS'
        have HB5 := Lib.hid (HBS.out.grown hgrS hzS (fun g hg => (HOS.out.lt g hg).1))
        have HX5 := Lib.hid (HXS.out.grown hgrS (fun e => fo_blk HOS.out HXS.out (by decide) e.symm))
        obtain ⟨A1, c1, rfl⟩ := own_slice howS
        have HO5 := Lib.hid (show w5.ownsRow w.heap.size 36 3 (.slice A1 (0 + 1) c1) (0 + 1) (fl fx ([] ++ [(⟨3, ⟨#[123]⟩, 0⟩ : Lx)])) from howS')
        clear howS howS' hgrS hatS HOS HBS HSS HXS hzS
        have hfirst := HUP.out.first (i := i' + 1) (by omega)
        rw [hlen] at hfirst
        have HST := Lib.hid (show w5.ownsRow w.heap.size 36 3 (.slice A1 1 c1) (hdL x ++ lexK l (i' + 1) (i' + 1)).length (fl fx (hdL x ++ lexK l (i' + 1) (i' + 1))) by rw [lexK_zero, List.append_nil, HHD.out]; exact HO5.out)
        clear x1 x2 xl HO5 HO1 HB1 HX1
        go_wp2
        go_loopw [1, 7] (fun kv ov wr => ∃ a : Nat, kv = .int .i64 (a : Int) ∧ i' + 1 ≤ a ∧ a ≤ n ∧ ((a < n ∧ par l a = i' + 1) ∨ (kidsN l (i' + 1) a = kidsN l (i' + 1) n ∧ a + 1 = endp l (i' + 1))) ∧ wr.ownsRow w.heap.size 36 3 ov (hdL x ++ lexK l (i' + 1) a).length (fl fx (hdL x ++ lexK l (i' + 1) a)) ∧ BlkL wr w.heap.size 38 [.int .i64 x.d, .int .i64 x.k, .string x.s] ∧ Below w.heap.size w wr) (fun kv _ _ => n - (intOf kv).toNat)
        case atStart =>
          refine ⟨i' + 1, by simp, Nat.le_refl _, by omega, ?_, HST.out, HX5.out, HB5.out⟩
          rcases hfirst with h | h
          · exact .inl h
          · exact .inr ⟨by rw [h.1, kidsN_low], h.2.symm⟩
        case round =>
          clear HST HX5 HB5 hfirst
          obtain ⟨a, rfl, hia, han, hcase, hown, hxx, hb⟩ := hrel
          have HO := Lib.hid hown
          have HXX := Lib.hid hxx
          have HB := Lib.hid hb
          obtain ⟨Av, cv, hAv⟩ := own_slice hown
          subst hAv
          have hll := HUP.out.lexK_le (i := i' + 1) (a := a) (by omega) (by omega)
          have HDX := Lib.hid (dep_succ HX.out)
          have z0 := Bw.rd (show wr.cell? ⟨w.heap.size, 0, none⟩ = some (.int .i64 x.d) from (hxx.cell 0).trans rfl)
          have zl := hxx.lt
          have hsz := hb.size
          clear hown hxx hb
          by_cases hin : a < n ∧ par l a = i' + 1
          · obtain ⟨y0, b', o', hy, hA, _, _⟩ := HNS.out.all (k := a) (by omega)
            injection hA with hA
            injection hA with e1 e2 _
            subst e1 e2
            obtain ⟨hbl', c0, _, _⟩ := NS.get (HNS.out.below HB.out) hy
            have hgt : decide (x.d < y0.d) = true := by
              have h1 := ((HUP.out.par_iff (i := i' + 1) (y := a) (by omega)).1 hin.2).2.1
              rw [dep_succ hy, HDX.out] at h1
              exact decide_eq_true (by omega)
            have hnext := HUP.out.next (i := i' + 1) (a := a) (by omega) hin.2
            rw [hlen] at hnext
            have HNX := Lib.hid hnext
            have HLS := Lib.hid (lexK_step hin.2)
            have hge := endp_gt l (a + 1)
            have hgle := endp_le (l := l) (i := a + 1) (by omega)
            have hpl7 := HUP.out.lexP_le (i := a + 1) (by omega)
            have han' := hin.1
            have HHL := Lib.hid (hdL_len x)
            have hhb : (hdL x).length ≤ 1 := by have := HHL.out; omega
            have r0 := Bw.rd c0
            clear hy c0 hcase hin hnext
            go_wp2_with fail
            refine wp_region_class (Bw wr) (by kernel_rfl) (by kernel_rfl) (Bw.start wr) (fun hne => ?_)
            repeat (go_big_quiet_step (fail))
            refine wpQuiet_nil ?_
            rintro wq ⟨y, rfl⟩
            replace HB := Lib.hid (HB.out.trans (Below.mono y.ok HB.out.size))
            replace HO := Lib.hid (own_below HO.out y.ok)
            replace HXX := Lib.hid (HXX.out.below y.ok HXX.out.lt)
            have hszq : wr.heap.size ≤ y.W.heap.size := Below.size y.ok
            generalize y.W = wq at *
            clear hne z0 zl
            clear r0
            go_wp2_with fail
            have hb3 := (Below.refl wq.heap.size wq).alloc (Nat.le_refl _) (.cells #[] 36)
            have HO3 := Lib.hid (own_below HO.out hb3)
            have HB3 := Lib.hid (HB.out.trans (hb3.mono HB.out.size))
            have HXX3 := Lib.hid (HXX.out.below hb3 HXX.out.lt)
            have hob : ∀ g, (Value.slice Av (hdL x ++ lexK l (i' + 1) a).length cv).ownBlock = some g → g < (wq.alloc (.cells #[] 36)).heap.size := fun g hg => by have := (HO.out.lt g hg).2; have := hb3.size; omega
            have HOB := Lib.hid hob
            clear hb3 hob HO HB HXX
            generalize wq.alloc (.cells #[] 36) = w3 at *
            refine (IH.out (n - a) (by omega) a (by omega) (Nat.le_refl _) w3 (HNS.out.below HB3.out)).mono ?_
            rintro e w4 ⟨v4, rfl, ho4, hb4⟩
            have HM4 := Lib.hid (show _ from (OR.of_own fx_len rfl ho4))
            have hlo4 := ho4.lt
            obtain ⟨A4, c4, rfl⟩ := own_slice ho4
            obtain ⟨M, hM⟩ : ∃ M, lexP l (a + 1) = M := ⟨_, rfl⟩
            have HXM := Lib.hid (show XS w4 A4 (lexP l (a + 1)) from HM4.out.rs fx_len)
            rw [hM] at HXM hpl7 HLS hlo4 ⊢
            have HO4 := Lib.hid (own_below HO3.out hb4)
            have HB4 := Lib.hid (HB3.out.trans (hb4.mono HB3.out.size))
            have HXX4 := Lib.hid (HXX3.out.below hb4 HXX3.out.lt)
            have HAP := Lib.hid (show ∀ g, (Value.slice Av (hdL x ++ lexK l (i' + 1) a).length cv).ownBlock = some g → A4.map (·.block) ≠ some g from fun g hg e => by
              have h1 := HOB.out g hg
              rcases ho4.2 with ⟨h, _⟩ | ⟨g', cap', cur', h, hB', _⟩
              · injection h with h _ _
                subst h
                simp at e
              · injection h with h _ _
                subst h
                simp at e
                omega)
            clear ho4 hb4 HM4 hlo4 HO3 HB3 HXX3 HOB hM
            obtain ⟨a', ha'⟩ : ∃ a', endp l (a + 1) - 1 = a' := ⟨_, rfl⟩
            rw [ha'] at HNX ⊢
            have hml : (hdL x ++ lexK l (i' + 1) a).length ≤ 2 * (l.length + 1) + 1 := by rw [List.length_append]; omega
            obtain ⟨PP, hPP⟩ : ∃ PP, hdL x ++ lexK l (i' + 1) a = PP := ⟨_, rfl⟩
            have HPP := Lib.hid hPP
            rw [hPP] at HO4 HAP hml
            rw [← List.length_append, hPP]
            clear hPP
            go_wp2
            go_loopw [7, 9] (fun ov iv wr => ∃ j : Nat, iv = .int .i64 (j : Int) ∧ j ≤ M.length ∧ wr.ownsRow w.heap.size 36 3 ov (PP.length + j) (fl fx (PP ++ M.take j)) ∧ XS wr A4 M ∧ (∀ g, ov.ownBlock = some g → A4.map (·.block) ≠ some g) ∧ BlkL wr w.heap.size 38 [.int .i64 x.d, .int .i64 x.k, .string x.s] ∧ Below w.heap.size w wr) (fun _ iv _ => M.length - (intOf iv).toNat)
            case atStart => exact ⟨0, by simp, Nat.zero_le _, by rw [List.take_zero, List.append_nil]; exact HO4.out, HXM.out, HAP.out, HXX4.out, HB4.out⟩
            case round =>
              clear HXM HAP HXX4 HB4 HO4
              obtain ⟨j, rfl, hjM, hown, hxm, hap, hxx, hb⟩ := hrel
              have HO := Lib.hid hown
              have HXX := Lib.hid hxx
              have HB := Lib.hid hb
              have HXM := Lib.hid hxm
              have HAP := Lib.hid hap
              obtain ⟨Aw, cw, hAw⟩ := own_slice hown
              subst hAw
              clear hown hxx hb hxm hap
              by_cases hj : j < M.length
              · obtain ⟨y, b4, o4, hy, hA, hbl4, q0, q1, q2⟩ := HXM.out.all hj
                subst hA
                have HY := Lib.hid hy
                clear hy
                have hS := BlkL.new wr 36 [.int .i64 y.k, .string y.s, .int .i64 y.a]
                have hbS := (Below.refl wr.heap.size wr).alloc (Nat.le_refl _) (.cells #[.int .i64 y.k, .string y.s, .int .i64 y.a] 36)
                have HOS := Lib.hid (own_below HO.out hbS)
                have HBS := Lib.hid (HB.out.trans (hbS.mono HB.out.size))
                have HXS := Lib.hid (HXX.out.below hbS HXX.out.lt)
                have HMS := Lib.hid (HXM.out.below hbS)
                have HSS := Lib.hid hS
                have hzS : w.heap.size ≤ (wr.alloc (.cells #[.int .i64 y.k, .string y.s, .int .i64 y.a] 36)).heap.size := HBS.out.size
                have hb9 := Below.size hbS
                clear hS hbS HO HB HXX HXM
                go_wp2_with (at_builtin; refine wpList_append_own_at _ rfl _ _ 31 rfl w.heap.size 36 i0 (.agg #[.int .i64 0, .string ByteArray.empty, .int .i64 0]) 3 32 Tryz.underlying31 hi0 hz0 hz1 hz2 rfl (by decide) _ _ _ rfl HOS.out ⟨wr.heap.size, 0, none⟩ 1 1 [.int .i64 y.k, .string y.s, .int .i64 y.a] rfl rfl (fun j u hj => by rw [Addr.add_lit, Nat.zero_add]; exact (HSS.out.cell j).trans hj) (fx_one y) (by simp only [maxLen]; omega) (by omega) hzS ?_)
                intro v' w9 howS hgrS _ hatS
                have howS' : w9.ownsRow w.heap.size 36 3 v' (PP.length + (j + 1)) (fl fx (PP ++ M.take (j + 1))) := by
                  rw [List.take_add_one, HY.out, Option.toList_some, ← List.append_assoc, fl_append]
                  exact howS
                have HO9 := Lib.hid howS'
                have HB9 := Lib.hid (HBS.out.grown hgrS hzS (fun g hg => (HOS.out.lt g hg).1))
                have HX9 := Lib.hid (HXS.out.grown hgrS (fun e => fo_blk HOS.out HXS.out (by decide) e.symm))
                have HM9 := Lib.hid (HMS.out.apart hgrS HAP.out)
                have HA9 := Lib.hid (show ∀ g, v'.ownBlock = some g → (some (⟨b4, o4, none⟩ : Addr)).map (·.block) ≠ some g from fun g hg => by
                  rcases hatS with h | h
                  · exact HAP.out g (h.symm.trans hg)
                  · rw [h] at hg
                    injection hg with hg
                    subst hg
                    simp only [Option.map_some, ne_eq, Option.some.injEq]
                    omega)
                clear howS howS' hgrS hatS HOS HBS HSS HXS HMS HAP hzS q0 q1 q2
                go_wp2
                go_roundw
                case rel => exact ⟨j + 1, by go_num, by omega, HO9.out, HM9.out, HA9.out, HX9.out, HB9.out⟩
                case measure => simp [intOf]; omega
              · obtain rfl : j = M.length := by omega
                go_wp2
                go_roundw
                case rel =>
                  have hn7 := HNX.out
                  have ho7 := HO.out
                  have hE : PP ++ M = hdL x ++ lexK l (i' + 1) a' := by rw [lexK_same hn7.1, HLS.out, ← HPP.out, List.append_assoc]
                  rw [List.take_length, hE] at ho7
                  refine ⟨a', rfl, by omega, by omega, ?_, own_n ?_ ho7, HXX.out, HB.out⟩
                  · rcases hn7.2 with h | h
                    · exact .inl h
                    · exact .inr ⟨h.1, by omega⟩
                  · rw [← hE, List.length_append]
                case measure => simp [intOf]; omega
          · have hend : kidsN l (i' + 1) a = kidsN l (i' + 1) n ∧ a + 1 = endp l (i' + 1) := by
              rcases hcase with h | h
              · exact (hin h).elim
              · exact h
            obtain ⟨hkn, hae⟩ := hend
            clear hin hcase
            by_cases hlt : a < n
            · obtain ⟨y0, b', o', hy, hA, _, _⟩ := HNS.out.all (k := a) (by omega)
              injection hA with hA
              injection hA with e1 e2 _
              subst e1 e2
              obtain ⟨hbl', c0, _, _⟩ := NS.get (HNS.out.below HB.out) hy
              have hgt : decide (x.d < y0.d) = false := by
                have h1 := endp_out (l := l) (i := i' + 1) (by omega)
                rw [← hae, dep_succ hy, HDX.out] at h1
                exact decide_eq_false (by omega)
              have r0 := Bw.rd c0
              clear hy c0
              go_wp2_with fail
              refine wp_region_class (Bw wr) (by kernel_rfl) (by kernel_rfl) (Bw.start wr) (fun hne => ?_)
              repeat (go_big_quiet_step (fail))
              refine wpQuiet_nil ?_
              rintro wq ⟨y, rfl⟩
              replace HB := Lib.hid (HB.out.trans (Below.mono y.ok HB.out.size))
              replace HO := Lib.hid (own_below HO.out y.ok)
              replace HXX := Lib.hid (HXX.out.below y.ok HXX.out.lt)
              have hszq : wr.heap.size ≤ y.W.heap.size := Below.size y.ok
              generalize y.W = wq at *
              clear hne z0 zl
              clear r0
              have HKN := Lib.hid (lexK_same hkn)
              have ho9 := HO.out
              rw [HKN.out] at ho9
              rw [HKN.out]
              rw [List.length_append] at ho9
              have HO9 := Lib.hid ho9
              have HPL := Lib.hid (show endp l (i' + 1) - 1 = a by omega)
              have e1 : wq.cell? ⟨w.heap.size, 1, none⟩ = some (.int .i64 x.k) := (HXX.out.cell 1).trans rfl
              have el := HXX.out.lt
              have hlk := HUP.out.lexK_le (i := i' + 1) (a := l.length) (by omega) (Nat.le_refl _)
              rw [hlen] at hlk
              have HHL := Lib.hid (hdL_len x)
              have hhb : (hdL x).length ≤ 1 := by have := HHL.out; omega
              clear ho9 HO
              by_cases hbk : 3 ≤ x.k ∧ x.k ≤ 5
              · have HIB := Lib.hid (inB_true.2 hbk)
                obtain ⟨K, hK⟩ : ∃ K, x.k = K := ⟨_, rfl⟩
                have HTL := Lib.hid (show tlL x = [⟨4, clS x.k, 0⟩] from if_pos hbk)
                rw [hK] at HIB HTL e1 hbk
                have HPX := Lib.hid (show lexP l (i' + 1) = hdL x ++ lexK l (i' + 1) n ++ [⟨4, clS K, 0⟩] by rw [HPE.out, HTL.out, hlen, List.append_assoc])
                have HKK := Lib.hid hK
                clear hK
                obtain h | h | h : K = 3 ∨ K = 4 ∨ K = 5 := by omega
                · subst h
                  rw [show clS 3 = ⟨#[41]⟩ from rfl] at HPX
                  have HXX9 := Lib.hid (show BlkL wq w.heap.size 38 [.int .i64 x.d, .int .i64 3, .string x.s] by have := HXX.out; rw [HKK.out] at this; exact this)
                  have hex : (⟨#[41, 93, 125]⟩ : ByteArray).extract 0 1 = ⟨#[41]⟩ := rfl
                  go_upto_region 17 with (go_at_call 72; refine (l07Block_any _ _).mono ?_; rintro e w' ⟨rfl, rfl⟩; rw [HIB.out])
                  have hS := BlkL.new wq 36 [.int .i64 4, .string ⟨#[41]⟩, .int .i64 0]
                  have hbS := (Below.refl wq.heap.size wq).alloc (Nat.le_refl _) (.cells #[.int .i64 4, .string ⟨#[41]⟩, .int .i64 0] 36)
                  have HOS := Lib.hid (own_below HO9.out hbS)
                  have HBS := Lib.hid (HB.out.trans (hbS.mono HB.out.size))
                  have HXS := Lib.hid (HXX9.out.below hbS HXX9.out.lt)
                  have HSS := Lib.hid hS
                  have hzS : w.heap.size ≤ (wq.alloc (.cells #[.int .i64 4, .string ⟨#[41]⟩, .int .i64 0] 36)).heap.size := HBS.out.size
                  clear hS hbS
                  go_wp2_with (at_builtin; refine wpList_append_own_at _ rfl _ _ 31 rfl w.heap.size 36 i0 (.agg #[.int .i64 0, .string ByteArray.empty, .int .i64 0]) 3 32 Tryz.underlying31 hi0 hz0 hz1 hz2 rfl (by decide) _ _ _ rfl HOS.out ⟨wq.heap.size, 0, none⟩ 1 1 [.int .i64 4, .string ⟨#[41]⟩, .int .i64 0] rfl rfl (fun j u hj => by rw [Addr.add_lit, Nat.zero_add]; exact (HSS.out.cell j).trans hj) (fx_one (⟨4, ⟨#[41]⟩, 0⟩ : Lx)) (by simp only [maxLen]; omega) (by omega) hzS ?_)
                  intro v' w9 howS hgrS _ hatS
                  have howS' : w9.ownsRow w.heap.size 36 3 v' (((hdL x).length + (lexK l (i' + 1) n).length) + 1) (fl fx (hdL x ++ lexK l (i' + 1) n) ++ fl fx [(⟨4, ⟨#[41]⟩, 0⟩ : Lx)]) := by first | exact howS | (rw [List.append_assoc]; exact howS)
                  rw [← fl_append] at howS'
                  have HBA := Lib.hid (HBS.out.grown hgrS hzS (fun g hg => (HOS.out.lt g hg).1))
                  have HXA := Lib.hid (HXS.out.grown hgrS (fun e => fo_blk HOS.out HXS.out (by decide) e.symm))
                  obtain ⟨A9, c9, rfl⟩ := own_slice howS
                  have HOA := Lib.hid (show w9.ownsRow w.heap.size 36 3 (.slice A9 (((hdL x).length + (lexK l (i' + 1) n).length) + 1) c9) (((hdL x).length + (lexK l (i' + 1) n).length) + 1) (fl fx (hdL x ++ lexK l (i' + 1) n ++ [(⟨4, ⟨#[41]⟩, 0⟩ : Lx)])) from howS')
                  clear howS howS' hgrS hatS HOS HBS HSS HXS hzS
                  go_wp2
                  go_ret2
                  refine ⟨_, by rw [HPL.out]; rfl, ?_, HBA.out⟩
                  rw [HPX.out]
                  exact own_n (by simp only [List.length_append, List.length_cons, List.length_nil]) HOA.out
                · subst h
                  rw [show clS 4 = ⟨#[93]⟩ from rfl] at HPX
                  have HXX9 := Lib.hid (show BlkL wq w.heap.size 38 [.int .i64 x.d, .int .i64 4, .string x.s] by have := HXX.out; rw [HKK.out] at this; exact this)
                  have hex : (⟨#[41, 93, 125]⟩ : ByteArray).extract 1 2 = ⟨#[93]⟩ := rfl
                  go_upto_region 17 with (go_at_call 72; refine (l07Block_any _ _).mono ?_; rintro e w' ⟨rfl, rfl⟩; rw [HIB.out])
                  have hS := BlkL.new wq 36 [.int .i64 4, .string ⟨#[93]⟩, .int .i64 0]
                  have hbS := (Below.refl wq.heap.size wq).alloc (Nat.le_refl _) (.cells #[.int .i64 4, .string ⟨#[93]⟩, .int .i64 0] 36)
                  have HOS := Lib.hid (own_below HO9.out hbS)
                  have HBS := Lib.hid (HB.out.trans (hbS.mono HB.out.size))
                  have HXS := Lib.hid (HXX9.out.below hbS HXX9.out.lt)
                  have HSS := Lib.hid hS
                  have hzS : w.heap.size ≤ (wq.alloc (.cells #[.int .i64 4, .string ⟨#[93]⟩, .int .i64 0] 36)).heap.size := HBS.out.size
                  clear hS hbS
                  go_wp2_with (at_builtin; refine wpList_append_own_at _ rfl _ _ 31 rfl w.heap.size 36 i0 (.agg #[.int .i64 0, .string ByteArray.empty, .int .i64 0]) 3 32 Tryz.underlying31 hi0 hz0 hz1 hz2 rfl (by decide) _ _ _ rfl HOS.out ⟨wq.heap.size, 0, none⟩ 1 1 [.int .i64 4, .string ⟨#[93]⟩, .int .i64 0] rfl rfl (fun j u hj => by rw [Addr.add_lit, Nat.zero_add]; exact (HSS.out.cell j).trans hj) (fx_one (⟨4, ⟨#[93]⟩, 0⟩ : Lx)) (by simp only [maxLen]; omega) (by omega) hzS ?_)
                  intro v' w9 howS hgrS _ hatS
                  have howS' : w9.ownsRow w.heap.size 36 3 v' (((hdL x).length + (lexK l (i' + 1) n).length) + 1) (fl fx (hdL x ++ lexK l (i' + 1) n) ++ fl fx [(⟨4, ⟨#[93]⟩, 0⟩ : Lx)]) := by first | exact howS | (rw [List.append_assoc]; exact howS)
                  rw [← fl_append] at howS'
                  have HBA := Lib.hid (HBS.out.grown hgrS hzS (fun g hg => (HOS.out.lt g hg).1))
                  have HXA := Lib.hid (HXS.out.grown hgrS (fun e => fo_blk HOS.out HXS.out (by decide) e.symm))
                  obtain ⟨A9, c9, rfl⟩ := own_slice howS
                  have HOA := Lib.hid (show w9.ownsRow w.heap.size 36 3 (.slice A9 (((hdL x).length + (lexK l (i' + 1) n).length) + 1) c9) (((hdL x).length + (lexK l (i' + 1) n).length) + 1) (fl fx (hdL x ++ lexK l (i' + 1) n ++ [(⟨4, ⟨#[93]⟩, 0⟩ : Lx)])) from howS')
                  clear howS howS' hgrS hatS HOS HBS HSS HXS hzS
                  go_wp2
                  go_ret2
                  refine ⟨_, by rw [HPL.out]; rfl, ?_, HBA.out⟩
                  rw [HPX.out]
                  exact own_n (by simp only [List.length_append, List.length_cons, List.length_nil]) HOA.out
                · subst h
                  rw [show clS 5 = ⟨#[125]⟩ from rfl] at HPX
                  have HXX9 := Lib.hid (show BlkL wq w.heap.size 38 [.int .i64 x.d, .int .i64 5, .string x.s] by have := HXX.out; rw [HKK.out] at this; exact this)
                  have hex : (⟨#[41, 93, 125]⟩ : ByteArray).extract 2 3 = ⟨#[125]⟩ := rfl
                  go_upto_region 17 with (go_at_call 72; refine (l07Block_any _ _).mono ?_; rintro e w' ⟨rfl, rfl⟩; rw [HIB.out])
                  have hS := BlkL.new wq 36 [.int .i64 4, .string ⟨#[125]⟩, .int .i64 0]
                  have hbS := (Below.refl wq.heap.size wq).alloc (Nat.le_refl _) (.cells #[.int .i64 4, .string ⟨#[125]⟩, .int .i64 0] 36)
                  have HOS := Lib.hid (own_below HO9.out hbS)
                  have HBS := Lib.hid (HB.out.trans (hbS.mono HB.out.size))
                  have HXS := Lib.hid (HXX9.out.below hbS HXX9.out.lt)
                  have HSS := Lib.hid hS
                  have hzS : w.heap.size ≤ (wq.alloc (.cells #[.int .i64 4, .string ⟨#[125]⟩, .int .i64 0] 36)).heap.size := HBS.out.size
                  clear hS hbS
                  go_wp2_with (at_builtin; refine wpList_append_own_at _ rfl _ _ 31 rfl w.heap.size 36 i0 (.agg #[.int .i64 0, .string ByteArray.empty, .int .i64 0]) 3 32 Tryz.underlying31 hi0 hz0 hz1 hz2 rfl (by decide) _ _ _ rfl HOS.out ⟨wq.heap.size, 0, none⟩ 1 1 [.int .i64 4, .string ⟨#[125]⟩, .int .i64 0] rfl rfl (fun j u hj => by rw [Addr.add_lit, Nat.zero_add]; exact (HSS.out.cell j).trans hj) (fx_one (⟨4, ⟨#[125]⟩, 0⟩ : Lx)) (by simp only [maxLen]; omega) (by omega) hzS ?_)
                  intro v' w9 howS hgrS _ hatS
                  have howS' : w9.ownsRow w.heap.size 36 3 v' (((hdL x).length + (lexK l (i' + 1) n).length) + 1) (fl fx (hdL x ++ lexK l (i' + 1) n) ++ fl fx [(⟨4, ⟨#[125]⟩, 0⟩ : Lx)]) := by first | exact howS | (rw [List.append_assoc]; exact howS)
                  rw [← fl_append] at howS'
                  have HBA := Lib.hid (HBS.out.grown hgrS hzS (fun g hg => (HOS.out.lt g hg).1))
                  have HXA := Lib.hid (HXS.out.grown hgrS (fun e => fo_blk HOS.out HXS.out (by decide) e.symm))
                  obtain ⟨A9, c9, rfl⟩ := own_slice howS
                  have HOA := Lib.hid (show w9.ownsRow w.heap.size 36 3 (.slice A9 (((hdL x).length + (lexK l (i' + 1) n).length) + 1) c9) (((hdL x).length + (lexK l (i' + 1) n).length) + 1) (fl fx (hdL x ++ lexK l (i' + 1) n ++ [(⟨4, ⟨#[125]⟩, 0⟩ : Lx)])) from howS')
                  clear howS howS' hgrS hatS HOS HBS HSS HXS hzS
                  go_wp2
                  go_ret2
                  refine ⟨_, by rw [HPL.out]; rfl, ?_, HBA.out⟩
                  rw [HPX.out]
                  exact own_n (by simp only [List.length_append, List.length_cons, List.length_nil]) HOA.out
              · have HIB := Lib.hid (show inB x.k 3 5 = false by
                  cases e : inB x.k 3 5
                  · rfl
                  · exact (hbk (inB_true.1 e)).elim)
                have HTL := Lib.hid (show tlL x = [] from if_neg hbk)
                have HPX := Lib.hid (show lexP l (i' + 1) = hdL x ++ lexK l (i' + 1) n by rw [HPE.out, HTL.out, hlen, List.append_nil])
                go_wp2_with (go_at_call 72; refine (l07Block_any _ _).mono ?_; rintro e w' ⟨rfl, rfl⟩; rw [HIB.out])
                go_ret2
                refine ⟨_, by rw [HPL.out]; rfl, ?_, HB.out⟩
                rw [HPX.out, List.length_append]
                exact HO9.out
            · have hlb : decide ((a : Int) < (n : Int)) = false := by simp; omega
              have hlb' : decide (a < n) = false := by simp; omega
              go_wp2_with fail
              refine wp_region_class (Bw wr) (by kernel_rfl) (by kernel_rfl) (Bw.start wr) (fun hne => ?_)
              repeat (go_big_quiet_step (fail))
              refine wpQuiet_nil ?_
              rintro wq ⟨y, rfl⟩
              replace HB := Lib.hid (HB.out.trans (Below.mono y.ok HB.out.size))
              replace HO := Lib.hid (own_below HO.out y.ok)
              replace HXX := Lib.hid (HXX.out.below y.ok HXX.out.lt)
              have hszq : wr.heap.size ≤ y.W.heap.size := Below.size y.ok
              generalize y.W = wq at *
              clear hne z0 zl
              have HKN := Lib.hid (lexK_same hkn)
              have ho9 := HO.out
              rw [HKN.out] at ho9
              rw [HKN.out]
              rw [List.length_append] at ho9
              have HO9 := Lib.hid ho9
              have HPL := Lib.hid (show endp l (i' + 1) - 1 = a by omega)
              have e1 : wq.cell? ⟨w.heap.size, 1, none⟩ = some (.int .i64 x.k) := (HXX.out.cell 1).trans rfl
              have el := HXX.out.lt
              have hlk := HUP.out.lexK_le (i := i' + 1) (a := l.length) (by omega) (Nat.le_refl _)
              rw [hlen] at hlk
              have HHL := Lib.hid (hdL_len x)
              have hhb : (hdL x).length ≤ 1 := by have := HHL.out; omega
              clear ho9 HO
              by_cases hbk : 3 ≤ x.k ∧ x.k ≤ 5
              · have HIB := Lib.hid (inB_true.2 hbk)
                obtain ⟨K, hK⟩ : ∃ K, x.k = K := ⟨_, rfl⟩
                have HTL := Lib.hid (show tlL x = [⟨4, clS x.k, 0⟩] from if_pos hbk)
                rw [hK] at HIB HTL e1 hbk
                have HPX := Lib.hid (show lexP l (i' + 1) = hdL x ++ lexK l (i' + 1) n ++ [⟨4, clS K, 0⟩] by rw [HPE.out, HTL.out, hlen, List.append_assoc])
                have HKK := Lib.hid hK
                clear hK
                obtain h | h | h : K = 3 ∨ K = 4 ∨ K = 5 := by omega
                · subst h
                  rw [show clS 3 = ⟨#[41]⟩ from rfl] at HPX
                  have HXX9 := Lib.hid (show BlkL wq w.heap.size 38 [.int .i64 x.d, .int .i64 3, .string x.s] by have := HXX.out; rw [HKK.out] at this; exact this)
                  have hex : (⟨#[41, 93, 125]⟩ : ByteArray).extract 0 1 = ⟨#[41]⟩ := rfl
                  go_upto_region 17 with (go_at_call 72; refine (l07Block_any _ _).mono ?_; rintro e w' ⟨rfl, rfl⟩; rw [HIB.out])
                  have hS := BlkL.new wq 36 [.int .i64 4, .string ⟨#[41]⟩, .int .i64 0]
                  have hbS := (Below.refl wq.heap.size wq).alloc (Nat.le_refl _) (.cells #[.int .i64 4, .string ⟨#[41]⟩, .int .i64 0] 36)
                  have HOS := Lib.hid (own_below HO9.out hbS)
                  have HBS := Lib.hid (HB.out.trans (hbS.mono HB.out.size))
                  have HXS := Lib.hid (HXX9.out.below hbS HXX9.out.lt)
                  have HSS := Lib.hid hS
                  have hzS : w.heap.size ≤ (wq.alloc (.cells #[.int .i64 4, .string ⟨#[41]⟩, .int .i64 0] 36)).heap.size := HBS.out.size
                  clear hS hbS
                  go_wp2_with (at_builtin; refine wpList_append_own_at _ rfl _ _ 31 rfl w.heap.size 36 i0 (.agg #[.int .i64 0, .string ByteArray.empty, .int .i64 0]) 3 32 Tryz.underlying31 hi0 hz0 hz1 hz2 rfl (by decide) _ _ _ rfl HOS.out ⟨wq.heap.size, 0, none⟩ 1 1 [.int .i64 4, .string ⟨#[41]⟩, .int .i64 0] rfl rfl (fun j u hj => by rw [Addr.add_lit, Nat.zero_add]; exact (HSS.out.cell j).trans hj) (fx_one (⟨4, ⟨#[41]⟩, 0⟩ : Lx)) (by simp only [maxLen]; omega) (by omega) hzS ?_)
                  intro v' w9 howS hgrS _ hatS
                  have howS' : w9.ownsRow w.heap.size 36 3 v' (((hdL x).length + (lexK l (i' + 1) n).length) + 1) (fl fx (hdL x ++ lexK l (i' + 1) n) ++ fl fx [(⟨4, ⟨#[41]⟩, 0⟩ : Lx)]) := by first | exact howS | (rw [List.append_assoc]; exact howS)
                  rw [← fl_append] at howS'
                  have HBA := Lib.hid (HBS.out.grown hgrS hzS (fun g hg => (HOS.out.lt g hg).1))
                  have HXA := Lib.hid (HXS.out.grown hgrS (fun e => fo_blk HOS.out HXS.out (by decide) e.symm))
                  obtain ⟨A9, c9, rfl⟩ := own_slice howS
                  have HOA := Lib.hid (show w9.ownsRow w.heap.size 36 3 (.slice A9 (((hdL x).length + (lexK l (i' + 1) n).length) + 1) c9) (((hdL x).length + (lexK l (i' + 1) n).length) + 1) (fl fx (hdL x ++ lexK l (i' + 1) n ++ [(⟨4, ⟨#[41]⟩, 0⟩ : Lx)])) from howS')
                  clear howS howS' hgrS hatS HOS HBS HSS HXS hzS
                  go_wp2
                  go_ret2
                  refine ⟨_, by rw [HPL.out]; rfl, ?_, HBA.out⟩
                  rw [HPX.out]
                  exact own_n (by simp only [List.length_append, List.length_cons, List.length_nil]) HOA.out
                · subst h
                  rw [show clS 4 = ⟨#[93]⟩ from rfl] at HPX
                  have HXX9 := Lib.hid (show BlkL wq w.heap.size 38 [.int .i64 x.d, .int .i64 4, .string x.s] by have := HXX.out; rw [HKK.out] at this; exact this)
                  have hex : (⟨#[41, 93, 125]⟩ : ByteArray).extract 1 2 = ⟨#[93]⟩ := rfl
                  go_upto_region 17 with (go_at_call 72; refine (l07Block_any _ _).mono ?_; rintro e w' ⟨rfl, rfl⟩; rw [HIB.out])
                  have hS := BlkL.new wq 36 [.int .i64 4, .string ⟨#[93]⟩, .int .i64 0]
                  have hbS := (Below.refl wq.heap.size wq).alloc (Nat.le_refl _) (.cells #[.int .i64 4, .string ⟨#[93]⟩, .int .i64 0] 36)
                  have HOS := Lib.hid (own_below HO9.out hbS)
                  have HBS := Lib.hid (HB.out.trans (hbS.mono HB.out.size))
                  have HXS := Lib.hid (HXX9.out.below hbS HXX9.out.lt)
                  have HSS := Lib.hid hS
                  have hzS : w.heap.size ≤ (wq.alloc (.cells #[.int .i64 4, .string ⟨#[93]⟩, .int .i64 0] 36)).heap.size := HBS.out.size
                  clear hS hbS
                  go_wp2_with (at_builtin; refine wpList_append_own_at _ rfl _ _ 31 rfl w.heap.size 36 i0 (.agg #[.int .i64 0, .string ByteArray.empty, .int .i64 0]) 3 32 Tryz.underlying31 hi0 hz0 hz1 hz2 rfl (by decide) _ _ _ rfl HOS.out ⟨wq.heap.size, 0, none⟩ 1 1 [.int .i64 4, .string ⟨#[93]⟩, .int .i64 0] rfl rfl (fun j u hj => by rw [Addr.add_lit, Nat.zero_add]; exact (HSS.out.cell j).trans hj) (fx_one (⟨4, ⟨#[93]⟩, 0⟩ : Lx)) (by simp only [maxLen]; omega) (by omega) hzS ?_)
                  intro v' w9 howS hgrS _ hatS
                  have howS' : w9.ownsRow w.heap.size 36 3 v' (((hdL x).length + (lexK l (i' + 1) n).length) + 1) (fl fx (hdL x ++ lexK l (i' + 1) n) ++ fl fx [(⟨4, ⟨#[93]⟩, 0⟩ : Lx)]) := by first | exact howS | (rw [List.append_assoc]; exact howS)
                  rw [← fl_append] at howS'
                  have HBA := Lib.hid (HBS.out.grown hgrS hzS (fun g hg => (HOS.out.lt g hg).1))
                  have HXA := Lib.hid (HXS.out.grown hgrS (fun e => fo_blk HOS.out HXS.out (by decide) e.symm))
                  obtain ⟨A9, c9, rfl⟩ := own_slice howS
                  have HOA := Lib.hid (show w9.ownsRow w.heap.size 36 3 (.slice A9 (((hdL x).length + (lexK l (i' + 1) n).length) + 1) c9) (((hdL x).length + (lexK l (i' + 1) n).length) + 1) (fl fx (hdL x ++ lexK l (i' + 1) n ++ [(⟨4, ⟨#[93]⟩, 0⟩ : Lx)])) from howS')
                  clear howS howS' hgrS hatS HOS HBS HSS HXS hzS
                  go_wp2
                  go_ret2
                  refine ⟨_, by rw [HPL.out]; rfl, ?_, HBA.out⟩
                  rw [HPX.out]
                  exact own_n (by simp only [List.length_append, List.length_cons, List.length_nil]) HOA.out
                · subst h
                  rw [show clS 5 = ⟨#[125]⟩ from rfl] at HPX
                  have HXX9 := Lib.hid (show BlkL wq w.heap.size 38 [.int .i64 x.d, .int .i64 5, .string x.s] by have := HXX.out; rw [HKK.out] at this; exact this)
                  have hex : (⟨#[41, 93, 125]⟩ : ByteArray).extract 2 3 = ⟨#[125]⟩ := rfl
                  go_upto_region 17 with (go_at_call 72; refine (l07Block_any _ _).mono ?_; rintro e w' ⟨rfl, rfl⟩; rw [HIB.out])
                  have hS := BlkL.new wq 36 [.int .i64 4, .string ⟨#[125]⟩, .int .i64 0]
                  have hbS := (Below.refl wq.heap.size wq).alloc (Nat.le_refl _) (.cells #[.int .i64 4, .string ⟨#[125]⟩, .int .i64 0] 36)
                  have HOS := Lib.hid (own_below HO9.out hbS)
                  have HBS := Lib.hid (HB.out.trans (hbS.mono HB.out.size))
                  have HXS := Lib.hid (HXX9.out.below hbS HXX9.out.lt)
                  have HSS := Lib.hid hS
                  have hzS : w.heap.size ≤ (wq.alloc (.cells #[.int .i64 4, .string ⟨#[125]⟩, .int .i64 0] 36)).heap.size := HBS.out.size
                  clear hS hbS
                  go_wp2_with (at_builtin; refine wpList_append_own_at _ rfl _ _ 31 rfl w.heap.size 36 i0 (.agg #[.int .i64 0, .string ByteArray.empty, .int .i64 0]) 3 32 Tryz.underlying31 hi0 hz0 hz1 hz2 rfl (by decide) _ _ _ rfl HOS.out ⟨wq.heap.size, 0, none⟩ 1 1 [.int .i64 4, .string ⟨#[125]⟩, .int .i64 0] rfl rfl (fun j u hj => by rw [Addr.add_lit, Nat.zero_add]; exact (HSS.out.cell j).trans hj) (fx_one (⟨4, ⟨#[125]⟩, 0⟩ : Lx)) (by simp only [maxLen]; omega) (by omega) hzS ?_)
                  intro v' w9 howS hgrS _ hatS
                  have howS' : w9.ownsRow w.heap.size 36 3 v' (((hdL x).length + (lexK l (i' + 1) n).length) + 1) (fl fx (hdL x ++ lexK l (i' + 1) n) ++ fl fx [(⟨4, ⟨#[125]⟩, 0⟩ : Lx)]) := by first | exact howS | (rw [List.append_assoc]; exact howS)
                  rw [← fl_append] at howS'
                  have HBA := Lib.hid (HBS.out.grown hgrS hzS (fun g hg => (HOS.out.lt g hg).1))
                  have HXA := Lib.hid (HXS.out.grown hgrS (fun e => fo_blk HOS.out HXS.out (by decide) e.symm))
                  obtain ⟨A9, c9, rfl⟩ := own_slice howS
                  have HOA := Lib.hid (show w9.ownsRow w.heap.size 36 3 (.slice A9 (((hdL x).length + (lexK l (i' + 1) n).length) + 1) c9) (((hdL x).length + (lexK l (i' + 1) n).length) + 1) (fl fx (hdL x ++ lexK l (i' + 1) n ++ [(⟨4, ⟨#[125]⟩, 0⟩ : Lx)])) from howS')
                  clear howS howS' hgrS hatS HOS HBS HSS HXS hzS
                  go_wp2
                  go_ret2
                  refine ⟨_, by rw [HPL.out]; rfl, ?_, HBA.out⟩
                  rw [HPX.out]
                  exact own_n (by simp only [List.length_append, List.length_cons, List.length_nil]) HOA.out
              · have HIB := Lib.hid (show inB x.k 3 5 = false by
                  cases e : inB x.k 3 5
                  · rfl
                  · exact (hbk (inB_true.1 e)).elim)
                have HTL := Lib.hid (show tlL x = [] from if_neg hbk)
                have HPX := Lib.hid (show lexP l (i' + 1) = hdL x ++ lexK l (i' + 1) n by rw [HPE.out, HTL.out, hlen, List.append_nil])
                go_wp2_with (go_at_call 72; refine (l07Block_any _ _).mono ?_; rintro e w' ⟨rfl, rfl⟩; rw [HIB.out])
                go_ret2
                refine ⟨_, by rw [HPL.out]; rfl, ?_, HB.out⟩
                rw [HPX.out, List.length_append]
                exact HO9.out
end Go.Proofs.YtegjgbgnpkncbacGreatDoor
