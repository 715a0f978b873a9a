/-
  The lexemes of all nodes, as the model gathers them.
-/
import Derived.Test.YtegjgbgnpkncbacGreatDoorKkLpc
namespace Go.Proofs.YtegjgbgnpkncbacGreatDoor
open Go.RowKit
set_option linter.unusedVariables false

theorem UpTo.endp_zero {l : List Nd} (hup : UpTo l l.length) : endp l 0 = l.length + 1 := by
  have h1 := endp_le (l := l) (i := 0) (Nat.zero_le _)
  have h2 := endp_gt l 0
  rcases Nat.lt_or_ge l.length (endp l 0) with h | h
  · omega
  · have h3 := endp_out h
    obtain ⟨k, hk⟩ : ∃ k, endp l 0 = k + 1 := ⟨endp l 0 - 1, by omega⟩
    obtain ⟨⟨x, hx, hnb⟩, _⟩ := hup k (by omega)
    rw [hk, dep_succ hx, dep_zero] at h3
    have := (nodB_bd hnb).2.1
    omega
set_option maxHeartbeats 8000000 in
set_option maxRecDepth 100000 in
theorem l07All_any {l : List Nd} {n : Nat} (hlen : l.length = n) (hn200 : n ≤ 200) (hup : UpTo l l.length) (A : Option Addr) (c : Nat) (w : World) (hns : NS w A l) :
    Calls Tryz.prog 40 #[.slice A n c] w (LxO w (lexK l 0 n)) := by
  obtain ⟨i0, hi0, hz0, hz1, hz2⟩ := info_parts infoLx
  have HUP := Lib.hid hup
  have HNS := Lib.hid hns
  have hez := hup.endp_zero
  have hfirst := hup.first (i := 0) (Nat.zero_le _)
  rw [hlen] at hfirst hez
  clear hup hns
  have HB1 := Lib.hid ((Below.refl w.heap.size w).alloc (Nat.le_refl _) (.cells #[] 36))
  have HO1 := Lib.hid (show (w.alloc (.cells #[] 36)).ownsRow w.heap.size 36 3 (.slice (some ⟨w.heap.size, 0, none⟩) 0 0) 0 (fl fx []) from
    ⟨rfl, .inr ⟨w.heap.size, 0, #[], rfl, Nat.le_refl _, BlkL.new w 36 [], Nat.le_refl _, by unfold maxLen; omega, rfl, rfl⟩⟩)
  go_enter Tryz.func40, Tryz.ntmps40
  go_wp2
  go_loopw [3, 4] (fun ov kv wr => ∃ a : Nat, kv = .int .i64 (a : Int) ∧ a ≤ n ∧ ((a < n ∧ par l a = 0) ∨ (kidsN l 0 a = kidsN l 0 n ∧ a = n)) ∧ wr.ownsRow w.heap.size 36 3 ov (lexK l 0 a).length (fl fx (lexK l 0 a)) ∧ Below w.heap.size w wr) (fun _ kv _ => n - (intOf kv).toNat)
  case atStart =>
    refine ⟨0, by simp, by omega, ?_, by rw [lexK_zero]; exact HO1.out, HB1.out⟩
    rcases hfirst with h | h
    · exact .inl h
    · exact .inr ⟨by rw [h.1, kidsN_low], by omega⟩
  case round =>
    clear HO1 HB1 hfirst
    obtain ⟨a, rfl, han, hcase, hown, hb⟩ := hrel
    have HO := Lib.hid hown
    have HB := Lib.hid hb
    obtain ⟨Av, cv, hAv⟩ := own_slice hown
    subst hAv
    have hll := HUP.out.lexK_le (i := 0) (a := a) (by omega) (by omega)
    have hsz := hb.size
    clear hown hb
    by_cases hin : a < n ∧ par l a = 0
    · have hnext := HUP.out.next (i := 0) (a := a) (by omega) hin.2
      rw [hlen] at hnext
      have HNX := Lib.hid hnext
      have HLS := Lib.hid (lexK_step hin.2)
      have hge := endp_gt l (a + 1)
      have hgle := endp_le (l := l) (i := a + 1) (by omega)
      have hpl7 := HUP.out.lexP_le (i := a + 1) (by omega)
      have han' := hin.1
      clear hcase hin hnext
      have hb3 := (Below.refl wr.heap.size wr).alloc (Nat.le_refl _) (.cells #[] 36)
      have HO3 := Lib.hid (own_below HO.out hb3)
      have HB3 := Lib.hid (HB.out.trans (hb3.mono HB.out.size))
      have hob : ∀ g, (Value.slice Av (lexK l 0 a).length cv).ownBlock = some g → g < (wr.alloc (.cells #[] 36)).heap.size := fun g hg => by have := (HO.out.lt g hg).2; have := hb3.size; omega
      have HOB := Lib.hid hob
      clear hb3 hob HO HB
      go_wp2_with fail
      generalize wr.alloc (.cells #[] 36) = w3 at *
      refine (l07Lexes_any hlen hn200 HUP.out A c (n - a) a (by omega) (Nat.le_refl _) w3 (HNS.out.below HB3.out)).mono ?_
      rintro e w4 ⟨v4, rfl, ho4, hb4⟩
      have HM4 := Lib.hid (show _ from (OR.of_own fx_len rfl ho4))
      obtain ⟨A4, c4, rfl⟩ := own_slice ho4
      obtain ⟨M, hM⟩ : ∃ M, lexP l (a + 1) = M := ⟨_, rfl⟩
      have HXM := Lib.hid (show XS w4 A4 (lexP l (a + 1)) from HM4.out.rs fx_len)
      rw [hM] at HXM hpl7 HLS ⊢
      have HO4 := Lib.hid (own_below HO3.out hb4)
      have HB4 := Lib.hid (HB3.out.trans (hb4.mono HB3.out.size))
      have HAP := Lib.hid (show ∀ g, (Value.slice Av (lexK l 0 a).length cv).ownBlock = some g → A4.map (·.block) ≠ some g from fun g hg e => by
        have h1 := HOB.out g hg
        rcases ho4.2 with ⟨h, _⟩ | ⟨g', cap', cur', h, hB', _⟩
        · injection h with h _ _
          subst h
          simp at e
        · injection h with h _ _
          subst h
          simp at e
          omega)
      clear ho4 hb4 HM4 HO3 HB3 HOB hM
      obtain ⟨a', ha'⟩ : ∃ a', endp l (a + 1) - 1 = a' := ⟨_, rfl⟩
      rw [ha'] at HNX ⊢
      obtain ⟨PP, hPP⟩ : ∃ PP, lexK l 0 a = PP := ⟨_, rfl⟩
      have HPP := Lib.hid hPP
      rw [hPP] at HO4 HAP hll ⊢
      clear hPP
      go_wp2
      go_loopw [3, 6] (fun ov iv wr => ∃ j : Nat, iv = .int .i64 (j : Int) ∧ j ≤ M.length ∧ wr.ownsRow w.heap.size 36 3 ov (PP.length + j) (fl fx (PP ++ M.take j)) ∧ XS wr A4 M ∧ (∀ g, ov.ownBlock = some g → A4.map (·.block) ≠ some g) ∧ Below w.heap.size w wr) (fun _ iv _ => M.length - (intOf iv).toNat)
      case atStart => exact ⟨0, by simp, Nat.zero_le _, by rw [List.take_zero, List.append_nil]; exact HO4.out, HXM.out, HAP.out, HB4.out⟩
      case round =>
        clear HXM HAP HB4 HO4
        obtain ⟨j, rfl, hjM, hown, hxm, hap, hb⟩ := hrel
        have HO := Lib.hid hown
        have HB := Lib.hid hb
        have HXM := Lib.hid hxm
        have HAP := Lib.hid hap
        obtain ⟨Aw, cw, hAw⟩ := own_slice hown
        subst hAw
        clear hown hb hxm hap
        by_cases hj : j < M.length
        · obtain ⟨y, b4, o4, hy, hA, hbl4, q0, q1, q2⟩ := HXM.out.all hj
          subst hA
          have HY := Lib.hid hy
          clear hy
          have hS := BlkL.new wr 36 [.int .i64 y.k, .string y.s, .int .i64 y.a]
          have hbS := (Below.refl wr.heap.size wr).alloc (Nat.le_refl _) (.cells #[.int .i64 y.k, .string y.s, .int .i64 y.a] 36)
          have HOS := Lib.hid (own_below HO.out hbS)
          have HBS := Lib.hid (HB.out.trans (hbS.mono HB.out.size))
          have HMS := Lib.hid (HXM.out.below hbS)
          have HSS := Lib.hid hS
          have hzS : w.heap.size ≤ (wr.alloc (.cells #[.int .i64 y.k, .string y.s, .int .i64 y.a] 36)).heap.size := HBS.out.size
          have hb9 := Below.size hbS
          clear hS hbS HO HB HXM
          go_wp2_with (at_builtin; refine wpList_append_own_at _ rfl _ _ 31 rfl w.heap.size 36 i0 (.agg #[.int .i64 0, .string ByteArray.empty, .int .i64 0]) 3 32 Tryz.underlying31 hi0 hz0 hz1 hz2 rfl (by decide) _ _ _ rfl HOS.out ⟨wr.heap.size, 0, none⟩ 1 1 [.int .i64 y.k, .string y.s, .int .i64 y.a] rfl rfl (fun j u hj => by rw [Addr.add_lit, Nat.zero_add]; exact (HSS.out.cell j).trans hj) (fx_one y) (by simp only [maxLen]; omega) (by omega) hzS ?_)
          intro v' w9 howS hgrS _ hatS
          have howS' : w9.ownsRow w.heap.size 36 3 v' (PP.length + (j + 1)) (fl fx (PP ++ M.take (j + 1))) := by
            rw [List.take_add_one, HY.out, Option.toList_some, ← List.append_assoc, fl_append]
            exact howS
          have HO9 := Lib.hid howS'
          have HB9 := Lib.hid (HBS.out.grown hgrS hzS (fun g hg => (HOS.out.lt g hg).1))
          have HM9 := Lib.hid (HMS.out.apart hgrS HAP.out)
          have HA9 := Lib.hid (show ∀ g, v'.ownBlock = some g → (some (⟨b4, o4, none⟩ : Addr)).map (·.block) ≠ some g from fun g hg => by
            rcases hatS with h | h
            · exact HAP.out g (h.symm.trans hg)
            · rw [h] at hg
              injection hg with hg
              subst hg
              simp only [Option.map_some, ne_eq, Option.some.injEq]
              omega)
          clear howS howS' hgrS hatS HOS HBS HSS HMS HAP hzS q0 q1 q2
          go_wp2
          go_roundw
          case rel => exact ⟨j + 1, by go_num, by omega, HO9.out, HM9.out, HA9.out, HB9.out⟩
          case measure => simp [intOf]; omega
        · obtain rfl : j = M.length := by omega
          go_wp2
          go_roundw
          case rel =>
            have hn7 := HNX.out
            have ho7 := HO.out
            have hE : PP ++ M = lexK l 0 a' := by rw [lexK_same hn7.1, HLS.out, ← HPP.out]
            rw [List.take_length, hE] at ho7
            refine ⟨a', rfl, by omega, ?_, own_n ?_ ho7, HB.out⟩
            · rcases hn7.2 with h | h
              · exact .inl h
              · exact .inr ⟨h.1, by omega⟩
            · rw [← hE, List.length_append]
          case measure => simp [intOf]; omega
    · have hend : kidsN l 0 a = kidsN l 0 n ∧ a = n := by
        rcases hcase with h | h
        · exact (hin h).elim
        · exact h
      obtain ⟨hkn, hae⟩ := hend
      subst hae
      clear hin hcase
      go_wp2
      go_ret
      exact ⟨_, rfl, HO.out, HB.out⟩
end Go.Proofs.YtegjgbgnpkncbacGreatDoor
