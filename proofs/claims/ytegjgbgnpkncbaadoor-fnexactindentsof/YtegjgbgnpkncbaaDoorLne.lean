/-
  The model's IndentsOf; LongLines, TrailOk and WidestLine on both sides.
-/
import Derived.Test.YtegjgbgnpkncbaaDoorLnd
namespace Go.Proofs.YtegjgbgnpkncbaaDoor
open Go.RowKit
set_option linter.unusedVariables false

set_option maxHeartbeats 1000000 in
set_option maxRecDepth 100000 in
theorem sIndentsOf_any (s : ByteArray) (w : World) (hs : s.size ≤ 1048576) :
    Calls Tryd.prog 13 #[.string s] w (IntsOut w (idL (lns s))) := by
  obtain ⟨i0, hi0, hz0, hz1, hz2⟩ := info_parts infoI
  have hlen := lns_len s
  have HSZ := Lib.hid (fun x (hx : x ∈ lns s) => lns_size hx)
  go_enter Tryd.func13, Tryd.ntmps13
  go_wp2_with fail
  have hb0 := (Below.refl w.heap.size w).alloc (Nat.le_refl _) (.cells #[] 3)
  have ho0 := os_lit0 w 3
  generalize w.alloc (.cells #[] 3) = w0 at *
  refine (l10Lines_any s _ hs).mono ?_
  rintro e w1 ⟨A, c, rfl, hsw, hlo, hb⟩
  have HO1 := Lib.hid (os_below ho0 hb)
  have HB1 := Lib.hid (hb0.trans (hb.mono hb0.size))
  have HL := Lib.hid hsw
  have HLO := Lib.hid hlo
  have hs0 : w.heap.size < w0.heap.size := ho0.lt w.heap.size rfl |>.2
  clear ho0 hb0 hb hsw hlo
  obtain ⟨l, hl⟩ : ∃ l, lns s = l := ⟨_, rfl⟩
  have HLN := Lib.hid hl
  rw [hl] at HL HSZ hlen
  clear hl
  obtain ⟨n, hn⟩ : ∃ n, l.length = n := ⟨_, rfl⟩
  rw [HLN.out, hn]
  rw [hn] at hlen
  have HN := Lib.hid hn
  clear hn
  go_wp2_with fail
  go_loopw [3, 5] (fun v iv wr => ∃ k : Nat, k ≤ n ∧ iv = .int .i64 k ∧ wr.ownsRow w.heap.size 3 1 v k (nums (idL (l.take k))) ∧ Below w.heap.size w wr ∧ SW wr A l ∧ (∀ g b, v.ownBlock = some g → A.map (·.block) = some b → g ≠ b ∧ b < wr.heap.size)) (fun _ iv _ => n - (intOf iv).toNat)
  case atStart => exact ⟨0, Nat.zero_le _, rfl, HO1.out, HB1.out, HL.out, fun g b hg hb => by have := HLO.out b hb; have : w.heap.size = g := Option.some.inj hg; omega⟩
  case round =>
    obtain ⟨k, hk, rfl, hown, hb, hsw, hne⟩ := hrel
    have HO := Lib.hid hown
    have HB := Lib.hid hb
    have HSW := Lib.hid hsw
    have HNE := Lib.hid hne
    have hsz := hb.size
    obtain ⟨Av, cv, rfl⟩ := os_slice hown
    clear hown hb hsw hne HO1 HB1
    by_cases hkl : k < n
    · obtain ⟨x, b, o, hx, rfl, hbl, c0⟩ := HSW.out.at (k := k) (by have := HN.out; omega)
      have hxs := HSZ.out x (List.mem_of_getElem? hx)
      have HT := Lib.hid (show l.take (k + 1) = l.take k ++ [x] by rw [List.take_add_one, hx]; rfl)
      clear hx
      have HLD := Lib.hid (ldB_le x)
      go_wp2_with fail
      go_loopw [6] (fun v wv => ∃ m : Nat, m ≤ x.size ∧ v = .int .i64 m ∧ (∀ j, j < m → ∃ hj : j < x.size, x[j] = 32) ∧ wv = wr) (fun v _ => x.size - (intOf v).toNat)
      case atStart => exact ⟨0, Nat.zero_le _, rfl, fun j hj => by omega, rfl⟩
      case round =>
        obtain ⟨m, hm, rfl, hall, rfl⟩ := hrel
        have HA := Lib.hid hall
        clear hall
        by_cases hml : m < x.size
        · by_cases h32 : x[m] = 32
          · have hb : ((x[m].toNat : Int) == 32) = true := by rw [h32]; rfl
            have HN2 := Lib.hid (show ∀ j, j < m + 1 → ∃ hj : j < x.size, x[j] = 32 from fun j hj => by
              rcases Nat.lt_or_ge j m with h | h
              · exact HA.out j h
              · obtain rfl : j = m := by omega
                exact ⟨hml, h32⟩)
            clear h32
            go_wp2_with fail
            go_roundw
            case rel => exact ⟨m + 1, by omega, by go_num, HN2.out, trivial⟩
            case measure => simp [intOf]; omega
          · have hb : ((x[m].toNat : Int) == 32) = false := by
              simp
              intro h
              exact h32 (UInt8.toNat_inj.1 (show x[m].toNat = 32 by omega))
            have HV := Lib.hid (ld_at (x := x) (n := m) HA.out hm (.inr ⟨hml, h32⟩))
            clear h32
            have hS := BlkL.new wr 3 [.int .i64 ((m : Int))]
            have hb3 := (Below.refl wr.heap.size wr).alloc (Nat.le_refl _) (.cells #[.int .i64 ((m : Int))] 3)
            have HO3 := Lib.hid (os_below HO.out hb3)
            have HB3 := Lib.hid (HB.out.trans (hb3.mono hsz))
            have HW3 := Lib.hid (HSW.out.below hb3)
            have HS := Lib.hid hS
            have hz3 : w.heap.size ≤ (wr.alloc (.cells #[.int .i64 ((m : Int))] 3)).heap.size := HB3.out.size
            have hbz : b < (wr.alloc (.cells #[.int .i64 ((m : Int))] 3)).heap.size := Nat.lt_of_lt_of_le hbl hb3.size
            clear hS hb3
            go_wp2_with (at_builtin; refine wpList_append_own_at _ rfl _ _ 22 rfl w.heap.size 3 i0 (.int .i64 0) 1 8 Tryd.underlying22 hi0 hz0 hz1 hz2 rfl (by decide) _ _ _ rfl HO3.out ⟨wr.heap.size, 0, none⟩ 1 1 [.int .i64 ((m : Int))] rfl rfl (fun j u hj => by rw [Addr.add_lit, Nat.zero_add]; exact (HS.out.cell j).trans hj) (os_int _) (by simp only [maxLen]; omega) (by omega) hz3 ?_)
            intro v' w5 hown5 hgr5 _ hat5
            have HB5 := Lib.hid (HB3.out.grown hgr5 hz3 (fun g hg => (HO3.out.lt g hg).1))
            have HW5 := Lib.hid (HW3.out.grown hgr5 (fun b' hb' e => (HNE.out b' b' e.symm hb').1 rfl))
            have HN5 := Lib.hid (show ∀ g b', v'.ownBlock = some g → (some (⟨b, o, none⟩ : Addr)).map (·.block) = some b' → g ≠ b' ∧ b' < w5.heap.size from fun g b' hg hb' => by
              have hb2 : b = b' := Option.some.inj hb'
              subst hb2
              refine ⟨?_, Nat.lt_of_lt_of_le hbz hgr5.size⟩
              rcases hat5 with e | e
              · exact (HNE.out g b (e.symm.trans hg) rfl).1
              · rw [e] at hg
                have := Option.some.inj hg
                omega)
            obtain ⟨A5, c5, rfl⟩ := os_slice hown5
            have HO5 := Lib.hid (show w5.ownsRow w.heap.size 3 1 (.slice A5 (k + 1) c5) (k + 1) (nums (idL (l.take (k + 1)))) by rw [HT.out, idL, List.map_append]; unfold idL at hown5; simpa [nums, HV.out] using hown5)
            clear hown5 hgr5 hat5 HO3 HB3 HS HW3
            go_wp2_with fail
            go_roundw
            case rel => exact ⟨k + 1, by omega, by go_num, HO5.out, HB5.out, HW5.out, HN5.out⟩
            case measure => simp [intOf]; omega
        · obtain rfl : m = x.size := by omega
          have HV := Lib.hid (ld_at (x := x) (n := x.size) HA.out hm (.inl rfl))
          have hS := BlkL.new wr 3 [.int .i64 ((x.size : Int))]
          have hb3 := (Below.refl wr.heap.size wr).alloc (Nat.le_refl _) (.cells #[.int .i64 ((x.size : Int))] 3)
          have HO3 := Lib.hid (os_below HO.out hb3)
          have HB3 := Lib.hid (HB.out.trans (hb3.mono hsz))
          have HW3 := Lib.hid (HSW.out.below hb3)
          have HS := Lib.hid hS
          have hz3 : w.heap.size ≤ (wr.alloc (.cells #[.int .i64 ((x.size : Int))] 3)).heap.size := HB3.out.size
          have hbz : b < (wr.alloc (.cells #[.int .i64 ((x.size : Int))] 3)).heap.size := Nat.lt_of_lt_of_le hbl hb3.size
          clear hS hb3
          go_wp2_with (at_builtin; refine wpList_append_own_at _ rfl _ _ 22 rfl w.heap.size 3 i0 (.int .i64 0) 1 8 Tryd.underlying22 hi0 hz0 hz1 hz2 rfl (by decide) _ _ _ rfl HO3.out ⟨wr.heap.size, 0, none⟩ 1 1 [.int .i64 ((x.size : Int))] rfl rfl (fun j u hj => by rw [Addr.add_lit, Nat.zero_add]; exact (HS.out.cell j).trans hj) (os_int _) (by simp only [maxLen]; omega) (by omega) hz3 ?_)
          intro v' w5 hown5 hgr5 _ hat5
          have HB5 := Lib.hid (HB3.out.grown hgr5 hz3 (fun g hg => (HO3.out.lt g hg).1))
          have HW5 := Lib.hid (HW3.out.grown hgr5 (fun b' hb' e => (HNE.out b' b' e.symm hb').1 rfl))
          have HN5 := Lib.hid (show ∀ g b', v'.ownBlock = some g → (some (⟨b, o, none⟩ : Addr)).map (·.block) = some b' → g ≠ b' ∧ b' < w5.heap.size from fun g b' hg hb' => by
            have hb2 : b = b' := Option.some.inj hb'
            subst hb2
            refine ⟨?_, Nat.lt_of_lt_of_le hbz hgr5.size⟩
            rcases hat5 with e | e
            · exact (HNE.out g b (e.symm.trans hg) rfl).1
            · rw [e] at hg
              have := Option.some.inj hg
              omega)
          obtain ⟨A5, c5, rfl⟩ := os_slice hown5
          have HO5 := Lib.hid (show w5.ownsRow w.heap.size 3 1 (.slice A5 (k + 1) c5) (k + 1) (nums (idL (l.take (k + 1)))) by rw [HT.out, idL, List.map_append]; unfold idL at hown5; simpa [nums, HV.out] using hown5)
          clear hown5 hgr5 hat5 HO3 HB3 HS HW3
          go_wp2_with fail
          go_roundw
          case rel => exact ⟨k + 1, by omega, by go_num, HO5.out, HB5.out, HW5.out, HN5.out⟩
          case measure => simp [intOf]; omega

    · obtain rfl : k = n := by omega
      have HF := Lib.hid (show l.take k = l by rw [← HN.out, List.take_length])
      rw [HF.out] at HO
      go_wp2_with fail
      go_ret
      rw [HLN.out]
      exact ints_own (by rw [idL_len]; exact HN.out) HO.out HB.out
end Go.Proofs.YtegjgbgnpkncbaaDoor
