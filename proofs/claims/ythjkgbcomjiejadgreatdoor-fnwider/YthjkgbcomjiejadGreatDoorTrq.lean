/-
  l03Trim of the model.
-/
import Derived.Test.YthjkgbcomjiejadGreatDoorTrm
import Derived.Test.YthjkgbcomjiejadGreatDoorLnb
import Derived.Test.YthjkgbcomjiejadGreatDoorLay
namespace Go.Proofs.YthjkgbcomjiejadGreatDoor
open Go.RowKit
set_option linter.unusedVariables false

/-- bytes of a call's own, on the way to being cut back to what z is cut back to. -/
def CutI (w : World) (z : List UInt8) (v : Value) (wr : World) : Prop :=
  ∃ x : List UInt8, wr.ownsRow w.heap.size 5 1 v x.length (Lib.byteCells x) ∧ Below w.heap.size w wr ∧ cutB x = cutB z ∧ x.length ≤ z.length
theorem CutI.start {w wr : World} {z : List UInt8} {v : Value} (h : wr.ownsRow w.heap.size 5 1 v z.length (Lib.byteCells z)) (hb : Below w.heap.size w wr) : CutI w z v wr := ⟨z, h, hb, rfl, Nat.le_refl _⟩
def lenV : Value → Nat
  | .slice _ n _ => n
  | _ => 0
/-- a row that is to be cut back: nothing, a blank at its end, or another byte. -/
theorem CutI.cases {w wr : World} {z : List UInt8} {v : Value} (h : CutI w z v wr) :
    (∃ A c, v = .slice A 0 c ∧ cutB z = [] ∧ wr.ownsRow w.heap.size 5 1 v (cutB z).length (Lib.byteCells (cutB z)) ∧ Below w.heap.size w wr) ∨
    (∃ g n cap, v = .slice (some ⟨g, 0, none⟩) (n + 1) cap ∧ n + 1 ≤ cap ∧ n + 1 ≤ z.length ∧ wr.cell? ⟨g, n, none⟩ = some (.int .u8 32) ∧ CutI w z (.slice (some ⟨g, 0, none⟩) n cap) wr) ∨
    (∃ g n cap c, v = .slice (some ⟨g, 0, none⟩) (n + 1) cap ∧ n + 1 ≤ cap ∧ n + 1 ≤ z.length ∧ wr.cell? ⟨g, n, none⟩ = some (.int .u8 c) ∧ (c == 32) = false ∧ (cutB z).length = n + 1 ∧ wr.ownsRow w.heap.size 5 1 v (cutB z).length (Lib.byteCells (cutB z)) ∧ Below w.heap.size w wr) := by
  obtain ⟨x, hx, hb, he, hl⟩ := h
  rcases nil_or_snoc x with rfl | ⟨y, c, rfl⟩
  · obtain ⟨A, cc, rfl⟩ := os_slice hx
    refine .inl ⟨A, cc, rfl, he.symm, ?_, hb⟩
    rw [← he]
    exact hx
  · obtain ⟨g, cap, rfl, hcap, hlt, hc, hpop⟩ := cut_pop hx
    have hyl : y.length + 1 ≤ z.length := by simpa using hl
    have hcs := cutB_snoc y c
    by_cases h32 : c = 32
    · refine .inr (.inl ⟨g, y.length, cap, rfl, hcap, hyl, ?_, y, hpop, hb, ?_, by omega⟩)
      · rw [hc, h32]; rfl
      · rw [← he, hcs, if_pos h32]
    · rw [if_neg h32, he] at hcs
      refine .inr (.inr ⟨g, y.length, cap, (c.toNat : Int), rfl, hcap, hyl, hc, ?_, by rw [hcs]; simp, ?_, hb⟩)
      · simp
        intro e
        exact h32 (UInt8.toNat_inj.1 (show c.toNat = 32 by omega))
      · rw [hcs]
        exact hx
set_option maxHeartbeats 2000000 in
set_option maxRecDepth 100000 in
theorem l03Trim_any (s : ByteArray) (w : World) (hs : s.size ≤ 16777216) :
    Calls Tryz.prog 107 #[.string s] w fun e w' => e = .returned (.string ⟨(cuB s.data.toList).toArray⟩) ∧ Below w.heap.size w w' := by
  obtain ⟨i0, hi0, hz0, hz1, hz2⟩ := info_parts infoByte
  have hlen : s.data.toList.length = s.size := (Lib.size_eq s).symm
  have HE := Lib.hid (show cutB (cuN s.data.toList s.size) = cuB s.data.toList by unfold cuB; rw [hlen])
  go_enter Tryz.func107, Tryz.ntmps107
  go_wp2_with fail
  have hb0 := (Below.refl w.heap.size w).alloc (Nat.le_refl _) (.cells #[] 5)
  have ho0 := os_lit0 w 5
  generalize w.alloc (.cells #[] 5) = w0 at *
  have HO0 := Lib.hid ho0
  have HB0 := Lib.hid hb0
  clear ho0 hb0
  go_loopw [3, 4] (fun v iv wr => ∃ k : Nat, iv = .int .i64 k ∧ k ≤ s.size ∧ wr.ownsRow w.heap.size 5 1 v (cuN s.data.toList k).length (Lib.byteCells (cuN s.data.toList k)) ∧ Below w.heap.size w wr) (fun _ iv _ => s.size - (intOf iv).toNat)
  case atStart => exact ⟨0, rfl, Nat.zero_le _, HO0.out, HB0.out⟩
  case round =>
    obtain ⟨k, rfl, hk, hown, hb⟩ := hrel
    clear HO0 HB0
    have hle : (cuN s.data.toList k).length ≤ s.size := Nat.le_trans (cuN_le s.data.toList k) hk
    have hst := CutI.start hown hb
    obtain ⟨Av, cv, rfl⟩ := os_slice hown
    by_cases hkl : k < s.size
    · have HS := Lib.hid (cuN_succ s k hkl)
      by_cases h10 : s[k] = 10
      · have hcb : ((s[k].toNat : Int) == 10) = true := by rw [h10]; rfl
        have HST := Lib.hid hst
        clear hst hown hb
        go_wp2_with fail
        go_loopw [3] (fun v wr2 => CutI w (cuN s.data.toList k) v wr2) (fun v _ => lenV v)
        case atStart => exact HST.out
        case round =>
          clear HST
          rcases hrel.cases with ⟨A1, c1, rfl, hnil, ho, hb⟩ | ⟨g, n1, cap, rfl, hcap, hnl, hc, hpop⟩ | ⟨g, n1, cap, c, rfl, hcap, hnl, hc, hc32, hcl, ho, hb⟩
          · have HO := Lib.hid ho
            have HB := Lib.hid hb
            clear ho hb hrel
            have HO3 := Lib.hid (HO.out.alloc (.cells #[.int .u8 10] 5))
            have HB3 := Lib.hid (HB.out.alloc (HB.out).size (.cells #[.int .u8 10] 5))
            have hz3 := HB3.out.size
            have HZ := Lib.hid (show cuN s.data.toList (k + 1) = cutB (cuN s.data.toList k) ++ [10] by rw [HS.out]; unfold cuS; rw [if_pos h10, h10])
            have hzl : (cutB (cuN s.data.toList k)).length ≤ s.size := Nat.le_trans (cutB_le _) hle
            go_wp2_with (at_builtin; refine wpList_append_own_at _ rfl _ _ 22 rfl w.heap.size 5 i0 (.int .u8 0) 1 1 Tryz.underlying22 hi0 hz0 hz1 hz2 rfl (by decide) _ _ _ rfl HO3.out ⟨_, 0, none⟩ 1 1 [.int .u8 10] rfl rfl (cell_one_new _ _ _) (by simp [Value.oneCell']) (by simp only [maxLen]; omega) (by omega) hz3 ?_)
            intro v' w5 hown5 hgr5 _ _
            have HB5 := Lib.hid (HB3.out.grown hgr5 hz3 (fun g hg => (HO3.out.lt g hg).1))
            have HO5 := Lib.hid (show w5.ownsRow w.heap.size 5 1 v' (cuN s.data.toList (k + 1)).length (Lib.byteCells (cuN s.data.toList (k + 1))) by rw [HZ.out, ← bytes_snoc, List.length_append]; rw [hnil]; exact hown5)
            clear hown5 hgr5 HO3 HB3 hz3
            go_wp2_with fail
            go_roundw
            case rel => exact ⟨k + 1, by go_num, by omega, HO5.out, HB5.out⟩
            case measure => simp [intOf]; omega
          · have HP := Lib.hid hpop
            clear hpop hrel
            go_wp2_with fail
            go_roundw
            case rel => exact HP.out
            case measure => simp [lenV]
          · have HO := Lib.hid ho
            have HB := Lib.hid hb
            clear ho hb hrel
            have HO3 := Lib.hid (HO.out.alloc (.cells #[.int .u8 10] 5))
            have HB3 := Lib.hid (HB.out.alloc (HB.out).size (.cells #[.int .u8 10] 5))
            have hz3 := HB3.out.size
            have HZ := Lib.hid (show cuN s.data.toList (k + 1) = cutB (cuN s.data.toList k) ++ [10] by rw [HS.out]; unfold cuS; rw [if_pos h10, h10])
            have hzl : (cutB (cuN s.data.toList k)).length ≤ s.size := Nat.le_trans (cutB_le _) hle
            go_wp2_with (at_builtin; refine wpList_append_own_at _ rfl _ _ 22 rfl w.heap.size 5 i0 (.int .u8 0) 1 1 Tryz.underlying22 hi0 hz0 hz1 hz2 rfl (by decide) _ _ _ rfl HO3.out ⟨_, 0, none⟩ 1 1 [.int .u8 10] rfl rfl (cell_one_new _ _ _) (by simp [Value.oneCell']) (by simp only [maxLen]; omega) (by omega) hz3 ?_)
            intro v' w5 hown5 hgr5 _ _
            have HB5 := Lib.hid (HB3.out.grown hgr5 hz3 (fun g hg => (HO3.out.lt g hg).1))
            have HO5 := Lib.hid (show w5.ownsRow w.heap.size 5 1 v' (cuN s.data.toList (k + 1)).length (Lib.byteCells (cuN s.data.toList (k + 1))) by rw [HZ.out, ← bytes_snoc, List.length_append]; rw [hcl]; exact hown5)
            clear hown5 hgr5 HO3 HB3 hz3
            go_wp2_with fail
            go_roundw
            case rel => exact ⟨k + 1, by go_num, by omega, HO5.out, HB5.out⟩
            case measure => simp [intOf]; omega
      · have hcb : ((s[k].toNat : Int) == 10) = false := by
          simp
          intro h
          exact h10 (UInt8.toNat_inj.1 (show s[k].toNat = 10 by omega))
        have HO := Lib.hid hown
        have HB := Lib.hid hb
        clear hst hown hb
        have HO3 := Lib.hid (HO.out.alloc (.cells #[.int .u8 (s[k].toNat : Int)] 5))
        have HB3 := Lib.hid (HB.out.alloc (HB.out).size (.cells #[.int .u8 (s[k].toNat : Int)] 5))
        have hz3 := HB3.out.size
        have HZ := Lib.hid (show cuN s.data.toList (k + 1) = cuN s.data.toList k ++ [s[k]] by rw [HS.out]; unfold cuS; rw [if_neg h10])
        have hzl : (cuN s.data.toList k).length ≤ s.size := Nat.le_trans (Nat.le_refl _) hle
        go_wp2_with (at_builtin; refine wpList_append_own_at _ rfl _ _ 22 rfl w.heap.size 5 i0 (.int .u8 0) 1 1 Tryz.underlying22 hi0 hz0 hz1 hz2 rfl (by decide) _ _ _ rfl HO3.out ⟨_, 0, none⟩ 1 1 [.int .u8 (s[k].toNat : Int)] rfl rfl (cell_one_new _ _ _) (by simp [Value.oneCell']) (by simp only [maxLen]; omega) (by omega) hz3 ?_)
        intro v' w5 hown5 hgr5 _ _
        have HB5 := Lib.hid (HB3.out.grown hgr5 hz3 (fun g hg => (HO3.out.lt g hg).1))
        have HO5 := Lib.hid (show w5.ownsRow w.heap.size 5 1 v' (cuN s.data.toList (k + 1)).length (Lib.byteCells (cuN s.data.toList (k + 1))) by rw [HZ.out, ← bytes_snoc, List.length_append]; exact hown5)
        clear hown5 hgr5 HO3 HB3 hz3
        go_wp2_with fail
        go_roundw
        case rel => exact ⟨k + 1, by go_num, by omega, HO5.out, HB5.out⟩
        case measure => simp [intOf]; omega
    · obtain rfl : k = s.size := by omega
      have HST := Lib.hid hst
      clear hst hown hb
      go_wp2_with fail
      go_loopw [3] (fun v wr2 => CutI w (cuN s.data.toList s.size) v wr2) (fun v _ => lenV v)
      case atStart => exact HST.out
      case round =>
        clear HST
        rcases hrel.cases with ⟨A1, c1, rfl, hnil, ho, hb⟩ | ⟨g, n1, cap, rfl, hcap, hnl, hc, hpop⟩ | ⟨g, n1, cap, c, rfl, hcap, hnl, hc, hc32, hcl, ho, hb⟩
        · have HO := Lib.hid ho
          have HB := Lib.hid hb
          clear ho hb hrel
          have hcv := conv_own HO.out
          go_wp2
          go_ret
          rw [← HE.out, hnil]
          exact ⟨rfl, HB.out⟩
        · have HP := Lib.hid hpop
          clear hpop hrel
          go_wp2_with fail
          go_roundw
          case rel => exact HP.out
          case measure => simp [lenV]
        · have HO := Lib.hid ho
          have HB := Lib.hid hb
          clear ho hb hrel
          have hcv := conv_own HO.out
          go_wp2
          go_ret
          rw [HE.out]
          exact ⟨rfl, HB.out⟩
end Go.Proofs.YthjkgbcomjiejadGreatDoor
