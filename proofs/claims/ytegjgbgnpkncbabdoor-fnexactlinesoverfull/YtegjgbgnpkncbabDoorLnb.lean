/-
  The program's linesOf.
-/
import Derived.Test.YtegjgbgnpkncbabDoorShelf
import Derived.Test.YtegjgbgnpkncbabDoorSpl
import Derived.Test.YtegjgbgnpkncbabDoorLna
import Derived.Test.YtegjgbgnpkncbabDoorSsa
import Derived.Test.YtegjgbgnpkncbabDoorOws
namespace Go.Proofs.YtegjgbgnpkncbabDoor
open Go.RowKit
set_option linter.unusedVariables false

theorem infoS : (Tryd.prog.info? 9).map (fun i => (i.zero, i.size, i.bytes)) = some (some (.string ByteArray.empty), 1, 16) := by kernel_rfl
theorem fl_fs (l : List ByteArray) : fl fs l = l.map Value.string := by
  induction l with
  | nil => rfl
  | cons x r ih => rw [fl_cons, ih]; rfl
theorem empty_yes {x : ByteArray} (h : x.size = 0) : (x.toList == []) = true := by
  have h1 : x.data.toList.length = x.size := (Lib.size_eq x).symm
  have h2 : x.data.toList = [] := List.eq_nil_of_length_eq_zero (by omega)
  rw [ByteArray.toList_eq, h2]
  rfl
theorem empty_no {x : ByteArray} (h : ¬ x.size = 0) : (x.toList == []) = false := by
  have h1 : x.data.toList.length = x.size := (Lib.size_eq x).symm
  rw [ByteArray.toList_eq]
  cases h2 : x.data.toList with
  | nil => rw [h2] at h1; simp at h1; omega
  | cons _ _ => rfl
/-- lines that a call has laid. -/
def LnP (s : ByteArray) (w : World) (e : Ending) (w' : World) : Prop :=
  ∃ A c, e = .returned (.slice A (lns s).length c) ∧ SW w' A (lns s) ∧ (∀ b, A.map (·.block) = some b → w.heap.size ≤ b ∧ b < w'.heap.size) ∧ Below w.heap.size w w'
theorem SW.take {w : World} {A : Option Addr} {l : List ByteArray} {n : Nat} (h : SW w A l) : SW w A (l.take n) := by
  intro i t ht
  refine h i t ?_
  rw [List.getElem?_take] at ht
  split at ht
  · exact ht
  · cases ht
set_option maxHeartbeats 1000000 in
set_option maxRecDepth 100000 in
theorem linesOf_any (s : ByteArray) (w : World) (hs : s.size ≤ 16777216) :
    Calls Tryd.prog 19 #[.string s] w (LnP s w) := by
  have hp := parts_split s ⟨#[10]⟩ rfl
  have hlen := Lib.splitB_all (⟨#[10]⟩ : ByteArray) (Nat.le_refl 1) 0 _ s rfl
  rw [hp] at hlen
  have hpl := parts_len s
  go_enter Tryd.func19, Tryd.ntmps19
  go_wp2_with fail
  refine (split_byte Tryd.lays146 infoS s 10 _ (by omega)).mono ?_
  rintro e w1 ⟨rfl, hw⟩
  rw [hp] at hw
  rw [← hlen]
  have hk : BlkL w1 w.heap.size 9 (fl fs (parts s)) := by
    rw [hw, fl_fs]
    exact BlkL.new w 9 _
  have hb : Below w.heap.size w w1 := by rw [hw]; exact (Below.refl _ _).alloc (Nat.le_refl _) _
  have HK := Lib.hid hk
  have HB := Lib.hid hb
  have hsw : SW w1 (some ⟨w.heap.size, 0, none⟩) (parts s) := RS.of_blk fs_len hk
  have hl := (RS.get hsw (lastP_at s)).2 0 (by decide)
  simp [fs] at hl
  have hlt := hk.lt
  obtain ⟨g, hg⟩ : ∃ g, w.heap.size = g := ⟨_, rfl⟩
  rw [hg] at hl hlt hsw ⊢
  have HS := Lib.hid hsw
  obtain ⟨n, hn⟩ : ∃ n, (parts s).length = n + 1 := ⟨(parts s).length - 1, by omega⟩
  rw [hn, Nat.add_sub_cancel] at hl
  rw [hn] at hpl ⊢
  have HN := Lib.hid hn
  clear hw hp hlen hk hb hsw hn
  by_cases h0 : (lastP s).size = 0
  · have hq : ((lastP s).toList == []) = true := empty_yes h0
    have HE := Lib.hid (show lns s = (parts s).take n by unfold lns; rw [if_pos h0, HN.out, Nat.add_sub_cancel])
    clear h0
    go_wp2_with fail
    go_ret
    refine ⟨some ⟨g, 0, none⟩, n + 1, ?_, ?_, (fun b hb => by simp at hb; omega), HB.out⟩
    · rw [HE.out, List.length_take, HN.out, Nat.min_eq_left (by omega)]; rfl
    · rw [HE.out]; exact HS.out.take
  · have hq : ((lastP s).toList == []) = false := empty_no h0
    have HE := Lib.hid (show lns s = parts s by unfold lns; rw [if_neg h0])
    clear h0
    go_wp2_with fail
    go_ret
    refine ⟨some ⟨g, 0, none⟩, n + 1, ?_, ?_, (fun b hb => by simp at hb; omega), HB.out⟩
    · rw [HE.out, HN.out]; rfl
    · rw [HE.out]; exact HS.out
set_option maxHeartbeats 1000000 in
set_option maxRecDepth 100000 in
theorem l10Parts_any (s : ByteArray) (w : World) (hs : s.size ≤ 16777216) :
    Calls Tryd.prog 33 #[.string s, .int .u8 10] w fun e w' => ∃ v, e = .returned v ∧ w'.ownsRow w.heap.size 9 1 v (parts s).length (fl fs (parts s)) ∧ Below w.heap.size w w' := by
  obtain ⟨i0, hi0, hz0, hz1, hz2⟩ := info_parts infoS
  have HPL := Lib.hid (parts_len s)
  go_enter Tryd.func33, Tryd.ntmps33
  go_wp2_with fail
  have hb0 := (Below.refl w.heap.size w).alloc (Nat.le_refl _) (.cells #[] 9)
  have ho0 := os_lit0 w 9
  generalize w.alloc (.cells #[] 9) = w0 at *
  have HO0 := Lib.hid ho0
  have HB0 := Lib.hid hb0
  clear ho0 hb0
  go_loopw [5, 6, 7] (fun v av iv wr => ∃ (k a : Nat) (out : List ByteArray), iv = .int .i64 k ∧ av = .int .i64 a ∧ wr.ownsRow w.heap.size 9 1 v out.length (fl fs out) ∧ Below w.heap.size w wr ∧ ((k ≤ s.size ∧ MidP s out a k) ∨ (k = s.size + 1 ∧ out = parts s))) (fun _ _ iv _ => s.size + 1 - (intOf iv).toNat)
  case atStart => exact ⟨0, 0, [], rfl, rfl, HO0.out, HB0.out, .inl ⟨Nat.zero_le _, MidP.zero s⟩⟩
  case round =>
    obtain ⟨k, a, out, rfl, rfl, hown, hb, hinv⟩ := hrel
    clear HO0 HB0
    have HO := Lib.hid hown
    have HB := Lib.hid hb
    have hsz := hb.size
    obtain ⟨Av, cv, rfl⟩ := os_slice hown
    clear hown hb
    rcases hinv with ⟨hk, hmid⟩ | ⟨rfl, rfl⟩
    · have hlen := hmid.len
      have hak := hmid.1
      have HM := Lib.hid hmid
      clear hmid
      by_cases hkl : k < s.size
      · have hne : ((k : Int) == (s.size : Int)) = false := by simp; omega
        by_cases hc : s[k] = 10
        · have hcb : ((s[k].toNat : Int) == 10) = true := by rw [hc]; rfl
          have HMC := Lib.hid (HM.out.cut hkl hc)
          have hS := BlkL.new wr 9 [.string (s.extract a k)]
          have hb3 := (Below.refl wr.heap.size wr).alloc (Nat.le_refl _) (.cells #[.string (s.extract a k)] 9)
          have HO3 := Lib.hid (os_below HO.out hb3)
          have HB3 := Lib.hid (HB.out.trans (hb3.mono hsz))
          have HS := Lib.hid hS
          have hz3 : w.heap.size ≤ (wr.alloc (.cells #[.string (s.extract a k)] 9)).heap.size := HB3.out.size
          clear hS hb3
          go_wp2_with (at_builtin; refine wpList_append_own_at _ rfl _ _ 42 rfl w.heap.size 9 i0 (.string ByteArray.empty) 1 16 Tryd.underlying42 hi0 hz0 hz1 hz2 rfl (by decide) _ _ _ rfl HO3.out ⟨wr.heap.size, 0, none⟩ 1 1 [.string (s.extract a k)] rfl rfl (fun j u hj => by rw [Addr.add_lit, Nat.zero_add]; exact (HS.out.cell j).trans hj) (os_str _) (by simp only [maxLen]; omega) (by omega) hz3 ?_)
          intro v' w5 hown5 hgr5 _ _
          have HB5 := Lib.hid (HB3.out.grown hgr5 hz3 (fun g hg => (HO3.out.lt g hg).1))
          obtain ⟨A5, c5, rfl⟩ := os_slice hown5
          have HO5 := Lib.hid (show w5.ownsRow w.heap.size 9 1 (.slice A5 (out ++ [(s.extract a k)]).length c5) (out ++ [(s.extract a k)]).length (fl fs (out ++ [(s.extract a k)])) by rw [List.length_append, fl_append]; exact hown5)
          clear hown5 hgr5 HO3 HB3 HS
          go_wp2_with fail
          go_roundw
          case rel => exact ⟨k + 1, k + 1, out ++ [s.extract a k], by go_num, by go_num, by simpa using HO5.out, HB5.out, .inl ⟨by omega, HMC.out⟩⟩
          case measure => simp [intOf]; omega
        · have hcb : ((s[k].toNat : Int) == 10) = false := by
            simp
            intro h
            exact hc (UInt8.toNat_inj.1 (show s[k].toNat = 10 by omega))
          have HMG := Lib.hid (HM.out.go hkl hc)
          go_wp2_with fail
          go_roundw
          case rel => exact ⟨k + 1, a, out, by go_num, rfl, HO.out, HB.out, .inl ⟨by omega, HMG.out⟩⟩
          case measure => simp [intOf]; omega
      · obtain rfl : k = s.size := by omega
        have HLA := Lib.hid HM.out.last
        have hS := BlkL.new wr 9 [.string (s.extract a s.size)]
        have hb3 := (Below.refl wr.heap.size wr).alloc (Nat.le_refl _) (.cells #[.string (s.extract a s.size)] 9)
        have HO3 := Lib.hid (os_below HO.out hb3)
        have HB3 := Lib.hid (HB.out.trans (hb3.mono hsz))
        have HS := Lib.hid hS
        have hz3 : w.heap.size ≤ (wr.alloc (.cells #[.string (s.extract a s.size)] 9)).heap.size := HB3.out.size
        clear hS hb3
        go_wp2_with (at_builtin; refine wpList_append_own_at _ rfl _ _ 42 rfl w.heap.size 9 i0 (.string ByteArray.empty) 1 16 Tryd.underlying42 hi0 hz0 hz1 hz2 rfl (by decide) _ _ _ rfl HO3.out ⟨wr.heap.size, 0, none⟩ 1 1 [.string (s.extract a s.size)] rfl rfl (fun j u hj => by rw [Addr.add_lit, Nat.zero_add]; exact (HS.out.cell j).trans hj) (os_str _) (by simp only [maxLen]; omega) (by omega) hz3 ?_)
        intro v' w5 hown5 hgr5 _ _
        have HB5 := Lib.hid (HB3.out.grown hgr5 hz3 (fun g hg => (HO3.out.lt g hg).1))
        obtain ⟨A5, c5, rfl⟩ := os_slice hown5
        have HO5 := Lib.hid (show w5.ownsRow w.heap.size 9 1 (.slice A5 (out ++ [(s.extract a s.size)]).length c5) (out ++ [(s.extract a s.size)]).length (fl fs (out ++ [(s.extract a s.size)])) by rw [List.length_append, fl_append]; exact hown5)
        clear hown5 hgr5 HO3 HB3 HS
        go_wp2_with fail
        go_roundw
        case rel => exact ⟨s.size + 1, s.size + 1, out ++ [s.extract a s.size], by go_num, by go_num, by simpa using HO5.out, HB5.out, .inr ⟨rfl, HLA.out⟩⟩
        case measure => simp [intOf]
    · have hle : decide (((s.size + 1 : Nat) : Int) ≤ (s.size : Int)) = false := by simp; omega
      go_wp2_with fail
      go_ret
      exact ⟨_, rfl, HO.out, HB.out⟩
set_option maxHeartbeats 1000000 in
set_option maxRecDepth 100000 in
theorem l10Lines_any (s : ByteArray) (w : World) (hs : s.size ≤ 16777216) :
    Calls Tryd.prog 24 #[.string s] w (LnP s w) := by
  have hpl := parts_len s
  go_enter Tryd.func24, Tryd.ntmps24
  go_wp2_with fail
  refine (l10Parts_any s _ hs).mono ?_
  rintro e w1 ⟨v, rfl, hown, hb⟩
  obtain ⟨n, hn⟩ : ∃ n, (parts s).length = n + 1 := ⟨(parts s).length - 1, by omega⟩
  have hsw : ∀ A c, v = .slice A (parts s).length c → SW w1 A (parts s) := fun A c e => by subst e; exact RS.of_own fs_len rfl hown
  have hcap : ∀ A c, v = .slice A (parts s).length c → (parts s).length ≤ c := fun A c e => by
    subst e
    rcases hown.2 with ⟨h0, h1⟩ | ⟨g', cap', cur, hv, hg, hh, hn', _⟩
    · omega
    · injection hv with _ _ e3
      omega
  have hlo := hown.lt
  obtain ⟨A, c, rfl⟩ := os_slice hown
  replace hsw := hsw A c rfl
  replace hcap := hcap A c rfl
  obtain ⟨b, o, rfl, hlt, hl⟩ := hsw _ _ (lastP_at s)
  have hlo := (hlo b (by first | rfl | (simp [Value.ownBlock]))).1
  have hl := hl 0 (by decide)
  simp [fs] at hl
  have HB := Lib.hid hb
  rw [hn, Nat.add_sub_cancel] at hl
  rw [hn] at hcap hpl ⊢
  have HS := Lib.hid hsw
  have HN := Lib.hid hn
  clear hn hown hb hsw
  by_cases h0 : (lastP s).size = 0
  · have hq : ((lastP s).toList == []) = true := empty_yes h0
    have HE := Lib.hid (show lns s = (parts s).take n by unfold lns; rw [if_pos h0, HN.out, Nat.add_sub_cancel])
    clear h0
    go_wp2_with fail
    go_ret
    refine ⟨some ⟨b, o, none⟩, c, ?_, ?_, (fun b' hb => by simp at hb; omega), HB.out⟩
    · rw [HE.out, List.length_take, HN.out, Nat.min_eq_left (by omega)]; rfl
    · rw [HE.out]; exact HS.out.take
  · have hq : ((lastP s).toList == []) = false := empty_no h0
    have HE := Lib.hid (show lns s = parts s by unfold lns; rw [if_neg h0])
    clear h0
    go_wp2_with fail
    go_ret
    refine ⟨some ⟨b, o, none⟩, c, ?_, ?_, (fun b' hb => by simp at hb; omega), HB.out⟩
    · rw [HE.out, HN.out]; rfl
    · rw [HE.out]; exact HS.out
end Go.Proofs.YtegjgbgnpkncbabDoor
