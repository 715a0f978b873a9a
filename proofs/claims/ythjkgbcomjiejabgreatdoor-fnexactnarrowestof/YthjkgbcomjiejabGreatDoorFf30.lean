/-
  endsTrimmed of the program.
-/
import Derived.Test.YthjkgbcomjiejabGreatDoorFf25
import Derived.Test.YthjkgbcomjiejabGreatDoorFf29
namespace Go.Proofs.YthjkgbcomjiejabGreatDoor
open Go.RowKit
set_option linter.unusedVariables false

set_option maxHeartbeats 2000000 in
set_option maxRecDepth 100000 in
theorem endsTrimmed_any (s : ByteArray) (w : World) (hs : s.size ≤ 20000) :
    Calls Tryz.prog 22 #[.string s] w fun e w' => e = .returned (.string ⟨(cuB s.data.toList).toArray⟩) ∧ Below w.heap.size w w' := by
  have hp := parts_split s ⟨#[10]⟩ rfl
  have hlen := Lib.splitB_all (⟨#[10]⟩ : ByteArray) (Nat.le_refl 1) 0 _ s rfl
  rw [hp] at hlen
  have hpl := parts_len s
  have HJ := Lib.hid (cutP_join s)
  have HCL := Lib.hid (cutP_len s)
  go_enter Tryz.func22, Tryz.ntmps22
  go_wp2_with fail
  refine (split_byte Tryz.lays146 infoS s 10 _ (by omega)).mono ?_
  rintro e w1 ⟨rfl, hw⟩
  rw [hp] at hw
  rw [← hlen]
  have hk : BlkL w1 w.heap.size 9 (fl fs (cutTo s 0)) := by
    rw [hw, cutTo_zero, fl_fs]
    exact BlkL.new w 9 _
  have hb : Below w.heap.size w w1 := by rw [hw]; exact (Below.refl _ _).alloc (Nat.le_refl _) _
  obtain ⟨g, hg⟩ : ∃ g, w.heap.size = g := ⟨_, rfl⟩
  rw [hg] at hk ⊢
  have HK := Lib.hid hk
  have HB := Lib.hid hb
  have HG := Lib.hid hg
  obtain ⟨n, hn⟩ : ∃ n, (parts s).length = n := ⟨_, rfl⟩
  rw [hn] at hpl HJ ⊢
  have HN := Lib.hid hn
  clear hw hp hlen hk hb hn hg
  go_wp2_with fail
  go_loopw [10] (fun iv wr => ∃ k : Nat, k ≤ n ∧ iv = .int .i64 k ∧ BlkL wr g 9 (fl fs (cutTo s k)) ∧ Below w.heap.size w wr) (fun iv _ => n - (intOf iv).toNat)
  case atStart => exact ⟨0, Nat.zero_le _, rfl, HK.out, HB.out⟩
  case round =>
    obtain ⟨k, hk, rfl, hbk, hb⟩ := hrel
    have HK2 := Lib.hid hbk
    have HB2 := Lib.hid hb
    have hglt := hbk.lt
    clear hbk hb HK HB
    by_cases hkl : k < n
    · have hx : (parts s)[k]? = some ((parts s)[k]'(by have := HN.out; omega)) := List.getElem?_eq_getElem _
      obtain ⟨x, hxe⟩ : ∃ x, (parts s)[k]'(by have := HN.out; omega) = x := ⟨_, rfl⟩
      rw [hxe] at hx
      have hxs := parts_size (List.mem_of_getElem? hx)
      have HS := Lib.hid (cutTo_set hx)
      have c0 : wr.cell? ⟨g, k, none⟩ = some (.string x) := by
        rw [HK2.out.cell k, fl_fs, List.getElem?_map, cutTo_at, hx]
        rfl
      have f0 := HK2.out.frozen k
      clear hx hxe
      go_wp2_with fail
      refine (Any.strings_TrimRight_one Tryz.lays162 x 32 (by decide) _ (by omega)).mono ?_
      rintro e w2 ⟨rfl, rfl⟩
      rw [trimRight_cut, show (⟨(cutB x.data.toList).toArray⟩ : ByteArray) = toB (cutB x.data.toList) from rfl]
      have HK3 := Lib.hid (show BlkL (w2.setCell ⟨g, k, none⟩ (.string (toB (cutB x.data.toList)))) g 9 (fl fs (cutTo s (k + 1))) by
        have h := HK2.out.set k (.string (toB (cutB x.data.toList)))
        rw [fl_fs, ← List.map_set, HS.out, ← fl_fs] at h
        exact h)
      have HB3 := Lib.hid (HB2.out.setCell (p := ⟨g, k, none⟩) (show w.heap.size ≤ g from Nat.le_of_eq HG.out) (.string (toB (cutB x.data.toList))))
      generalize toB (cutB x.data.toList) = y at *
      clear hglt
      go_wp2_with fail
      go_roundw
      case rel => exact ⟨k + 1, by omega, by go_num, HK3.out, HB3.out⟩
      case measure => simp [intOf]; omega
    · obtain rfl : k = n := by omega
      have HK4 := Lib.hid (show BlkL wr g 9 (fl fs (cutP s)) by
        have h := HK2.out
        rw [← HN.out, cutTo_all] at h
        exact h)
      clear HK2
      have hcells : ∀ (j : Nat) (x : ByteArray), (cutP s)[j]? = some x → wr.cell? ⟨g, 0 + j, none⟩ = some (.string x) := by
        intro j x hj
        rw [Nat.zero_add, HK4.out.cell j, fl_fs, List.getElem?_map, hj]
        rfl
      have hCL : (cutP s).length = k := by rw [HCL.out, HN.out]
      by_cases h1 : k = 1
      · subst h1
        have hx : (cutP s)[0]? = some ((cutP s)[0]'(by omega)) := List.getElem?_eq_getElem _
        obtain ⟨x, hxe⟩ : ∃ x, (cutP s)[0]'(by omega) = x := ⟨_, rfl⟩
        rw [hxe] at hx
        have c0 := hcells 0 x hx
        have HX := Lib.hid (show cuB s.data.toList = x.data.toList by rw [← HJ.out, jnN_first hx])
        clear hx hxe hcells
        go_wp2_with fail
        refine (Join_one 10 g 0 1 x wr c0 (Nat.le_refl _)).mono ?_
        rintro e w2 ⟨rfl, rfl⟩
        go_wp2_with fail
        go_ret
        rw [HX.out]
        exact ⟨rfl, HB2.out⟩
      · have hN : k * (s.size + 1) ≤ 1000000000 := by
          have h := Nat.mul_le_mul (show k ≤ 20001 by omega) (show s.size + 1 ≤ 20001 by omega)
          omega
        have HJN := Lib.hid (Join_gen 10 g 0 k (cutP s) k s.size wr hCL (by omega) hN (fun x hx => cutP_size hx) hglt (Nat.le_refl _) hcells)
        clear hN hcells
        go_wp2_with fail
        refine HJN.out.mono ?_
        rintro e w2 ⟨rfl, hb⟩
        have HB5 := Lib.hid (HB2.out.trans (hb.mono HB2.out.size))
        rw [HJ.out]
        clear hb
        go_wp2_with fail
        go_ret
        exact ⟨rfl, HB5.out⟩
end Go.Proofs.YthjkgbcomjiejabGreatDoor
