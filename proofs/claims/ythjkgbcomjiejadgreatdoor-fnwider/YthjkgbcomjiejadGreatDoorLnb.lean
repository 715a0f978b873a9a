/-
  The program's linesOf.
-/
import Derived.Test.YthjkgbcomjiejadGreatDoorMem
import Derived.Maps.AppendAt
import Derived.Test.YthjkgbcomjiejadGreatDoorShelf
import Derived.Test.YthjkgbcomjiejadGreatDoorSpl
import Derived.Test.YthjkgbcomjiejadGreatDoorLna
import Derived.Test.YthjkgbcomjiejadGreatDoorSsa
namespace Go.Proofs.YthjkgbcomjiejadGreatDoor
open Go.RowKit
set_option linter.unusedVariables false
theorem os_below {w w' : World} {B z n : Nat} {e : TypeId} {v : Value} {xs : List Value} (h : w.ownsRow B e z v n xs) (hb : Below w.heap.size w w') : w'.ownsRow B e z v n xs := by
  rcases h.2 with hn | ⟨g, cap, cur, hv, hbg, hg, rest⟩
  · exact ⟨h.1, .inl hn⟩
  · exact ⟨h.1, .inr ⟨g, cap, cur, hv, hbg, (hb.block g (Array.getElem?_eq_some_iff.1 hg).1).trans hg, rest⟩⟩
theorem os_slice {w : World} {B z : Nat} {e : TypeId} {v : Value} {n : Nat} {xs : List Value} (h : w.ownsRow B e z v n xs) : ∃ A c, v = .slice A n c := by
  rcases h.2 with ⟨rfl, rfl⟩ | ⟨g, cap, cur, rfl, _⟩
  · exact ⟨none, 0, rfl⟩
  · exact ⟨_, _, rfl⟩
theorem os_lit0 (w : World) (e : TypeId) : (w.alloc (.cells #[] e)).ownsRow w.heap.size e 1 (.slice (some ⟨w.heap.size, 0, none⟩) 0 0) 0 [] := by
  refine ⟨rfl, .inr ⟨w.heap.size, 0, #[], rfl, Nat.le_refl _, BlkL.new w e [], Nat.le_refl _, by unfold maxLen; omega, rfl, rfl⟩⟩
theorem os_nil (w : World) (B z : Nat) (e : TypeId) : w.ownsRow B e z (.slice none 0 0) 0 [] := ⟨by simp, .inl ⟨rfl, rfl⟩⟩
theorem os_str (s : ByteArray) : ∀ u ∈ [Value.string s], u.oneCell' = true := by
  intro u hu
  simp at hu
  subst hu
  rfl
theorem os_int (x : Int) : ∀ u ∈ [Value.int .i64 x], u.oneCell' = true := by
  intro u hu
  simp at hu
  subst hu
  rfl
end Go.Proofs.YthjkgbcomjiejadGreatDoor
namespace Go.Proofs.YthjkgbcomjiejadGreatDoor
open Go.RowKit
set_option linter.unusedVariables false

theorem infoS : (Tryz.prog.info? 9).map (fun i => (i.zero, i.size, i.bytes)) = some (some (.string ByteArray.empty), 1, 16) := by kernel_rfl
theorem fl_fs (l : List ByteArray) : fl fs l = l.map Value.string := by
  induction l with
  | nil => rfl
  | cons x r ih => rw [fl_cons, ih]; rfl
theorem empty_yes {x : ByteArray} (h : x.size = 0) : (x.toList == []) = true := by
  have h1 : x.data.toList.length = x.size := (Lib.size_eq x).symm
  have h2 : x.data.toList = [] := List.eq_nil_of_length_eq_zero (by omega)
  rw [ByteArray.toList_eq, h2]
  rfl
theorem empty_no {x : ByteArray} (h : ¬ x.size = 0) : (x.toList == []) = false := by
  have h1 : x.data.toList.length = x.size := (Lib.size_eq x).symm
  rw [ByteArray.toList_eq]
  cases h2 : x.data.toList with
  | nil => rw [h2] at h1; simp at h1; omega
  | cons _ _ => rfl
/-- lines that a call has laid. -/
def LnP (s : ByteArray) (w : World) (e : Ending) (w' : World) : Prop :=
  ∃ A c, e = .returned (.slice A (lns s).length c) ∧ SW w' A (lns s) ∧ (∀ b, A.map (·.block) = some b → w.heap.size ≤ b ∧ b < w'.heap.size) ∧ Below w.heap.size w w'
theorem SW.take {w : World} {A : Option Addr} {l : List ByteArray} {n : Nat} (h : SW w A l) : SW w A (l.take n) := by
  intro i t ht
  refine h i t ?_
  rw [List.getElem?_take] at ht
  split at ht
  · exact ht
  · cases ht
set_option maxHeartbeats 1000000 in
set_option maxRecDepth 100000 in
theorem linesOf_any (s : ByteArray) (w : World) (hs : s.size ≤ 16777216) :
    Calls Tryz.prog 61 #[.string s] w (LnP s w) := by
  have hp := parts_split s ⟨#[10]⟩ rfl
  have hlen := Lib.splitB_all (⟨#[10]⟩ : ByteArray) (Nat.le_refl 1) 0 _ s rfl
  rw [hp] at hlen
  have hpl := parts_len s
  go_enter Tryz.func61, Tryz.ntmps61
  go_wp2_with fail
  refine (split_byte Tryz.lays146 infoS s 10 _ (by omega)).mono ?_
  rintro e w1 ⟨rfl, hw⟩
  rw [hp] at hw
  rw [← hlen]
  have hk : BlkL w1 w.heap.size 9 (fl fs (parts s)) := by
    rw [hw, fl_fs]
    exact BlkL.new w 9 _
  have hb : Below w.heap.size w w1 := by rw [hw]; exact (Below.refl _ _).alloc (Nat.le_refl _) _
  have HK := Lib.hid hk
  have HB := Lib.hid hb
  have hsw : SW w1 (some ⟨w.heap.size, 0, none⟩) (parts s) := RS.of_blk fs_len hk
  have hl := (RS.get hsw (lastP_at s)).2 0 (by decide)
  simp [fs] at hl
  have hlt := hk.lt
  obtain ⟨g, hg⟩ : ∃ g, w.heap.size = g := ⟨_, rfl⟩
  rw [hg] at hl hlt hsw ⊢
  have HS := Lib.hid hsw
  obtain ⟨n, hn⟩ : ∃ n, (parts s).length = n + 1 := ⟨(parts s).length - 1, by omega⟩
  rw [hn, Nat.add_sub_cancel] at hl
  rw [hn] at hpl ⊢
  have HN := Lib.hid hn
  clear hw hp hlen hk hb hsw hn
  by_cases h0 : (lastP s).size = 0
  · have hq : ((lastP s).toList == []) = true := empty_yes h0
    have HE := Lib.hid (show lns s = (parts s).take n by unfold lns; rw [if_pos h0, HN.out, Nat.add_sub_cancel])
    clear h0
    go_wp2_with fail
    go_ret
    refine ⟨some ⟨g, 0, none⟩, n + 1, ?_, ?_, (fun b hb => by simp at hb; omega), HB.out⟩
    · rw [HE.out, List.length_take, HN.out, Nat.min_eq_left (by omega)]; rfl
    · rw [HE.out]; exact HS.out.take
  · have hq : ((lastP s).toList == []) = false := empty_no h0
    have HE := Lib.hid (show lns s = parts s by unfold lns; rw [if_neg h0])
    clear h0
    go_wp2_with fail
    go_ret
    refine ⟨some ⟨g, 0, none⟩, n + 1, ?_, ?_, (fun b hb => by simp at hb; omega), HB.out⟩
    · rw [HE.out, HN.out]; rfl
    · rw [HE.out]; exact HS.out
end Go.Proofs.YthjkgbcomjiejadGreatDoor
