/-
  endsTrimmed of the program.
-/
import Derived.Test.YthjkgbcomjiejadGreatDoorTrm
import Derived.Test.YthjkgbcomjiejadGreatDoorLna
import Derived.Test.YthjkgbcomjiejadGreatDoorJin
import Derived.Lib.TrimByte
import Derived.Test.YthjkgbcomjiejadGreatDoorLnb
namespace Go.Proofs.YthjkgbcomjiejadGreatDoor
open Go.RowKit
set_option linter.unusedVariables false

/-- texts with c between each two. -/
def jn (c : UInt8) : List (List UInt8) → List UInt8
  | [] => []
  | [p] => p
  | p :: q :: r => p ++ c :: jn c (q :: r)
theorem jn_cons {c : UInt8} {p : List UInt8} {L : List (List UInt8)} (h : L ≠ []) : jn c (p :: L) = p ++ c :: jn c L := by
  cases L with
  | nil => exact absurd rfl h
  | cons x r => rfl
theorem jn_snoc {c : UInt8} {p : List UInt8} : ∀ {L : List (List UInt8)}, L ≠ [] → jn c (L ++ [p]) = jn c L ++ [c] ++ p
  | [], h => absurd rfl h
  | [x], _ => by simp [jn]
  | x :: y :: r, _ => by
    have ih := jn_snoc (c := c) (p := p) (L := y :: r) (by simp)
    rw [show (x :: y :: r) ++ [p] = x :: ((y :: r) ++ [p]) from rfl, jn_cons (by simp), ih, jn_cons (L := y :: r) (by simp)]
    simp
theorem jnN_jn (c : UInt8) (xs : List ByteArray) : ∀ k, k ≤ xs.length → jnN c xs k = jn c ((xs.take k).map fun x => x.data.toList)
  | 0, _ => by simp [jnN, jn]
  | 1, h => by
    have hx := List.getElem?_eq_getElem (show 0 < xs.length by omega)
    rw [jnN_first hx, List.take_add_one, hx]
    simp [jn]
  | k + 2, h => by
    have hx := List.getElem?_eq_getElem (show k + 1 < xs.length by omega)
    have e : xs.take (k + 2) = xs.take (k + 1) ++ [xs[k + 1]] := by rw [List.take_add_one, hx]; rfl
    rw [jnN_next hx, jnN_jn c xs (k + 1) (by omega), e, List.map_append, List.map_singleton, jn_snoc]
    intro e
    have := congrArg List.length e
    simp only [List.length_map, List.length_take, List.length_nil] at this
    omega
theorem cutB_after (acc : List UInt8) (h : acc = [] ∨ ∃ a, acc = a ++ [10]) : ∀ (n : Nat) (y : List UInt8), y.length = n → cutB (acc ++ y) = acc ++ cutB y
  | 0, y, hy => by
    obtain rfl := List.eq_nil_of_length_eq_zero hy
    rw [List.append_nil, cutB_nil, List.append_nil]
    rcases h with rfl | ⟨a, rfl⟩
    · rfl
    · rw [cutB_snoc, if_neg (by decide)]
  | n + 1, y, hy => by
    rcases nil_or_snoc y with rfl | ⟨z, c, rfl⟩
    · simp at hy
    · have hz : z.length = n := by simp at hy; omega
      rw [← List.append_assoc, cutB_snoc, cutB_snoc, cutB_after acc h n z hz]
      split
      · rfl
      · rw [List.append_assoc]
theorem cu_fold (x : List UInt8) : ∀ (acc p : List UInt8), (acc = [] ∨ ∃ a, acc = a ++ [10]) → cutB (x.foldl cuS (acc ++ p)) = acc ++ jn 10 ((pre p (prt 10 x)).map cutB) := by
  induction x with
  | nil =>
    intro acc p h
    rw [prt_nil, pre_cons, List.append_nil]
    exact cutB_after acc h _ p rfl
  | cons b r ih =>
    intro acc p h
    rw [List.foldl_cons]
    by_cases hb : b = 10
    · subst hb
      have e : cuS (acc ++ p) 10 = (acc ++ cutB p ++ [10]) ++ [] := by
        unfold cuS
        rw [if_pos rfl, cutB_after acc h _ p rfl, List.append_nil]
      have hne : (prt 10 r).map cutB ≠ [] := by
        intro e
        exact prt_pos 10 r (List.map_eq_nil_iff.1 e)
      rw [e, ih _ _ (.inr ⟨_, rfl⟩), pre_nil (prt_pos _ _), prt_eq, pre_cons, List.append_nil, List.map_cons, jn_cons hne]
      simp
    · have e : cuS (acc ++ p) b = acc ++ (p ++ [b]) := by
        unfold cuS
        rw [if_neg hb, List.append_assoc]
      rw [e, ih _ _ h, prt_cons _ hb, pre_pre]
/-- what the model trims is what is joined of the trimmed pieces. -/
theorem cuB_jn (x : List UInt8) : cuB x = jn 10 ((prt 10 x).map cutB) := by
  have h := cu_fold x [] [] (.inl rfl)
  rw [pre_nil (prt_pos _ _)] at h
  unfold cuB cuN
  rw [List.take_length]
  simpa using h
/-- the pieces of a text, each without the blanks at its end. -/
def cutP (s : ByteArray) : List ByteArray := (parts s).map fun x => toB (cutB x.data.toList)
theorem cutP_len (s : ByteArray) : (cutP s).length = (parts s).length := by simp [cutP]
theorem cutP_at {s x : ByteArray} {k : Nat} (h : (parts s)[k]? = some x) : (cutP s)[k]? = some (toB (cutB x.data.toList)) := by simp [cutP, h]
theorem cutP_size {s x : ByteArray} (h : x ∈ cutP s) : x.size ≤ s.size := by
  unfold cutP at h
  obtain ⟨y, hy, rfl⟩ := List.mem_map.1 h
  have h1 := parts_size hy
  have h2 := cutB_le y.data.toList
  have h3 : y.data.toList.length = y.size := (Lib.size_eq y).symm
  rw [toB_size]
  omega
theorem cutP_join (s : ByteArray) : jnN 10 (cutP s) (parts s).length = cuB s.data.toList := by
  rw [jnN_jn _ _ _ (by rw [cutP_len]; exact Nat.le_refl _), ← cutP_len, List.take_length, cuB_jn]
  unfold cutP parts
  rw [List.map_map, List.map_map]
  congr 1
theorem trimRight_cut (l : List UInt8) : Lib.trimRightB l 32 = cutB l := rfl
/-- the first k pieces are trimmed, the others not yet. -/
def cutTo (s : ByteArray) (k : Nat) : List ByteArray := (cutP s).take k ++ (parts s).drop k
theorem cutTo_zero (s : ByteArray) : cutTo s 0 = parts s := by simp [cutTo]
theorem cutTo_all (s : ByteArray) : cutTo s (parts s).length = cutP s := by
  unfold cutTo
  rw [List.drop_length, List.append_nil, ← cutP_len, List.take_length]
theorem cutTo_length (s : ByteArray) (k : Nat) : (cutTo s k).length = (parts s).length := by
  unfold cutTo
  rw [List.length_append, List.length_take, List.length_drop, cutP_len]
  omega
theorem cutTo_at {s : ByteArray} {k : Nat} : (cutTo s k)[k]? = (parts s)[k]? := by
  unfold cutTo
  by_cases h : k < (parts s).length
  · have hl : ((cutP s).take k).length = k := by rw [List.length_take, cutP_len]; omega
    rw [List.getElem?_append_right (by omega), hl, Nat.sub_self, List.getElem?_drop, Nat.add_zero]
  · rw [List.getElem?_eq_none (by have := cutTo_length s k; unfold cutTo at this; omega), List.getElem?_eq_none (by omega)]
theorem cutTo_set {s x : ByteArray} {k : Nat} (h : (parts s)[k]? = some x) : (cutTo s k).set k (toB (cutB x.data.toList)) = cutTo s (k + 1) := by
  have hk : k < (parts s).length := (List.getElem?_eq_some_iff.1 h).1
  have hl : ((cutP s).take k).length = k := by rw [List.length_take, cutP_len]; omega
  unfold cutTo
  rw [List.set_append_right _ _ (by omega), hl, Nat.sub_self, List.take_add_one, cutP_at h, List.drop_eq_getElem_cons hk, List.set_cons_zero]
  simp
end Go.Proofs.YthjkgbcomjiejadGreatDoor
namespace Go.Proofs.YthjkgbcomjiejadGreatDoor
open Go.RowKit
set_option linter.unusedVariables false

set_option maxHeartbeats 2000000 in
set_option maxRecDepth 100000 in
theorem endsTrimmed_any (s : ByteArray) (w : World) (hs : s.size ≤ 20000) :
    Calls Tryz.prog 53 #[.string s] w fun e w' => e = .returned (.string ⟨(cuB s.data.toList).toArray⟩) ∧ Below w.heap.size w w' := by
  have hp := parts_split s ⟨#[10]⟩ rfl
  have hlen := Lib.splitB_all (⟨#[10]⟩ : ByteArray) (Nat.le_refl 1) 0 _ s rfl
  rw [hp] at hlen
  have hpl := parts_len s
  have HJ := Lib.hid (cutP_join s)
  have HCL := Lib.hid (cutP_len s)
  go_enter Tryz.func53, Tryz.ntmps53
  go_wp2_with fail
  refine (split_byte Tryz.lays146 infoS s 10 _ (by omega)).mono ?_
  rintro e w1 ⟨rfl, hw⟩
  rw [hp] at hw
  rw [← hlen]
  have hk : BlkL w1 w.heap.size 9 (fl fs (cutTo s 0)) := by
    rw [hw, cutTo_zero, fl_fs]
    exact BlkL.new w 9 _
  have hb : Below w.heap.size w w1 := by rw [hw]; exact (Below.refl _ _).alloc (Nat.le_refl _) _
  obtain ⟨g, hg⟩ : ∃ g, w.heap.size = g := ⟨_, rfl⟩
  rw [hg] at hk ⊢
  have HK := Lib.hid hk
  have HB := Lib.hid hb
  have HG := Lib.hid hg
  obtain ⟨n, hn⟩ : ∃ n, (parts s).length = n := ⟨_, rfl⟩
  rw [hn] at hpl HJ ⊢
  have HN := Lib.hid hn
  clear hw hp hlen hk hb hn hg
  go_wp2_with fail
  go_loopw [10] (fun iv wr => ∃ k : Nat, k ≤ n ∧ iv = .int .i64 k ∧ BlkL wr g 9 (fl fs (cutTo s k)) ∧ Below w.heap.size w wr) (fun iv _ => n - (intOf iv).toNat)
  case atStart => exact ⟨0, Nat.zero_le _, rfl, HK.out, HB.out⟩
  case round =>
    obtain ⟨k, hk, rfl, hbk, hb⟩ := hrel
    have HK2 := Lib.hid hbk
    have HB2 := Lib.hid hb
    have hglt := hbk.lt
    clear hbk hb HK HB
    by_cases hkl : k < n
    · have hx : (parts s)[k]? = some ((parts s)[k]'(by have := HN.out; omega)) := List.getElem?_eq_getElem _
      obtain ⟨x, hxe⟩ : ∃ x, (parts s)[k]'(by have := HN.out; omega) = x := ⟨_, rfl⟩
      rw [hxe] at hx
      have hxs := parts_size (List.mem_of_getElem? hx)
      have HS := Lib.hid (cutTo_set hx)
      have c0 : wr.cell? ⟨g, k, none⟩ = some (.string x) := by
        rw [HK2.out.cell k, fl_fs, List.getElem?_map, cutTo_at, hx]
        rfl
      have f0 := HK2.out.frozen k
      clear hx hxe
      go_wp2_with fail
      refine (Any.strings_TrimRight_one Tryz.lays162 x 32 (by decide) _ (by omega)).mono ?_
      rintro e w2 ⟨rfl, rfl⟩
      rw [trimRight_cut, show (⟨(cutB x.data.toList).toArray⟩ : ByteArray) = toB (cutB x.data.toList) from rfl]
      have HK3 := Lib.hid (show BlkL (w2.setCell ⟨g, k, none⟩ (.string (toB (cutB x.data.toList)))) g 9 (fl fs (cutTo s (k + 1))) by
        have h := HK2.out.set k (.string (toB (cutB x.data.toList)))
        rw [fl_fs, ← List.map_set, HS.out, ← fl_fs] at h
        exact h)
      have HB3 := Lib.hid (HB2.out.setCell (p := ⟨g, k, none⟩) (show w.heap.size ≤ g from Nat.le_of_eq HG.out) (.string (toB (cutB x.data.toList))))
      generalize toB (cutB x.data.toList) = y at *
      clear hglt
      go_wp2_with fail
      go_roundw
      case rel => exact ⟨k + 1, by omega, by go_num, HK3.out, HB3.out⟩
      case measure => simp [intOf]; omega
    · obtain rfl : k = n := by omega
      have HK4 := Lib.hid (show BlkL wr g 9 (fl fs (cutP s)) by
        have h := HK2.out
        rw [← HN.out, cutTo_all] at h
        exact h)
      clear HK2
      have hcells : ∀ (j : Nat) (x : ByteArray), (cutP s)[j]? = some x → wr.cell? ⟨g, 0 + j, none⟩ = some (.string x) := by
        intro j x hj
        rw [Nat.zero_add, HK4.out.cell j, fl_fs, List.getElem?_map, hj]
        rfl
      have hCL : (cutP s).length = k := by rw [HCL.out, HN.out]
      by_cases h1 : k = 1
      · subst h1
        have hx : (cutP s)[0]? = some ((cutP s)[0]'(by omega)) := List.getElem?_eq_getElem _
        obtain ⟨x, hxe⟩ : ∃ x, (cutP s)[0]'(by omega) = x := ⟨_, rfl⟩
        rw [hxe] at hx
        have c0 := hcells 0 x hx
        have HX := Lib.hid (show cuB s.data.toList = x.data.toList by rw [← HJ.out, jnN_first hx])
        clear hx hxe hcells
        go_wp2_with fail
        refine (Join_one 10 g 0 1 x wr c0 (Nat.le_refl _)).mono ?_
        rintro e w2 ⟨rfl, rfl⟩
        go_wp2_with fail
        go_ret
        rw [HX.out]
        exact ⟨rfl, HB2.out⟩
      · have hN : k * (s.size + 1) ≤ 1000000000 := by
          have h := Nat.mul_le_mul (show k ≤ 20001 by omega) (show s.size + 1 ≤ 20001 by omega)
          omega
        have HJN := Lib.hid (Join_gen 10 g 0 k (cutP s) k s.size wr hCL (by omega) hN (fun x hx => cutP_size hx) hglt (Nat.le_refl _) hcells)
        clear hN hcells
        go_wp2_with fail
        refine HJN.out.mono ?_
        rintro e w2 ⟨rfl, hb⟩
        have HB5 := Lib.hid (HB2.out.trans (hb.mono HB2.out.size))
        rw [HJ.out]
        clear hb
        go_wp2_with fail
        go_ret
        exact ⟨rfl, HB5.out⟩
end Go.Proofs.YthjkgbcomjiejadGreatDoor
