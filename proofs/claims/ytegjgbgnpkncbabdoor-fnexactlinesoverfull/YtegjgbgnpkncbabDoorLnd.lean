/-
  LineWidths and IndentsOf on both sides.
-/
import Derived.Test.YtegjgbgnpkncbabDoorLnb
import Derived.Test.YtegjgbgnpkncbabDoorInts
import Derived.Lib.TrimByte
namespace Go.Proofs.YtegjgbgnpkncbabDoor
open Go.RowKit
set_option linter.unusedVariables false

theorem infoI : (Tryd.prog.info? 3).map (fun i => (i.zero, i.size, i.bytes)) = some (some (.int .i64 0), 1, 8) := by kernel_rfl
theorem nums_setL (xs : List Int) (i : Nat) (x : Int) : (nums xs).set i (.int .i64 x) = nums (xs.set i x) := by simp [nums]
def szL (l : List ByteArray) : List Int := l.map fun x => (x.size : Int)
theorem szL_len (l : List ByteArray) : (szL l).length = l.length := by simp [szL]
theorem szL_at {l : List ByteArray} {k : Nat} {x : ByteArray} (h : l[k]? = some x) : (szL l)[k]? = some (x.size : Int) := by simp [szL, h]
/-- how many blanks a text begins with. -/
def ldB (x : ByteArray) : Nat := (x.data.toList.takeWhile (· == 32)).length
theorem ldB_le (x : ByteArray) : ldB x ≤ x.size := by
  have h1 : x.data.toList.length = x.size := (Lib.size_eq x).symm
  have := (List.takeWhile_prefix (p := fun b : UInt8 => b == 32) (l := x.data.toList)).length_le
  unfold ldB
  omega
def idL (l : List ByteArray) : List Int := l.map fun x => (ldB x : Int)
theorem idL_len (l : List ByteArray) : (idL l).length = l.length := by simp [idL]
theorem idL_at {l : List ByteArray} {k : Nat} {x : ByteArray} (h : l[k]? = some x) : (idL l)[k]? = some (ldB x : Int) := by simp [idL, h]
theorem trimLeft_len (c : UInt8) : ∀ l : List UInt8, (Lib.trimLeftB l c).length + (l.takeWhile (· == c)).length = l.length
  | [] => rfl
  | b :: r => by
    by_cases h : b = c
    · subst h
      have := trimLeft_len b r
      simp [Lib.trimLeftB, List.takeWhile] at this ⊢
      omega
    · have hb : (b == c) = false := by simp [h]
      simp [Lib.trimLeftB, List.takeWhile, hb]
theorem ld_at {x : ByteArray} {n : Nat} (h : ∀ k, k < n → ∃ hk : k < x.size, x[k] = 32) (hn : n ≤ x.size) (hs : n = x.size ∨ ∃ hk : n < x.size, x[n] ≠ 32) : ldB x = n := by
  have h1 : x.data.toList.length = x.size := (Lib.size_eq x).symm
  have e : ∀ (l : List UInt8) (n : Nat), (∀ k, k < n → l[k]? = some 32) → (n = l.length ∨ ∃ b, l[n]? = some b ∧ b ≠ 32) → (l.takeWhile (· == 32)).length = n := by
    intro l
    induction l with
    | nil =>
      intro n hk hs
      rcases hs with h | ⟨b, h, _⟩
      · simp at h; subst h; rfl
      · simp at h
    | cons b r ih =>
      intro n hk hs
      cases n with
      | zero =>
        rcases hs with h | ⟨c, h, hc⟩
        · simp at h
        · simp at h
          subst h
          have hb : (b == 32) = false := by simp [hc]
          simp [List.takeWhile, hb]
      | succ n =>
        have hb := hk 0 (by omega)
        simp at hb
        subst hb
        have := ih n (fun k hk2 => by have := hk (k + 1) (by omega); simpa using this) (by
          rcases hs with h | ⟨c, h, hc⟩
          · left; simpa using h
          · right; exact ⟨c, by simpa using h, hc⟩)
        simp [List.takeWhile, this]
  unfold ldB
  refine e _ n (fun k hk => ?_) ?_
  · obtain ⟨h2, h3⟩ := h k hk
    rw [List.getElem?_eq_getElem (by omega), ← h3]
    rfl
  · rcases hs with h2 | ⟨h2, h3⟩
    · left; omega
    · right
      exact ⟨x[n], by rw [List.getElem?_eq_getElem (by omega)]; rfl, h3⟩
theorem ints_own {w w' : World} {v : Value} {n : Nat} {xs : List Int} (hn : xs.length = n) (h : w'.ownsRow w.heap.size 3 1 v n (nums xs)) (hb : Below w.heap.size w w') : IntsOut w xs (.returned v) w' := by
  subst hn
  obtain ⟨A, c, rfl⟩ := os_slice h
  obtain ⟨h1, h2, h3⟩ := row_of_own h
  exact ⟨hb, A, c, rfl, h2, h3, h1⟩
set_option maxHeartbeats 1000000 in
set_option maxRecDepth 100000 in
theorem sLineWidths_any (s : ByteArray) (w : World) (hs : s.size ≤ 16777216) :
    Calls Tryd.prog 15 #[.string s] w (IntsOut w (szL (lns s))) := by
  obtain ⟨i0, hi0, hz0, hz1, hz2⟩ := info_parts infoI
  have hlen := lns_len s
  have HSZ := Lib.hid (fun x (hx : x ∈ lns s) => lns_size hx)
  go_enter Tryd.func15, Tryd.ntmps15
  go_wp2_with fail
  have hb0 := (Below.refl w.heap.size w).alloc (Nat.le_refl _) (.cells #[] 3)
  have ho0 := os_lit0 w 3
  generalize w.alloc (.cells #[] 3) = w0 at *
  refine (l10Lines_any s _ (by omega)).mono ?_
  rintro e w1 ⟨A, c, rfl, hsw, hlo, hb⟩
  have HO1 := Lib.hid (os_below ho0 hb)
  have HB1 := Lib.hid (hb0.trans (hb.mono hb0.size))
  have HL := Lib.hid hsw
  have HLO := Lib.hid hlo
  have hs0 : w.heap.size < w0.heap.size := ho0.lt w.heap.size rfl |>.2
  clear ho0 hb0 hb hsw hlo
  obtain ⟨l, hl⟩ : ∃ l, lns s = l := ⟨_, rfl⟩
  have HLN := Lib.hid hl
  rw [hl] at HL HSZ hlen
  clear hl
  obtain ⟨n, hn⟩ : ∃ n, l.length = n := ⟨_, rfl⟩
  rw [HLN.out, hn]
  rw [hn] at hlen
  have HN := Lib.hid hn
  clear hn
  go_wp2_with fail
  go_loopw [3, 5] (fun v iv wr => ∃ k : Nat, k ≤ n ∧ iv = .int .i64 k ∧ wr.ownsRow w.heap.size 3 1 v k (nums (szL (l.take k))) ∧ Below w.heap.size w wr ∧ SW wr A l ∧ (∀ g b, v.ownBlock = some g → A.map (·.block) = some b → g ≠ b ∧ b < wr.heap.size)) (fun _ iv _ => n - (intOf iv).toNat)
  case atStart => exact ⟨0, Nat.zero_le _, rfl, HO1.out, HB1.out, HL.out, fun g b hg hb => by have := HLO.out b hb; have : w.heap.size = g := Option.some.inj hg; omega⟩
  case round =>
    obtain ⟨k, hk, rfl, hown, hb, hsw, hne⟩ := hrel
    have HO := Lib.hid hown
    have HB := Lib.hid hb
    have HSW := Lib.hid hsw
    have HNE := Lib.hid hne
    have hsz := hb.size
    obtain ⟨Av, cv, rfl⟩ := os_slice hown
    clear hown hb hsw hne HO1 HB1
    by_cases hkl : k < n
    · obtain ⟨x, b, o, hx, rfl, hbl, c0⟩ := HSW.out.at (k := k) (by have := HN.out; omega)
      have hxs := HSZ.out x (List.mem_of_getElem? hx)
      have HT := Lib.hid (show l.take (k + 1) = l.take k ++ [x] by rw [List.take_add_one, hx]; rfl)
      clear hx
      have hS := BlkL.new wr 3 [.int .i64 ((x.size : Int))]
      have hb3 := (Below.refl wr.heap.size wr).alloc (Nat.le_refl _) (.cells #[.int .i64 ((x.size : Int))] 3)
      have HO3 := Lib.hid (os_below HO.out hb3)
      have HB3 := Lib.hid (HB.out.trans (hb3.mono hsz))
      have HW3 := Lib.hid (HSW.out.below hb3)
      have HS := Lib.hid hS
      have hz3 : w.heap.size ≤ (wr.alloc (.cells #[.int .i64 ((x.size : Int))] 3)).heap.size := HB3.out.size
      have hbz : b < (wr.alloc (.cells #[.int .i64 ((x.size : Int))] 3)).heap.size := Nat.lt_of_lt_of_le hbl hb3.size
      clear hS hb3
      go_wp2_with (at_builtin; refine wpList_append_own_at _ rfl _ _ 24 rfl w.heap.size 3 i0 (.int .i64 0) 1 8 Tryd.underlying24 hi0 hz0 hz1 hz2 rfl (by decide) _ _ _ rfl HO3.out ⟨wr.heap.size, 0, none⟩ 1 1 [.int .i64 ((x.size : Int))] rfl rfl (fun j u hj => by rw [Addr.add_lit, Nat.zero_add]; exact (HS.out.cell j).trans hj) (os_int _) (by simp only [maxLen]; omega) (by omega) hz3 ?_)
      intro v' w5 hown5 hgr5 _ hat5
      have HB5 := Lib.hid (HB3.out.grown hgr5 hz3 (fun g hg => (HO3.out.lt g hg).1))
      have HW5 := Lib.hid (HW3.out.grown hgr5 (fun b' hb' e => (HNE.out b' b' e.symm hb').1 rfl))
      have HN5 := Lib.hid (show ∀ g b', v'.ownBlock = some g → (some (⟨b, o, none⟩ : Addr)).map (·.block) = some b' → g ≠ b' ∧ b' < w5.heap.size from fun g b' hg hb' => by
        have hb2 : b = b' := Option.some.inj hb'
        subst hb2
        refine ⟨?_, Nat.lt_of_lt_of_le hbz hgr5.size⟩
        rcases hat5 with e | e
        · exact (HNE.out g b (e.symm.trans hg) rfl).1
        · rw [e] at hg
          have := Option.some.inj hg
          omega)
      obtain ⟨A5, c5, rfl⟩ := os_slice hown5
      have HO5 := Lib.hid (show w5.ownsRow w.heap.size 3 1 (.slice A5 (k + 1) c5) (k + 1) (nums (szL (l.take (k + 1)))) by rw [HT.out, szL, List.map_append]; unfold szL at hown5; simpa [nums] using hown5)
      clear hown5 hgr5 hat5 HO3 HB3 HS HW3
      go_wp2_with fail
      go_roundw
      case rel => exact ⟨k + 1, by omega, by go_num, HO5.out, HB5.out, HW5.out, HN5.out⟩
      case measure => simp [intOf]; omega
    · obtain rfl : k = n := by omega
      have HF := Lib.hid (show l.take k = l by rw [← HN.out, List.take_length])
      rw [HF.out] at HO
      go_wp2_with fail
      go_ret
      rw [HLN.out]
      exact ints_own (by rw [szL_len]; exact HN.out) HO.out HB.out
end Go.Proofs.YtegjgbgnpkncbabDoor
