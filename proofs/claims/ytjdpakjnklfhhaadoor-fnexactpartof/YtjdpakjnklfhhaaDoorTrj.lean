/-
  ChildrenOf on both sides.
-/
import Derived.Test.YtjdpakjnklfhhaaDoorTri
import Derived.Test.YtjdpakjnklfhhaaDoorIrw
namespace Go.Proofs.YtjdpakjnklfhhaaDoor
open Go.RowKit
set_option linter.unusedVariables false

theorem own_low' {w : World} {B C z : Nat} {e : TypeId} {v : Value} {n : Nat} {xs : List Value} (h : w.ownsRow B e z v n xs) (hc : C ≤ B) : w.ownsRow C e z v n xs := by
  refine ⟨h.1, ?_⟩
  rcases h.2 with h2 | ⟨g, cap, cur, hv, hb, h3⟩
  · exact .inl h2
  · exact .inr ⟨g, cap, cur, hv, Nat.le_trans hc hb, h3⟩
def ints (ks : List Nat) : List Int := ks.map (fun (j : Nat) => (j : Int))
theorem plc_nums (ks : List Nat) : plc ks = nums (ints ks) := by simp [plc, nums, ints]
theorem ints_len (ks : List Nat) : (ints ks).length = ks.length := by simp [ints]
/-- what ChildrenOf tells. -/
noncomputable def chs (l : List Nd) (k : Int) : List Int := if treB l = true ∧ inB k (-1) ((l.length : Int) - 1) = true then ints (kidsN l (k + 1).toNat l.length) else []
theorem chs_le (l : List Nd) (k : Int) : (chs l k).length ≤ 200 := by
  unfold chs
  split
  · rename_i h
    rw [ints_len]
    have := kidsN_len l (k + 1).toNat l.length
    have := (treB_ok h.1).len
    omega
  · simp
theorem chs_no {l : List Nd} {k : Int} (h : treB l = false ∨ inB k (-1) ((l.length : Int) - 1) = false) : chs l k = [] := by
  unfold chs
  rw [if_neg]
  rintro ⟨h1, h2⟩
  rcases h with h | h
  · rw [h] at h1; cases h1
  · rw [h] at h2; cases h2
theorem chs_yes {l : List Nd} {i : Nat} (h1 : treB l = true) (h2 : i ≤ l.length) : chs l ((i : Int) - 1) = ints (kidsN l i l.length) := by
  unfold chs
  rw [if_pos ⟨h1, inB_true.2 (by omega)⟩, show ((i : Int) - 1 + 1).toNat = i by omega]
theorem out_nil (w w' : World) (hb : Below w.heap.size w w') : IntsOut w [] (.returned (.slice none 0 0)) w' := ⟨hb, none, 0, rfl, fun b hb => by simp at hb, fun _ => rfl, .inl ⟨rfl, rfl⟩⟩
theorem out_own {w w' : World} {v : Value} {ks : List Nat} (ho : w'.ownsRow w.heap.size 3 1 v ks.length (plc ks)) (hb : Below w.heap.size w w') : IntsOut w (ints ks) (.returned v) w' := by
  obtain ⟨A, c, rfl⟩ := own_slice ho
  rw [plc_nums] at ho
  obtain ⟨h1, h2, h3⟩ := row_of_own ho
  exact ⟨hb, A, c, by rw [ints_len], h2, h3, h1⟩
set_option maxHeartbeats 1000000 in
set_option maxRecDepth 100000 in
theorem sChildrenOf_out (A : Option Addr) (l : List Nd) (n c : Nat) (k : Int) (w : World) (hn : l.length = n) (hm : n ≤ 2097152) (hl : NS w A l) (hs : ∀ (i : Nat) (x : Nd), l[i]? = some x → x.s.size ≤ 1048576) (hkw : (Lit.int .i64 k).wf = true) :
    Calls Tryd.prog 15 #[.slice A n c, .int .i64 k] w (IntsOut w (chs l k)) := by
  have HN := Lib.hid hn
  have HL := Lib.hid hl
  go_enter Tryd.func15, Tryd.ntmps15
  go_wp2_with fail
  refine (sTreeOk_any A l n c w hn hm hl hs).mono ?_
  rintro e w1 ⟨rfl, hb⟩
  have HB1 := Lib.hid hb
  clear hb hn hl hs
  cases ht : treB l
  · have HI := Lib.hid (chs_no (k := k) (.inl ht))
    clear ht
    go_wp2
    go_ret
    rw [HI.out]
    exact out_nil _ _ HB1.out
  have HT := Lib.hid ht
  clear ht
  cases hq : inB k (-1) ((n : Int) - 1)
  · have HI := Lib.hid (chs_no (l := l) (k := k) (.inr (by rw [HN.out]; exact hq)))
    go_wp2_with (go_at_call 44; refine (l01In_any _ _ _ _).mono ?_; rintro e w' ⟨rfl, rfl⟩; rw [hq])
    go_ret
    rw [HI.out]
    exact out_nil _ _ HB1.out
  · have hk := inB_true.1 hq
    obtain ⟨i, hi⟩ : ∃ i : Nat, k = (i : Int) - 1 := ⟨(k + 1).toNat, by omega⟩
    have hin : i ≤ n := by omega
    have HI := Lib.hid (show chs l k = ints (kidsN l i n) by rw [hi, chs_yes HT.out (by rw [HN.out]; exact hin), HN.out])
    have HKK := Lib.hid hi
    have HQ := Lib.hid hq
    clear hq hk hi
    go_wp2_with (go_at_call 44; refine (l01In_any _ _ _ _).mono ?_; rintro e w' ⟨rfl, rfl⟩; rw [HQ.out])
    go_wp2_with fail
    have hc := l07Kids_any A l n c i w1 HN.out hm (HL.out.below HB1.out) (treB_ok HT.out).upTo hin
    rw [← HKK.out] at hc
    refine hc.mono ?_
    rintro e w2 ⟨v, rfl, ho, hb2⟩
    have HO2 := Lib.hid (own_low' ho HB1.out.size)
    have HB2 := Lib.hid (HB1.out.trans (hb2.mono HB1.out.size))
    obtain ⟨A2, c2, rfl⟩ := own_slice ho
    clear ho hb2 hc
    go_wp2
    go_ret
    rw [HI.out]
    exact out_own HO2.out HB2.out
set_option maxHeartbeats 1000000 in
set_option maxRecDepth 100000 in
theorem ChildrenOf_out (A : Option Addr) (l : List Nd) (n c : Nat) (k : Int) (w : World) (hn : l.length = n) (hm : n ≤ 2097152) (hl : NS w A l) (hg : ErrV w) (hkw : (Lit.int .i64 k).wf = true) :
    Calls Tryd.prog 16 #[.slice A n c, .int .i64 k] w (IntsOut w (chs l k)) := by
  obtain ⟨i0, hi0, hz0, hz1, hz2⟩ := info_parts infoI
  have HN := Lib.hid hn
  go_enter Tryd.func16, Tryd.ntmps16
  go_wp2_with fail
  refine (planted_any A l n c w hn hm hl hg).mono ?_
  rintro e w1 ⟨hb, h | ⟨ht, g, c1, ps, vs, rfl, hfo, hgl, hc⟩⟩
  · obtain ⟨h0, rfl⟩ := h
    have HI := Lib.hid (chs_no (k := k) (.inl h0))
    have HB1 := Lib.hid hb
    have hq : inB k (-1) (-2) = false := by
      cases e : inB k (-1) (-2)
      · rfl
      · have := inB_true.1 e; omega
    clear h0 hb hl hg hn
    go_wp2_with (go_at_call 50; refine (within_any _ _ _ _).mono ?_; rintro e w' ⟨rfl, rfl⟩; rw [hq])
    go_ret
    rw [HI.out]
    exact out_nil _ _ HB1.out
  have HT := Lib.hid ht
  have HB1 := Lib.hid hb
  have HF := Lib.hid hfo
  have HC := Lib.hid hc
  have hlen := ht.len
  clear hb ht hfo hc hl hg hn
  obtain ⟨m, hm1⟩ : ∃ m, l.length = m := ⟨_, rfl⟩
  rw [hm1] at HF hlen HC ⊢
  have HM := Lib.hid hm1
  have hm2 : ((m : Int) + 1 - 2) = (m : Int) - 1 := by omega
  clear hm1
  cases hq : inB k (-1) ((m : Int) - 1)
  · have HI := Lib.hid (chs_no (l := l) (k := k) (.inr (by rw [HM.out]; exact hq)))
    go_wp2_with (go_at_call 50; refine (within_any _ _ _ _).mono ?_; rintro e w' ⟨rfl, rfl⟩; first | rw [hq] | rw [hm2, hq])
    go_ret
    rw [HI.out]
    exact out_nil _ _ HB1.out
  · have hk := inB_true.1 hq
    obtain ⟨i, hi⟩ : ∃ i : Nat, k = (i : Int) - 1 := ⟨(k + 1).toNat, by omega⟩
    have hin : i ≤ m := by omega
    have HI := Lib.hid (show chs l k = ints (kidsN l i m) by rw [hi, chs_yes (treB_yes HT.out) (by rw [HM.out]; exact hin), HM.out])
    have hki : k + 1 = (i : Int) := by omega
    have HQ := Lib.hid hq
    have ci := HC.out i hin
    unfold ptr at ci
    obtain ⟨A9, c9, hv, hkid⟩ := HF.out.kid hin
    have hcell := HF.out.cells hin
    rw [hv] at hcell
    obtain ⟨_, _, _, _, _, d5, dl⟩ := hcell
    have hkl := kidsN_len l i m
    have HKM := Lib.hid (show ∀ x ∈ kidsN l i m, x < m from fun x hx => (kidsN_mem hx).1)
    obtain ⟨ks, hks⟩ : ∃ ks, kidsN l i m = ks := ⟨_, rfl⟩
    rw [hks] at hkid d5 hkl HKM HI
    have HKID := Lib.hid hkid
    clear hq hi hkid hks hv
    go_wp2_with (go_at_call 50; refine (within_any _ _ _ _).mono ?_; rintro e w' ⟨rfl, rfl⟩; first | rw [HQ.out] | rw [hm2, HQ.out])
    clear ci d5
    go_loopw [6, 26] (fun v iv wr => ∃ j : Nat, j ≤ ks.length ∧ iv = .int .i64 j ∧ wr.ownsRow w1.heap.size 3 1 v j (plc (ks.take j)) ∧ Below w1.heap.size w1 wr) (fun _ iv _ => ks.length - (intOf iv).toNat)
    case atStart => exact ⟨0, Nat.zero_le _, rfl, ⟨rfl, .inl ⟨rfl, rfl⟩⟩, Below.refl _ _⟩
    case round =>
      obtain ⟨j, hj, rfl, hown, hb⟩ := hrel
      have HO := Lib.hid hown
      have HB := Lib.hid hb
      have hsz : w1.heap.size ≤ wr.heap.size := hb.size
      obtain ⟨Av, cv, hAv⟩ := own_slice hown
      subst hAv
      clear hown hb
      by_cases hjl : j < ks.length
      · have hx := List.getElem?_eq_getElem hjl
        obtain ⟨x, hx'⟩ : ∃ x, ks[j] = x := ⟨_, rfl⟩
        rw [hx'] at hx
        obtain ⟨g', rfl, hgl', cg⟩ := HKID.out j x hx
        have cg' := (HB.out.cell (p := ⟨g', j, none⟩) hgl').trans cg
        have hxm := HKM.out x (List.mem_of_getElem? hx)
        obtain ⟨_, _, _, e3, _, _, el⟩ := (HF.out.below HB.out).cells (show x + 1 ≤ m by omega)
        rw [show (((x + 1 : Nat) : Int) - 1) = (x : Int) by omega] at e3
        have HTK := Lib.hid (show plc (ks.take (j + 1)) = plc (ks.take j) ++ [.int .i64 (x : Int)] by rw [List.take_add_one, hx]; simp [plc])
        unfold ptr at cg'
        clear hx hx' cg
        have hS := BlkL.new wr 3 [.int .i64 (x : Int)]
        have hb3 := (Below.refl wr.heap.size wr).alloc (Nat.le_refl _) (.cells #[.int .i64 (x : Int)] 3)
        have HO3 := Lib.hid (own_below HO.out hb3)
        have HB3 := Lib.hid (HB.out.trans (hb3.mono HB.out.size))
        have HS := Lib.hid hS
        have hz3 : w1.heap.size ≤ (wr.alloc (.cells #[.int .i64 (x : Int)] 3)).heap.size := HB3.out.size
        clear hS hb3
        go_wp2_with (at_builtin; refine wpList_append_own_at _ rfl _ _ 29 rfl w1.heap.size 3 i0 (.int .i64 0) 1 8 Tryd.underlying29 hi0 hz0 hz1 hz2 rfl (by decide) _ _ _ rfl HO3.out ⟨wr.heap.size, 0, none⟩ 1 1 [.int .i64 (x : Int)] rfl rfl (fun j u hj => by rw [Addr.add_lit, Nat.zero_add]; exact (HS.out.cell j).trans hj) (plc_one _) (by simp only [maxLen]; omega) (by omega) hz3 ?_)
        intro v' w5 hown5 hgr5 _ _
        have HB5 := Lib.hid (HB3.out.grown hgr5 hz3 (fun g hg => (HO3.out.lt g hg).1))
        obtain ⟨A5, c5, rfl⟩ := own_slice hown5
        have HO5 := Lib.hid (show w5.ownsRow w1.heap.size 3 1 (.slice A5 (j + 1) c5) (j + 1) (plc (ks.take (j + 1))) by rw [HTK.out]; exact hown5)
        clear hown5 hgr5 HO3 HB3 HS
        go_wp2
        go_roundw
        case rel => exact ⟨j + 1, by omega, by go_num, HO5.out, HB5.out⟩
        case measure => simp [intOf]; omega
      · have e : ks.take j = ks := List.take_of_length_le (by omega)
        have ho := HO.out
        rw [e, show j = ks.length by omega] at ho
        have HO9 := Lib.hid (own_low' ho HB1.out.size)
        have HB9 := Lib.hid (HB1.out.trans (HB.out.mono HB1.out.size))
        obtain rfl : j = ks.length := by omega
        clear ho
        go_wp2
        go_ret
        rw [HI.out]
        exact out_own HO9.out HB9.out
end Go.Proofs.YtjdpakjnklfhhaaDoor
