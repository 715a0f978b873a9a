/-
  The line of each token: the model's LineOfTokens.
-/
import Derived.Test.YtegjgbgnpkncbabLoa
import Derived.Test.YtegjgbgnpkncbabSly
namespace Go.Proofs.Ytegjgbgnpkncbab
open Go.RowKit
set_option linter.unusedVariables false

/-- is x among the first k? -/
def hsN (ps : List Int) (x : Int) (k : Nat) : Bool := (ps.take k).contains x
theorem hsN_zero (ps : List Int) (x : Int) : hsN ps x 0 = false := by simp [hsN]
theorem hsN_all (ps : List Int) (x : Int) : hsN ps x ps.length = ps.contains x := by simp [hsN]
theorem hsN_no {ps : List Int} {x y : Int} {k : Nat} (h : ps[k]? = some y) (hne : y ≠ x) : hsN ps x (k + 1) = hsN ps x k := by
  unfold hsN
  rw [List.take_add_one, h]
  simp
  intro e
  exact absurd e.symm hne
theorem hsN_yes {ps : List Int} {x : Int} {k : Nat} (h : ps[k]? = some x) : ps.contains x = true := by
  simp
  exact List.mem_of_getElem? h
set_option maxHeartbeats 1000000 in
set_option maxRecDepth 100000 in
theorem l01Has_any (A : Option Addr) (ps : List Int) (n c : Nat) (x : Int) (w : World) (hn : ps.length = n) (hm : n ≤ 2097152) (hl : IS w A ps) :
    Calls Try.prog 34 #[.slice A n c, .int .i64 x] w fun e w' => e = .returned (.bool (ps.contains x)) ∧ w = w' := by
  have HN := Lib.hid hn
  have HL := Lib.hid hl
  clear hn hl
  go_enter Try.func34, Try.ntmps34
  go_wp2_with fail
  go_loopw [5] (fun iv wr => ∃ k : Nat, k ≤ n ∧ iv = .int .i64 k ∧ hsN ps x k = false ∧ w = wr) (fun iv _ => n - (intOf iv).toNat)
  case atStart => exact ⟨0, Nat.zero_le _, rfl, hsN_zero _ _, rfl⟩
  case round =>
    obtain ⟨k, hk, rfl, hs, rfl⟩ := hrel
    have HS := Lib.hid hs
    clear hs
    by_cases hkl : k < n
    · have hx : ps[k]? = some (ps[k]'(by have := HN.out; omega)) := List.getElem?_eq_getElem _
      obtain ⟨y, hxe⟩ : ∃ y, ps[k]'(by have := HN.out; omega) = y := ⟨_, rfl⟩
      rw [hxe] at hx
      obtain ⟨b, rfl, hbl, c0⟩ := HL.out k _ hx
      by_cases he : y = x
      · subst he
        have hb : (y == y) = true := by simp
        have HG := Lib.hid (hsN_yes hx)
        clear hx hxe
        go_wp2_with fail
        go_ret
        rw [HG.out]
        exact ⟨rfl, rfl⟩
      · have hb : (y == x) = false := by simp [he]
        have HG := Lib.hid (show hsN ps x (k + 1) = false by rw [hsN_no hx he]; exact HS.out)
        clear hx hxe he
        go_wp2_with fail
        go_roundw
        case rel => exact ⟨k + 1, by omega, by go_num, HG.out, trivial⟩
        case measure => simp [intOf]; omega
    · obtain rfl : k = n := by omega
      have e : ps.contains x = false := by rw [← hsN_all, HN.out]; exact HS.out
      have HE := Lib.hid e
      clear e
      go_wp2_with fail
      go_ret
      rw [HE.out]
      exact ⟨rfl, rfl⟩
theorem cuL_take {bs : List Bool} {k : Nat} (h : k < bs.length) : (cuL bs).take (k + 1) = (cuL bs).take k ++ [(cuN bs (k + 1) : Int)] := by
  rw [List.take_add_one, cuL_at _ h]
  rfl
theorem nums_snoc1 (a : List Int) (x : Int) : nums (a ++ [x]) = nums a ++ [.int .i64 x] := by simp [nums]
theorem lnoL_le (W : Int) (l : List Tk) : (lnoL W l).length ≤ 400 := by
  unfold lnoL
  split
  · rename_i h
    have h4 := (strB_true (okB_true h).2.2).1
    rw [cuL_len, flN_len]
    exact h4
  · simp
set_option maxHeartbeats 2000000 in
set_option maxRecDepth 100000 in
theorem sLineOfTokens_any (W : Int) (A : Option Addr) (l : List Tk) (m c : Nat) (w : World) (hm : l.length = m) (hmb : m ≤ 2097152) (hts : TS w A l) (hlow : ∀ b, A.map (·.block) = some b → b < w.heap.size) (hf : Fits l) :
    Calls Try.prog 9 #[.int .i64 W, .slice A m c] w (IntsOut w (lnoL W l)) := by
  obtain ⟨i0, hi0, hz0, hz1, hz2⟩ := info_parts infoInt
  have HM := Lib.hid hm
  have HT := Lib.hid hts
  have HF := Lib.hid hf
  have HL := Lib.hid hlow
  clear hm hts hf hlow
  go_enter Try.func9, Try.ntmps9
  go_wp2_with fail
  have hb0 := (Below.refl w.heap.size w).alloc (Nat.le_refl _) (.cells #[] 3)
  have ho0 := os_lit0 w 3
  generalize w.alloc (.cells #[] 3) = w0 at *
  refine (sLayout_any W A l m c _ HM.out hmb (HT.out.below hb0) (fun b hb => Nat.lt_of_lt_of_le (HL.out b hb) hb0.size) HF.out).mono ?_
  rintro e w1 ⟨rfl, hb1⟩
  have HB1 := Lib.hid (hb0.trans (hb1.mono hb0.size))
  have HO1 := Lib.hid (os_below ho0 hb1)
  have hs0 : w.heap.size < w1.heap.size := Nat.lt_of_lt_of_le (ho0.lt w.heap.size rfl |>.2) hb1.size
  clear hb0 ho0 hb1
  cases hok : okB W l
  · have HE := Lib.hid (show lnoL W l = [] from by unfold lnoL; rw [if_neg (by rw [hok]; decide)])
    clear hok
    go_wp2_with fail
    go_ret
    rw [HE.out]
    exact ⟨HB1.out, none, 0, rfl, fun b hb => by simp at hb, fun _ => rfl, .inl ⟨rfl, rfl⟩⟩
  have HE := Lib.hid (show lnoL W l = cuL (flN (brkL W l) l.length) from if_pos hok)
  clear hok
  have hbl := brkL_le W l
  go_wp2_with fail
  refine (sBreaksOf_out W A l m c _ HM.out hmb (HT.out.below HB1.out) (fun b hb => Nat.lt_of_lt_of_le (HL.out b hb) HB1.out.size) HF.out).mono ?_
  rintro e w2 ⟨hb2, A2, c2, rfl, hlo2, hnil2, hrow2⟩
  have HB2 := Lib.hid (HB1.out.trans (hb2.mono HB1.out.size))
  have HO2 := Lib.hid (os_below HO1.out hb2)
  have HR := Lib.hid hrow2
  have HLO := Lib.hid hlo2
  have HFL := Lib.hid (flN_len (brkL W l) m)
  rw [HM.out] at HE
  clear hb2 hrow2 hlo2 hnil2 HO1
  obtain ⟨ps, hps⟩ : ∃ ps, brkL W l = ps := ⟨_, rfl⟩
  rw [hps] at HR HE hbl HFL ⊢
  clear hps
  obtain ⟨bs, hbs⟩ : ∃ bs, flN ps m = bs := ⟨_, rfl⟩
  have HAT := Lib.hid (show ∀ k, k < m → bs[k]? = some (ps.contains (k : Int)) from fun k hk => by rw [← hbs]; exact flN_at ps hk)
  rw [hbs] at HE HFL
  clear hbs
  go_wp2_with fail
  go_loopw [5, 9, 10] (fun v cv iv wr => ∃ k : Nat, k ≤ m ∧ iv = .int .i64 k ∧ cv = .int .i64 (cuN bs k) ∧ wr.ownsRow w.heap.size 3 1 v k (nums ((cuL bs).take k)) ∧ Below w.heap.size w wr ∧ IntRow wr A2 ps ∧ (∀ g b, v.ownBlock = some g → A2.map (·.block) = some b → g ≠ b)) (fun _ _ iv _ => m - (intOf iv).toNat)
  case atStart => exact ⟨0, Nat.zero_le _, rfl, rfl, HO2.out, HB2.out, HR.out, fun g b hg hb => by have := HLO.out b hb; have : w.heap.size = g := Option.some.inj hg; omega⟩
  case round =>
    obtain ⟨k, hk, rfl, rfl, hown, hb, hsw, hne⟩ := hrel
    have HO := Lib.hid hown
    have HB := Lib.hid hb
    have HSW := Lib.hid hsw
    have HNE := Lib.hid hne
    have hsz := hb.size
    have hcl := cuN_le bs k
    obtain ⟨Av, cv, rfl⟩ := os_slice hown
    clear hown hb hsw hne HO2 HB2
    by_cases hkl : k < m
    · have HTK := Lib.hid (cuL_take (bs := bs) (k := k) (by rw [HFL.out]; exact hkl))
      have hat := HAT.out k hkl
      go_wp2_with fail
      refine (l01Has_any A2 ps _ c2 _ _ rfl (by omega) HSW.out.is).mono ?_
      rintro e w3 ⟨rfl, rfl⟩
      cases hct : ps.contains (k : Int)
      · have HC := Lib.hid (cuN_no (by rw [hat, hct]))
        rw [HC.out] at HTK
        clear hat hct
        have hS := BlkL.new wr 3 [.int .i64 ((cuN bs k : Int))]
        have hb3 := (Below.refl wr.heap.size wr).alloc (Nat.le_refl _) (.cells #[.int .i64 ((cuN bs k : Int))] 3)
        have HO3 := Lib.hid (os_below HO.out hb3)
        have HB3 := Lib.hid (HB.out.trans (hb3.mono hsz))
        have HW3 := Lib.hid (HSW.out.below hb3)
        have HS := Lib.hid hS
        have hlt := HSW.out.lt
        have hz3 : w.heap.size ≤ (wr.alloc (.cells #[.int .i64 ((cuN bs k : Int))] 3)).heap.size := HB3.out.size
        have HLT := Lib.hid (show ∀ b, A2.map (·.block) = some b → b < (wr.alloc (.cells #[.int .i64 ((cuN bs k : Int))] 3)).heap.size from fun b hb => Nat.lt_of_lt_of_le (hlt b hb) hb3.size)
        clear hS hb3 hlt
        go_wp2_with (at_builtin; refine wpList_append_own_at _ rfl _ _ 24 rfl w.heap.size 3 i0 (.int .i64 0) 1 8 Try.underlying24 hi0 hz0 hz1 hz2 rfl (by decide) _ _ _ rfl HO3.out ⟨wr.heap.size, 0, none⟩ 1 1 [.int .i64 ((cuN bs k : Int))] rfl rfl (fun j u hj => by rw [Addr.add_lit, Nat.zero_add]; exact (HS.out.cell j).trans hj) (os_int _) (by simp only [maxLen]; omega) (by omega) hz3 ?_)
        intro v' w5 hown5 hgr5 _ hat5
        have HB5 := Lib.hid (HB3.out.grown hgr5 hz3 (fun g hg => (HO3.out.lt g hg).1))
        have HW5 := Lib.hid (HW3.out.grown hgr5 (fun b' hb' e => HNE.out b' b' e.symm hb' rfl))
        have HN5 := Lib.hid (show ∀ g b', v'.ownBlock = some g → A2.map (·.block) = some b' → g ≠ b' from fun g b' hg hb' => by
          have h9 := HLT.out b' hb'
          rcases hat5 with e | e
          · exact HNE.out g b' (e.symm.trans hg) hb'
          · rw [e] at hg
            have := Option.some.inj hg
            simp at h9 this
            omega)
        obtain ⟨A5, c5, rfl⟩ := os_slice hown5
        have HO5 := Lib.hid (show w5.ownsRow w.heap.size 3 1 (.slice A5 (k + 1) c5) (k + 1) (nums ((cuL bs).take (k + 1))) by rw [HTK.out, nums_snoc1]; exact hown5)
        clear hown5 hgr5 hat5 HO3 HB3 HS HW3 HLT
        go_wp2_with fail
        go_roundw
        case rel => exact ⟨k + 1, by omega, by go_num, by rw [HC.out], HO5.out, HB5.out, HW5.out, HN5.out⟩
        case measure => simp [intOf]; omega
      · have HC := Lib.hid (cuN_yes (by rw [hat, hct]))
        rw [HC.out, show ((cuN bs k + 1 : Nat) : Int) = (cuN bs k : Int) + 1 from by omega] at HTK
        clear hat hct
        have hS := BlkL.new wr 3 [.int .i64 ((cuN bs k : Int) + 1)]
        have hb3 := (Below.refl wr.heap.size wr).alloc (Nat.le_refl _) (.cells #[.int .i64 ((cuN bs k : Int) + 1)] 3)
        have HO3 := Lib.hid (os_below HO.out hb3)
        have HB3 := Lib.hid (HB.out.trans (hb3.mono hsz))
        have HW3 := Lib.hid (HSW.out.below hb3)
        have HS := Lib.hid hS
        have hlt := HSW.out.lt
        have hz3 : w.heap.size ≤ (wr.alloc (.cells #[.int .i64 ((cuN bs k : Int) + 1)] 3)).heap.size := HB3.out.size
        have HLT := Lib.hid (show ∀ b, A2.map (·.block) = some b → b < (wr.alloc (.cells #[.int .i64 ((cuN bs k : Int) + 1)] 3)).heap.size from fun b hb => Nat.lt_of_lt_of_le (hlt b hb) hb3.size)
        clear hS hb3 hlt
        go_wp2_with (at_builtin; refine wpList_append_own_at _ rfl _ _ 24 rfl w.heap.size 3 i0 (.int .i64 0) 1 8 Try.underlying24 hi0 hz0 hz1 hz2 rfl (by decide) _ _ _ rfl HO3.out ⟨wr.heap.size, 0, none⟩ 1 1 [.int .i64 ((cuN bs k : Int) + 1)] rfl rfl (fun j u hj => by rw [Addr.add_lit, Nat.zero_add]; exact (HS.out.cell j).trans hj) (os_int _) (by simp only [maxLen]; omega) (by omega) hz3 ?_)
        intro v' w5 hown5 hgr5 _ hat5
        have HB5 := Lib.hid (HB3.out.grown hgr5 hz3 (fun g hg => (HO3.out.lt g hg).1))
        have HW5 := Lib.hid (HW3.out.grown hgr5 (fun b' hb' e => HNE.out b' b' e.symm hb' rfl))
        have HN5 := Lib.hid (show ∀ g b', v'.ownBlock = some g → A2.map (·.block) = some b' → g ≠ b' from fun g b' hg hb' => by
          have h9 := HLT.out b' hb'
          rcases hat5 with e | e
          · exact HNE.out g b' (e.symm.trans hg) hb'
          · rw [e] at hg
            have := Option.some.inj hg
            simp at h9 this
            omega)
        obtain ⟨A5, c5, rfl⟩ := os_slice hown5
        have HO5 := Lib.hid (show w5.ownsRow w.heap.size 3 1 (.slice A5 (k + 1) c5) (k + 1) (nums ((cuL bs).take (k + 1))) by rw [HTK.out, nums_snoc1]; exact hown5)
        clear hown5 hgr5 hat5 HO3 HB3 HS HW3 HLT
        go_wp2_with fail
        go_roundw
        case rel => exact ⟨k + 1, by omega, by go_num, by rw [HC.out]; go_num, HO5.out, HB5.out, HW5.out, HN5.out⟩
        case measure => simp [intOf]; omega
    · obtain rfl : k = m := by omega
      rw [show (cuL bs).take k = cuL bs from List.take_of_length_le (by rw [cuL_len, HFL.out]; exact Nat.le_refl _)] at HO
      go_wp2_with fail
      go_ret
      rw [HE.out]
      exact ints_of_own HB.out (by rw [cuL_len, HFL.out]; exact HO.out)
end Go.Proofs.Ytegjgbgnpkncbab
