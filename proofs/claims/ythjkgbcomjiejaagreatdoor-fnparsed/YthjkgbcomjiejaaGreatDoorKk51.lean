/-
  ChildrenOf on both sides.
-/
import Derived.Test.YthjkgbcomjiejaaGreatDoorKk33
import Derived.Test.YthjkgbcomjiejaaGreatDoorKk10
namespace Go.Proofs.YthjkgbcomjiejaaGreatDoor
open Go.RowKit
set_option linter.unusedVariables false

set_option maxHeartbeats 1000000 in
set_option maxRecDepth 100000 in
theorem TreeOk_any (A : Option Addr) (l : List Nd) (n c : Nat) (w : World) (hn : l.length = n) (hm : n ≤ 2097152) (hl : NS w A l) (hg : ErrV w) :
    Calls Tryz.prog 13 #[.slice A n c] w fun e w' => e = .returned (.bool (treB l)) ∧ Below w.heap.size w w' := by
  go_enter Tryz.func13, Tryz.ntmps13
  go_wp2_with fail
  refine (planted_any A l n c w hn hm hl hg).mono ?_
  rintro e w1 ⟨hb, h | ⟨ht, g, c1, ps, vs, rfl, _⟩⟩
  · obtain ⟨h0, rfl⟩ := h
    have H0 := Lib.hid h0
    clear h0
    go_wp2
    go_ret
    rw [H0.out]
    exact ⟨rfl, hb⟩
  · have H0 := Lib.hid (treB_yes ht)
    clear ht
    go_wp2
    go_ret
    rw [H0.out]
    exact ⟨rfl, hb⟩
def tdI (l : List Nd) : Nat → Int
  | 0 => 0
  | i + 1 => if tdI l i < dep l (i + 1) + 1 then dep l (i + 1) + 1 else tdI l i
noncomputable def tdB (l : List Nd) : Int := if treB l = true then tdI l l.length else -1
theorem tdI_bd {l : List Nd} {k : Nat} (h : UpTo l k) : ∀ i, i ≤ k → 0 ≤ tdI l i ∧ tdI l i ≤ 13
  | 0, _ => by simp [tdI]
  | i + 1, hi => by
    have h1 := tdI_bd h i (by omega)
    have h2 := h.dep (i := i + 1) hi
    simp only [tdI]
    split <;> omega
def pdI (l : List Nd) : Nat → Int
  | 0 => -1
  | j + 1 => tdI l j
set_option maxHeartbeats 1000000 in
set_option maxRecDepth 100000 in
theorem TreeDepth_any (A : Option Addr) (l : List Nd) (n c : Nat) (w : World) (hn : l.length = n) (hm : n ≤ 2097152) (hl : NS w A l) (hg : ErrV w) :
    Calls Tryz.prog 19 #[.slice A n c] w fun e w' => e = .returned (.int .i64 (tdB l)) ∧ Below w.heap.size w w' := by
  have HN := Lib.hid hn
  go_enter Tryz.func19, Tryz.ntmps19
  go_wp2_with fail
  refine (planted_any A l n c w hn hm hl hg).mono ?_
  rintro e w1 ⟨hb, h | ⟨ht, g, c1, ps, vs, rfl, hfo, hgl, hc⟩⟩
  · obtain ⟨h0, rfl⟩ := h
    have HI := Lib.hid (show tdB l = -1 by rw [tdB, if_neg (by rw [h0]; decide)])
    have HB1 := Lib.hid hb
    clear h0 hb hl hg hn
    go_wp2
    go_loopw [3, 9] (fun dv iv wr => dv = .int .i64 (-1) ∧ iv = .int .i64 0 ∧ wr = w1) (fun _ iv _ => 0)
    case atStart => exact ⟨rfl, rfl, rfl⟩
    case round =>
      obtain ⟨rfl, rfl, rfl⟩ := hrel
      go_wp2
      go_ret
      rw [HI.out]
      exact ⟨rfl, HB1.out⟩
  · have HT := Lib.hid ht
    have HI := Lib.hid (show tdB l = tdI l l.length by rw [tdB, if_pos (treB_yes ht)])
    have HB1 := Lib.hid hb
    have HF := Lib.hid hfo
    have HC := Lib.hid hc
    have hlen := ht.len
    clear hb ht hfo hc hl hg hn
    obtain ⟨m, hm1⟩ : ∃ m, l.length = m := ⟨_, rfl⟩
    rw [hm1] at HF HI hlen HC ⊢
    have HM := Lib.hid hm1
    clear hm1
    go_wp2
    go_loopw [3, 9] (fun dv iv wr => ∃ j : Nat, j ≤ m + 1 ∧ iv = .int .i64 j ∧ dv = .int .i64 (pdI l j) ∧ wr = w1) (fun _ iv _ => m + 1 - (intOf iv).toNat)
    case atStart => exact ⟨0, Nat.zero_le _, rfl, rfl, rfl⟩
    case round =>
      obtain ⟨j, hj, rfl, rfl, rfl⟩ := hrel
      by_cases hjl : j < m + 1
      · have cj := HC.out j (by omega)
        unfold ptr at cj
        obtain ⟨d0, _, _, _, _, _, dl⟩ := HF.out.cells (show j ≤ m by omega)
        have hdd := HT.out.upTo.dep (i := j) (by have := HM.out; omega)
        have HST := Lib.hid (show pdI l (j + 1) = max (pdI l j) (dep l j + 1) by
          cases j with
          | zero => show tdI l 0 = max (-1) (dep l 0 + 1); rw [dep_zero]; rfl
          | succ j => simp only [pdI, tdI]; split <;> omega)
        have hpb : -1 ≤ pdI l j ∧ pdI l j ≤ 13 := by
          cases j with
          | zero => simp [pdI]
          | succ j => have := tdI_bd HT.out.upTo j (by have := HM.out; omega); simp only [pdI]; omega
        obtain ⟨t, ht⟩ : ∃ t, pdI l j = t := ⟨_, rfl⟩
        rw [ht] at hpb HST ⊢
        obtain ⟨D, hD⟩ : ∃ D, dep l j = D := ⟨_, rfl⟩
        rw [hD] at hdd d0 HST
        clear ht hD
        go_wp2
        go_roundw
        case rel => exact ⟨j + 1, by omega, by go_num, by rw [HST.out], trivial⟩
        case measure => simp [intOf]; omega
      · obtain rfl : j = m + 1 := by omega
        go_wp2
        go_ret
        rw [HI.out]
        exact ⟨rfl, HB1.out⟩
noncomputable def smtB (a b : List Nd) : Bool := treB a && lsB a b
set_option maxHeartbeats 1000000 in
set_option maxRecDepth 100000 in
theorem SameTree_any (A B : Option Addr) (l m : List Nd) (n cc n2 cd : Nat) (w : World) (hn : l.length = n) (hn2 : m.length = n2) (hm : n ≤ 2097152) (hm2 : n2 ≤ 2097152) (hl : NS w A l) (hr : NS w B m) (hg : ErrV w) :
    Calls Tryz.prog 14 #[.slice A n cc, .slice B n2 cd] w fun e w' => e = .returned (.bool (smtB l m)) ∧ Below w.heap.size w w' := by
  go_enter Tryz.func14, Tryz.ntmps14
  go_wp2_with fail
  refine (TreeOk_any A l n cc w hn hm hl hg).mono ?_
  rintro e w1 ⟨rfl, hb⟩
  have HB1 := Lib.hid hb
  cases ht : treB l
  · have HI := Lib.hid (show smtB l m = false by rw [smtB, ht]; rfl)
    clear ht
    go_wp2
    go_ret
    rw [HI.out]
    exact ⟨rfl, HB1.out⟩
  · have HI := Lib.hid (show smtB l m = lsB l m by rw [smtB, ht]; rfl)
    clear ht
    go_wp2_with fail
    refine (EqualNd_any A B l m n cc n2 cd w1 hn hn2 hm hm2 (hl.below hb) (hr.below hb)).mono ?_
    rintro e w2 ⟨rfl, hb2⟩
    have HB2 := Lib.hid (HB1.out.trans (hb2.mono HB1.out.size))
    go_wp2
    go_ret
    rw [HI.out]
    exact ⟨rfl, HB2.out⟩
end Go.Proofs.YthjkgbcomjiejaaGreatDoor
namespace Go.Proofs.YthjkgbcomjiejaaGreatDoor
open Go.RowKit
set_option linter.unusedVariables false

/-- a slice of numbers of a call's own: nil and empty, or at the head of a block. -/
def IntRow (w : World) (A : Option Addr) (xs : List Int) : Prop :=
  (A = none ∧ xs = []) ∨ ∃ g rest, A = some ⟨g, 0, none⟩ ∧ BlkL w g 3 (nums xs ++ rest)
theorem IntRow.is {w : World} {A : Option Addr} {xs : List Int} (h : IntRow w A xs) : IS w A xs := by
  rcases h with ⟨rfl, rfl⟩ | ⟨g, rest, rfl, hb⟩
  · exact IS.nil _ _
  · intro i x hx
    refine ⟨g, rfl, hb.lt, (hb.cell i).trans ?_⟩
    have hi : i < xs.length := (List.getElem?_eq_some_iff.1 hx).1
    rw [List.getElem?_append_left (by simpa [nums] using hi)]
    exact nums_at hx
theorem IntRow.below {w w' : World} {A : Option Addr} {xs : List Int} (h : IntRow w A xs) (hb : Below w.heap.size w w') : IntRow w' A xs := by
  rcases h with ⟨rfl, rfl⟩ | ⟨g, rest, rfl, hk⟩
  · exact .inl ⟨rfl, rfl⟩
  · exact .inr ⟨g, rest, rfl, hk.below hb hk.lt⟩
theorem IntRow.grown {w w' : World} {A : Option Addr} {xs : List Int} {row : Option Nat} (h : IntRow w A xs) (hg : w.grownBy w' row) (hne : ∀ b, A.map (·.block) = some b → some b ≠ row) : IntRow w' A xs := by
  rcases h with ⟨rfl, rfl⟩ | ⟨g, rest, rfl, hk⟩
  · exact .inl ⟨rfl, rfl⟩
  · exact .inr ⟨g, rest, rfl, hk.grown hg (hne g rfl)⟩
theorem IntRow.lt {w : World} {A : Option Addr} {xs : List Int} (h : IntRow w A xs) : ∀ b, A.map (·.block) = some b → b < w.heap.size := by
  rcases h with ⟨rfl, rfl⟩ | ⟨g, rest, rfl, hk⟩
  · intro b hb; simp at hb
  · intro b hb; simp at hb; subst hb; exact hk.lt

/-- what a call hands back: numbers of its own. -/
def IntsOut (w : World) (xs : List Int) (e : Ending) (w' : World) : Prop :=
  Below w.heap.size w w' ∧ ∃ A c, e = .returned (.slice A xs.length c) ∧ (∀ b, A.map (·.block) = some b → w.heap.size ≤ b) ∧ (A = none → c = 0) ∧ IntRow w' A xs

def MarkPost (w : World) (A : Option Addr) (xs : List Int) (x : Int) (e : Ending) (w' : World) : Prop :=
  e = .returned (.int .i64 (x + xs.length)) ∧ IntRow w' A (upTo xs x xs.length) ∧ w.grownBy w' (A.map (·.block))
theorem row_of_own {w : World} {base : Nat} {A : Option Addr} {n c : Nat} {xs : List Int} (h : w.ownsRow base 3 1 (.slice A n c) n (nums xs)) : IntRow w A xs ∧ (∀ b, A.map (·.block) = some b → base ≤ b) ∧ (A = none → c = 0) := by
  have hlt := h.lt
  have hlen := h.1
  rcases h.2 with ⟨hv, hn⟩ | ⟨g, cap, cur, hv, hg, hh, _, _, hsz, htk⟩
  · injection hv with e1 e2 e3
    subst e1 e2 e3
    have : xs = [] := by simpa [nums] using hlen
    exact ⟨.inl ⟨rfl, this⟩, fun b hb => by simp at hb, fun _ => rfl⟩
  · injection hv with e1 e2 e3
    subst e1 e3
    refine ⟨.inr ⟨g, cur.toList.drop (n * 1), rfl, ?_⟩, fun b hb => by simp at hb; subst hb; exact hg, fun h => by cases h⟩
    unfold BlkL
    rw [← htk, List.take_append_drop]
    exact hh

end Go.Proofs.YthjkgbcomjiejaaGreatDoor
namespace Go.Proofs.YthjkgbcomjiejaaGreatDoor
open Go.RowKit
set_option linter.unusedVariables false

theorem own_low' {w : World} {B C z : Nat} {e : TypeId} {v : Value} {n : Nat} {xs : List Value} (h : w.ownsRow B e z v n xs) (hc : C ≤ B) : w.ownsRow C e z v n xs := by
  refine ⟨h.1, ?_⟩
  rcases h.2 with h2 | ⟨g, cap, cur, hv, hb, h3⟩
  · exact .inl h2
  · exact .inr ⟨g, cap, cur, hv, Nat.le_trans hc hb, h3⟩
def ints (ks : List Nat) : List Int := ks.map (fun (j : Nat) => (j : Int))
theorem plc_nums (ks : List Nat) : plc ks = nums (ints ks) := by simp [plc, nums, ints]
theorem ints_len (ks : List Nat) : (ints ks).length = ks.length := by simp [ints]
/-- what ChildrenOf tells. -/
noncomputable def chs (l : List Nd) (k : Int) : List Int := if treB l = true ∧ inB k (-1) ((l.length : Int) - 1) = true then ints (kidsN l (k + 1).toNat l.length) else []
theorem chs_le (l : List Nd) (k : Int) : (chs l k).length ≤ 200 := by
  unfold chs
  split
  · rename_i h
    rw [ints_len]
    have := kidsN_len l (k + 1).toNat l.length
    have := (treB_ok h.1).len
    omega
  · simp
theorem chs_no {l : List Nd} {k : Int} (h : treB l = false ∨ inB k (-1) ((l.length : Int) - 1) = false) : chs l k = [] := by
  unfold chs
  rw [if_neg]
  rintro ⟨h1, h2⟩
  rcases h with h | h
  · rw [h] at h1; cases h1
  · rw [h] at h2; cases h2
theorem chs_yes {l : List Nd} {i : Nat} (h1 : treB l = true) (h2 : i ≤ l.length) : chs l ((i : Int) - 1) = ints (kidsN l i l.length) := by
  unfold chs
  rw [if_pos ⟨h1, inB_true.2 (by omega)⟩, show ((i : Int) - 1 + 1).toNat = i by omega]
theorem out_nil (w w' : World) (hb : Below w.heap.size w w') : IntsOut w [] (.returned (.slice none 0 0)) w' := ⟨hb, none, 0, rfl, fun b hb => by simp at hb, fun _ => rfl, .inl ⟨rfl, rfl⟩⟩
theorem out_own {w w' : World} {v : Value} {ks : List Nat} (ho : w'.ownsRow w.heap.size 3 1 v ks.length (plc ks)) (hb : Below w.heap.size w w') : IntsOut w (ints ks) (.returned v) w' := by
  obtain ⟨A, c, rfl⟩ := own_slice ho
  rw [plc_nums] at ho
  obtain ⟨h1, h2, h3⟩ := row_of_own ho
  exact ⟨hb, A, c, by rw [ints_len], h2, h3, h1⟩
set_option maxHeartbeats 1000000 in
set_option maxRecDepth 100000 in
theorem ChildrenOf_out (A : Option Addr) (l : List Nd) (n c : Nat) (k : Int) (w : World) (hn : l.length = n) (hm : n ≤ 2097152) (hl : NS w A l) (hg : ErrV w) (hkw : (Lit.int .i64 k).wf = true) :
    Calls Tryz.prog 21 #[.slice A n c, .int .i64 k] w (IntsOut w (chs l k)) := by
  obtain ⟨i0, hi0, hz0, hz1, hz2⟩ := info_parts infoI
  have HN := Lib.hid hn
  go_enter Tryz.func21, Tryz.ntmps21
  go_wp2_with fail
  refine (planted_any A l n c w hn hm hl hg).mono ?_
  rintro e w1 ⟨hb, h | ⟨ht, g, c1, ps, vs, rfl, hfo, hgl, hc⟩⟩
  · obtain ⟨h0, rfl⟩ := h
    have HI := Lib.hid (chs_no (k := k) (.inl h0))
    have HB1 := Lib.hid hb
    have hq : inB k (-1) (-2) = false := by
      cases e : inB k (-1) (-2)
      · rfl
      · have := inB_true.1 e; omega
    clear h0 hb hl hg hn
    go_wp2_with (go_at_call 35; refine (within_any _ _ _ _).mono ?_; rintro e w' ⟨rfl, rfl⟩; rw [hq])
    go_ret
    rw [HI.out]
    exact out_nil _ _ HB1.out
  have HT := Lib.hid ht
  have HB1 := Lib.hid hb
  have HF := Lib.hid hfo
  have HC := Lib.hid hc
  have hlen := ht.len
  clear hb ht hfo hc hl hg hn
  obtain ⟨m, hm1⟩ : ∃ m, l.length = m := ⟨_, rfl⟩
  rw [hm1] at HF hlen HC ⊢
  have HM := Lib.hid hm1
  have hm2 : ((m : Int) + 1 - 2) = (m : Int) - 1 := by omega
  clear hm1
  cases hq : inB k (-1) ((m : Int) - 1)
  · have HI := Lib.hid (chs_no (l := l) (k := k) (.inr (by rw [HM.out]; exact hq)))
    go_wp2_with (go_at_call 35; refine (within_any _ _ _ _).mono ?_; rintro e w' ⟨rfl, rfl⟩; first | rw [hq] | rw [hm2, hq])
    go_ret
    rw [HI.out]
    exact out_nil _ _ HB1.out
  · have hk := inB_true.1 hq
    obtain ⟨i, hi⟩ : ∃ i : Nat, k = (i : Int) - 1 := ⟨(k + 1).toNat, by omega⟩
    have hin : i ≤ m := by omega
    have HI := Lib.hid (show chs l k = ints (kidsN l i m) by rw [hi, chs_yes (treB_yes HT.out) (by rw [HM.out]; exact hin), HM.out])
    have hki : k + 1 = (i : Int) := by omega
    have HQ := Lib.hid hq
    have ci := HC.out i hin
    unfold ptr at ci
    obtain ⟨A9, c9, hv, hkid⟩ := HF.out.kid hin
    have hcell := HF.out.cells hin
    rw [hv] at hcell
    obtain ⟨_, _, _, _, _, d5, dl⟩ := hcell
    have hkl := kidsN_len l i m
    have HKM := Lib.hid (show ∀ x ∈ kidsN l i m, x < m from fun x hx => (kidsN_mem hx).1)
    obtain ⟨ks, hks⟩ : ∃ ks, kidsN l i m = ks := ⟨_, rfl⟩
    rw [hks] at hkid d5 hkl HKM HI
    have HKID := Lib.hid hkid
    clear hq hi hkid hks hv
    go_wp2_with (go_at_call 35; refine (within_any _ _ _ _).mono ?_; rintro e w' ⟨rfl, rfl⟩; first | rw [HQ.out] | rw [hm2, HQ.out])
    clear ci d5
    go_loopw [6, 26] (fun v iv wr => ∃ j : Nat, j ≤ ks.length ∧ iv = .int .i64 j ∧ wr.ownsRow w1.heap.size 3 1 v j (plc (ks.take j)) ∧ Below w1.heap.size w1 wr) (fun _ iv _ => ks.length - (intOf iv).toNat)
    case atStart => exact ⟨0, Nat.zero_le _, rfl, ⟨rfl, .inl ⟨rfl, rfl⟩⟩, Below.refl _ _⟩
    case round =>
      obtain ⟨j, hj, rfl, hown, hb⟩ := hrel
      have HO := Lib.hid hown
      have HB := Lib.hid hb
      have hsz : w1.heap.size ≤ wr.heap.size := hb.size
      obtain ⟨Av, cv, hAv⟩ := own_slice hown
      subst hAv
      clear hown hb
      by_cases hjl : j < ks.length
      · have hx := List.getElem?_eq_getElem hjl
        obtain ⟨x, hx'⟩ : ∃ x, ks[j] = x := ⟨_, rfl⟩
        rw [hx'] at hx
        obtain ⟨g', rfl, hgl', cg⟩ := HKID.out j x hx
        have cg' := (HB.out.cell (p := ⟨g', j, none⟩) hgl').trans cg
        have hxm := HKM.out x (List.mem_of_getElem? hx)
        obtain ⟨_, _, _, e3, _, _, el⟩ := (HF.out.below HB.out).cells (show x + 1 ≤ m by omega)
        rw [show (((x + 1 : Nat) : Int) - 1) = (x : Int) by omega] at e3
        have HTK := Lib.hid (show plc (ks.take (j + 1)) = plc (ks.take j) ++ [.int .i64 (x : Int)] by rw [List.take_add_one, hx]; simp [plc])
        unfold ptr at cg'
        clear hx hx' cg
        have hS := BlkL.new wr 3 [.int .i64 (x : Int)]
        have hb3 := (Below.refl wr.heap.size wr).alloc (Nat.le_refl _) (.cells #[.int .i64 (x : Int)] 3)
        have HO3 := Lib.hid (own_below HO.out hb3)
        have HB3 := Lib.hid (HB.out.trans (hb3.mono HB.out.size))
        have HS := Lib.hid hS
        have hz3 : w1.heap.size ≤ (wr.alloc (.cells #[.int .i64 (x : Int)] 3)).heap.size := HB3.out.size
        clear hS hb3
        go_wp2_with (at_builtin; refine wpList_append_own_at _ rfl _ _ 37 rfl w1.heap.size 3 i0 (.int .i64 0) 1 8 Tryz.underlying37 hi0 hz0 hz1 hz2 rfl (by decide) _ _ _ rfl HO3.out ⟨wr.heap.size, 0, none⟩ 1 1 [.int .i64 (x : Int)] rfl rfl (fun j u hj => by rw [Addr.add_lit, Nat.zero_add]; exact (HS.out.cell j).trans hj) (plc_one _) (by simp only [maxLen]; omega) (by omega) hz3 ?_)
        intro v' w5 hown5 hgr5 _ _
        have HB5 := Lib.hid (HB3.out.grown hgr5 hz3 (fun g hg => (HO3.out.lt g hg).1))
        obtain ⟨A5, c5, rfl⟩ := own_slice hown5
        have HO5 := Lib.hid (show w5.ownsRow w1.heap.size 3 1 (.slice A5 (j + 1) c5) (j + 1) (plc (ks.take (j + 1))) by rw [HTK.out]; exact hown5)
        clear hown5 hgr5 HO3 HB3 HS
        go_wp2
        go_roundw
        case rel => exact ⟨j + 1, by omega, by go_num, HO5.out, HB5.out⟩
        case measure => simp [intOf]; omega
      · have e : ks.take j = ks := List.take_of_length_le (by omega)
        have ho := HO.out
        rw [e, show j = ks.length by omega] at ho
        have HO9 := Lib.hid (own_low' ho HB1.out.size)
        have HB9 := Lib.hid (HB1.out.trans (HB.out.mono HB1.out.size))
        obtain rfl : j = ks.length := by omega
        clear ho
        go_wp2
        go_ret
        rw [HI.out]
        exact out_own HO9.out HB9.out
end Go.Proofs.YthjkgbcomjiejaaGreatDoor
