/-
  CountBlocks and HasNote on both sides.
-/
import Derived.Test.YtddbcifjjblkeaaDoorTri
namespace Go.Proofs.YtddbcifjjblkeaaDoor
open Go.RowKit
set_option linter.unusedVariables false

/-- how many of the first k nodes are blocks. -/
def cbN (l : List Nd) (k : Nat) : Nat := ((l.take k).filter (fun x => inB x.k 3 5)).length
theorem cbN_step {l : List Nd} {k : Nat} {x : Nd} (h : l[k]? = some x) : cbN l (k + 1) = cbN l k + (if inB x.k 3 5 then 1 else 0) := by
  unfold cbN
  rw [List.take_add_one, h, List.filter_append, List.length_append]
  congr 1
  cases e : inB x.k 3 5 <;> simp [e]
theorem cbN_len (l : List Nd) (k : Nat) : cbN l k ≤ k := by
  unfold cbN
  have := List.length_filter_le (fun x : Nd => inB x.k 3 5) (l.take k)
  simp at this
  omega
noncomputable def cbB (l : List Nd) : Int := if treB l = true then (cbN l l.length : Int) else -1
theorem cbB_no {l : List Nd} (h : treB l = false) : cbB l = -1 := if_neg (by rw [h]; decide)
theorem cbB_yes {l : List Nd} (h : treB l = true) : cbB l = (cbN l l.length : Int) := if_pos h
/-- a note is among the first k nodes. -/
def ntN (l : List Nd) (k : Nat) : Bool := (l.take k).any (fun x => x.k == 2)
theorem ntN_step {l : List Nd} {k : Nat} {x : Nd} (h : l[k]? = some x) : ntN l (k + 1) = (ntN l k || (x.k == 2)) := by
  unfold ntN
  rw [List.take_add_one, h, List.any_append]
  simp
theorem ntN_hit {l : List Nd} {k : Nat} {x : Nd} (h : l[k]? = some x) (h2 : (x.k == 2) = true) : ntN l l.length = true := by
  unfold ntN
  rw [List.take_length, List.any_eq_true]
  exact ⟨x, List.mem_of_getElem? h, h2⟩
noncomputable def ntB (l : List Nd) : Bool := treB l && ntN l l.length
theorem ntB_no {l : List Nd} (h : treB l = false) : ntB l = false := by rw [ntB, h]; rfl
theorem ntB_yes {l : List Nd} (h : treB l = true) : ntB l = ntN l l.length := by rw [ntB, h]; rfl
theorem lxA_empty : (lxA ByteArray.empty).1 = [] := by
  unfold lxA LG
  rw [if_neg (by decide)]
  unfold lxG
  simp
/-- of a node of a tree: a block is what has no text and is no quote. -/
theorem nod_blk {x : Nd} (h : nodB x = true) : ((x.s.toList == ([] : List UInt8)) && (x.k != 6)) = inB x.k 3 5 := by
  have hb := (nodB_bd h).1
  unfold nodB at h
  simp only [Bool.and_eq_true] at h
  have h3 := h.2.2
  by_cases hk : 3 ≤ x.k
  · rw [if_pos hk] at h3
    rw [h3, Bool.true_and]
    by_cases h6 : x.k = 6
    · rw [h6]; decide
    · have e1 : (x.k != 6) = true := by simpa using h6
      rw [e1, (inB_true (x := x.k) (lo := 3) (hi := 5)).2 (by omega)]
  · rw [if_neg hk] at h3
    have e2 : inB x.k 3 5 = false := inB_false.2 (.inl (by omega))
    rw [e2]
    cases hs : (x.s.toList == ([] : List UInt8))
    · rfl
    · have he : x.s = ByteArray.empty := by
        have h5 : x.s.toList = [] := by simpa using hs
        rw [toList_eq] at h5
        apply ByteArray.ext
        exact Array.toList_eq_nil_iff.1 h5
      rw [he, lxA_empty] at h3
      cases h3
set_option maxHeartbeats 400000 in
theorem isBlock_any (x : Nd) (w : World) :
    Calls Tryd.prog 17 #[.agg #[.int .i64 x.d, .int .i64 x.k, .string x.s]] w fun e w' => e = .returned (.bool ((x.s.toList == ([] : List UInt8)) && (x.k != 6))) ∧ Below w.heap.size w w' := by
  cases h1 : (x.s.toList == ([] : List UInt8)) <;> cases h2 : (x.k == 6)
  all_goals
    have h2' : (x.k != 6) = (!(x.k == 6)) := rfl
    rw [h2] at h2'
    simp only [Bool.not_true, Bool.not_false] at h2'
    have hI := Lib.hid h2'
    go_enter Tryd.func17, Tryd.ntmps17
    go_wp2
    go_ret
    rw [hI.out]
    exact ⟨rfl, by first | exact Below.refl _ _ | exact (Below.refl _ _).alloc (Nat.le_refl _) _ | exact ((Below.refl _ _).alloc (Nat.le_refl _) _).alloc (by simp) _⟩
theorem l07Block_any (k : Int) (w : World) :
    Calls Tryd.prog 14 #[.int .i64 k] w fun e w' => e = .returned (.bool (inB k 3 5)) ∧ w = w' := by
  go_enter Tryd.func14, Tryd.ntmps14
  go_wp2_with fail
  refine (l01In_any _ _ _ _).mono ?_
  rintro e w1 ⟨rfl, rfl⟩
  go_wp2
  go_ret
  exact ⟨rfl, rfl⟩
set_option maxHeartbeats 1000000 in
set_option maxRecDepth 100000 in
theorem sCountBlocks_any (A : Option Addr) (l : List Nd) (n c : Nat) (w : World) (hn : l.length = n) (hm : n ≤ 2097152) (hl : NS w A l) (hs : ∀ (i : Nat) (x : Nd), l[i]? = some x → x.s.size ≤ 1048576) :
    Calls Tryd.prog 6 #[.slice A n c] w fun e w' => e = .returned (.int .i64 (cbB l)) ∧ Below w.heap.size w w' := by
  have HN := Lib.hid hn
  have HL := Lib.hid hl
  go_enter Tryd.func6, Tryd.ntmps6
  go_wp2_with fail
  refine (sTreeOk_any A l n c w hn hm hl hs).mono ?_
  rintro e w1 ⟨rfl, hb⟩
  have HB1 := Lib.hid hb
  clear hb hn hl hs
  cases ht : treB l
  · have HI := Lib.hid (cbB_no ht)
    clear ht
    go_wp2
    go_ret
    rw [HI.out]
    exact ⟨rfl, HB1.out⟩
  have HT := Lib.hid (treB_ok ht)
  have HI := Lib.hid (show cbB l = (cbN l n : Int) by rw [cbB_yes ht, HN.out])
  clear ht
  go_wp2
  go_loopw [3, 4] (fun mv iv wr => ∃ k : Nat, k ≤ n ∧ iv = .int .i64 k ∧ mv = .int .i64 (cbN l k : Int) ∧ wr = w1) (fun _ iv _ => n - (intOf iv).toNat)
  case atStart => exact ⟨0, Nat.zero_le _, rfl, rfl, rfl⟩
  case round =>
    obtain ⟨k, hk, rfl, rfl, rfl⟩ := hrel
    by_cases hkl : k < n
    · obtain ⟨x, b, o, hx, rfl, hbl, _⟩ := HL.out.all (k := k) (by have := HN.out; omega)
      obtain ⟨hbl', c0, c1, c2⟩ := NS.get (HL.out.below HB1.out) hx
      have HST := Lib.hid (cbN_step hx)
      have hle := cbN_len l k
      clear hx c2
      obtain ⟨t, ht⟩ : ∃ t, cbN l k = t := ⟨_, rfl⟩
      rw [ht] at hle HST ⊢
      clear ht
      go_wp2_with fail
      refine (l07Block_any _ _).mono ?_
      rintro e w2 ⟨rfl, rfl⟩
      cases hin : inB x.k 3 5
      · rw [hin] at HST
        clear hin
        go_wp2
        go_roundw
        case rel => exact ⟨k + 1, by omega, by go_num, by rw [HST.out]; rfl, trivial⟩
        case measure => simp [intOf]; omega
      · rw [hin] at HST
        clear hin
        go_wp2
        go_roundw
        case rel => exact ⟨k + 1, by omega, by go_num, by rw [HST.out]; go_num, trivial⟩
        case measure => simp [intOf]; omega
    · obtain rfl : k = n := by omega
      go_wp2
      go_ret
      rw [HI.out]
      exact ⟨rfl, HB1.out⟩
set_option maxHeartbeats 1000000 in
set_option maxRecDepth 100000 in
theorem CountBlocks_any (A : Option Addr) (l : List Nd) (n c : Nat) (w : World) (hn : l.length = n) (hm : n ≤ 2097152) (hl : NS w A l) (hg : ErrV w) :
    Calls Tryd.prog 8 #[.slice A n c] w fun e w' => e = .returned (.int .i64 (cbB l)) ∧ Below w.heap.size w w' := by
  have HN := Lib.hid hn
  have HL := Lib.hid hl
  go_enter Tryd.func8, Tryd.ntmps8
  go_wp2_with fail
  refine (TreeOk_any A l n c w hn hm hl hg).mono ?_
  rintro e w1 ⟨rfl, hb⟩
  have HB1 := Lib.hid hb
  clear hb hn hl hg
  cases ht : treB l
  · have HI := Lib.hid (cbB_no ht)
    clear ht
    go_wp2
    go_ret
    rw [HI.out]
    exact ⟨rfl, HB1.out⟩
  have HT := Lib.hid (treB_ok ht)
  have HI := Lib.hid (show cbB l = (cbN l n : Int) by rw [cbB_yes ht, HN.out])
  clear ht
  go_wp2
  go_loopw [3, 11] (fun mv iv wr => ∃ k : Nat, k ≤ n ∧ iv = .int .i64 k ∧ mv = .int .i64 (cbN l k : Int) ∧ Below w1.heap.size w1 wr) (fun _ iv _ => n - (intOf iv).toNat)
  case atStart => exact ⟨0, Nat.zero_le _, rfl, rfl, Below.refl _ _⟩
  case round =>
    obtain ⟨k, hk, rfl, rfl, hb⟩ := hrel
    have HB := Lib.hid (HB1.out.trans (hb.mono HB1.out.size))
    have HC := Lib.hid hb
    have hsz := hb.size
    clear hb
    by_cases hkl : k < n
    · obtain ⟨x, b, o, hx, rfl, hbl, _⟩ := HL.out.all (k := k) (by have := HN.out; omega)
      obtain ⟨hbl', c0, c1, c2⟩ := NS.get (HL.out.below HB.out) hx
      have HST := Lib.hid (cbN_step hx)
      have HBK := Lib.hid (nod_blk (HT.out.node k x hx))
      have hle := cbN_len l k
      clear hx
      obtain ⟨t, ht⟩ : ∃ t, cbN l k = t := ⟨_, rfl⟩
      rw [ht] at hle HST ⊢
      clear ht
      go_wp2_with fail
      refine (isBlock_any _ _).mono ?_
      rintro e w2 ⟨rfl, hb2⟩
      rw [HBK.out]
      have HC2 := Lib.hid (HC.out.trans ((((Below.refl wr.heap.size wr).alloc (Nat.le_refl _) _).trans (hb2.mono (by simp))).mono hsz))
      clear hb2
      cases hin : inB x.k 3 5
      · rw [hin] at HST
        clear hin
        go_wp2
        go_roundw
        case rel => exact ⟨k + 1, by omega, by go_num, by rw [HST.out]; rfl, HC2.out⟩
        case measure => simp [intOf]; omega
      · rw [hin] at HST
        clear hin
        go_wp2
        go_roundw
        case rel => exact ⟨k + 1, by omega, by go_num, by rw [HST.out]; go_num, HC2.out⟩
        case measure => simp [intOf]; omega
    · obtain rfl : k = n := by omega
      go_wp2
      go_ret
      rw [HI.out]
      exact ⟨rfl, HB.out⟩
set_option maxHeartbeats 1000000 in
set_option maxRecDepth 100000 in
theorem sHasNote_any (A : Option Addr) (l : List Nd) (n c : Nat) (w : World) (hn : l.length = n) (hm : n ≤ 2097152) (hl : NS w A l) (hs : ∀ (i : Nat) (x : Nd), l[i]? = some x → x.s.size ≤ 1048576) :
    Calls Tryd.prog 10 #[.slice A n c] w fun e w' => e = .returned (.bool (ntB l)) ∧ Below w.heap.size w w' := by
  have HN := Lib.hid hn
  have HL := Lib.hid hl
  go_enter Tryd.func10, Tryd.ntmps10
  go_wp2_with fail
  refine (sTreeOk_any A l n c w hn hm hl hs).mono ?_
  rintro e w1 ⟨rfl, hb⟩
  have HB1 := Lib.hid hb
  clear hb hn hl hs
  cases ht : treB l
  · have HI := Lib.hid (ntB_no ht)
    clear ht
    go_wp2
    go_ret
    rw [HI.out]
    exact ⟨rfl, HB1.out⟩
  have HI := Lib.hid (show ntB l = ntN l n by rw [ntB_yes ht, HN.out])
  clear ht
  go_wp2
  go_loopw [3] (fun iv wr => ∃ k : Nat, k ≤ n ∧ iv = .int .i64 k ∧ ntN l k = false ∧ wr = w1) (fun iv _ => n - (intOf iv).toNat)
  case atStart => exact ⟨0, Nat.zero_le _, rfl, rfl, rfl⟩
  case round =>
    obtain ⟨k, hk, rfl, hno, rfl⟩ := hrel
    have HNO := Lib.hid hno
    clear hno
    by_cases hkl : k < n
    · obtain ⟨x, b, o, hx, rfl, hbl, _⟩ := HL.out.all (k := k) (by have := HN.out; omega)
      obtain ⟨hbl', c0, c1, c2⟩ := NS.get (HL.out.below HB1.out) hx
      have HST := Lib.hid (ntN_step hx)
      have HX := Lib.hid hx
      clear hx c2
      cases hin : (x.k == 2)
      · have HS2 := Lib.hid (show ntN l (k + 1) = false by rw [HST.out, HNO.out, hin]; rfl)
        go_wp2
        go_roundw
        case rel => exact ⟨k + 1, by omega, by go_num, HS2.out, trivial⟩
        case measure => simp [intOf]; omega
      · have HI2 := Lib.hid (show ntB l = true by have := HN.out; rw [HI.out, ← this]; exact ntN_hit HX.out hin)
        go_wp2
        go_ret
        rw [HI2.out]
        exact ⟨rfl, HB1.out⟩
    · obtain rfl : k = n := by omega
      have HI2 := Lib.hid (show ntB l = false by rw [HI.out, HNO.out])
      go_wp2
      go_ret
      rw [HI2.out]
      exact ⟨rfl, HB1.out⟩
set_option maxHeartbeats 1000000 in
set_option maxRecDepth 100000 in
theorem IndexFuncNd_any (A : Option Addr) (l : List Nd) (n c : Nat) (w : World) (hn : l.length = n) (hm : n ≤ 2097152) (hl : NS w A l) :
    Calls Tryd.prog 26 #[.slice A n c, .func (.func 20) #[] #[]] w fun e w' => ∃ r : Int, e = .returned (.int .i64 r) ∧ decide (0 ≤ r) = ntN l n ∧ Below w.heap.size w w' := by
  have HN := Lib.hid hn
  have HL := Lib.hid hl
  go_enter Tryd.func26, Tryd.ntmps26
  go_wp2
  go_loopw [8] (fun iv wr => ∃ k : Nat, k ≤ n ∧ iv = .int .i64 k ∧ ntN l k = false ∧ Below w.heap.size w wr) (fun iv _ => n - (intOf iv).toNat)
  case atStart => exact ⟨0, Nat.zero_le _, rfl, rfl, Below.refl _ _⟩
  case round =>
    obtain ⟨k, hk, rfl, hno, hb⟩ := hrel
    have HNO := Lib.hid hno
    have HB := Lib.hid hb
    have hsz := hb.size
    clear hno hb
    by_cases hkl : k < n
    · obtain ⟨x, b, o, hx, rfl, hbl, _⟩ := HL.out.all (k := k) (by have := HN.out; omega)
      obtain ⟨hbl', c0, c1, c2⟩ := NS.get (HL.out.below HB.out) hx
      have HST := Lib.hid (ntN_step hx)
      have HX := Lib.hid hx
      clear hx
      cases hin : (x.k == 2)
      · have HS2 := Lib.hid (show ntN l (k + 1) = false by rw [HST.out, HNO.out, hin]; rfl)
        go_wp2
        go_roundw
        case rel => exact ⟨k + 1, by omega, by go_num, HS2.out, HB.out.trans (((Below.refl wr.heap.size wr).alloc (Nat.le_refl _) _).mono hsz)⟩
        case measure => simp [intOf]; omega
      · have HI2 := Lib.hid (show ntN l n = true by have := HN.out; rw [← this]; exact ntN_hit HX.out hin)
        go_wp2
        go_ret
        exact ⟨k, rfl, by rw [HI2.out]; simp, HB.out.trans (((Below.refl wr.heap.size wr).alloc (Nat.le_refl _) _).mono hsz)⟩
    · obtain rfl : k = n := by omega
      go_wp2
      go_ret
      exact ⟨-1, rfl, by rw [HNO.out]; rfl, HB.out⟩
set_option maxRecDepth 100000 in
theorem ContainsFuncNd_any (A : Option Addr) (l : List Nd) (n c : Nat) (w : World) (hn : l.length = n) (hm : n ≤ 2097152) (hl : NS w A l) :
    Calls Tryd.prog 19 #[.slice A n c, .func (.func 20) #[] #[]] w fun e w' => e = .returned (.bool (ntN l n)) ∧ Below w.heap.size w w' := by
  go_enter Tryd.func19, Tryd.ntmps19
  go_wp2_with fail
  refine (IndexFuncNd_any A l n c w hn hm hl).mono ?_
  rintro e w1 ⟨r, rfl, hr, hb⟩
  have HR := Lib.hid hr
  clear hr
  go_wp2
  go_ret
  rw [← HR.out]
  exact ⟨rfl, hb⟩
set_option maxHeartbeats 1000000 in
set_option maxRecDepth 100000 in
theorem HasNote_any (A : Option Addr) (l : List Nd) (n c : Nat) (w : World) (hn : l.length = n) (hm : n ≤ 2097152) (hl : NS w A l) (hg : ErrV w) :
    Calls Tryd.prog 11 #[.slice A n c] w fun e w' => e = .returned (.bool (ntB l)) ∧ Below w.heap.size w w' := by
  have HN := Lib.hid hn
  have HL := Lib.hid hl
  go_enter Tryd.func11, Tryd.ntmps11
  go_wp2_with fail
  refine (TreeOk_any A l n c w hn hm hl hg).mono ?_
  rintro e w1 ⟨rfl, hb⟩
  have HB1 := Lib.hid hb
  clear hb
  cases ht : treB l
  · have HI := Lib.hid (ntB_no ht)
    clear ht
    go_wp2
    go_ret
    rw [HI.out]
    exact ⟨rfl, HB1.out⟩
  have HI := Lib.hid (show ntB l = ntN l n by rw [ntB_yes ht, HN.out])
  clear ht
  go_wp2_with fail
  refine (ContainsFuncNd_any A l n c w1 hn hm (hl.below HB1.out)).mono ?_
  rintro e w2 ⟨rfl, hb2⟩
  have HB2 := Lib.hid (HB1.out.trans (hb2.mono HB1.out.size))
  go_wp2
  go_ret
  rw [HI.out]
  exact ⟨rfl, HB2.out⟩
end Go.Proofs.YtddbcifjjblkeaaDoor
