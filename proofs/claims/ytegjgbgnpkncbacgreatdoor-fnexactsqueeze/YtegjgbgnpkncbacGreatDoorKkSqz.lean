/-
  Squeeze on both sides.
-/
import Derived.Test.YtegjgbgnpkncbacGreatDoorKk40
import Derived.Test.YtegjgbgnpkncbacGreatDoorKkLpe
import Derived.Test.YtegjgbgnpkncbacGreatDoorKkLpg
namespace Go.Proofs.YtegjgbgnpkncbacGreatDoor
open Go.RowKit
set_option linter.unusedVariables false

theorem pxN_mem {l : List Lx} {y : Lx} : ∀ {i : Nat}, y ∈ l.take i → i ≤ l.length → y.s.size ≤ (pxN l i).length := by
  intro i
  induction i with
  | zero => intro h; simp at h
  | succ i ih =>
    intro h hi
    have ht : l[i]? = some l[i] := List.getElem?_eq_getElem (by omega)
    rw [List.take_add_one, ht] at h
    rw [pxN_succ ht]
    simp only [List.length_append]
    rcases List.mem_append.1 h with h | h
    · have := ih h (by omega); omega
    · simp at h
      subst h
      have h3 : l[i].s.size = l[i].s.data.toList.length := size_l _
      omega
theorem pxB_pos {l : List Lx} {y : Lx} (h : y ∈ l) (hy : 1 ≤ y.s.size) : 1 ≤ (pxB l).size := by
  have := pxN_mem (l := l) (y := y) (i := l.length) (by rw [List.take_length]; exact h) (Nat.le_refl _)
  show 1 ≤ (pxN l l.length).toArray.size
  simp only [List.size_toArray]
  omega
theorem hdL_pos {x : Nd} (h : nodB x = true) : ∃ y ∈ hdL x, 1 ≤ y.s.size := by
  unfold hdL
  by_cases hk : x.k ≤ 2
  · rw [if_pos hk]
    obtain ⟨y, _, hy, hg⟩ := nodB_text h (by omega)
    have := hg.pos
    rw [hy] at this
    exact ⟨_, List.mem_singleton.2 rfl, this⟩
  · rw [if_neg hk]
    split
    · exact ⟨_, List.mem_singleton.2 rfl, Nat.le_refl 1⟩
    · refine ⟨_, List.mem_singleton.2 rfl, ?_⟩
      unfold opS
      split
      · decide
      · split <;> decide
theorem prT_pos {l : List Nd} (h : TrOk l) (hl : l ≠ []) : 1 ≤ (prT l).size := by
  rw [prT_yes h]
  have hlen : 0 < l.length := List.length_pos_iff.2 hl
  have h0 : par l 0 = 0 := Nat.le_zero.1 (par_le l 0)
  have hm : 0 ∈ kidsN l 0 l.length := by
    unfold kidsN
    rw [List.mem_filter]
    exact ⟨List.mem_range.2 hlen, by simp [h0]⟩
  have hx : l[0]? = some l[0] := List.getElem?_eq_getElem hlen
  obtain ⟨y, hy, hp⟩ := hdL_pos (h.node 0 _ hx)
  refine pxB_pos (y := y) ?_ hp
  unfold lexK
  refine List.mem_flatMap.2 ⟨0, hm, ?_⟩
  rw [lexP_eq (by omega)]
  refine List.mem_append.2 (.inl ?_)
  have e : nAt l (0 + 1) = l[0] := by
    have := nAt_succ hx
    exact this
  rw [e]
  exact hy
theorem prT_nil : (prT []).size = 0 := by
  have h : TrOk ([] : List Nd) := by
    refine ⟨by simp, fun i x hx => by simp at hx, fun i hi => by simp at hi, fun i hi => ?_⟩
    simp at hi
    subst hi
    exact whl_zero _ _
  rw [prT_yes h]
  rfl
/-- what Squeeze tells. -/
noncomputable def sqT (s : ByteArray) : ByteArray := if (prsA s).2.1 = 0 then (if (prsA s).1 = [] then ByteArray.empty else prT (prsA s).1 ++ ⟨#[10]⟩) else ByteArray.empty
noncomputable def sqA (s : ByteArray) : Int := if (prsA s).2.1 = 0 then -1 else (prsA s).2.2
theorem em_yes {x : ByteArray} (h : x.size = 0) : (x.toList == []) = true ∧ x = ByteArray.empty := by
  have h1 : x.size = x.data.toList.length := size_l x
  have h2 : x.data.toList = [] := List.eq_nil_of_length_eq_zero (by omega)
  refine ⟨by rw [ByteArray.toList_eq, h2]; rfl, ?_⟩
  rw [ext_l h2]
  rfl
theorem em_no {x : ByteArray} (h : 1 ≤ x.size) : (x.toList == []) = false := by
  have h1 : x.size = x.data.toList.length := size_l x
  rw [ByteArray.toList_eq]
  cases h2 : x.data.toList with
  | nil =>
    rw [h2] at h1
    have h3 : x.size = 0 := h1
    omega
  | cons _ _ => rfl
def enL (x : ByteArray) : ByteArray := if x.size = 0 then ByteArray.empty else x ++ ⟨#[10]⟩
set_option maxHeartbeats 2000000 in
set_option maxRecDepth 100000 in
theorem endLine_any (x : ByteArray) (w : World) (hx : x.size ≤ 2097152) :
    Calls Tryz.prog 27 #[.string x] w fun e w' => e = .returned (.string (enL x)) ∧ w = w' := by
  by_cases h0 : x.size = 0
  · have hq := (em_yes h0).1
    have HI := Lib.hid (show enL x = ByteArray.empty from if_pos h0)
    clear h0
    go_enter Tryz.func27, Tryz.ntmps27
    go_wp2_with fail
    go_ret
    rw [HI.out]
    exact ⟨rfl, rfl⟩
  · have hq := em_no (x := x) (by omega)
    have HI := Lib.hid (show enL x = x ++ ⟨#[10]⟩ from if_neg h0)
    clear h0
    go_enter Tryz.func27, Tryz.ntmps27
    go_wp2_with fail
    go_ret
    rw [HI.out]
    exact ⟨rfl, rfl⟩
theorem prT_le {l : List Nd} (h : TrOk l) : (prT l).size ≤ 2097152 := by
  rw [prT_yes h]
  have h1 := h.bulk_le
  have h2 := pxN_len (lexK l 0 l.length) (lexK l 0 l.length).length (Nat.le_refl _)
  show (pxN (lexK l 0 l.length) (lexK l 0 l.length).length).toArray.size ≤ 2097152
  simp only [List.size_toArray]
  have h3 : bulk (txs (lexK l 0 l.length)) = (txs (lexK l 0 l.length)).length + bulkN (txs (lexK l 0 l.length)) (txs (lexK l 0 l.length)).length := rfl
  have h4 := txs_length (lexK l 0 l.length)
  rw [h4] at h3
  omega
set_option maxHeartbeats 2000000 in
set_option maxRecDepth 100000 in
theorem Squeeze_any (s : ByteArray) (w : World) (hg : ErrV w) :
    Calls Tryz.prog 14 #[.string s] w fun e w' => e = .returned (.tuple #[.string (sqT s), .int .i64 (sqA s)]) ∧ Below w.heap.size w w' := by
  have hlen : (prsA s).1.length ≤ 200 := (prsA_tree s).len
  have HS1 := Lib.hid (prsA_small s)
  have HTR := Lib.hid (prsA_tree s)
  have HQT := Lib.hid (show sqT s = (if (prsA s).2.1 = 0 then (if (prsA s).1 = [] then ByteArray.empty else prT (prsA s).1 ++ ⟨#[10]⟩) else ByteArray.empty) from rfl)
  have HQA := Lib.hid (show sqA s = (if (prsA s).2.1 = 0 then -1 else (prsA s).2.2) from rfl)
  obtain ⟨l, hl⟩ : ∃ l, (prsA s).1 = l := ⟨_, rfl⟩
  obtain ⟨c, hc⟩ : ∃ c, (prsA s).2.1 = c := ⟨_, rfl⟩
  obtain ⟨a, ha⟩ : ∃ a, (prsA s).2.2 = a := ⟨_, rfl⟩
  rw [hl, hc] at HQT
  rw [hc, ha] at HQA
  rw [hl] at hlen HS1 HTR
  have HL := Lib.hid hl
  have HC := Lib.hid hc
  have HA := Lib.hid ha
  clear hl hc ha
  have HG := Lib.hid hg
  go_enter Tryz.func14, Tryz.ntmps14
  go_wp2_with fail
  refine (ParseTree_any s _ HG.out).mono ?_
  intro e w1 h1
  obtain ⟨hb1, A0, c0, rfl, hlo0, hr0⟩ := ptp_out h1 HL.out HC.out HA.out
  have HX0 := Lib.hid hr0
  have HB1 := Lib.hid hb1
  clear h1 hr0 hb1 hlo0
  by_cases hc0 : c = 0
  · have hcb : (c == 0) = true := by simp [hc0]
    have hcn : (c != 0) = false := by simp [hc0]
    have HA2 := Lib.hid (show sqA s = -1 by rw [HQA.out, if_pos hc0])
    have HP0 := Lib.hid (show l = [] → (prT l).size = 0 from fun e => by rw [e]; exact prT_nil)
    have HP1 := Lib.hid (show l ≠ [] → 1 ≤ (prT l).size from fun e => prT_pos HTR.out e)
    have HT := Lib.hid (show sqT s = enL (prT l) by
      rw [HQT.out, if_pos hc0]
      unfold enL
      by_cases e : l = []
      · rw [if_pos e, if_pos (HP0.out e)]
      · rw [if_neg e, if_neg (by have := HP1.out e; omega)])
    have HPS := Lib.hid (prT_le HTR.out)
    go_wp2_with fail
    refine (PrintTree_any A0 l _ c0 w1 rfl (by omega) HX0.out.is (HG.out.below HB1.out)).mono ?_
    rintro e w2 ⟨rfl, hb2⟩
    have HB2 := Lib.hid (HB1.out.trans (hb2.mono HB1.out.size))
    clear hb2
    have hps : (prT l).size ≤ 2097152 := HPS.out
    generalize prT l = T at *
    go_wp2_with fail
    refine (endLine_any T _ hps).mono ?_
    rintro e w3 ⟨rfl, rfl⟩
    go_wp2_with fail
    refine bodyPost_ret (v := .tuple #[.string (enL T), .int .i64 (-1)]) (by simp [results, Tryz.results14, go_sem]) rfl ?_
    rw [HT.out, HA2.out]
    exact ⟨rfl, HB2.out⟩
  · have hcb : (c == 0) = false := by simp [hc0]
    have hcn : (c != 0) = true := by simp [hc0]
    have HA2 := Lib.hid (show sqA s = a by rw [HQA.out, if_neg hc0])
    have HT := Lib.hid (show sqT s = ByteArray.empty by rw [HQT.out, if_neg hc0])
    go_wp2_with fail
    refine bodyPost_ret (v := .tuple #[.string ⟨#[]⟩, .int .i64 (a)]) (by simp [results, Tryz.results14, go_sem]) rfl ?_
    rw [HT.out, HA2.out]
    exact ⟨rfl, HB1.out⟩
set_option maxHeartbeats 2000000 in
set_option maxRecDepth 100000 in
theorem sSqueeze_any (s : ByteArray) (w : World) (hs : s.size ≤ 1048576) :
    Calls Tryz.prog 13 #[.string s] w fun e w' => e = .returned (.tuple #[.string (sqT s), .int .i64 (sqA s)]) ∧ Below w.heap.size w w' := by
  have hlen : (prsA s).1.length ≤ 200 := (prsA_tree s).len
  have HS1 := Lib.hid (prsA_small s)
  have HTR := Lib.hid (prsA_tree s)
  have HQT := Lib.hid (show sqT s = (if (prsA s).2.1 = 0 then (if (prsA s).1 = [] then ByteArray.empty else prT (prsA s).1 ++ ⟨#[10]⟩) else ByteArray.empty) from rfl)
  have HQA := Lib.hid (show sqA s = (if (prsA s).2.1 = 0 then -1 else (prsA s).2.2) from rfl)
  obtain ⟨l, hl⟩ : ∃ l, (prsA s).1 = l := ⟨_, rfl⟩
  obtain ⟨c, hc⟩ : ∃ c, (prsA s).2.1 = c := ⟨_, rfl⟩
  obtain ⟨a, ha⟩ : ∃ a, (prsA s).2.2 = a := ⟨_, rfl⟩
  rw [hl, hc] at HQT
  rw [hc, ha] at HQA
  rw [hl] at hlen HS1 HTR
  have HL := Lib.hid hl
  have HC := Lib.hid hc
  have HA := Lib.hid ha
  clear hl hc ha
  skip
  go_enter Tryz.func13, Tryz.ntmps13
  go_wp2_with fail
  refine (sParseTree_any s _ hs).mono ?_
  intro e w1 h1
  obtain ⟨hb1, A0, c0, rfl, hlo0, hr0⟩ := ptp_out h1 HL.out HC.out HA.out
  have HX0 := Lib.hid hr0
  have HB1 := Lib.hid hb1
  clear h1 hr0 hb1 hlo0
  by_cases hc0 : c = 0
  · have hcb : (c == 0) = true := by simp [hc0]
    have hcn : (c != 0) = false := by simp [hc0]
    have HA2 := Lib.hid (show sqA s = -1 by rw [HQA.out, if_pos hc0])
    have HP0 := Lib.hid (show l = [] → (prT l).size = 0 from fun e => by rw [e]; exact prT_nil)
    have HP1 := Lib.hid (show l ≠ [] → 1 ≤ (prT l).size from fun e => prT_pos HTR.out e)
    have HT := Lib.hid (show sqT s = enL (prT l) by
      rw [HQT.out, if_pos hc0]
      unfold enL
      by_cases e : l = []
      · rw [if_pos e, if_pos (HP0.out e)]
      · rw [if_neg e, if_neg (by have := HP1.out e; omega)])
    have HPS := Lib.hid (prT_le HTR.out)
    go_wp2_with fail
    refine (sPrintTree_any A0 l _ c0 w1 rfl (by omega) HX0.out.is HS1.out).mono ?_
    rintro e w2 ⟨rfl, hb2⟩
    have HB2 := Lib.hid (HB1.out.trans (hb2.mono HB1.out.size))
    clear hb2
    generalize prT l = T at *
    by_cases hl0 : l = []
    · subst hl0
      have HTT := Lib.hid (show enL T = T from by have e := (em_yes (HP0.out rfl)).2; unfold enL; rw [if_pos (HP0.out rfl), e])
      go_wp2_with fail
      refine bodyPost_ret (v := .tuple #[.string (T), .int .i64 (-1)]) (by simp [results, Tryz.results13, go_sem]) rfl ?_
      rw [HT.out, HA2.out, HTT.out]
      exact ⟨rfl, HB2.out⟩
    · have hlp : 0 < l.length := List.length_pos_iff.2 hl0
      have hT := HP1.out hl0
      have hps := HPS.out
      have HTT := Lib.hid (show enL T = T ++ ⟨#[10]⟩ from if_neg (by omega))
      go_wp2_with fail
      refine bodyPost_ret (v := .tuple #[.string (T ++ ⟨#[10]⟩), .int .i64 (-1)]) (by simp [results, Tryz.results13, go_sem]) rfl ?_
      rw [HT.out, HA2.out, HTT.out]
      exact ⟨rfl, HB2.out⟩
  · have hcb : (c == 0) = false := by simp [hc0]
    have hcn : (c != 0) = true := by simp [hc0]
    have HA2 := Lib.hid (show sqA s = a by rw [HQA.out, if_neg hc0])
    have HT := Lib.hid (show sqT s = ByteArray.empty by rw [HQT.out, if_neg hc0])
    go_wp2_with fail
    refine bodyPost_ret (v := .tuple #[.string ⟨#[]⟩, .int .i64 (a)]) (by simp [results, Tryz.results13, go_sem]) rfl ?_
    rw [HT.out, HA2.out]
    exact ⟨rfl, HB1.out⟩
end Go.Proofs.YtegjgbgnpkncbacGreatDoor
