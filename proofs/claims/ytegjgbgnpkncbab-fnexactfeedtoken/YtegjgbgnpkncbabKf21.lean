/-
  slices.Clone and slices.Delete of the library, at rows of marks and of helds.
-/
import Derived.Test.YtegjgbgnpkncbabKf18
import Derived.Test.YtegjgbgnpkncbabKf20
import Derived.Deep.RegionLaw
import Derived.Lib.SliceRun
namespace Go.Proofs.Ytegjgbgnpkncbab
open Go.RowKit
set_option linter.unusedVariables false
theorem RS.src {α : Type} {f : α → List Value} {z : Nat} (hf : ∀ t, (f t).length = z) (hz : 0 < z) {w : World} {b o : Nat} {l : List α} (h : RS f z w (some ⟨b, o, none⟩) l) (j : Nat) (u : Value) (hj : (fl f l)[j]? = some u) : w.cell? ⟨b, o + j, none⟩ = some u := by
  have hlt := (List.getElem?_eq_some_iff.1 hj).1
  rw [fl_length hf] at hlt
  have hq : j / z < l.length := by rw [Nat.div_lt_iff_lt_mul hz]; exact hlt
  have hm : j % z < z := Nat.mod_lt _ hz
  have ht : l[j / z]? = some l[j / z] := List.getElem?_eq_getElem hq
  have e : j / z * z + j % z = j := by have := Nat.div_add_mod j z; rw [Nat.mul_comm] at this; exact this
  have h1 := (h.get ht).2 _ hm
  have h2 := fl_at hf ht hm
  rw [e] at h2
  rw [show o + j / z * z + j % z = o + j by omega] at h1
  rw [h1, ← h2, hj]
theorem fm_one (l : List (Int × Int)) : ∀ u ∈ fl fm l, u.oneCell' = true := by
  intro u hu
  simp only [fl, List.mem_flatMap, fm, List.mem_cons, List.not_mem_nil, or_false] at hu
  obtain ⟨m, _, rfl | rfl⟩ := hu <;> rfl
theorem fh_one (l : List Hd) : ∀ u ∈ fl fh l, u.oneCell' = true := by
  intro u hu
  simp only [fl, List.mem_flatMap, fh, List.mem_cons, List.not_mem_nil, or_false] at hu
  obtain ⟨m, _, rfl | rfl | rfl | rfl | rfl | rfl | rfl⟩ := hu <;> rfl
/-- a row that was cloned: of its own. -/
def CloneP {α : Type} (f : α → List Value) (z : Nat) (ty : TypeId) (w : World) (l : List α) (r : Ending) (w' : World) : Prop := ∃ v, r = .returned v ∧ w'.ownsRow w.heap.size ty z v l.length (fl f l) ∧ Below w.heap.size w w'
set_option maxHeartbeats 1000000 in
set_option maxRecDepth 100000 in
theorem cloneM_any (A : Option Addr) (l : List (Int × Int)) (n c : Nat) (w : World) (hn : l.length = n) (hm : n ≤ 2097152) (hts : MS w A l) :
    Calls Try.prog 84 #[.slice A n c] w (CloneP fm 2 121 w l) := by
  have q22 : ∀ (w : World) (a : Option Addr) (n c n' c' : Nat), (binOp .eql 44 (.slice a n c) (.slice none n' c')).run Try.prog w = .ok (.bool a.isNone) w := fun w a n c n' c' => Lib.run_eql_slice_nil w _ _ a n c n' c' Try.underlying44
  cases A with
  | none =>
    have h0 : l = [] := by
      cases l with
      | nil => rfl
      | cons t r => obtain ⟨_, _, h, _⟩ := hts 0 t rfl; cases h
    subst h0
    subst hn
    go_enter Try.func84, Try.ntmps84
    go_wp2
    go_ret
    exact ⟨_, rfl, ⟨rfl, .inl ⟨rfl, rfl⟩⟩, Below.refl _ _⟩
  | some a =>
    obtain ⟨i0, hi, hz0, hz1, hz2⟩ := info_parts infoMarkI
    have HT := Lib.hid hts
    have HN := Lib.hid hn
    clear hts hn
    have u22 : ∀ w, Sem.run Try.prog (underlying 44) w = .ok (TypeDesc.slice 121) w := run_underlying Try.underlying44
    go_enter Try.func84, Try.ntmps84
    go_wp2_with (at_builtin; refine wpList_append_own _ rfl _ _ 44 rfl w.heap.size 121 i0 (.agg #[.int .i64 0, .int .i64 0]) 2 16 Try.underlying44 hi hz0 hz1 hz2 rfl (by decide) _ _ _ rfl (World.ownsRow_made w #[] 0 (Nat.le_refl _) (Nat.zero_le _) rfl) a n c (fl fm l) rfl ?qc1 ?qc2 ?qc3 ?qc4 ?qc5 ?qc6 ?_)
    case qc1 => rw [fl_length fm_len, HN.out]
    case qc2 =>
      intro j u hj
      have hlt := (List.getElem?_eq_some_iff.1 hj).1
      rw [fl_length fm_len] at hlt
      obtain ⟨t, b, o, _, ha, _⟩ := RS.at HT.out (k := 0) (by omega)
      injection ha with ha
      subst ha
      rw [Addr.add_lit]
      exact Lib.cell?_alloc_some _ (RS.src fm_len (by decide) HT.out j u hj)
    case qc3 => exact fm_one l
    case qc4 => unfold maxLen; omega
    case qc5 => omega
    case qc6 => simp
    intro v' w1 hown hgrow hnil
    go_wp2
    go_ret
    refine ⟨v', rfl, ?_, ?_⟩
    · have := hown
      rw [HN.out]
      simpa using hown
    · exact ((Below.refl _ w).alloc (Nat.le_refl _) _).grown hgrow (by simp) (by intro k hk; simp [Value.ownBlock] at hk; omega)
set_option maxHeartbeats 1000000 in
set_option maxRecDepth 100000 in
theorem cloneH_any (A : Option Addr) (l : List Hd) (n c : Nat) (w : World) (hn : l.length = n) (hm : n ≤ 2097152) (hts : HS w A l) :
    Calls Try.prog 85 #[.slice A n c] w (CloneP fh 7 80 w l) := by
  have q22 : ∀ (w : World) (a : Option Addr) (n c n' c' : Nat), (binOp .eql 45 (.slice a n c) (.slice none n' c')).run Try.prog w = .ok (.bool a.isNone) w := fun w a n c n' c' => Lib.run_eql_slice_nil w _ _ a n c n' c' Try.underlying45
  cases A with
  | none =>
    have h0 : l = [] := by
      cases l with
      | nil => rfl
      | cons t r => obtain ⟨_, _, h, _⟩ := hts 0 t rfl; cases h
    subst h0
    subst hn
    go_enter Try.func85, Try.ntmps85
    go_wp2
    go_ret
    exact ⟨_, rfl, ⟨rfl, .inl ⟨rfl, rfl⟩⟩, Below.refl _ _⟩
  | some a =>
    obtain ⟨i0, hi, hz0, hz1, hz2⟩ := info_parts infoHeldI
    have HT := Lib.hid hts
    have HN := Lib.hid hn
    clear hts hn
    have u22 : ∀ w, Sem.run Try.prog (underlying 45) w = .ok (TypeDesc.slice 80) w := run_underlying Try.underlying45
    go_enter Try.func85, Try.ntmps85
    go_wp2_with (at_builtin; refine wpList_append_own _ rfl _ _ 45 rfl w.heap.size 80 i0 (.agg #[.int .i64 0, .string ByteArray.empty, .int .i64 0, .int .i64 0, .int .i64 0, .int .i64 0, .int .i64 0]) 7 64 Try.underlying45 hi hz0 hz1 hz2 rfl (by decide) _ _ _ rfl (World.ownsRow_made w #[] 0 (Nat.le_refl _) (Nat.zero_le _) rfl) a n c (fl fh l) rfl ?qc1 ?qc2 ?qc3 ?qc4 ?qc5 ?qc6 ?_)
    case qc1 => rw [fl_length fh_len, HN.out]
    case qc2 =>
      intro j u hj
      have hlt := (List.getElem?_eq_some_iff.1 hj).1
      rw [fl_length fh_len] at hlt
      obtain ⟨t, b, o, _, ha, _⟩ := RS.at HT.out (k := 0) (by omega)
      injection ha with ha
      subst ha
      rw [Addr.add_lit]
      exact Lib.cell?_alloc_some _ (RS.src fh_len (by decide) HT.out j u hj)
    case qc3 => exact fh_one l
    case qc4 => unfold maxLen; omega
    case qc5 => omega
    case qc6 => simp
    intro v' w1 hown hgrow hnil
    go_wp2
    go_ret
    refine ⟨v', rfl, ?_, ?_⟩
    · have := hown
      rw [HN.out]
      simpa using hown
    · exact ((Below.refl _ w).alloc (Nat.le_refl _) _).grown hgrow (by simp) (by intro k hk; simp [Value.ownBlock] at hk; omega)
theorem setCells_eq (b : Nat) : ∀ (vs : List Value) (o : Nat) (w : World), w.setCells b o vs = World.setN w b o vs
  | [], _, _ => rfl
  | v :: r, o, w => setCells_eq b r (o + 1) (w.setCell ⟨b, o, none⟩ v)
theorem setN_length (vs : List Value) : ∀ (cs : List Value) (p : Nat), (setN cs p vs).length = cs.length := by
  induction vs with
  | nil => intro cs p; rfl
  | cons v vs ih => intro cs p; simp only [setN]; rw [ih]; simp
theorem setN_right (vs : List Value) : ∀ (X Y : List Value) (p : Nat), X.length ≤ p → setN (X ++ Y) p vs = X ++ setN Y (p - X.length) vs := by
  induction vs with
  | nil => intro X Y p h; rfl
  | cons v vs ih =>
    intro X Y p h
    simp only [setN]
    rw [List.set_append_right _ _ h, ih _ _ _ (by omega), show p + 1 - X.length = p - X.length + 1 by omega]
theorem zeroH_run (w : World) : (zeroValue 80).run Try.prog w = .ok (.agg #[.int .i64 0, .string ByteArray.empty, .int .i64 0, .int .i64 0, .int .i64 0, .int .i64 0, .int .i64 0]) w := by
  kernel_rfl
theorem run_clear_helds (w : World) (ty : TypeId) (b o n c : Nat) (hn : 0 < n) (hc : ∀ j, j < n * 7 → (w.cell? ⟨b, o + j, none⟩).isSome = true) (hf : ∀ j, j < n * 7 → w.frozen? ⟨b, o + j, none⟩ = false) :
    (Builtin.clear_ #[45] ty #[.slice (some ⟨b, o, none⟩) n c]).run Try.prog w = .ok (.tuple #[]) (w.setCells b o (fl fh (List.replicate n zeroH))) := by
  have hzc : (Builtin.zeroCells (Value.agg #[.int .i64 0, .string ByteArray.empty, .int .i64 0, .int .i64 0, .int .i64 0, .int .i64 0, .int .i64 0]).cells n).toList = fl fh (List.replicate n zeroH) := by
    rw [fl_rep fh_len (by decide)]
    rfl
  have hst := run_storeCells_cells (P := Try.prog) b o (fl fh (List.replicate n zeroH)) 0 w (by rw [fl_length fh_len]; simpa using hc) (by rw [fl_length fh_len]; simpa using hf) (fh_one _)
  simp only [Nat.add_zero] at hst
  obtain ⟨m, rfl⟩ : ∃ m, n = m + 1 := ⟨n - 1, by omega⟩
  have hv := zeroH_run
  generalize (Value.agg #[.int .i64 0, .string ByteArray.empty, .int .i64 0, .int .i64 0, .int .i64 0, .int .i64 0, .int .i64 0]) = zz at *
  simp [Builtin.clear_, run_underlying Try.underlying45, hv, hzc, hst]
/-- behind a deletion at the head. -/
def DelP (B : Nat) (w : World) (v0 : Value) (l : List Hd) (r : Ending) (w' : World) : Prop := ∃ v, r = .returned v ∧ w'.ownsRow B 80 7 v l.length (fl fh l) ∧ w.grownBy w' v.ownBlock ∧ v.ownBlock = v0.ownBlock
set_option maxHeartbeats 2000000 in
set_option maxRecDepth 100000 in
theorem deleteH_any (v : Value) (n j B : Nat) (l : List Hd) (w : World) (hn : l.length = n) (hm : n ≤ 2097152) (hj : j ≤ n) (ho : w.ownsRow B 80 7 v n (fl fh l)) :
    Calls Try.prog 107 #[v, .int .i64 0, .int .i64 j] w (DelP B w v (l.drop j)) := by
  have HO := Lib.hid ho
  by_cases hj0 : j = 0
  · subst hj0
    have HN := Lib.hid hn
    clear hn
    rcases ho.2 with ⟨rfl, h0⟩ | ⟨g, cap, cur, rfl, hB, hh, hcap, hcm, hsz, htk⟩
    · have HN0 := Lib.hid h0
      clear ho
      obtain rfl : n = 0 := h0
      go_enter Try.func107, Try.ntmps107
      go_wp2
      go_ret
      refine ⟨_, rfl, ?_, World.grownBy.refl _ _, rfl⟩
      show w.ownsRow B 80 7 (.slice none 0 0) l.length (fl fh l)
      rw [HN.out]
      exact HO.out
    · clear ho htk hsz hh
      unfold maxLen at hcm
      go_enter Try.func107, Try.ntmps107
      go_wp2
      all_goals
        go_ret
        refine ⟨_, rfl, ?_, World.grownBy.refl _ _, rfl⟩
        show w.ownsRow B 80 7 (.slice (some ⟨g, 0, none⟩) n cap) l.length (fl fh l)
        rw [HN.out]
        exact HO.out
  rcases ho.2 with ⟨rfl, h0⟩ | ⟨g, cap, cur, rfl, hB, hh, hcap, hcm, hsz, htk⟩
  · omega
  obtain ⟨i0, hi0, hz0, hz1, hz2⟩ := info_parts infoHeldI
  have hK : BlkL w g 80 cur.toList := by unfold BlkL; simpa using hh
  have hcl : cur.toList.length = cap * 7 := by simpa using hsz
  have hcut : cur.toList = fl fh l ++ cur.toList.drop (n * 7) := by rw [← htk, List.take_append_drop]
  obtain ⟨news, hnews⟩ : ∃ news, news = fl fh (l.drop j) := ⟨_, rfl⟩
  have hlen : news.length = (n - j) * 7 := by rw [hnews, fl_length fh_len]; simp; omega
  have hfl : fl fh l = fl fh (l.take j) ++ fl fh (l.drop j) := by rw [← fl_append, List.take_append_drop]
  have hltj : (fl fh (l.take j)).length = j * 7 := by rw [fl_length fh_len]; simp; omega
  obtain ⟨A, hA, hsrc⟩ : ∃ A : Addr, (if cap = j then some (⟨g, 0, none⟩ : Addr) else some ⟨g, j * 7, none⟩) = some A ∧ Hid (∀ t u, news[t]? = some u → w.drew.cell? (A.add t) = some u) := by
    by_cases h : cap = j
    · refine ⟨⟨g, 0, none⟩, by simp [h], fun t u hu => ?_⟩
      have := (List.getElem?_eq_some_iff.1 hu).1
      omega
    · refine ⟨⟨g, j * 7, none⟩, by simp [h], fun t u hu => ?_⟩
      have hlt := (List.getElem?_eq_some_iff.1 hu).1
      rw [Addr.add_lit]
      show w.cell? _ = _
      rw [hK.cell, hcut, hfl, List.append_assoc, List.getElem?_append_right (by omega), hltj, show j * 7 + t - j * 7 = t by omega, ← hnews, List.getElem?_append_left (by omega)]
      exact hu
  have s2 : Hid (∀ u ∈ news, u.oneCell' = true) := by rw [hnews]; exact fh_one _
  have s3 : Hid (∀ t, t < news.length → (w.drew.cell? ⟨g, 0 + 0 * 7 + t, none⟩).isSome = true ∧ w.drew.frozen? ⟨g, 0 + 0 * 7 + t, none⟩ = false) := by
    intro t ht
    refine ⟨?_, hK.frozen _⟩
    show (w.cell? _).isSome = true
    obtain ⟨x, hx⟩ := hK.some_ (i := 0 + 0 * 7 + t) (by rw [hcl]; omega)
    rw [hx]; rfl
  obtain ⟨W1, hW1⟩ : ∃ W1, W1 = w.drew.setCells g (0 + 0 * 7) news := ⟨_, rfl⟩
  have hK1 : BlkL W1 g 80 (setN cur.toList 0 news) := by rw [hW1, setCells_eq]; exact BlkL.setN news _ _ _ hK.drew
  have hg1 : w.grownBy W1 (some g) := by rw [hW1, setCells_eq]; exact grown_setN news _ _ ⟨rfl, rfl, rfl, Nat.le_refl _, fun _ _ _ => rfl⟩
  have hcs1 : (setN cur.toList 0 news).length = cap * 7 := by rw [setN_length, hcl]
  have hcs2 : ∃ R, setN cur.toList 0 news = news ++ R := by
    refine ⟨(cur.toList.drop news.length), ?_⟩
    have e : cur.toList = [] ++ (cur.toList.take news.length ++ cur.toList.drop news.length) := by rw [List.take_append_drop]; rfl
    have := setN_mid news [] (cur.toList.take news.length) (cur.toList.drop news.length) (by rw [List.length_take]; omega)
    rw [← e] at this
    simpa using this
  have hclr : ∀ ty, (Builtin.clear_ #[45] ty #[.slice (some ⟨g, (n - j) * 7, none⟩) (n - (n - j)) (cap - (n - j))]).run Try.prog W1 = .ok (.tuple #[]) (W1.setCells g ((n - j) * 7) (fl fh (List.replicate (n - (n - j)) zeroH))) :=
    fun ty => run_clear_helds W1 ty g ((n - j) * 7) (n - (n - j)) _ (by omega) (fun t ht => by obtain ⟨x, hx⟩ := hK1.some_ (i := (n - j) * 7 + t) (by rw [hcs1]; omega); rw [hx]; rfl) (fun t ht => hK1.frozen _)
  have hK2 : BlkL (W1.setCells g ((n - j) * 7) (fl fh (List.replicate (n - (n - j)) zeroH))) g 80 (setN (setN cur.toList 0 news) ((n - j) * 7) (fl fh (List.replicate (n - (n - j)) zeroH))) := by rw [setCells_eq]; exact BlkL.setN _ _ _ _ hK1
  have hg2 : w.grownBy (W1.setCells g ((n - j) * 7) (fl fh (List.replicate (n - (n - j)) zeroH))) (some g) := by rw [setCells_eq]; exact grown_setN _ _ _ hg1
  have HK2 := Lib.hid hK2
  have HG2 := Lib.hid hg2
  have HCS1 := Lib.hid hcs1
  have HCS2 := Lib.hid hcs2
  have HW := Lib.hid hW1
  have HNEWS := Lib.hid hnews
  have HNL := Lib.hid hlen
  have hs1 := Lib.hid (show news.length = (n - j) * 7 from hlen)
  have HLN := Lib.hid hn
  unfold maxLen at hcm
  have hjc : j ≤ cap := by omega
  clear hW1 hK1 hg1 hK2 hg2 hcs1 hcs2 hnews hfl hltj hcut hcl hK htk hsz hh ho HO hn hlen
  have b0 : ((0 : Int) == (j : Int)) = false := by rw [beq_eq_false_iff_ne]; omega
  go_enter Try.func107, Try.ntmps107
  go_wp2_with fail
  go_region_law (refine step_append_room rfl (.tmp 22) (.tmp 25) 45 rfl 80 i0 7 Try.underlying45 hi0 hz1 g 0 0 cap (by simp [Act.eval, Act.put]) A (n - j) (cap - j) news (by simp [Act.eval, Act.put]) hs1.out hsrc.out s2.out (by omega) s3.out ?_; rw [← HW.out])
  go_wp2
  go_ret
  have hdl : (l.drop j).length = n - j := by rw [List.length_drop, HLN.out]
  refine ⟨_, rfl, ⟨?_, .inr ⟨g, cap, (setN (setN cur.toList 0 news) ((n - j) * 7) (fl fh (List.replicate (n - (n - j)) zeroH))).toArray, ?_, hB, HK2.out, ?_, ?_, ?_, ?_⟩⟩, HG2.out, rfl⟩
  · rw [fl_length fh_len]
  · rw [hdl]; rfl
  · omega
  · unfold maxLen; omega
  · rw [List.size_toArray, setN_length, HCS1.out]
  · obtain ⟨R, hR⟩ := HCS2.out
    rw [hdl, hR, setN_right _ _ _ _ (by rw [HNL.out]; exact Nat.le_refl _), ← HNEWS.out, ← HNL.out]
    simp
end Go.Proofs.Ytegjgbgnpkncbab
