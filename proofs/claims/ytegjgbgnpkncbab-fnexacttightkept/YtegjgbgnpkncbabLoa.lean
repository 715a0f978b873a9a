/-
  Which tokens break, and the line of each: the program's breaking, countUp and LineOfTokens.
-/
import Derived.Test.YtegjgbgnpkncbabLay
import Derived.Test.YtegjgbgnpkncbabRws
import Derived.Test.YtegjgbgnpkncbabOws
namespace Go.Proofs.Ytegjgbgnpkncbab
open Go.RowKit
set_option linter.unusedVariables false

theorem run_mem (W : Int) (l : List Tk) : ∀ (k : Nat) (p : Int), p ∈ (run W l k).2 → 0 ≤ p ∧ p < k
  | 0, p, h => by simp [run] at h
  | k + 1, p, h => by
    cases ht : l[k]? with
    | none =>
      have e : run W l (k + 1) = run W l k := by simp only [run, ht]
      rw [e] at h
      have := run_mem W l k p h
      omega
    | some t =>
      rw [run_succ ht] at h
      rcases List.mem_append.1 h with h | h
      · have := run_mem W l k p h; omega
      · split at h
        · simp at h; omega
        · simp at h
theorem brkL_mem {W : Int} {l : List Tk} {p : Int} (h : p ∈ brkL W l) : 0 ≤ p ∧ p < l.length := by
  unfold brkL at h
  split at h
  · exact run_mem W l _ p h
  · simp at h
theorem fl_int (xs : List Int) : fl (fun x => [Value.int .i64 x]) xs = nums xs := by
  induction xs with
  | nil => rfl
  | cons x r ih => rw [fl_cons, ih]; rfl
theorem nums_set1 (xs : List Int) (i : Nat) (x : Int) : (nums xs).set i (.int .i64 x) = nums (xs.set i x) := by simp [nums]
def fb (b : Bool) : List Value := [.bool b]
theorem fb_len (b : Bool) : (fb b).length = 1 := rfl
theorem fl_fb (l : List Bool) : fl fb l = l.map Value.bool := by
  induction l with
  | nil => rfl
  | cons x r ih => rw [fl_cons, ih]; rfl
/-- of each of n places whether it is in the list. -/
def flN (ps : List Int) (n : Nat) : List Bool := (List.range n).map fun (k : Nat) => ps.contains (k : Int)
theorem flN_len (ps : List Int) (n : Nat) : (flN ps n).length = n := by simp [flN]
theorem flN_at (ps : List Int) {n k : Nat} (h : k < n) : (flN ps n)[k]? = some (ps.contains (k : Int)) := by simp [flN, h]
theorem flN_nil (n : Nat) : flN [] n = List.replicate n false := by
  apply List.ext_getElem?
  intro i
  by_cases h : i < n
  · rw [flN_at _ h, List.getElem?_replicate, if_pos h]; rfl
  · rw [List.getElem?_eq_none (by rw [flN_len]; omega), List.getElem?_replicate, if_neg h]
theorem flN_set (ps : List Int) (n q : Nat) (h : q < n) : (flN ps n).set q true = flN (ps ++ [(q : Int)]) n := by
  apply List.ext_getElem?
  intro i
  by_cases hi : i < n
  · rw [flN_at _ hi, List.getElem?_set]
    by_cases e : q = i
    · subst e; rw [if_pos rfl, if_pos (by rw [flN_len]; exact h)]; simp
    · rw [if_neg e, flN_at _ hi]
      simp
      omega
  · rw [List.getElem?_eq_none (by rw [List.length_set, flN_len]; omega), List.getElem?_eq_none (by rw [flN_len]; omega)]
theorem infoB : (Try.prog.info? 4).map (fun i => (i.zero, i.size, i.bytes)) = some (some (.bool false), 1, 1) := by kernel_rfl
theorem mkBools (n : Nat) (hn : n ≤ 2097152) (w : World) : (Instr.makeSlice 59 (.int .i64 n) (.int .i64 n)).run Try.prog w =
    .ok (.slice (some ⟨w.heap.size, 0, none⟩) n n) (w.alloc (.cells (fl fb (List.replicate n false)).toArray 4)) := by
  obtain ⟨i, hi, hz, hs, hb⟩ := info_parts infoB
  have h := run_make (P := Try.prog) w 59 4 i _ Try.underlying59 hi hz .i64 .i64 n n (by omega) (by omega) (by rw [hb]; omega) (by omega)
  rw [h, hs]
  have e : (madeCells (Value.bool false).cells (n * 1)).toList = fl fb (List.replicate n false) := by
    rw [fl_rep fb_len (by decide)]
    rfl
  rw [← e]
  simp
/-- how many of the first k are true. -/
def cuN (bs : List Bool) : Nat → Nat
  | 0 => 0
  | k + 1 => cuN bs k + (match bs[k]? with | some true => 1 | _ => 0)
theorem cuN_le (bs : List Bool) : ∀ k, cuN bs k ≤ k
  | 0 => Nat.le_refl _
  | k + 1 => by
    have := cuN_le bs k
    simp only [cuN]
    split <;> omega
theorem cuN_yes {bs : List Bool} {k : Nat} (h : bs[k]? = some true) : cuN bs (k + 1) = cuN bs k + 1 := by simp only [cuN, h]
theorem cuN_no {bs : List Bool} {k : Nat} (h : bs[k]? = some false) : cuN bs (k + 1) = cuN bs k := by simp only [cuN, h, Nat.add_zero]
def cuL (bs : List Bool) : List Int := (List.range bs.length).map fun k => (cuN bs (k + 1) : Int)
theorem cuL_len (bs : List Bool) : (cuL bs).length = bs.length := by simp [cuL]
theorem cuL_at (bs : List Bool) {k : Nat} (h : k < bs.length) : (cuL bs)[k]? = some (cuN bs (k + 1) : Int) := by simp [cuL, h]
/-- the line of each token. -/
def lnoL (W : Int) (l : List Tk) : List Int := if okB W l = true then cuL (flN (brkL W l) l.length) else []
/-- what breaking tells. -/
def BrkP (W : Int) (l : List Tk) (w : World) (e : Ending) (w' : World) : Prop :=
  Below w.heap.size w w' ∧ ((okB W l = true ∧ ∃ g, e = .returned (.tuple #[.slice (some ⟨g, 0, none⟩) l.length l.length, .bool true]) ∧ w.heap.size ≤ g ∧ BlkL w' g 4 (fl fb (flN (brkL W l) l.length))) ∨
    (okB W l = false ∧ e = .returned (.tuple #[.slice none 0 0, .bool false])))
set_option maxHeartbeats 1000000 in
set_option maxRecDepth 100000 in
theorem breaking_any (W : Int) (A : Option Addr) (l : List Tk) (m c : Nat) (w : World) (hm : l.length = m) (hmb : m ≤ 2097152) (hmc : m ≤ c) (hts : TS w A l) (hlow : ∀ b, A.map (·.block) = some b → b < w.heap.size) (hf : Fits l) :
    Calls Try.prog 35 #[.int .i64 W, .slice A m c] w (BrkP W l w) := by
  have HM := Lib.hid hm
  have HT := Lib.hid hts
  have HF := Lib.hid hf
  have HL := Lib.hid hlow
  have hmk : ∀ w : World, (Instr.makeSlice 59 (.int .i64 m) (.int .i64 m)).run Try.prog w = .ok (.slice (some ⟨w.heap.size, 0, none⟩) m m) (w.alloc (.cells (fl fb (List.replicate m false)).toArray 4)) := fun w => mkBools m hmb w
  clear hm hts hf hlow
  go_enter Try.func35, Try.ntmps35
  go_wp2_with fail
  refine (printed_any W A l m m c _ HM.out hmb (Nat.le_refl _) hmc HT.out HL.out HF.out).mono ?_
  rintro e w1 ⟨hb1, ⟨hok, p, v, vW, vM, rfl, hrow, hpa⟩ | ⟨hok, rfl⟩⟩
  · have HB1 := Lib.hid hb1
    have HV := Lib.hid (show brkL W l = (run W l m).2 from by simp [brkL, hok, HM.out])
    have HOK := Lib.hid hok
    obtain ⟨Av, cv, rfl⟩ := os_slice hrow
    have HR := Lib.hid (RS.of_own (f := fun x => [Value.int .i64 x]) (fun _ => rfl) rfl (by rw [fl_int]; exact hrow))
    obtain ⟨ps, hps⟩ : ∃ ps, (run W l m).2 = ps := ⟨_, rfl⟩
    rw [hps] at HR HV ⊢
    have hpl := brkL_le W l
    rw [HV.out] at hpl
    have HMM := Lib.hid (show ∀ x ∈ ps, 0 ≤ x ∧ x < m from fun x hx => by have := brkL_mem (W := W) (l := l) (p := x) (by rw [HV.out]; exact hx); rw [HM.out] at this; exact this)
    clear hb1 hok hpa hrow hps
    go_wp2_with fail
    have HK0 := Lib.hid (BlkL.new w1 4 (fl fb (List.replicate m false)))
    have HC0 := Lib.hid ((Below.refl w1.heap.size w1).alloc (Nat.le_refl _) (.cells (fl fb (List.replicate m false)).toArray 4))
    generalize w1.alloc (.cells (fl fb (List.replicate m false)).toArray 4) = w2 at *
    obtain ⟨g, hg⟩ : ∃ g, w1.heap.size = g := ⟨_, rfl⟩
    have hgw : w.heap.size ≤ g := by rw [← hg]; exact HB1.out.size
    rw [hg] at HK0 ⊢
    go_loopw [28] (fun iv wr => ∃ j : Nat, j ≤ ps.length ∧ iv = .int .i64 j ∧ BlkL wr g 4 (fl fb (flN (ps.take j) m)) ∧ Below w1.heap.size w1 wr) (fun iv _ => ps.length - (intOf iv).toNat)
    case atStart => exact ⟨0, Nat.zero_le _, rfl, by rw [List.take_zero, flN_nil]; exact HK0.out, HC0.out⟩
    case round =>
      obtain ⟨j, hj, rfl, hbk, hb⟩ := hrel
      have HK := Lib.hid hbk
      have HC := Lib.hid hb
      clear hbk hb HK0 HC0
      by_cases hjl : j < ps.length
      · obtain ⟨x, b, o, hx, rfl, hbl, c0⟩ := (HR.out.below HC.out).at (k := j) hjl
        have hxm := HMM.out x (List.mem_of_getElem? hx)
        obtain ⟨q, rfl⟩ : ∃ q : Nat, x = (q : Int) := ⟨x.toNat, by omega⟩
        have hqm : q < m := by omega
        have HTK := Lib.hid (show ps.take (j + 1) = ps.take j ++ [(q : Int)] by rw [List.take_add_one, hx]; rfl)
        have c1 : wr.cell? ⟨b, o + j, none⟩ = some (.int .i64 (q : Int)) := by have := c0 0 (by decide); simpa using this
        obtain ⟨y0, r0⟩ := HK.out.some_ (i := q) (by rw [fl_fb]; simp [flN_len]; exact hqm)
        have s0 := HK.out.frozen q
        have s1 := HK.out.lt
        clear hx c0 hxm
        go_wp2_with fail
        refine ⟨⟨j + 1, by omega, by go_num, ?_, HC.out.setCell (p := ⟨g, q, none⟩) (show w1.heap.size ≤ g by omega) _⟩, by simp [intOf]; omega⟩
        have h1 := HK.out.set q (.bool true)
        rw [fl_fb, ← List.map_set, flN_set _ _ _ hqm, ← fl_fb, ← HTK.out] at h1
        exact h1
      · obtain rfl : j = ps.length := by omega
        rw [List.take_length] at HK
        go_wp2_with fail
        refine bodyPost_ret (v := .tuple #[.slice (some ⟨g, 0, none⟩) m m, .bool true]) (by simp [results, Try.results35, go_sem]) rfl ?_
        exact ⟨HB1.out.trans (HC.out.mono HB1.out.size), .inl ⟨HOK.out, g, by rw [HM.out], hgw, by rw [HV.out, HM.out]; exact HK.out⟩⟩
  · have HB1 := Lib.hid hb1
    have HOK := Lib.hid hok
    clear hb1 hok
    go_wp2_with fail
    refine bodyPost_ret (v := .tuple #[.slice none 0 0, .bool false]) (by simp [results, Try.results35, go_sem]) rfl ?_
    exact ⟨HB1.out, .inr ⟨HOK.out, rfl⟩⟩
set_option maxHeartbeats 1000000 in
set_option maxRecDepth 100000 in
theorem countUp_any (A : Option Addr) (bs : List Bool) (n c : Nat) (w : World) (hn : bs.length = n) (hm : n ≤ 2097152) (hl : RS fb 1 w A bs) :
    Calls Try.prog 36 #[.slice A n c] w (IntsOut w (cuL bs)) := by
  have HN := Lib.hid hn
  have HL := Lib.hid hl
  have HG := Lib.hid (show (cuL bs).length = n by rw [cuL_len]; exact hn)
  have hmk : ∀ w : World, (Instr.makeSlice 24 (.int .i64 n) (.int .i64 n)).run Try.prog w = .ok (.slice (some ⟨w.heap.size, 0, none⟩) n n) (w.alloc (.cells (nums (List.replicate n 0)).toArray 3)) := fun w => mkInts n (by omega) w
  have HK0 := Lib.hid (BlkL.new w 3 (nums (upF 0 (cuL bs) n 0)))
  have HB0 := Lib.hid ((Below.refl w.heap.size w).alloc (Nat.le_refl _) (.cells (nums (List.replicate n 0)).toArray 3))
  rw [upF_zero] at HK0
  clear hl hn
  go_enter Try.func36, Try.ntmps36
  go_wp2_with fail
  generalize w.alloc (.cells (nums (List.replicate n 0)).toArray 3) = w0 at *
  obtain ⟨g, hg⟩ : ∃ g, w.heap.size = g := ⟨_, rfl⟩
  rw [hg] at HK0 ⊢
  go_loopw [4, 12] (fun v iv wr => ∃ k : Nat, k ≤ n ∧ iv = .int .i64 k ∧ v = .int .i64 (cuN bs k) ∧ BlkL wr g 3 (nums (upF 0 (cuL bs) n k)) ∧ Below w.heap.size w wr) (fun _ iv _ => n - (intOf iv).toNat)
  case atStart => exact ⟨0, Nat.zero_le _, rfl, rfl, by rw [upF_zero]; exact HK0.out, HB0.out⟩
  case round =>
    obtain ⟨k, hk, rfl, rfl, hbk, hb⟩ := hrel
    have HK := Lib.hid hbk
    have HB := Lib.hid hb
    have hcl := cuN_le bs k
    clear hbk hb HK0 HB0
    by_cases hkl : k < n
    · obtain ⟨x, b, o, hx, rfl, hbl, c0⟩ := (HL.out.below HB.out).at (k := k) (by have := HN.out; omega)
      have c1 : wr.cell? ⟨b, o + k, none⟩ = some (.bool x) := by have := c0 0 (by decide); simpa [fb] using this
      have HX := Lib.hid (cuL_at bs (k := k) (by have := HN.out; omega))
      obtain ⟨y0, r0⟩ := HK.out.some_ (i := k) (by simp [nums, upF_length HG.out (Nat.le_of_lt hkl)]; exact hkl)
      have s0 := HK.out.frozen k
      have s1 := HK.out.lt
      cases x
      · have HC := Lib.hid (cuN_no hx)
        clear hx c0
        go_wp2_with fail
        refine ⟨⟨k + 1, by omega, by go_num, by rw [HC.out], ?_, HB.out.setCell (p := ⟨g, k, none⟩) (show w.heap.size ≤ g by omega) _⟩, by simp [intOf]; omega⟩
        have h1 := HK.out.set k (.int .i64 (cuN bs k : Int))
        rw [nums_set1, upF_set HG.out hkl (by rw [HX.out, HC.out])] at h1
        exact h1
      · have HC := Lib.hid (cuN_yes hx)
        clear hx c0
        go_wp2_with fail
        refine ⟨⟨k + 1, by omega, by go_num, by rw [HC.out]; go_num, ?_, HB.out.setCell (p := ⟨g, k, none⟩) (show w.heap.size ≤ g by omega) _⟩, by simp [intOf]; omega⟩
        have h1 := HK.out.set k (.int .i64 ((cuN bs k : Int) + 1))
        rw [nums_set1, upF_set HG.out hkl (by rw [HX.out, HC.out]; simp)] at h1
        exact h1
    · obtain rfl : k = n := by omega
      rw [upF_all HG.out] at HK
      have e := HG.out
      go_wp2_with fail
      go_ret
      refine ⟨HB.out, some ⟨g, 0, none⟩, k, by rw [e]; rfl, fun b hb => ?_, (fun h => by cases h), .inr ⟨g, [], rfl, by rw [List.append_nil]; exact HK.out⟩⟩
      simp at hb
      omega
theorem cuL_nil : cuL [] = [] := rfl
set_option maxHeartbeats 1000000 in
set_option maxRecDepth 100000 in
theorem LineOfTokens_any (W : Int) (A : Option Addr) (l : List Tk) (m c : Nat) (w : World) (hm : l.length = m) (hmb : m ≤ 2097152) (hmc : m ≤ c) (hts : TS w A l) (hlow : ∀ b, A.map (·.block) = some b → b < w.heap.size) (hf : Fits l) :
    Calls Try.prog 11 #[.int .i64 W, .slice A m c] w (IntsOut w (lnoL W l)) := by
  have HM := Lib.hid hm
  have HT := Lib.hid hts
  have HF := Lib.hid hf
  have HL := Lib.hid hlow
  clear hm hts hf hlow
  go_enter Try.func11, Try.ntmps11
  go_wp2_with fail
  refine (breaking_any W A l m c _ HM.out hmb hmc HT.out HL.out HF.out).mono ?_
  rintro e w1 ⟨hb1, ⟨hok, g, rfl, hg, hk⟩ | ⟨hok, rfl⟩⟩
  · have HB1 := Lib.hid hb1
    have HE := Lib.hid (show lnoL W l = cuL (flN (brkL W l) l.length) from if_pos hok)
    have HRS := Lib.hid (show RS fb 1 w1 (some ⟨g, 0, none⟩) (flN (brkL W l) l.length) from RS.of_blk fb_len hk)
    rw [HM.out] at HRS HE ⊢
    clear hb1 hok hk
    go_wp2_with fail
    refine (countUp_any _ (flN (brkL W l) m) _ _ _ (flN_len _ _) (by omega) HRS.out).mono ?_
    rintro e w2 ⟨hb2, A2, c2, rfl, hlo, hnil, hrow⟩
    have HB2 := Lib.hid (HB1.out.trans (hb2.mono HB1.out.size))
    have HLO := Lib.hid (show ∀ b, A2.map (·.block) = some b → w.heap.size ≤ b from fun b hb => Nat.le_trans HB1.out.size (hlo b hb))
    have HNI := Lib.hid hnil
    have HRO := Lib.hid hrow
    clear hb2 hlo hnil hrow HRS
    go_wp2_with fail
    go_ret
    rw [HE.out]
    exact ⟨HB2.out, A2, c2, rfl, HLO.out, HNI.out, HRO.out⟩
  · have HB1 := Lib.hid hb1
    have HE := Lib.hid (show lnoL W l = cuL [] from by unfold lnoL; rw [if_neg (by rw [hok]; decide)]; rfl)
    clear hb1 hok
    go_wp2_with fail
    refine (countUp_any none [] 0 0 _ rfl (by omega) (RS.nil _ _)).mono ?_
    rintro e w2 ⟨hb2, A2, c2, rfl, hlo, hnil, hrow⟩
    have HB2 := Lib.hid (HB1.out.trans (hb2.mono HB1.out.size))
    have HLO := Lib.hid (show ∀ b, A2.map (·.block) = some b → w.heap.size ≤ b from fun b hb => Nat.le_trans HB1.out.size (hlo b hb))
    have HNI := Lib.hid hnil
    have HRO := Lib.hid hrow
    clear hb2 hlo hnil hrow
    go_wp2_with fail
    go_ret
    rw [HE.out]
    exact ⟨HB2.out, A2, c2, rfl, HLO.out, HNI.out, HRO.out⟩
end Go.Proofs.Ytegjgbgnpkncbab
