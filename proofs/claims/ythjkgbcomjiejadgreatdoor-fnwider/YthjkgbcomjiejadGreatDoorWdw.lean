/-
  The law FnWider: the walk.
-/
import Derived.Test.YthjkgbcomjiejadGreatDoorDrwo
import Derived.Test.YthjkgbcomjiejadGreatDoorWdf
import Derived.Test.YthjkgbcomjiejadGreatDoorTxo
import Derived.Test.YthjkgbcomjiejadGreatDoorArg
namespace Go.Proofs.YthjkgbcomjiejadGreatDoor
open Go.RowKit
set_option linter.unusedVariables false

theorem lpw_of {w w1 w' : World} {p : Nat} {A : Option Addr} {n c : Nat} {e : Ending} (hp : w.heap.size ≤ p) (hb : Below w.heap.size w w1) (h : LsPost w1 p A n c e w') : ∃ A' c' l, e = .returned (.slice A' l.length c') ∧ l.length ≤ 500 ∧ l.length ≤ c' ∧ (∀ b, A'.map (·.block) = some b → w.heap.size ≤ b ∧ b < w'.heap.size) ∧ TS w' A' l ∧ Fits l ∧ Below w.heap.size w w' := by
  obtain ⟨A', c', l, rfl, hl, hbk, hts, hsh, hc2, hg2, hcc⟩ := h
  exact ⟨A', c', l, rfl, hl, hcc, fun b hb' => ⟨Nat.le_trans hb.size (hbk b hb').1, (hbk b hb').2⟩, hts, fun i t ht => by have := hsh t (List.mem_of_getElem? ht); unfold maxLen; omega,
    hb.grown hg2 hb.size (fun k hk => by injection hk with hk; omega)⟩
set_option maxHeartbeats 1000000 in
set_option maxRecDepth 100000 in
theorem DrawNarrowestOf_any (A : Option Addr) (n c : Nat) (w : World) (hm : n ≤ 1048576) (hb : BS w A n) (hlo : ∀ b, A.map (·.block) = some b → b < w.heap.size) :
    Calls Tryz.prog 17 #[.slice A n c] w fun e w' => ∃ A' c' l, e = .returned (.slice A' l.length c') ∧ l.length ≤ 500 ∧ l.length ≤ c' ∧ (∀ b, A'.map (·.block) = some b → w.heap.size ≤ b ∧ b < w'.heap.size) ∧ TS w' A' l ∧ Fits l ∧ Below w.heap.size w w' := by
  have HB := Lib.hid hb
  have HLO := Lib.hid hlo
  clear hb hlo
  go_enter Tryz.func17, Tryz.ntmps17
  go_wp2_with fail
  refine (l01New_any A n c w hm HB.out).mono ?_
  rintro e w1 ⟨p, hp, rfl, hc1, hb1⟩
  have HC1 := Lib.hid hc1
  have HB1 := Lib.hid hb1
  have hpw := hc1.lt
  have HNE := Lib.hid (show ∀ b, A.map (·.block) = some b → b ≠ p from fun b hb => by have := HLO.out b hb; omega)
  have HLW := Lib.hid (show ∀ b, A.map (·.block) = some b → b < w1.heap.size from fun b hb => Nat.lt_of_lt_of_le (HLO.out b hb) hb1.size)
  have HBS := Lib.hid (show BS w1 A n from fun i hi => by
    obtain ⟨b, o, x, hA, hbl, hc, hx⟩ := HB.out i hi
    exact ⟨b, o, x, hA, Nat.lt_of_lt_of_le hbl hb1.size, (hb1.cell (p := ⟨b, o + i, none⟩) hbl).trans hc, hx⟩)
  clear hc1 hb1
  go_wp2_with fail
  refine (l01Once_any 2 p A n c w1 hm (by decide) (by decide) HBS.out HNE.out HC1.out).mono ?_
  rintro e w2 ⟨⟨v2, ⟨q2, rfl⟩, rfl⟩, hc2, hg2⟩
  have HC2 := Lib.hid hc2
  have HBS2 := Lib.hid (HBS.out.grown HNE.out hg2)
  have HLW2 := Lib.hid (show ∀ b, A.map (·.block) = some b → b < w2.heap.size from fun b hb => Nat.lt_of_lt_of_le (HLW.out b hb) hg2.size)
  have HB2 := Lib.hid (HB1.out.grown hg2 HB1.out.size (fun q hq => by injection hq with hq; omega))
  have hp2 := hc2.lt
  clear hc2 hg2 HC1
  cases q2
  · go_wp2_with fail
    refine (l02DrawLoose_any p A n c w2 hm HBS2.out HNE.out HLW2.out HC2.out).mono ?_
    intro e w3 h3
    obtain ⟨A', c', l, rfl, h⟩ := lpw_of hp HB2.out h3
    have H := Lib.hid h
    clear h3 h
    go_wp2_with fail
    go_ret
    exact ⟨A', c', l, rfl, H.out⟩
  · go_wp2_with fail
    refine (l01Below_any 14 p A n c w2 hm (by decide) (by decide) HBS2.out HNE.out HC2.out).mono ?_
    rintro e w3 ⟨⟨v3, ⟨k3, rfl, hk3⟩, rfl⟩, hc3, hg3⟩
    have HC3 := Lib.hid hc3
    have HBS3 := Lib.hid (HBS2.out.grown HNE.out hg3)
    have HLW3 := Lib.hid (show ∀ b, A.map (·.block) = some b → b < w3.heap.size from fun b hb => Nat.lt_of_lt_of_le (HLW2.out b hb) hg3.size)
    have HB3 := Lib.hid (HB2.out.grown hg3 HB2.out.size (fun q hq => by injection hq with hq; omega))
    clear hc3 hg3 HC2
    go_wp2_with fail
    refine (l02DrawStream_any k3 p A n c w3 hm (by omega) HBS3.out HNE.out HLW3.out HC3.out).mono ?_
    rintro e w4 ⟨v, l, rfl, hll, hdr⟩
    obtain ⟨A', c', l', h0, h⟩ := lpw_of hp HB3.out (hdr.ls (by omega))
    obtain rfl : v = .slice A' l'.length c' := by injection h0
    have H := Lib.hid h
    clear hdr h h0
    go_wp2_with fail
    go_ret
    exact ⟨A', c', l', rfl, H.out⟩
theorem ltB_succ (s : ByteArray) (k : Nat) (h : k < s.size) : ltB (s.data.toList.take (k + 1)) = ltB (s.data.toList.take k) ++ (if s[k] ≠ 32 ∧ s[k] ≠ 10 then [s[k]] else []) := by
  rw [take_snoc s k h, ltB_app]
  congr 1
  unfold ltB
  by_cases h1 : s[k] = 32
  · simp [h1]
  · by_cases h2 : s[k] = 10
    · simp [h2]
    · simp [h1, h2]
theorem ltB_le (x : List UInt8) : (ltB x).length ≤ x.length := List.length_filter_le _ _
set_option maxHeartbeats 1000000 in
set_option maxRecDepth 100000 in
theorem letters_any (s : ByteArray) (w : World) (hs : s.size ≤ 16777216) :
    Calls Tryz.prog 14 #[.string s] w fun e w' => e = .returned (.string ⟨(ltB s.data.toList).toArray⟩) ∧ Below w.heap.size w w' := by
  obtain ⟨i0, hi0, hz0, hz1, hz2⟩ := info_parts infoByte
  have hlen : s.data.toList.length = s.size := (Lib.size_eq s).symm
  have HE := Lib.hid (show s.data.toList.take s.size = s.data.toList by rw [← hlen, List.take_length])
  clear hlen
  go_enter Tryz.func14, Tryz.ntmps14
  go_wp2_with fail
  have hb0 := (Below.refl w.heap.size w).alloc (Nat.le_refl _) (.cells #[] 5)
  have ho0 := os_lit0 w 5
  generalize w.alloc (.cells #[] 5) = w0 at *
  have HO0 := Lib.hid ho0
  have HB0 := Lib.hid hb0
  clear ho0 hb0
  go_loopw [3, 4] (fun v iv wr => ∃ k : Nat, iv = .int .i64 k ∧ k ≤ s.size ∧ wr.ownsRow w.heap.size 5 1 v (ltB (s.data.toList.take k)).length (Lib.byteCells (ltB (s.data.toList.take k))) ∧ Below w.heap.size w wr) (fun _ iv _ => s.size - (intOf iv).toNat)
  case atStart => exact ⟨0, rfl, Nat.zero_le _, HO0.out, HB0.out⟩
  case round =>
    obtain ⟨k, rfl, hk, hown, hb⟩ := hrel
    clear HO0 HB0
    have hle : (ltB (s.data.toList.take k)).length ≤ k := Nat.le_trans (ltB_le _) (by simp; omega)
    have HO := Lib.hid hown
    have HB := Lib.hid hb
    obtain ⟨Av, cv, rfl⟩ := os_slice hown
    clear hown hb
    by_cases hkl : k < s.size
    · have HS := Lib.hid (ltB_succ s k hkl)
      by_cases h32 : s[k] = 32
      · have hcb : ((s[k].toNat : Int) == 32) = true := by rw [h32]; rfl
        have HS2 := Lib.hid (show ltB (s.data.toList.take (k + 1)) = ltB (s.data.toList.take k) by rw [HS.out, if_neg (by simp [h32]), List.append_nil])
        go_wp2_with fail
        go_roundw
        case rel => exact ⟨k + 1, by go_num, by omega, by rw [HS2.out]; exact HO.out, HB.out⟩
        case measure => simp [intOf]; omega
      · have hcb : ((s[k].toNat : Int) == 32) = false := by
          simp
          intro h
          exact h32 (UInt8.toNat_inj.1 (show s[k].toNat = 32 by omega))
        by_cases h10 : s[k] = 10
        · have hcc : ((s[k].toNat : Int) == 10) = true := by rw [h10]; rfl
          have HS2 := Lib.hid (show ltB (s.data.toList.take (k + 1)) = ltB (s.data.toList.take k) by rw [HS.out, if_neg (by simp [h10]), List.append_nil])
          go_wp2_with fail
          go_roundw
          case rel => exact ⟨k + 1, by go_num, by omega, by rw [HS2.out]; exact HO.out, HB.out⟩
          case measure => simp [intOf]; omega
        · have hcc : ((s[k].toNat : Int) == 10) = false := by
            simp
            intro h
            exact h10 (UInt8.toNat_inj.1 (show s[k].toNat = 10 by omega))
          have HS2 := Lib.hid (show ltB (s.data.toList.take (k + 1)) = ltB (s.data.toList.take k) ++ [s[k]] by rw [HS.out, if_pos ⟨h32, h10⟩])
          have HO3 := Lib.hid (HO.out.alloc (.cells #[.int .u8 (s[k].toNat : Int)] 5))
          have HB3 := Lib.hid (HB.out.alloc (HB.out).size (.cells #[.int .u8 (s[k].toNat : Int)] 5))
          have hz3 := HB3.out.size
          have hn32 : ((s[k].toNat : Int) != 32) = true := by rw [bne, hcb]; rfl
          have hn10 : ((s[k].toNat : Int) != 10) = true := by rw [bne, hcc]; rfl
          clear h32 h10
          go_wp2_with (at_builtin; refine wpList_append_own_at _ rfl _ _ 22 rfl w.heap.size 5 i0 (.int .u8 0) 1 1 Tryz.underlying22 hi0 hz0 hz1 hz2 rfl (by decide) _ _ _ rfl HO3.out ⟨_, 0, none⟩ 1 1 [.int .u8 (s[k].toNat : Int)] rfl rfl (cell_one_new _ _ _) (by simp [Value.oneCell']) (by simp only [maxLen]; omega) (by omega) hz3 ?_)
          intro v' w5 hown5 hgr5 _ _
          have HB5 := Lib.hid (HB3.out.grown hgr5 hz3 (fun g hg => (HO3.out.lt g hg).1))
          have HO5 := Lib.hid (show w5.ownsRow w.heap.size 5 1 v' (ltB (s.data.toList.take (k + 1))).length (Lib.byteCells (ltB (s.data.toList.take (k + 1)))) by rw [HS2.out, ← bytes_snoc, List.length_append]; exact hown5)
          clear hown5 hgr5 HO3 HB3 hz3
          go_wp2_with fail
          go_roundw
          case rel => exact ⟨k + 1, by go_num, by omega, HO5.out, HB5.out⟩
          case measure => simp [intOf]; omega
    · obtain rfl : k = s.size := by omega
      have hcv := conv_own HO.out
      go_wp2
      go_ret
      rw [HE.out]
      exact ⟨rfl, HB.out⟩
set_option maxHeartbeats 1000000 in
set_option maxRecDepth 100000 in
theorem at_any (A : Option Addr) (n c i : Nat) (w : World) (hm : n ≤ 1048576) (hi : i ≤ 3) (hb : BS w A n) :
    Calls Tryz.prog 21 #[.slice A n c, .int .i64 i] w fun e w' => (∃ x : Nat, e = .returned (.int .i64 x) ∧ x ≤ 255) ∧ w = w' := by
  by_cases hin : i < n
  · obtain ⟨b, o, x, rfl, hbl, cx, hx0, hx1⟩ := hb i hin
    obtain ⟨k, rfl⟩ := Int.eq_ofNat_of_zero_le hx0
    clear hb
    go_enter Tryz.func21, Tryz.ntmps21
    go_wp2
    go_ret
    exact ⟨⟨k, rfl, by omega⟩, rfl⟩
  · clear hb
    go_enter Tryz.func21, Tryz.ntmps21
    go_wp2
    go_ret
    exact ⟨⟨(i * 13 + n * 5) % 256, by go_num, by omega⟩, rfl⟩
end Go.Proofs.YthjkgbcomjiejadGreatDoor
namespace Go.Proofs.YthjkgbcomjiejadGreatDoor
open Go.RowKit
set_option linter.unusedVariables false

theorem Bw.callw {P : Program} {f : FuncId} {args : Array Value} {w : World} {v : Value} (h : ∀ V, Bw w V → Calls P f args V fun e w' => e = .returned v ∧ Below V.heap.size V w') (x : Cl (Bw w)) : Calls P f args x.W fun e w'' => e = .returned v ∧ ∃ y : Cl (Bw w), w'' = y.W :=
  calls_class x (Bw.keep w) (h x.W x.ok)
set_option maxHeartbeats 1000000 in
theorem bigW_any (A : Option Addr) (n c : Nat) (w : World) (hn : n ≤ maxLen) : Calls Tryz.prog 5 #[.slice A n c] w fun e w' => e = .returned (.bool (decide ((1048576 : Int) < n))) ∧ w = w' := by
  unfold maxLen at hn
  go_enter Tryz.func5, Tryz.ntmps5
  go_wp2
  go_ret
  exact ⟨rfl, rfl⟩
theorem cntB_tens (s : ByteArray) : ∀ k, k ≤ s.size → (cntB s 10 k : Nat) = tens (s.data.toList.take k)
  | 0, _ => rfl
  | k + 1, h => by
    have ih := cntB_tens s k (by omega)
    show cntB s 10 k + (if (bt s k : Int) = 10 then 1 else 0) = _
    rw [ih, tens_take s k (by omega), bt_at (show k < s.size by omega)]
theorem lay_letters {W : Int} {l : List Tk} (h : okB W l = true) : ltB (layB W l).data.toList = ltB (txoB l).data.toList := by
  have hS := (okB_true h).2.2
  have e1 : (layB W l).data.toList = (run W l l.length).1.out := by simp [layB, h]
  have e2 : (txoB l).data.toList = txN l l.length := by
    have e3 : ∀ k, toN l k = txN l k := by
      intro k
      induction k with
      | zero => rfl
      | succ k ih =>
        cases ht : l[k]? with
        | none =>
          have e4 : toN l (k + 1) = toN l k := by simp only [toN, ht]
          have e5 : txN l (k + 1) = txN l k := by unfold txN; rw [List.take_add_one, ht]; simp
          rw [e4, e5, ih]
        | some t => rw [toN_succ ht, txN_succ ht, ih]
    simp [txoB, hS, e3]
  rw [e1, e2]
  exact run_letters hS l.length (Nat.le_refl _)
theorem lin_tens {W : Int} {l : List Tk} (h : okB W l = true) : linB W l = tens (layB W l).data.toList := by
  have hS := (okB_true h).2.2
  have e1 : (layB W l).data.toList = (run W l l.length).1.out := by simp [layB, h]
  rw [e1, (run_ok W hS l.length (Nat.le_refl _)).2.2.1]
  simp [linB, h]
theorem layW_size (W : Int) (l : List Tk) : (layB W l).size ≤ 16777216 := by
  unfold layB
  split
  · rename_i h
    have hS := (okB_true h).2.2
    have h4 := (strB_true hS).1
    have h1 := (run_ok W hS l.length (Nat.le_refl _)).1.out
    show (run W l l.length).1.out.toArray.size ≤ 16777216
    simp only [List.size_toArray]
    omega
  · decide
theorem txoB_size {l : List Tk} (hS : strB l = true) : (txoB l).size ≤ 16777216 := by
  obtain ⟨h4, hok, _⟩ := strB_true hS
  have key : ∀ k, k ≤ l.length → (toN l k).length ≤ 40 * k := by
    intro k
    induction k with
    | zero => intro _; simp [toN]
    | succ k ih =>
      intro hk
      have ht := List.getElem?_eq_getElem (show k < l.length by omega)
      have h1 := (okN_at hok (show k < l.length by omega) ht).1
      have h2 := (Tk.s_bd h1).1
      have h3 : (l[k]).s.data.toList.length = (l[k]).s.size := Array.length_toList
      rw [toN_succ ht, List.length_append]
      have := ih (by omega)
      omega
  have h5 := key l.length (Nat.le_refl _)
  unfold txoB
  rw [if_pos hS]
  show (toN l l.length).toArray.size ≤ 16777216
  simp only [List.size_toArray]
  omega
namespace fnWider
set_option maxHeartbeats 4000000 in
set_option maxRecDepth 100000 in
theorem law (A : Option Addr) (n c : Nat) (w : World) (hn : n ≤ maxLen) (hbs : BS w A n) (hlo : ∀ b, A.map (·.block) = some b → b < w.heap.size) :
    Calls Tryz.prog 4 #[.slice A n c] w fun e w' => e = .returned (.bool true) ∧ Below w.heap.size w w' := by
  have HBS := Lib.hid hbs
  have HLO := Lib.hid hlo
  clear hbs hlo
  go_enter Tryz.func4, Tryz.ntmps4
  go_wp2_with fail
  refine (bigW_any A n c w hn).mono ?_
  rintro e w0 ⟨rfl, rfl⟩
  by_cases hbig : (1048576 : Int) < n
  · rw [decide_eq_true hbig]
    go_wp2
    go_ret
    exact ⟨rfl, Below.refl _ _⟩
  rw [decide_eq_false hbig]
  go_wp2_with fail
  refine (DrawNarrowestOf_any A n c w (by omega) HBS.out HLO.out).mono ?_
  rintro e w1 ⟨A1, c1, l, rfl, hl5, hcap, hbk, hts, hf, hb1⟩
  have hn1 : n ≤ 1048576 := by omega
  have HB1 := Lib.hid hb1
  have HT1 := Lib.hid hts
  have HF := Lib.hid hf
  have HL1 := Lib.hid (show ∀ b, A1.map (·.block) = some b → b < w1.heap.size from fun b hb => (hbk b hb).2)
  have HBS1 := Lib.hid (show BS w1 A n from fun i hi => by
    obtain ⟨b, o, x, hA, hbl, hc, hx⟩ := HBS.out i hi
    exact ⟨b, o, x, hA, Nat.lt_of_lt_of_le hbl hb1.size, (hb1.cell (p := ⟨b, o + i, none⟩) hbl).trans hc, hx⟩)
  clear hbig hbk hts hf hb1 HBS HLO hn
  have hl2 : l.length ≤ 2097152 := by omega
  obtain ⟨r, hr⟩ : ∃ r, narB l = r := ⟨_, rfl⟩
  have HR := Lib.hid hr
  have hrr : (r == r) = true := by simp
  go_wp2_with fail
  refine (NarrowestOf_any A1 l _ c1 w1 rfl hl2 hcap HT1.out HL1.out HF.out).mono ?_
  rintro e w2 ⟨rfl, hb2⟩
  rw [hr]
  have HB2 := Lib.hid (HB1.out.trans (hb2.mono HB1.out.size))
  have HT2 := Lib.hid (HT1.out.below hb2)
  have HL2 := Lib.hid (show ∀ b, A1.map (·.block) = some b → b < w2.heap.size from fun b hb => Nat.lt_of_lt_of_le (HL1.out b hb) hb2.size)
  have HC2 := Lib.hid hb2
  clear hb2
  go_wp2_with fail
  refine (sNarrowestOf_any A1 l _ c1 w2 rfl hl2 HT2.out HL2.out HF.out).mono ?_
  rintro e w3 ⟨rfl, hb3⟩
  rw [hr]
  have HB3 := Lib.hid (HB2.out.trans (hb3.mono HB2.out.size))
  have HT3 := Lib.hid (HT2.out.below hb3)
  have HL3 := Lib.hid (show ∀ b, A1.map (·.block) = some b → b < w3.heap.size from fun b hb => Nat.lt_of_lt_of_le (HL2.out b hb) hb3.size)
  have HC3 := Lib.hid (HC2.out.trans (hb3.mono HC2.out.size))
  clear hb3 hr
  go_wp2_with fail
  refine (sStreamOk_any A1 l _ c1 w3 rfl hl2 HT3.out HF.out).mono ?_
  rintro e w4 ⟨rfl, hb4⟩
  have HB4 := Lib.hid (HB3.out.trans (hb4.mono HB3.out.size))
  have HT4 := Lib.hid (HT3.out.below hb4)
  have HL4 := Lib.hid (show ∀ b, A1.map (·.block) = some b → b < w4.heap.size from fun b hb => Nat.lt_of_lt_of_le (HL3.out b hb) hb4.size)
  have HC4 := Lib.hid (HC3.out.trans (hb4.mono HC3.out.size))
  have HBS4 := Lib.hid (show BS w4 A n from fun i hi => by
    obtain ⟨b, o, x, hA, hbl, hc, hx⟩ := HBS1.out i hi
    exact ⟨b, o, x, hA, Nat.lt_of_lt_of_le hbl HC4.out.size, (HC4.out.cell (p := ⟨b, o + i, none⟩) hbl).trans hc, hx⟩)
  clear hb4
  cases hS : strB l
  · have hm1 : (r == -1) = true := by rw [← HR.out, show narB l = -1 from narG_none hS 200 1]; rfl
    clear hS
    go_wp2_with fail
    go_ret
    exact ⟨rfl, HB4.out⟩
  have HS := Lib.hid hS
  have HNF := Lib.hid (show 0 < r → ∃ m : Int, r = m ∧ 1 ≤ m ∧ m ≤ 200 ∧ fitB m l = true from fun h => by
    obtain ⟨m, h1, h2, h3, h4⟩ := narB_fit (l := l) (by rw [HR.out]; exact h)
    exact ⟨m, by rw [← HR.out]; exact h1, h2, h3, h4⟩)
  clear hS
  go_wp2_with fail
  go_loopw [5] (fun iv wr => ∃ i : Nat, i ≤ 3 ∧ iv = .int .i64 i ∧ Below w4.heap.size w4 wr) (fun iv _ => 3 - (intOf iv).toNat)
  case atStart => exact ⟨0, Nat.zero_le _, rfl, Below.refl _ _⟩
  case round =>
    obtain ⟨i, hi, rfl, hb⟩ := hrel
    have HB := Lib.hid hb
    by_cases hi3 : i < 3
    · have HBSr := Lib.hid (show BS wr A n from fun i hi => by
        obtain ⟨b, o, x, hA, hbl, hc, hx⟩ := HBS4.out i hi
        exact ⟨b, o, x, hA, Nat.lt_of_lt_of_le hbl hb.size, (hb.cell (p := ⟨b, o + i, none⟩) hbl).trans hc, hx⟩)
      have HTr := Lib.hid (HT4.out.below hb)
      have HLr := Lib.hid (show ∀ b, A1.map (·.block) = some b → b < wr.heap.size from fun b h => Nat.lt_of_lt_of_le (HL4.out b h) hb.size)
      clear hb
      go_wp2_with fail
      refine (at_any A n c i wr hn1 hi HBSr.out).mono ?_
      rintro e w5 ⟨⟨x, rfl, hx⟩, rfl⟩
      obtain ⟨W, hW⟩ : ∃ W : Int, 1 + (x : Int) % 200 = W := ⟨_, rfl⟩
      have hW1 : 1 ≤ W ∧ W ≤ 200 := by omega
      have hok : okB W l = true := by
        unfold okB
        rw [HS.out, inB_true.2 hW1]
        rfl
      have HOK := Lib.hid hok
      have hzs : (layB W l).size ≤ 16777216 := layW_size W l
      have htr := lay_trail hok
      have hlc : (linB W l == (cntB (layB W l) 10 (layB W l).size : Int)) = true := by
        have h1 : (layB W l).data.toList.length = (layB W l).size := Array.length_toList
        rw [cntB_tens _ _ (Nat.le_refl _), ← h1, List.take_length, lin_tens hok]
        simp
      have hlet : ltB (layB W l).data.toList = ltB (txoB l).data.toList := lay_letters hok
      have HFB := Lib.hid (show 0 < r → r ≤ W → fitB W l = true from fun h1 h2 => by
        obtain ⟨m, h3, _, _, h4⟩ := HNF.out h1
        exact fitB_mono (by omega) hW1.2 h4)
      have hts : (txoB l).size ≤ 16777216 := txoB_size HS.out
      obtain ⟨z, hz⟩ : ∃ z, layB W l = z := ⟨_, rfl⟩
      obtain ⟨u, hu⟩ : ∃ u, txoB l = u := ⟨_, rfl⟩
      obtain ⟨q, hq⟩ : ∃ q, linB W l = q := ⟨_, rfl⟩
      rw [hz] at hzs htr hlc hlet
      rw [hu] at hlet hts
      rw [hq] at hlc
      have HZ := Lib.hid hz
      have HU := Lib.hid hu
      have HQ := Lib.hid hq
      have HLT := Lib.hid hlet
      have HXX := Lib.hid hW
      clear hok hz hu hq hlet
      go_wp2_with fail
      refine (Layout_any W A1 l _ c1 wr rfl hl2 hcap HTr.out HLr.out HF.out).mono ?_
      rintro e w6 ⟨rfl, hb6⟩
      rw [HZ.out, HOK.out]
      have HB6 := Lib.hid (HB.out.trans (hb6.mono HB.out.size))
      have HT6 := Lib.hid (HTr.out.below hb6)
      have HL6 := Lib.hid (show ∀ b, A1.map (·.block) = some b → b < w6.heap.size from fun b h => Nat.lt_of_lt_of_le (HLr.out b h) hb6.size)
      clear hb6 HTr HLr HBSr
      have HTRL := Lib.hid (show ∀ V, Bw w6 V → Calls Tryz.prog 23 #[.string z] V (fun e w' => e = .returned (.bool true) ∧ Below V.heap.size V w') from
        fun V _ => (TrailOk_any z V hzs).mono (by rintro e w' ⟨rfl, hb⟩; exact ⟨by rw [htr], hb⟩))
      have HFIT := Lib.hid (show 0 < r → r ≤ W → ∀ V, Bw w6 V → Calls Tryz.prog 24 #[.int .i64 W, .slice A1 l.length c1] V (fun e w' => e = .returned (.bool true) ∧ Below V.heap.size V w') from
        fun h1 h2 V h => (FitsAll_any W A1 l _ c1 V rfl hl2 hcap (HT6.out.below h) (fun b hb => Nat.lt_of_lt_of_le (HL6.out b hb) h.size) HF.out).mono (by rintro e w' ⟨rfl, hb⟩; exact ⟨by rw [HFB.out h1 h2], hb⟩))
      have HLIN := Lib.hid (show ∀ V, Bw w6 V → Calls Tryz.prog 25 #[.int .i64 W, .slice A1 l.length c1] V (fun e w' => e = .returned (.int .i64 q) ∧ Below V.heap.size V w') from
        fun V h => (LinesIn_any W A1 l _ c1 V rfl hl2 hcap (HT6.out.below h) (fun b hb => Nat.lt_of_lt_of_le (HL6.out b hb) h.size) HF.out).mono (by rintro e w' ⟨rfl, hb⟩; exact ⟨by rw [HQ.out], hb⟩))
      have HCNT := Lib.hid (show ∀ V, Bw w6 V → Calls Tryz.prog 26 #[.string z, .int .i64 10] V (fun e w' => e = .returned (.int .i64 (cntB z 10 z.size)) ∧ Below V.heap.size V w') from
        fun V _ => (CountText_any z 10 V hzs).mono (by rintro e w' ⟨rfl, rfl⟩; exact ⟨rfl, Below.refl _ _⟩))
      generalize (cntB z 10 z.size : Int) = cn at *
      clear htr
      by_cases hr0 : 0 < r
      · by_cases hrW : r ≤ W
        · have HFT := Lib.hid (HFIT.out hr0 hrW)
          have b0 : decide (0 < r) = true := decide_eq_true hr0
          have b1 : decide (r ≤ W) = true := decide_eq_true hrW
          clear hr0 hrW HFIT
          go_wp2_with fail
          refine (HTRL.out w6 (Below.refl _ _)).mono ?_
          rintro e w7 ⟨rfl, hb7⟩
          have HW7 := Lib.hid (show Bw w6 w7 from hb7)
          clear hb7
          go_wp2_with fail
          refine (HFT.out w7 HW7.out).mono ?_
          rintro e w8 ⟨rfl, hb8⟩
          have HW8 := Lib.hid (show Bw w6 w8 from HW7.out.trans (hb8.mono HW7.out.size))
          clear hb8
          go_wp2_with fail
          refine (HLIN.out _ HW8.out).mono ?_
          rintro e w9 ⟨rfl, hb9⟩
          have HW9 := Lib.hid (show Bw w6 w9 from (HW8.out).trans (hb9.mono (HW8.out).size))
          clear hb9
          go_wp2_with fail
          refine (HCNT.out _ HW9.out).mono ?_
          rintro e w10 ⟨rfl, hb10⟩
          have HW10 := Lib.hid (show Bw w6 w10 from HW9.out.trans (hb10.mono HW9.out.size))
          clear hb10
          go_wp2_with fail
          refine (letters_any z w10 hzs).mono ?_
          rintro e w11 ⟨rfl, hb11⟩
          rw [HLT.out]
          have HW11 := Lib.hid (show Bw w6 w11 from HW10.out.trans (hb11.mono HW10.out.size))
          have HT11 := Lib.hid (HT6.out.below HW11.out)
          clear hb11
          obtain ⟨y, hy⟩ : ∃ y : ByteArray, (⟨(ltB u.data.toList).toArray⟩ : ByteArray) = y := ⟨_, rfl⟩
          rw [hy]
          have HY := Lib.hid hy
          clear hy
          go_wp2_with fail
          refine (TextOnly_any A1 l _ c1 w11 rfl hl2 HT11.out HF.out).mono ?_
          rintro e w12 ⟨rfl, hb12⟩
          rw [HU.out]
          have HW12 := Lib.hid (show Bw w6 w12 from HW11.out.trans (hb12.mono HW11.out.size))
          clear hb12
          go_wp2_with fail
          refine (letters_any u w12 hts).mono ?_
          rintro e w13 ⟨rfl, hb13⟩
          rw [HY.out]
          have HW13 := Lib.hid (HB6.out.trans (Below.mono (show Bw w6 w13 from HW12.out.trans (hb13.mono HW12.out.size)) HB6.out.size))
          have hyy : (y.toList == y.toList) = true := by simp
          clear hb13
          go_wp2_with fail
          go_roundw
          case rel => exact ⟨i + 1, by omega, by go_num, HW13.out⟩
          case measure => simp [intOf]; omega
        · have b0 : decide (0 < r) = true := decide_eq_true hr0
          have b1 : decide (r ≤ W) = false := decide_eq_false hrW
          clear hr0 hrW HFIT
          go_wp2_with fail
          refine (HTRL.out w6 (Below.refl _ _)).mono ?_
          rintro e w7 ⟨rfl, hb7⟩
          have HW7 := Lib.hid (show Bw w6 w7 from hb7)
          clear hb7
          go_wp2_with fail
          refine (HLIN.out _ HW7.out).mono ?_
          rintro e w9 ⟨rfl, hb9⟩
          have HW9 := Lib.hid (show Bw w6 w9 from (HW7.out).trans (hb9.mono (HW7.out).size))
          clear hb9
          go_wp2_with fail
          refine (HCNT.out _ HW9.out).mono ?_
          rintro e w10 ⟨rfl, hb10⟩
          have HW10 := Lib.hid (show Bw w6 w10 from HW9.out.trans (hb10.mono HW9.out.size))
          clear hb10
          go_wp2_with fail
          refine (letters_any z w10 hzs).mono ?_
          rintro e w11 ⟨rfl, hb11⟩
          rw [HLT.out]
          have HW11 := Lib.hid (show Bw w6 w11 from HW10.out.trans (hb11.mono HW10.out.size))
          have HT11 := Lib.hid (HT6.out.below HW11.out)
          clear hb11
          obtain ⟨y, hy⟩ : ∃ y : ByteArray, (⟨(ltB u.data.toList).toArray⟩ : ByteArray) = y := ⟨_, rfl⟩
          rw [hy]
          have HY := Lib.hid hy
          clear hy
          go_wp2_with fail
          refine (TextOnly_any A1 l _ c1 w11 rfl hl2 HT11.out HF.out).mono ?_
          rintro e w12 ⟨rfl, hb12⟩
          rw [HU.out]
          have HW12 := Lib.hid (show Bw w6 w12 from HW11.out.trans (hb12.mono HW11.out.size))
          clear hb12
          go_wp2_with fail
          refine (letters_any u w12 hts).mono ?_
          rintro e w13 ⟨rfl, hb13⟩
          rw [HY.out]
          have HW13 := Lib.hid (HB6.out.trans (Below.mono (show Bw w6 w13 from HW12.out.trans (hb13.mono HW12.out.size)) HB6.out.size))
          have hyy : (y.toList == y.toList) = true := by simp
          clear hb13
          go_wp2_with fail
          go_roundw
          case rel => exact ⟨i + 1, by omega, by go_num, HW13.out⟩
          case measure => simp [intOf]; omega
      · have b0 : decide (0 < r) = false := decide_eq_false hr0
        clear hr0 HFIT
        go_wp2_with fail
        refine (HTRL.out w6 (Below.refl _ _)).mono ?_
        rintro e w7 ⟨rfl, hb7⟩
        have HW7 := Lib.hid (show Bw w6 w7 from hb7)
        clear hb7
        go_wp2_with fail
        refine (HLIN.out _ HW7.out).mono ?_
        rintro e w9 ⟨rfl, hb9⟩
        have HW9 := Lib.hid (show Bw w6 w9 from (HW7.out).trans (hb9.mono (HW7.out).size))
        clear hb9
        go_wp2_with fail
        refine (HCNT.out _ HW9.out).mono ?_
        rintro e w10 ⟨rfl, hb10⟩
        have HW10 := Lib.hid (show Bw w6 w10 from HW9.out.trans (hb10.mono HW9.out.size))
        clear hb10
        go_wp2_with fail
        refine (letters_any z w10 hzs).mono ?_
        rintro e w11 ⟨rfl, hb11⟩
        rw [HLT.out]
        have HW11 := Lib.hid (show Bw w6 w11 from HW10.out.trans (hb11.mono HW10.out.size))
        have HT11 := Lib.hid (HT6.out.below HW11.out)
        clear hb11
        obtain ⟨y, hy⟩ : ∃ y : ByteArray, (⟨(ltB u.data.toList).toArray⟩ : ByteArray) = y := ⟨_, rfl⟩
        rw [hy]
        have HY := Lib.hid hy
        clear hy
        go_wp2_with fail
        refine (TextOnly_any A1 l _ c1 w11 rfl hl2 HT11.out HF.out).mono ?_
        rintro e w12 ⟨rfl, hb12⟩
        rw [HU.out]
        have HW12 := Lib.hid (show Bw w6 w12 from HW11.out.trans (hb12.mono HW11.out.size))
        clear hb12
        go_wp2_with fail
        refine (letters_any u w12 hts).mono ?_
        rintro e w13 ⟨rfl, hb13⟩
        rw [HY.out]
        have HW13 := Lib.hid (HB6.out.trans (Below.mono (show Bw w6 w13 from HW12.out.trans (hb13.mono HW12.out.size)) HB6.out.size))
        have hyy : (y.toList == y.toList) = true := by simp
        clear hb13
        go_wp2_with fail
        go_roundw
        case rel => exact ⟨i + 1, by omega, by go_num, HW13.out⟩
        case measure => simp [intOf]; omega
    · obtain rfl : i = 3 := by omega
      have HBE := Lib.hid (HB4.out.trans (hb.mono HB4.out.size))
      clear hb
      go_wp2_with fail
      go_ret
      exact ⟨rfl, HBE.out⟩
end fnWider
end Go.Proofs.YthjkgbcomjiejadGreatDoor
