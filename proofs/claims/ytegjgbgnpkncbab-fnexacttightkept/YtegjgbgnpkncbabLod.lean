/-
  BrokenBlocks on both sides.
-/
import Derived.Test.YtegjgbgnpkncbabLob
import Derived.Test.YtegjgbgnpkncbabMat
namespace Go.Proofs.Ytegjgbgnpkncbab
open Go.RowKit
set_option linter.unusedVariables false

theorem fwdF_cases (l : List Tk) (L : Int) : ∀ (f i : Nat), (∃ j : Nat, fwdF l L f i = (j : Int) ∧ i ≤ j ∧ j < i + f ∧ levI l j = L) ∨ (fwdF l L f i = -1 ∧ ∀ j, i ≤ j → j < i + f → levI l j ≠ L)
  | 0, i => .inr ⟨rfl, fun j h1 h2 => by omega⟩
  | f + 1, i => by
    by_cases h : levI l i = L
    · exact .inl ⟨i, by simp only [fwdF, if_pos h], by omega, by omega, h⟩
    · rcases fwdF_cases l L f (i + 1) with ⟨j, h1, h2, h3, h4⟩ | ⟨h1, h2⟩
      · exact .inl ⟨j, by simp only [fwdF, if_neg h]; exact h1, by omega, by omega, h4⟩
      · refine .inr ⟨by simp only [fwdF, if_neg h]; exact h1, fun j h3 h4 => ?_⟩
        by_cases e : j = i
        · subst e; exact h
        · exact h2 j (by omega) (by omega)
/-- where the block that token k begins ends. -/
def endI (l : List Tk) (k : Nat) : Int := fwdF l (levI l k) (l.length - (k + 1)) (k + 1)
theorem endI_at {l : List Tk} (hS : strB l = true) {k : Nat} {t : Tk} (ht : l[k]? = some t) (h2 : t.k = 2) : ∃ e : Nat, endI l k = (e : Int) ∧ k < e ∧ e < l.length := by
  have hk := (List.getElem?_eq_some_iff.1 ht).1
  rcases fwdF_cases l (levI l k) (l.length - (k + 1)) (k + 1) with ⟨j, h1, h3, h4, _⟩ | ⟨_, h3⟩
  · exact ⟨j, h1, by omega, by omega⟩
  · exfalso
    have h4 := above_fwd ht h2 hk (fun j h5 h6 => h3 j (by omega) (by omega))
    have h5 := (strB_true hS).2.2
    have h6 := (okN_lo (okN_mono (i := k) (by omega) (strB_true hS).2.1) (by omega)).1
    have h7 : levI l k = opN l k := by rw [levI_eq ht, if_neg (by omega)]
    omega
/-- is there a break in the block that token k begins? -/
def beB (l : List Tk) (ps : List Int) (k : Nat) : Bool :=
  match l[k]? with
  | some t => (t.k == 2) && ps.any fun p => decide ((k : Int) < p) && decide (p < endI l k)
  | none => false
def brbK (l : List Tk) (ps : List Int) : Nat → List Int
  | 0 => []
  | i + 1 => brbK l ps i ++ (if beB l ps i = true then [(i : Int)] else [])
theorem brbK_le (l : List Tk) (ps : List Int) : ∀ i, (brbK l ps i).length ≤ i
  | 0 => Nat.le_refl _
  | i + 1 => by
    have := brbK_le l ps i
    simp only [brbK, List.length_append]
    split <;> simp <;> omega
theorem brbK_yes {l : List Tk} {ps : List Int} {i : Nat} (h : beB l ps i = true) : brbK l ps (i + 1) = brbK l ps i ++ [(i : Int)] := by simp only [brbK, if_pos h]
theorem brbK_no {l : List Tk} {ps : List Int} {i : Nat} (h : beB l ps i = false) : brbK l ps (i + 1) = brbK l ps i := by simp [brbK, h]
def brbL (W : Int) (l : List Tk) : List Int := if okB W l = true then brbK l (brkL W l) l.length else []
theorem brbL_le (W : Int) (l : List Tk) : (brbL W l).length ≤ 400 := by
  unfold brbL
  split
  · rename_i h
    have h4 := (strB_true (okB_true h).2.2).1
    have := brbK_le l (brkL W l) l.length
    omega
  · simp
theorem run_kind (W : Int) (l : List Tk) : ∀ (k q : Nat), (q : Int) ∈ (run W l k).2 → ∃ t, l[q]? = some t ∧ t.k ≠ 2
  | 0, q, h => by simp [run] at h
  | k + 1, q, h => by
    cases ht : l[k]? with
    | none =>
      have e : run W l (k + 1) = run W l k := by simp only [run, ht]
      rw [e] at h
      exact run_kind W l k q h
    | some t =>
      rw [run_succ ht] at h
      rcases List.mem_append.1 h with h | h
      · exact run_kind W l k q h
      · split at h
        · rename_i hp
          simp at h
          have e : q = k := by omega
          subst e
          refine ⟨t, ht, fun h2 => ?_⟩
          unfold Pr.put at hp
          rw [if_neg (by omega), if_pos h2] at hp
          simp at hp
        · simp at h
theorem brk_kind {W : Int} {l : List Tk} {k : Nat} {t : Tk} (ht : l[k]? = some t) (h2 : t.k = 2) : (brkL W l).contains (k : Int) = false := by
  cases hc : (brkL W l).contains (k : Int)
  · rfl
  · exfalso
    have hm : (k : Int) ∈ brkL W l := by simpa using hc
    unfold brkL at hm
    split at hm
    · obtain ⟨t', h1, h3⟩ := run_kind W l _ k hm
      rw [ht] at h1
      exact h3 (by rw [← Option.some.inj h1]; exact h2)
    · simp at hm
/-- what is asked of the breaks from k up to the end is just that. -/
theorem any_beB {W : Int} {l : List Tk} {k e : Nat} {t : Tk} (ht : l[k]? = some t) (h2 : t.k = 2) (he : endI l k = (e : Int)) (hke : k < e) (hel : e < l.length) :
    (((flN (brkL W l) l.length).drop k).take (e - k)).any id = beB l (brkL W l) k := by
  have hb : beB l (brkL W l) k = (brkL W l).any fun p => decide ((k : Int) < p) && decide (p < (e : Int)) := by
    unfold beB
    rw [ht, he]
    simp [h2]
  rw [hb, Bool.eq_iff_iff, List.any_eq_true, List.any_eq_true]
  constructor
  · rintro ⟨b, hb1, hb2⟩
    obtain ⟨i, hi⟩ := List.mem_iff_getElem?.1 hb1
    rw [List.getElem?_take] at hi
    split at hi
    · rename_i hik
      rw [List.getElem?_drop, flN_at _ (by omega)] at hi
      have hb3 : b = true := by simpa using hb2
      rw [hb3] at hi
      have hc := Option.some.inj hi
      have hne : i ≠ 0 := by
        intro e0
        subst e0
        have := brk_kind (W := W) ht h2
        rw [Nat.add_zero] at hc
        rw [this] at hc
        cases hc
      refine ⟨((k + i : Nat) : Int), by simpa using hc, ?_⟩
      simp
      omega
    · cases hi
  · rintro ⟨p, hp, h3⟩
    simp at h3
    obtain ⟨h0, h4⟩ := brkL_mem hp
    obtain ⟨q, rfl⟩ : ∃ q : Nat, p = (q : Int) := ⟨p.toNat, by omega⟩
    refine ⟨true, ?_, rfl⟩
    refine List.mem_iff_getElem?.2 ⟨q - k, ?_⟩
    rw [List.getElem?_take, if_pos (by omega), List.getElem?_drop, show k + (q - k) = q by omega, flN_at _ (by omega)]
    simpa using hp
theorem beB_no {l : List Tk} {ps : List Int} {k : Nat} {t : Tk} (ht : l[k]? = some t) (h2 : t.k ≠ 2) : beB l ps k = false := by
  unfold beB
  rw [ht]
  simp [h2]
theorem RS_sub {w : World} {b o : Nat} {bs : List Bool} {k n : Nat} (h : RS fb 1 w (some ⟨b, o, none⟩) bs) : RS fb 1 w (some ⟨b, o + k, none⟩) ((bs.drop k).take n) := by
  intro i t ht
  rw [List.getElem?_take] at ht
  split at ht
  · rw [List.getElem?_drop] at ht
    obtain ⟨hb, hc⟩ := RS.get h ht
    exact ⟨b, o + k, rfl, hb, fun j hj => by have := hc j hj; rw [← this]; congr 2; omega⟩
  · cases ht
set_option maxHeartbeats 1000000 in
set_option maxRecDepth 100000 in
theorem Contains_any (A : Option Addr) (bs : List Bool) (n c : Nat) (w : World) (hn : bs.length = n) (hm : n ≤ 2097152) (hl : RS fb 1 w A bs) :
    Calls Try.prog 41 #[.slice A n c, .bool true] w fun e w' => e = .returned (.bool (bs.any id)) ∧ w = w' := by
  have HN := Lib.hid hn
  have HL := Lib.hid hl
  clear hn hl
  go_enter Try.func41, Try.ntmps41
  go_wp2_with fail
  go_enter Try.func72, Try.ntmps72
  go_wp2_with fail
  go_loopw [8] (fun iv wr => ∃ i : Nat, i ≤ n ∧ iv = .int .i64 i ∧ w = wr ∧ (bs.take i).any id = false) (fun iv _ => n - (intOf iv).toNat)
  case atStart => exact ⟨0, Nat.zero_le _, rfl, rfl, rfl⟩
  case round =>
    obtain ⟨i, hi, rfl, rfl, htr⟩ := hrel
    have HT := Lib.hid htr
    clear htr
    by_cases hil : i < n
    · obtain ⟨x, b, o, hx, rfl, hbl, c0⟩ := HL.out.at (k := i) (by have := HN.out; omega)
      have c1 : w.cell? ⟨b, o + i, none⟩ = some (.bool x) := by have := c0 0 (by decide); simpa [fb] using this
      cases x
      · have HG := Lib.hid (show (bs.take (i + 1)).any id = false by rw [List.take_add_one, hx, List.any_append, HT.out]; rfl)
        clear hx c0
        go_wp2_with fail
        go_roundw
        case rel => exact ⟨i + 1, by omega, by go_num, trivial, HG.out⟩
        case measure => simp [intOf]; omega
      · have HG := Lib.hid (show bs.any id = true from List.any_eq_true.2 ⟨true, List.mem_of_getElem? hx, rfl⟩)
        clear hx c0
        go_wp2_with fail
        go_ret
        rw [HG.out]
        exact ⟨rfl, rfl⟩
    · obtain rfl : i = n := by omega
      have HG := Lib.hid (show bs.any id = false by rw [← HT.out, ← HN.out, List.take_length])
      go_wp2_with fail
      go_ret
      rw [HG.out]
      exact ⟨rfl, rfl⟩
set_option maxHeartbeats 2000000 in
set_option maxRecDepth 100000 in
theorem BrokenBlocks_any (W : Int) (A : Option Addr) (l : List Tk) (m c : Nat) (w : World) (hm : l.length = m) (hmb : m ≤ 2097152) (hmc : m ≤ c) (hts : TS w A l) (hlow : ∀ b, A.map (·.block) = some b → b < w.heap.size) (hf : Fits l) :
    Calls Try.prog 20 #[.int .i64 W, .slice A m c] w (IntsOut w (brbL W l)) := by
  obtain ⟨i0, hi0, hz0, hz1, hz2⟩ := info_parts infoInt
  have HM := Lib.hid hm
  have HT := Lib.hid hts
  have HF := Lib.hid hf
  have HL := Lib.hid hlow
  clear hm hts hf hlow
  go_enter Try.func20, Try.ntmps20
  go_wp2_with fail
  refine (breaking_any W A l m c _ HM.out hmb hmc HT.out HL.out HF.out).mono ?_
  rintro e w1 ⟨hb1, ⟨hok, g, rfl, hg, hk⟩ | ⟨hok, rfl⟩⟩
  · have HB1 := Lib.hid hb1
    have HE := Lib.hid (show brbL W l = brbK l (brkL W l) l.length from if_pos hok)
    have HST := Lib.hid (okB_true hok).2.2
    have h400 := (strB_true (okB_true hok).2.2).1
    have HK1 := Lib.hid (show RS fb 1 w1 (some ⟨g, 0, none⟩) (flN (brkL W l) l.length) from RS.of_blk fb_len hk)
    rw [HM.out] at HE h400 ⊢
    clear hb1 hok hk
    go_wp2_with fail
    refine (LevelsOf_any A l m c _ HM.out hmb (HT.out.below HB1.out) HF.out).mono ?_
    rintro e w2 ⟨hb2, ⟨_, rfl, hk2⟩ | ⟨hno, _⟩⟩
    · have HB2 := Lib.hid (HB1.out.trans (hb2.mono HB1.out.size))
      have HK2 := Lib.hid (HK1.out.below hb2)
      have hls := levs_length l
      obtain ⟨gl, hgl⟩ : ∃ gl, w1.heap.size = gl := ⟨_, rfl⟩
      rw [hgl] at hk2 ⊢
      have HV2 := Lib.hid (show IS w2 (some ⟨gl, 0, none⟩) (levs l) from IntRow.is (.inr ⟨gl, _, rfl, hk2⟩))
      have HT2 := Lib.hid (HT.out.below HB2.out)
      rw [HM.out]
      clear hb2 hk2 HK1
      go_wp2_with fail
      go_loopw [7, 23] (fun v iv wr => ∃ k : Nat, k ≤ m ∧ iv = .int .i64 k ∧ wr.ownsRow w2.heap.size 3 1 v (brbK l (brkL W l) k).length (nums (brbK l (brkL W l) k)) ∧ Below w2.heap.size w2 wr) (fun _ iv _ => m - (intOf iv).toNat)
      case atStart => exact ⟨0, Nat.zero_le _, rfl, os_nil _ _ _ _, Below.refl _ _⟩
      case round =>
        obtain ⟨k, hk, rfl, hown, hb⟩ := hrel
        have HO := Lib.hid hown
        have HB := Lib.hid hb
        have hsz := hb.size
        have hle := brbK_le l (brkL W l) k
        obtain ⟨Av, cv, rfl⟩ := os_slice hown
        clear hown hb
        by_cases hkl : k < m
        · obtain ⟨t, b, o, ht, rfl, hbl, c0, c1, c2', c3⟩ := (HT2.out.below HB.out).at (k := k) (by have := HM.out; omega)
          have HTT := Lib.hid ht
          clear ht
          have hbX := (Below.refl wr.heap.size wr).alloc (Nat.le_refl _) (.cells #[.int .i64 t.k, .string t.s, .int .i64 t.d, .int .i64 t.o] 51)
          have HBX := Lib.hid (HB.out.trans (hbX.mono hsz))
          have HOX := Lib.hid (os_below HO.out hbX)
          have HX := Lib.hid (BlkL.new wr 51 [.int .i64 t.k, .string t.s, .int .i64 t.d, .int .i64 t.o])
          clear hbX
          by_cases h2 : t.k = 2
          · have h2b : (t.k == 2) = true := by simp [h2]
            obtain ⟨e, he, hke, hel⟩ := endI_at HST.out HTT.out h2
            have HANY := Lib.hid (any_beB (W := W) HTT.out h2 he hke hel)
            have HEE := Lib.hid (show fwdF l (levI l k) (m - (k + 1)) (k + 1) = (e : Int) by rw [← HM.out]; exact he)
            rw [HM.out] at HANY hel
            clear he h2
            go_wp2_with fail
            refine (again_up gl l m m k _ HM.out h400 hkl (HV2.out.below HBX.out)).mono ?_
            rintro e' w3 ⟨rfl, hb3⟩
            have HB3 := Lib.hid (HBX.out.trans (hb3.mono HBX.out.size))
            have HO3 := Lib.hid (os_below HOX.out hb3)
            have HSUB := Lib.hid (RS_sub (k := k) (n := e - k) (HK2.out.below HB3.out))
            have hsl : (((flN (brkL W l) m).drop k).take (e - k)).length = e - k := by rw [List.length_take, List.length_drop, flN_len]; omega
            have HSL := Lib.hid hsl
            rw [HEE.out]
            rw [HM.out, Nat.zero_add] at HSUB
            clear hb3 hsl HOX HBX HX c0 c1 c2' c3
            have hsz3 := HB3.out.size
            go_wp2_with fail
            refine (Contains_any _ _ _ _ _ HSL.out (by omega) HSUB.out).mono ?_
            rintro e' w4 ⟨rfl, rfl⟩
            rw [HANY.out]
            cases hbe : beB l (brkL W l) k
            · have HG := Lib.hid (brbK_no hbe)
              clear hbe
              go_wp2_with fail
              go_roundw
              case rel => exact ⟨k + 1, by omega, by go_num, by rw [HG.out]; exact HO3.out, HB3.out⟩
              case measure => simp [intOf]; omega
            · have HG := Lib.hid (brbK_yes hbe)
              clear hbe
              have hS := BlkL.new w3 3 [.int .i64 (k : Int)]
              have hb5 := (Below.refl w3.heap.size w3).alloc (Nat.le_refl _) (.cells #[.int .i64 (k : Int)] 3)
              have HO5 := Lib.hid (os_below HO3.out hb5)
              have HB5 := Lib.hid (HB3.out.trans (hb5.mono hsz3))
              have HS := Lib.hid hS
              have hz5 : w2.heap.size ≤ (w3.alloc (.cells #[.int .i64 (k : Int)] 3)).heap.size := HB5.out.size
              clear hS hb5
              go_wp2_with (at_builtin; refine wpList_append_own_at _ rfl _ _ 24 rfl w2.heap.size 3 i0 (.int .i64 0) 1 8 Try.underlying24 hi0 hz0 hz1 hz2 rfl (by decide) _ _ _ rfl HO5.out ⟨w3.heap.size, 0, none⟩ 1 1 [.int .i64 (k : Int)] rfl rfl (fun j u hj => by rw [Addr.add_lit, Nat.zero_add]; exact (HS.out.cell j).trans hj) (os_int _) (by simp only [maxLen]; omega) (by omega) hz5 ?_)
              intro v' w6 hown6 hgr6 _ _
              have HB6 := Lib.hid (HB5.out.grown hgr6 hz5 (fun g hg => (HO5.out.lt g hg).1))
              obtain ⟨A6, c6, rfl⟩ := os_slice hown6
              have HO6 := Lib.hid (show w6.ownsRow w2.heap.size 3 1 (.slice A6 ((brbK l (brkL W l) k).length + 1) c6) (brbK l (brkL W l) (k + 1)).length (nums (brbK l (brkL W l) (k + 1))) by rw [HG.out, List.length_append, nums_snoc1]; exact hown6)
              clear hown6 hgr6 HO5 HB5 HS
              go_wp2_with fail
              go_roundw
              case rel => exact ⟨k + 1, by omega, by go_num, HO6.out, HB6.out⟩
              case measure => simp [intOf]; omega
          · have h2b : (t.k == 2) = false := by simp [h2]
            have HG := Lib.hid (brbK_no (beB_no (ps := brkL W l) HTT.out h2))
            clear h2
            go_wp2_with fail
            go_roundw
            case rel => exact ⟨k + 1, by omega, by go_num, by rw [HG.out]; exact HOX.out, HBX.out⟩
            case measure => simp [intOf]; omega
        · obtain rfl : k = m := by omega
          go_wp2_with fail
          go_ret
          rw [HE.out]
          exact ints_of_own (HB2.out.trans (HB.out.mono HB2.out.size)) (Joins.ownsRow_le HO.out HB2.out.size)
    · rw [HST.out] at hno
      cases hno
  · have HB1 := Lib.hid hb1
    have HE := Lib.hid (show brbL W l = [] from by unfold brbL; rw [if_neg (by rw [hok]; decide)])
    clear hb1 hok
    go_wp2_with fail
    go_ret
    rw [HE.out]
    exact ⟨HB1.out, none, 0, rfl, fun b hb => by simp at hb, fun _ => rfl, .inl ⟨rfl, rfl⟩⟩
/-- the model's inner loop: a break among the first j. -/
def bmN (ps : List Int) (k e : Int) (j : Nat) : Bool := (ps.take j).any fun p => decide (k < p) && decide (p < e)
theorem bmN_at {ps : List Int} {k e p : Int} {j : Nat} (h : ps[j]? = some p) : bmN ps k e (j + 1) = (bmN ps k e j || (decide (k < p) && decide (p < e))) := by
  unfold bmN
  rw [List.take_add_one, h, List.any_append]
  simp
theorem bmN_all (ps : List Int) (k e : Int) : bmN ps k e ps.length = ps.any fun p => decide (k < p) && decide (p < e) := by simp [bmN]
theorem beB_yes {l : List Tk} {ps : List Int} {k : Nat} {t : Tk} (ht : l[k]? = some t) (h2 : t.k = 2) {e : Int} (he : endI l k = e) : beB l ps k = bmN ps k e ps.length := by
  rw [bmN_all]
  unfold beB
  rw [ht, he]
  simp [h2]
set_option maxHeartbeats 4000000 in
set_option maxRecDepth 100000 in
theorem sBrokenBlocks_any (W : Int) (A : Option Addr) (l : List Tk) (m c : Nat) (w : World) (hm : l.length = m) (hmb : m ≤ 2097152) (hts : TS w A l) (hlow : ∀ b, A.map (·.block) = some b → b < w.heap.size) (hf : Fits l) :
    Calls Try.prog 19 #[.int .i64 W, .slice A m c] w (IntsOut w (brbL W l)) := by
  obtain ⟨i0, hi0, hz0, hz1, hz2⟩ := info_parts infoInt
  have HM := Lib.hid hm
  have HT := Lib.hid hts
  have HF := Lib.hid hf
  have HL := Lib.hid hlow
  clear hm hts hf hlow
  go_enter Try.func19, Try.ntmps19
  go_wp2_with fail
  have hb0 := (Below.refl w.heap.size w).alloc (Nat.le_refl _) (.cells #[] 3)
  have ho0 := os_lit0 w 3
  generalize w.alloc (.cells #[] 3) = w0 at *
  refine (sLayout_any W A l m c _ HM.out hmb (HT.out.below hb0) (fun b hb => Nat.lt_of_lt_of_le (HL.out b hb) hb0.size) HF.out).mono ?_
  rintro e w1 ⟨rfl, hb1⟩
  have HB1 := Lib.hid (hb0.trans (hb1.mono hb0.size))
  have HO1 := Lib.hid (os_below ho0 hb1)
  have hs0 : w.heap.size < w1.heap.size := Nat.lt_of_lt_of_le (ho0.lt w.heap.size rfl |>.2) hb1.size
  clear hb0 ho0 hb1
  cases hok : okB W l
  · have HE := Lib.hid (show brbL W l = [] from by unfold brbL; rw [if_neg (by rw [hok]; decide)])
    clear hok
    go_wp2_with fail
    go_ret
    rw [HE.out]
    exact ⟨HB1.out, none, 0, rfl, fun b hb => by simp at hb, fun _ => rfl, .inl ⟨rfl, rfl⟩⟩
  have HE := Lib.hid (show brbL W l = brbK l (brkL W l) l.length from if_pos hok)
  have HST := Lib.hid (okB_true hok).2.2
  have h400 := (strB_true (okB_true hok).2.2).1
  have HMAT := Lib.hid (show ∀ (k : Nat) (t : Tk), l[k]? = some t → t.k = 2 → matB l (k : Int) = endI l k from fun k t ht h2 => by rw [matB_yes (okB_true hok).2.2 ht]; unfold matI; rw [if_pos h2]; rfl)
  clear hok
  have hbl := brkL_le W l
  rw [HM.out] at HE h400
  go_wp2_with fail
  refine (sBreaksOf_out W A l m c _ HM.out hmb (HT.out.below HB1.out) (fun b hb => Nat.lt_of_lt_of_le (HL.out b hb) HB1.out.size) HF.out).mono ?_
  rintro e w2 ⟨hb2, A2, c2, rfl, hlo2, hnil2, hrow2⟩
  have HB2 := Lib.hid (HB1.out.trans (hb2.mono HB1.out.size))
  have HO2 := Lib.hid (os_below HO1.out hb2)
  have HR := Lib.hid hrow2
  have HLO := Lib.hid hlo2
  clear hb2 hrow2 hlo2 hnil2 HO1
  obtain ⟨ps, hps⟩ : ∃ ps, brkL W l = ps := ⟨_, rfl⟩
  rw [hps] at HR HE hbl ⊢
  clear hps
  go_wp2_with fail
  go_loopw [5, 9] (fun v iv wr => ∃ k : Nat, k ≤ m ∧ iv = .int .i64 k ∧ wr.ownsRow w.heap.size 3 1 v (brbK l ps k).length (nums (brbK l ps k)) ∧ Below w.heap.size w wr ∧ IntRow wr A2 ps ∧ (∀ g b, v.ownBlock = some g → A2.map (·.block) = some b → g ≠ b)) (fun _ iv _ => m - (intOf iv).toNat)
  case atStart => exact ⟨0, Nat.zero_le _, rfl, HO2.out, HB2.out, HR.out, fun g b hg hb => by have := HLO.out b hb; have : w.heap.size = g := Option.some.inj hg; omega⟩
  case round =>
    obtain ⟨k, hk, rfl, hown, hb, hsw, hne⟩ := hrel
    have HO := Lib.hid hown
    have HB := Lib.hid hb
    have HSW := Lib.hid hsw
    have HNE := Lib.hid hne
    have hsz := hb.size
    have hle := brbK_le l ps k
    obtain ⟨Av, cv, rfl⟩ := os_slice hown
    clear hown hb hsw hne HO2 HB2
    by_cases hkl : k < m
    · obtain ⟨t, b, o, ht, rfl, hbl', c0, c1, c2', c3⟩ := (HT.out.below HB.out).at (k := k) (by have := HM.out; omega)
      have HTT := Lib.hid ht
      clear ht
      by_cases h2 : t.k = 2
      · have h2b : (t.k == 2) = true := by simp [h2]
        have h2n : (t.k != 2) = false := by simp [h2]
        have HE2 := Lib.hid (HMAT.out k t HTT.out h2)
        obtain ⟨e, he, hke, hel⟩ := endI_at HST.out HTT.out h2
        have HBE := Lib.hid (beB_yes (ps := ps) HTT.out h2 he)
        rw [HM.out] at hel
        rw [he] at HE2
        clear he h2
        have hkwf : (Lit.int .i64 (k : Int)).wf = true := by simp [Lit.wf, IntKind.min, IntKind.max, IntKind.signed, IntKind.bits]; omega
        go_wp2_with fail
        refine (sMatchOf_any _ l m c (k : Int) _ HM.out hmb (HT.out.below HB.out) HF.out hkwf).mono ?_
        rw [HE2.out]
        rintro e' w3 ⟨rfl, hb3⟩
        have HB3 := Lib.hid (HB.out.trans (hb3.mono hsz))
        have HO3 := Lib.hid (os_below HO.out hb3)
        have HSW3 := Lib.hid (HSW.out.below hb3)
        clear hb3 hkwf c0 c1 c2' c3 HO HB HSW
        go_wp2_with fail
        go_loopw [11, 12] (fun sv jv wv => ∃ j : Nat, j ≤ ps.length ∧ jv = .int .i64 j ∧ sv = .bool (bmN ps k e j) ∧ wv = w3) (fun _ jv _ => ps.length - (intOf jv).toNat)
        case atStart => exact ⟨0, Nat.zero_le _, rfl, rfl, rfl⟩
        case round =>
          obtain ⟨j, hj, rfl, rfl, rfl⟩ := hrel
          by_cases hjl : j < ps.length
          · have hx : ps[j]? = some (ps[j]'hjl) := List.getElem?_eq_getElem _
            obtain ⟨y, hxe⟩ : ∃ y, ps[j]'hjl = y := ⟨_, rfl⟩
            rw [hxe] at hx
            obtain ⟨b2, rfl, hbl2, d0⟩ := HSW3.out.is j _ hx
            have HG := Lib.hid (bmN_at (k := (k : Int)) (e := (e : Int)) hx)
            clear hx hxe
            cases g1 : decide ((k : Int) < y) <;> cases g2 : decide (y < (e : Int))
            all_goals
              have HG2 := Lib.hid (show bmN ps k e (j + 1) = _ by rw [HG.out, g1, g2])
              go_wp2_with fail
              go_roundw
              case rel => exact ⟨j + 1, by omega, by go_num, by rw [HG2.out]; simp, trivial⟩
              case measure => simp [intOf]; omega
          · obtain rfl : j = ps.length := by omega
            cases hbe : beB l ps k
            · have HG := Lib.hid (brbK_no hbe)
              have HS2 := Lib.hid (show bmN ps k e ps.length = false by rw [← HBE.out, hbe])
              clear hbe
              rw [HS2.out]
              go_wp2_with fail
              go_roundw
              case rel => exact ⟨k + 1, by omega, by go_num, by rw [HG.out]; exact HO3.out, HB3.out, HSW3.out, HNE.out⟩
              case measure => simp [intOf]; omega
            · have HG := Lib.hid (brbK_yes hbe)
              have HS2 := Lib.hid (show bmN ps k e ps.length = true by rw [← HBE.out, hbe])
              clear hbe
              rw [HS2.out]
              have hS := BlkL.new wr 3 [.int .i64 (k : Int)]
              have hb5 := (Below.refl wr.heap.size wr).alloc (Nat.le_refl _) (.cells #[.int .i64 (k : Int)] 3)
              have HO5 := Lib.hid (os_below HO3.out hb5)
              have HB5 := Lib.hid (HB3.out.trans (hb5.mono HB3.out.size))
              have HW5 := Lib.hid (HSW3.out.below hb5)
              have hlt := HSW3.out.lt
              have HLT := Lib.hid (show ∀ b, A2.map (·.block) = some b → b < (wr.alloc (.cells #[.int .i64 (k : Int)] 3)).heap.size from fun b hb => Nat.lt_of_lt_of_le (hlt b hb) hb5.size)
              have HS := Lib.hid hS
              have hz5 : w.heap.size ≤ (wr.alloc (.cells #[.int .i64 (k : Int)] 3)).heap.size := HB5.out.size
              clear hS hb5 hlt
              go_wp2_with (at_builtin; refine wpList_append_own_at _ rfl _ _ 24 rfl w.heap.size 3 i0 (.int .i64 0) 1 8 Try.underlying24 hi0 hz0 hz1 hz2 rfl (by decide) _ _ _ rfl HO5.out ⟨wr.heap.size, 0, none⟩ 1 1 [.int .i64 (k : Int)] rfl rfl (fun j u hj => by rw [Addr.add_lit, Nat.zero_add]; exact (HS.out.cell j).trans hj) (os_int _) (by simp only [maxLen]; omega) (by omega) hz5 ?_)
              intro v' w6 hown6 hgr6 _ hat6
              have HB6 := Lib.hid (HB5.out.grown hgr6 hz5 (fun g hg => (HO5.out.lt g hg).1))
              have HW6 := Lib.hid (HW5.out.grown hgr6 (fun b' hb' e => HNE.out b' b' e.symm hb' rfl))
              have HN6 := Lib.hid (show ∀ g b', v'.ownBlock = some g → A2.map (·.block) = some b' → g ≠ b' from fun g b' hg hb' => by
                have h9 := HLT.out b' hb'
                rcases hat6 with e | e
                · exact HNE.out g b' (e.symm.trans hg) hb'
                · rw [e] at hg
                  have := Option.some.inj hg
                  simp at h9 this
                  omega)
              obtain ⟨A6, c6, rfl⟩ := os_slice hown6
              have HO6 := Lib.hid (show w6.ownsRow w.heap.size 3 1 (.slice A6 ((brbK l ps k).length + 1) c6) (brbK l ps (k + 1)).length (nums (brbK l ps (k + 1))) by rw [HG.out, List.length_append, nums_snoc1]; exact hown6)
              clear hown6 hgr6 hat6 HO5 HB5 HS HW5 HLT
              go_wp2_with fail
              go_roundw
              case rel => exact ⟨k + 1, by omega, by go_num, HO6.out, HB6.out, HW6.out, HN6.out⟩
              case measure => simp [intOf]; omega
      · have h2b : (t.k == 2) = false := by simp [h2]
        have h2n : (t.k != 2) = true := by simp [h2]
        have HG := Lib.hid (brbK_no (beB_no (ps := ps) HTT.out h2))
        clear h2
        go_wp2_with fail
        go_roundw
        case rel => exact ⟨k + 1, by omega, by go_num, by rw [HG.out]; exact HO.out, HB.out, HSW.out, HNE.out⟩
        case measure => simp [intOf]; omega
    · obtain rfl : k = m := by omega
      go_wp2_with fail
      go_ret
      rw [HE.out]
      exact ints_of_own HB.out HO.out
end Go.Proofs.Ytegjgbgnpkncbab
