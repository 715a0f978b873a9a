/-
  TightKept: plain mathematics, and the program's allAlike.
-/
import Derived.Test.YtegjgbgnpkncbabLod
import Derived.Deep.LoopGhost
namespace Go.Proofs.Ytegjgbgnpkncbab
open Go.RowKit
set_option linter.unusedVariables false

theorem fwdF_first (l : List Tk) (L : Int) : ∀ (f i j : Nat), fwdF l L f i = (j : Int) → ∀ q, i ≤ q → q < j → levI l q ≠ L
  | 0, i, j, h => by simp only [fwdF] at h; omega
  | f + 1, i, j, h => by
    by_cases hL : levI l i = L
    · simp only [fwdF, if_pos hL] at h
      intro q h1 h2
      omega
    · simp only [fwdF, if_neg hL] at h
      intro q h1 h2
      by_cases e : q = i
      · subst e; exact hL
      · exact fwdF_first l L f (i + 1) j h q (by omega) h2
theorem fwdF_lev (l : List Tk) (L : Int) : ∀ (f i j : Nat), fwdF l L f i = (j : Int) → levI l j = L
  | 0, i, j, h => by simp only [fwdF] at h; omega
  | f + 1, i, j, h => by
    by_cases hL : levI l i = L
    · simp only [fwdF, if_pos hL] at h
      have e : i = j := by omega
      subst e
      exact hL
    · simp only [fwdF, if_neg hL] at h
      exact fwdF_lev l L f (i + 1) j h
/-- within a block the levels are greater, at its end the same. -/
theorem lev_in {l : List Tk} {k e j : Nat} {t : Tk} (ht : l[k]? = some t) (h2 : t.k = 2) (he : endI l k = (e : Int)) (hkj : k < j) (hje : j < e) : levI l k < levI l j := by
  have hf := fwdF_first l (levI l k) _ _ _ he
  have h3 := above_fwd ht h2 (i := j) hkj (fun q h4 h5 => hf q (by omega) (by omega))
  have h4 := above_fwd ht h2 (i := j + 1) (by omega) (fun q h4 h5 => hf q (by omega) (by omega))
  unfold levI at h3 h4 ⊢
  omega
theorem lev_end {l : List Tk} {k e : Nat} (he : endI l k = (e : Int)) : levI l e = levI l k := fwdF_lev l _ _ _ _ he
theorem lev_bd {l : List Tk} (hS : strB l = true) {k : Nat} (hk : k < l.length) : 0 ≤ levI l k ∧ levI l k ≤ 12 := by
  have h1 := okN_lo (okN_mono (i := k) (by omega) (strB_true hS).2.1) (by omega)
  have h2 := okN_lo (okN_mono (i := k + 1) (by omega) (strB_true hS).2.1) (by omega)
  unfold levI
  omega
/-- are all the same? -/
def cons (bs : List Bool) : Bool := bs.all fun b => b == bs.headD true
/-- is the token at a place a blank or a line of the block's own level? -/
def ownB (l : List Tk) (k a : Nat) : Bool := match l[a]? with | some t => (levI l a == levI l k + 1) && brkB t.k t.s t.d t.o | none => false
def ownN (l : List Tk) (bs : List Bool) (k : Nat) : Nat → List Bool
  | 0 => []
  | f + 1 => ownN l bs k f ++ (if ownB l k (k + 1 + f) = true then [bs.getD (k + 1 + f) false] else [])
theorem ownN_le (l : List Tk) (bs : List Bool) (k : Nat) : ∀ f, (ownN l bs k f).length ≤ f
  | 0 => Nat.le_refl _
  | f + 1 => by
    have := ownN_le l bs k f
    simp only [ownN, List.length_append]
    split <;> simp <;> omega
theorem ownN_yes {l : List Tk} {bs : List Bool} {k f : Nat} {b : Bool} (h : ownB l k (k + 1 + f) = true) (hb : bs[k + 1 + f]? = some b) : ownN l bs k (f + 1) = ownN l bs k f ++ [b] := by
  simp only [ownN, if_pos h, List.getD_eq_getElem?_getD, hb, Option.getD_some]
theorem ownN_no {l : List Tk} {bs : List Bool} {k f : Nat} (h : ownB l k (k + 1 + f) = false) : ownN l bs k (f + 1) = ownN l bs k f := by simp [ownN, h]
def isT (l : List Tk) (k : Nat) : Bool := match l[k]? with | some t => (t.k == 2) && (t.d == 1) | none => false
def endN (l : List Tk) (k : Nat) : Nat := (endI l k).toNat
def tgN (l : List Tk) (bs : List Bool) : Nat → List (List Bool)
  | 0 => []
  | k + 1 => tgN l bs k ++ (if isT l k = true then [ownN l bs k (endN l k - (k + 1))] else [])
theorem tgN_le (l : List Tk) (bs : List Bool) : ∀ k, (tgN l bs k).length ≤ k
  | 0 => Nat.le_refl _
  | k + 1 => by
    have := tgN_le l bs k
    simp only [tgN, List.length_append]
    split <;> simp <;> omega
theorem tgN_yes {l : List Tk} {bs : List Bool} {k : Nat} (h : isT l k = true) : tgN l bs (k + 1) = tgN l bs k ++ [ownN l bs k (endN l k - (k + 1))] := by simp only [tgN, if_pos h]
theorem tgN_no {l : List Tk} {bs : List Bool} {k : Nat} (h : isT l k = false) : tgN l bs (k + 1) = tgN l bs k := by simp [tgN, h]
theorem isT_eq {l : List Tk} {k : Nat} {t : Tk} (h : l[k]? = some t) : isT l k = ((t.k == 2) && (t.d == 1)) := by unfold isT; rw [h]
def tkB (W : Int) (l : List Tk) : Bool := okB W l && (tgN l (flN (brkL W l) l.length) l.length).all cons
theorem cons_count (bs : List Bool) : cons bs = !(decide (0 < bs.count true) && decide (0 < bs.count false)) := by
  cases bs with
  | nil => rfl
  | cons b r =>
    have key : ∀ r : List Bool, (r.all fun x => x == b) = decide (r.count (!b) = 0) := by
      intro r
      induction r with
      | nil => simp
      | cons x r ih => cases x <;> cases b <;> simp_all
    have e : cons (b :: r) = (r.all fun x => x == b) := by simp [cons]
    rw [e, key]
    cases b
    · have e1 : (false :: r).count true = r.count true := by simp
      have e2 : 0 < (false :: r).count false := by simp
      rw [e1, decide_eq_true e2, Bool.and_true]
      by_cases h : r.count true = 0
      · simp [h]
      · rw [decide_eq_true (show 0 < r.count true by omega)]; simpa using h
    · have e1 : (true :: r).count false = r.count false := by simp
      have e2 : 0 < (true :: r).count true := by simp
      rw [e1, decide_eq_true e2, Bool.true_and]
      by_cases h : r.count false = 0
      · simp [h]
      · rw [decide_eq_true (show 0 < r.count false by omega)]; simpa using h
/-- slices of bools, in a list of values: their cells, apart from a row. -/
def LB (w : World) (row : Option Nat) (vs : List Value) (bss : List (List Bool)) : Prop :=
  vs.length = bss.length ∧ ∀ (i : Nat) (v : Value) (bs : List Bool), vs[i]? = some v → bss[i]? = some bs → ∃ A c, v = .slice A bs.length c ∧ RS fb 1 w A bs ∧ ∀ b, A.map (·.block) = some b → b < w.heap.size ∧ some b ≠ row
theorem LB.nil (w : World) (row : Option Nat) : LB w row [] [] := ⟨rfl, fun i v bs h => by simp at h⟩
theorem LB.below {w w' : World} {row : Option Nat} {vs : List Value} {bss : List (List Bool)} (h : LB w row vs bss) (hb : Below w.heap.size w w') : LB w' row vs bss := by
  refine ⟨h.1, fun i v bs h1 h2 => ?_⟩
  obtain ⟨A, c, e, hr, hl⟩ := h.2 i v bs h1 h2
  exact ⟨A, c, e, hr.below hb, fun b hb' => ⟨Nat.lt_of_lt_of_le (hl b hb').1 hb.size, (hl b hb').2⟩⟩
theorem LB.app {w w' : World} {row row' : Option Nat} {vs : List Value} {bss : List (List Bool)} {v : Value} {bs : List Bool} {A : Option Addr} {c : Nat} (h : LB w row vs bss) (hg : w.grownBy w' row) (hr : row' = row ∨ row' = some w.heap.size)
    (hv : v = .slice A bs.length c) (hs : RS fb 1 w A bs) (hA : ∀ b, A.map (·.block) = some b → b < w.heap.size ∧ some b ≠ row) : LB w' row' (vs ++ [v]) (bss ++ [bs]) := by
  have step : ∀ (A : Option Addr) (bs : List Bool), RS fb 1 w A bs → (∀ b, A.map (·.block) = some b → b < w.heap.size ∧ some b ≠ row) → RS fb 1 w' A bs ∧ ∀ b, A.map (·.block) = some b → b < w'.heap.size ∧ some b ≠ row' := by
    intro A bs h1 h2
    refine ⟨h1.grown hg fun b hb => (h2 b hb).2, fun b hb => ⟨Nat.lt_of_lt_of_le (h2 b hb).1 hg.size, ?_⟩⟩
    rcases hr with e | e
    · rw [e]; exact (h2 b hb).2
    · rw [e]
      intro e2
      have := (h2 b hb).1
      injection e2 with e2
      omega
  refine ⟨by simp [h.1], fun i u us h1 h2 => ?_⟩
  by_cases hi : i < vs.length
  · rw [List.getElem?_append_left hi] at h1
    rw [List.getElem?_append_left (by rw [← h.1]; exact hi)] at h2
    obtain ⟨A', c', e, hr', hl⟩ := h.2 i u us h1 h2
    obtain ⟨k1, k2⟩ := step A' us hr' hl
    exact ⟨A', c', e, k1, k2⟩
  · rw [List.getElem?_append_right (by omega)] at h1
    rw [List.getElem?_append_right (by rw [← h.1]; omega), ← h.1] at h2
    have hz : i - vs.length = 0 := by
      have := (List.getElem?_eq_some_iff.1 h1).1
      simp at this
      omega
    rw [hz] at h1 h2
    simp at h1 h2
    subst h1 h2
    obtain ⟨k1, k2⟩ := step A bs hs hA
    exact ⟨A, c, hv, k1, k2⟩
theorem headD_at {bs : List Bool} {x : Bool} (h : bs[0]? = some x) : bs.headD true = x := by
  cases bs with
  | nil => simp at h
  | cons a r => simp at h; simpa using h
set_option maxHeartbeats 2000000 in
set_option maxRecDepth 100000 in
theorem allAlike_any (A : Option Addr) (vs : List Value) (bss : List (List Bool)) (n c : Nat) (row : Option Nat) (w : World) (hn : vs.length = n) (hm : n ≤ 2097152) (hv : RS (fun v => [v]) 1 w A vs) (hl : LB w row vs bss) (hs : ∀ bs ∈ bss, bs.length ≤ 2097152) :
    Calls Try.prog 45 #[.slice A n c] w fun e w' => e = .returned (.bool (bss.all cons)) ∧ w = w' := by
  have HN := Lib.hid hn
  have HV := Lib.hid hv
  have HL := Lib.hid hl
  have HS := Lib.hid hs
  have HM := Lib.hid (show bss.length = n by rw [← hl.1]; exact hn)
  clear hn hv hl hs
  go_enter Try.func45, Try.ntmps45
  go_wp2_with fail
  go_step3
  go_wp2_with fail
  go_step3
  go_wp2_with fail
  go_loopg [3, 10] n (fun g av iv wr => ∃ k : Nat, k + g = n ∧ iv = .int .i64 k ∧ av = .bool true ∧ (bss.take k).all cons = true ∧ w = wr)
  case atStart => exact ⟨0, by omega, rfl, rfl, rfl, rfl⟩
  case round =>
    obtain ⟨k, hkg, rfl, rfl, hall, rfl⟩ := hrel
    have HA := Lib.hid hall
    clear hall
    cases gk with
    | zero =>
      obtain rfl : k = n := by omega
      have HG := Lib.hid (show bss.all cons = true by rw [← HA.out, ← HM.out, List.take_length])
      go_wp2_with fail
      try rw [Exit.noGoto_ret]
      go_ret
      rw [HG.out]
      exact ⟨rfl, rfl⟩
    | succ g =>
      have hkl : k < n := by omega
      obtain ⟨v, b, o, hx, rfl, hbl, c0⟩ := HV.out.at (k := k) (by have := HN.out; omega)
      have hbx : bss[k]? = some (bss[k]'(by have := HM.out; omega)) := List.getElem?_eq_getElem _
      obtain ⟨bs, hbs⟩ : ∃ bs, bss[k]'(by have := HM.out; omega) = bs := ⟨_, rfl⟩
      rw [hbs] at hbx
      obtain ⟨A', c', rfl, hr, hlo⟩ := HL.out.2 k _ _ hx hbx
      have c1 : w.cell? ⟨b, o + k, none⟩ = some (.slice A' bs.length c') := by have := c0 0 (by decide); simpa using this
      have HR := Lib.hid hr
      have HBX := Lib.hid hbx
      have hsz := HS.out bs (List.mem_of_getElem? hbx)
      clear hx hbx hr hlo c0 hbs
      obtain ⟨z, hz⟩ : ∃ z, bs.length = z := ⟨_, rfl⟩
      have HZ := Lib.hid hz
      rw [hz] at hsz c1
      clear hz
      go_wp2_with fail
      go_loopg [3, 16] z (fun g2 av jv wv => ∃ j : Nat, j + g2 = z ∧ jv = .int .i64 j ∧ av = .bool true ∧ (bs.take j).all (fun x => x == bs.headD true) = true ∧ w = wv)
      case atStart => exact ⟨0, by omega, rfl, rfl, rfl, rfl⟩
      case round =>
        obtain ⟨j, hjg, rfl, rfl, hal, rfl⟩ := hrel
        have HJ := Lib.hid hal
        clear hal
        cases gk with
        | zero =>
          obtain rfl : j = z := by omega
          have HG := Lib.hid (show (bss.take (k + 1)).all cons = true by
            rw [List.take_add_one, HBX.out, List.all_append, HA.out]
            have e := HJ.out
            rw [← HZ.out, List.take_length] at e
            simp only [Option.toList, List.all_cons, List.all_nil, Bool.and_true, Bool.true_and]
            exact e)
          go_wp2_with fail
          go_roundg g
          case measure => omega
          case rel => exact ⟨k + 1, by omega, by go_num, rfl, HG.out, rfl⟩
        | succ g2 =>
          have hjl : j < z := by omega
          obtain ⟨x, b2, o2, hx, rfl, hbl2, d0⟩ := HR.out.at (k := j) (by have := HZ.out; omega)
          obtain ⟨y, b3, o3, hy, hA3, hbl3, e0⟩ := HR.out.at (k := 0) (by have := HZ.out; omega)
          injection hA3 with hA3
          injection hA3 with h1 h2
          subst h1 h2
          have d1 : w.cell? ⟨b2, o2 + j, none⟩ = some (.bool x) := by have := d0 0 (by decide); simpa [fb] using this
          have e1 : w.cell? ⟨b2, o2, none⟩ = some (.bool y) := by have := e0 0 (by decide); simpa [fb] using this
          have HY := Lib.hid (headD_at hy)
          clear d0 e0 hy
          by_cases hxy : x = y
          · subst hxy
            have HG := Lib.hid (show (bs.take (j + 1)).all (fun x => x == bs.headD true) = true by rw [List.take_add_one, hx, List.all_append, HJ.out, HY.out]; simp)
            clear hx
            cases x
            all_goals
              go_wp2_with fail
              go_roundg g2
              case measure => omega
              case rel => exact ⟨j + 1, by omega, by go_num, rfl, HG.out, rfl⟩
          · have HG := Lib.hid (show bss.all cons = false from List.all_eq_false.2 ⟨bs, List.mem_of_getElem? HBX.out, by
              unfold cons
              rw [HY.out]
              intro h
              have := List.all_eq_true.1 h x (List.mem_of_getElem? hx)
              exact hxy (by simpa using this)⟩)
            clear hx
            cases x <;> cases y
            · exact absurd rfl hxy
            · clear hxy
              go_wp2_with fail
              try rw [Exit.noGoto_ret]
              go_ret
              rw [HG.out]
              exact ⟨rfl, rfl⟩
            · clear hxy
              go_wp2_with fail
              try rw [Exit.noGoto_ret]
              go_ret
              rw [HG.out]
              exact ⟨rfl, rfl⟩
            · exact absurd rfl hxy
theorem infoSB : (Try.prog.info? 59).map (fun i => (i.zero, i.size, i.bytes)) = some (some (.slice none 0 0), 1, 24) := by kernel_rfl
theorem fl_one (vs : List Value) : fl (fun v => [v]) vs = vs := by
  induction vs with
  | nil => rfl
  | cons x r ih => rw [fl_cons, ih]; rfl
theorem rs_own {w : World} {B n c : Nat} {e : TypeId} {A : Option Addr} {vs : List Value} (h : w.ownsRow B e 1 (.slice A n c) vs.length vs) (hn : n = vs.length := by rfl) : RS (fun v => [v]) 1 w A vs := by
  subst hn
  exact RS.of_own (f := fun v => [v]) (fun _ => rfl) rfl (by rw [fl_one]; exact h)
theorem ow_blk {w : World} {B n c b : Nat} {e : TypeId} {A : Option Addr} {xs : List Value} (h : w.ownsRow B e 1 (.slice A n c) n xs) (hb : A.map (·.block) = some b) : B ≤ b ∧ b < w.heap.size := by
  have hl := h.lt
  rcases h.2 with ⟨h0, _⟩ | ⟨g', cap, cur, h0, _⟩
  · injection h0 with q1
    subst q1
    simp at hb
  · injection h0 with q1
    subst q1
    simp at hb
    subst hb
    exact hl g' rfl
theorem os_bool (x : Bool) : ∀ u ∈ [Value.bool x], u.oneCell' = true := by
  intro u hu
  simp at hu
  subst hu
  rfl
theorem os_sl (A : Option Addr) (n c : Nat) : ∀ u ∈ [Value.slice A n c], u.oneCell' = true := by
  intro u hu
  simp at hu
  subst hu
  rfl
/-- what tightBreaks hands back. -/
def TbP (bss : List (List Bool)) (w : World) (e : Ending) (w' : World) : Prop :=
  ∃ A c vs row, e = .returned (.slice A vs.length c) ∧ RS (fun v => [v]) 1 w' A vs ∧ LB w' row vs bss ∧ Below w.heap.size w w'
set_option maxHeartbeats 4000000 in
set_option maxRecDepth 100000 in
theorem tightBreaks_any (A : Option Addr) (l : List Tk) (m c g : Nat) (bs : List Bool) (w : World) (hm : l.length = m) (hmb : m ≤ 400) (hst : strB l = true) (hts : TS w A l) (hf : Fits l) (hb : bs.length = m) (hrs : RS fb 1 w (some ⟨g, 0, none⟩) bs) :
    Calls Try.prog 46 #[.slice A m c, .slice (some ⟨g, 0, none⟩) m m] w (TbP (tgN l bs m) w) := by
  obtain ⟨i0, hi0, hz0, hz1, hz2⟩ := info_parts infoB
  obtain ⟨j0, hj0, hy0, hy1, hy2⟩ := info_parts infoSB
  have HM := Lib.hid hm
  have HT := Lib.hid hts
  have HF := Lib.hid hf
  have HST := Lib.hid hst
  have HBL := Lib.hid hb
  have HRS := Lib.hid hrs
  clear hm hts hf hst hb hrs
  go_enter Try.func46, Try.ntmps46
  go_wp2_with fail
  refine (LevelsOf_any A l m c _ HM.out (by omega) HT.out HF.out).mono ?_
  rintro e w2 ⟨hb2, ⟨_, rfl, hk2⟩ | ⟨hno, _⟩⟩
  · have HB2 := Lib.hid hb2
    obtain ⟨gl, hgl⟩ : ∃ gl, w.heap.size = gl := ⟨_, rfl⟩
    rw [hgl] at hk2 ⊢
    have HV2 := Lib.hid (show IS w2 (some ⟨gl, 0, none⟩) (levs l) from IntRow.is (.inr ⟨gl, _, rfl, hk2⟩))
    have HT2 := Lib.hid (HT.out.below hb2)
    have HR2 := Lib.hid (HRS.out.below hb2)
    rw [HM.out]
    clear hb2 hk2 HRS
    go_wp2_with fail
    go_loopw [5, 15] (fun v iv wr => ∃ (k : Nat) (vs : List Value), k ≤ m ∧ iv = .int .i64 k ∧ wr.ownsRow w2.heap.size 59 1 v vs.length vs ∧ LB wr v.ownBlock vs (tgN l bs k) ∧ Below w2.heap.size w2 wr) (fun _ iv _ => m - (intOf iv).toNat)
    case atStart => exact ⟨0, [], Nat.zero_le _, rfl, os_nil _ _ _ _, LB.nil _ _, Below.refl _ _⟩
    case round =>
      obtain ⟨k, vs, hk, rfl, hown, hlb, hb⟩ := hrel
      have HO := Lib.hid hown
      have HB := Lib.hid hb
      have HLB := Lib.hid hlb
      have hsz := hb.size
      have hle := tgN_le l bs k
      have hvl : vs.length ≤ k := by rw [hlb.1]; exact hle
      obtain ⟨Av, cv, rfl⟩ := os_slice hown
      clear hown hb hlb
      by_cases hkl : k < m
      · obtain ⟨t, b, o, ht, rfl, hbl, c0, c1, c2', c3⟩ := (HT2.out.below HB.out).at (k := k) (by have := HM.out; omega)
        have HTT := Lib.hid ht
        have HIT := Lib.hid (isT_eq ht)
        clear ht
        have hbX := (Below.refl wr.heap.size wr).alloc (Nat.le_refl _) (.cells #[.int .i64 t.k, .string t.s, .int .i64 t.d, .int .i64 t.o] 51)
        have HBX := Lib.hid (HB.out.trans (hbX.mono hsz))
        have HOX := Lib.hid (os_below HO.out hbX)
        have HLX := Lib.hid (HLB.out.below hbX)
        clear hbX
        cases h2 : (t.k == 2)
        · have h2n : (t.k != 2) = true := by simp [bne, h2]
          have HG := Lib.hid (tgN_no (bs := bs) (show isT l k = false by rw [HIT.out, h2]; rfl))
          go_wp2_with fail
          go_roundw
          case rel => exact ⟨k + 1, vs, by omega, by go_num, HOX.out, by rw [HG.out]; exact HLX.out, HBX.out⟩
          case measure => simp [intOf]; omega
        cases h1 : (t.d == 1)
        · have h2n : (t.k != 2) = false := by simp [bne, h2]
          have h1n : (t.d != 1) = true := by simp [bne, h1]
          have HG := Lib.hid (tgN_no (bs := bs) (show isT l k = false by rw [HIT.out, h2, h1]; rfl))
          go_wp2_with fail
          go_roundw
          case rel => exact ⟨k + 1, vs, by omega, by go_num, HOX.out, by rw [HG.out]; exact HLX.out, HBX.out⟩
          case measure => simp [intOf]; omega
        have h2n : (t.k != 2) = false := by simp [bne, h2]
        have h1n : (t.d != 1) = false := by simp [bne, h1]
        have HG := Lib.hid (tgN_yes (bs := bs) (show isT l k = true by rw [HIT.out, h2, h1]; rfl))
        have hk2' : t.k = 2 := by simpa using h2
        obtain ⟨e, he, hke, hel⟩ := endI_at HST.out HTT.out hk2'
        have HIN := Lib.hid (show ∀ j, k < j → j < e → levI l k < levI l j from fun j h3 h4 => lev_in HTT.out hk2' he h3 h4)
        have HEN := Lib.hid (lev_end he)
        have hlk := lev_bd HST.out (k := k) (by have := HM.out; omega)
        have HEE := Lib.hid (show endN l k = e by unfold endN; rw [he]; simp)
        rw [HM.out] at hel
        clear he hk2'
        go_wp2_with fail
        clear c0 c1 c2' c3
        obtain ⟨wX, hwX⟩ : ∃ wX, wr.alloc (.cells #[.int .i64 t.k, .string t.s, .int .i64 t.d, .int .i64 t.o] 51) = wX := ⟨_, rfl⟩
        rw [hwX] at HBX HOX HLX ⊢
        clear hwX
        go_loopw [9, 10] (fun ov av wv => ∃ f : Nat, k + 1 + f ≤ e ∧ av = .int .i64 ((k + 1 + f : Nat) : Int) ∧ wv.ownsRow wX.heap.size 4 1 ov (ownN l bs k f).length (fl fb (ownN l bs k f)) ∧ Below wX.heap.size wX wv) (fun _ av _ => e - (intOf av).toNat)
        case atStart => exact ⟨0, by omega, by go_num, os_nil _ _ _ _, Below.refl _ _⟩
        case round =>
          obtain ⟨f, hfe, rfl, hown, hbv⟩ := hrel
          have HP := Lib.hid hown
          have HC := Lib.hid hbv
          have hszv := hbv.size
          have hol := ownN_le l bs k f
          obtain ⟨Ao, co, rfl⟩ := os_slice hown
          clear hown hbv
          obtain ⟨a, ha⟩ : ∃ a, k + 1 + f = a := ⟨_, rfl⟩
          have HAA := Lib.hid ha
          rw [ha] at hfe ⊢
          have HBV := Lib.hid (HBX.out.trans (HC.out.mono HBX.out.size))
          obtain ⟨hgl2, v0⟩ := (HV2.out.below HBV.out).get (levs_at l (i := a) (by have := HM.out; omega))
          obtain ⟨_, v1⟩ := (HV2.out.below HBV.out).get (levs_at l (i := k) (by have := HM.out; omega))
          have r0 := Bw.rd v0
          have r1 := Bw.rd v1
          by_cases hae : a < e
          · have hgt : decide (levI l k < levI l a) = true := decide_eq_true (HIN.out a (by omega) hae)
            go_wp2_with fail
            refine wp_region_class (Bw wr) (by kernel_rfl) (by kernel_rfl) (Bw.start wr) (fun hne => ?_)
            repeat (go_big_quiet_step (fail))
            refine wpQuiet_nil ?_
            rintro w5 ⟨y, rfl⟩
            have HC5 := Lib.hid (HC.out.trans (Below.mono y.ok HC.out.size))
            have HP5 := Lib.hid (os_below HP.out y.ok)
            generalize y.W = w5 at *
            clear r0 r1 hne v0 v1 hgl2 HP HC HBV hszv
            have HBV5 := Lib.hid (HBX.out.trans (HC5.out.mono HBX.out.size))
            obtain ⟨hgl2, v0⟩ := (HV2.out.below HBV5.out).get (levs_at l (i := a) (by have := HM.out; omega))
            obtain ⟨_, v1⟩ := (HV2.out.below HBV5.out).get (levs_at l (i := k) (by have := HM.out; omega))
            obtain ⟨ta, b9, o9, hta, hA9, hbl9, c0, c1, c2', c3⟩ := (HT2.out.below HBV5.out).at (k := a) (by have := HM.out; omega)
            injection hA9 with hA9
            injection hA9 with q1 q2
            subst q1 q2
            obtain ⟨x, b8, o8, hbx, hA8, hbl8, d0⟩ := (HR2.out.below HBV5.out).at (k := a) (by have := HBL.out; omega)
            injection hA8 with hA8
            injection hA8 with q1 q2
            subst q1 q2
            have d1 : w5.cell? ⟨g, a, none⟩ = some (.bool x) := by have := d0 0 (by decide); simpa [fb] using this
            have hfa := HF.out a ta hta
            have HOB := Lib.hid (show ownB l k a = ((levI l a == levI l k + 1) && brkB ta.k ta.s ta.d ta.o) by unfold ownB; rw [hta])
            have r0 := Bw.rd v0
            have r1 := Bw.rd v1
            have t0 := Bw.rd c0
            have t1 := Bw.rd c1
            have t2 := Bw.rd c2'
            have t3 := Bw.rd c3
            have HBX5 := Lib.hid hbx
            clear v0 v1 c0 c1 c2' c3 d0 hbx hta
            cases hlv : (levI l a == levI l k + 1)
            · have HN := Lib.hid (ownN_no (bs := bs) (l := l) (k := k) (f := f) (by rw [HAA.out, HOB.out, hlv]; rfl))
              go_wp2_with fail
              refine wp_region_class (Bw w5) (by kernel_rfl) (by kernel_rfl) (Bw.start w5) (fun hne => ?_)
              repeat (go_big_quiet_step (fail))
              refine wpQuiet_nil ?_
              rintro w6 ⟨y, rfl⟩
              have HC6 := Lib.hid (HC5.out.trans (Below.mono y.ok HC5.out.size))
              have HP6 := Lib.hid (os_below HP5.out y.ok)
              generalize y.W = w6 at *
              clear r0 r1 t0 t1 t2 t3 hne
              go_wp2_with fail
              go_roundw
              case rel => exact ⟨f + 1, by omega, by rw [show k + 1 + (f + 1) = a + 1 by omega]; go_num, by rw [HN.out]; exact HP6.out, HC6.out⟩
              case measure => simp [intOf]; omega
            · cases hbr : brkB ta.k ta.s ta.d ta.o
              · have HIB := Lib.hid (show ∀ V : World, Calls Try.prog 74 #[.agg #[.int .i64 ta.k, .string ta.s, .int .i64 ta.d, .int .i64 ta.o]] V fun e w' => e = .returned (.bool false) ∧ Below V.heap.size V w' from fun V => by have := IsBreak_any ta.k ta.s ta.d ta.o V hfa; rw [hbr] at this; exact this)
                have HN := Lib.hid (ownN_no (bs := bs) (l := l) (k := k) (f := f) (by rw [HAA.out, HOB.out, hlv, hbr]; rfl))
                clear hbr
                go_wp2_with fail
                refine wp_region_class (Bw w5) (by kernel_rfl) (by kernel_rfl) (Bw.start w5) (fun hne => ?_)
                repeat (go_big_quiet_step (fail))
                refine wpQuiet_step (fun K hK => ?_)
                go_simp
                refine ⟨.bool false, fun y => calls_class y (Bw.keep w5) (HIB.out y.W), hK _ ?_⟩
                clear hK K
                repeat (go_big_quiet_step (fail))
                refine wpQuiet_nil ?_
                rintro w6 ⟨y, rfl⟩
                have HC6 := Lib.hid (HC5.out.trans (Below.mono y.ok HC5.out.size))
                have HP6 := Lib.hid (os_below HP5.out y.ok)
                have HD6 := Lib.hid (Bw.rd d1 y)
                generalize y.W = w6 at *
                clear r0 r1 t0 t1 t2 t3 hne
                go_wp2_with fail
                go_roundw
                case rel => exact ⟨f + 1, by omega, by rw [show k + 1 + (f + 1) = a + 1 by omega]; go_num, by rw [HN.out]; exact HP6.out, HC6.out⟩
                case measure => simp [intOf]; omega
              · have HIB := Lib.hid (show ∀ V : World, Calls Try.prog 74 #[.agg #[.int .i64 ta.k, .string ta.s, .int .i64 ta.d, .int .i64 ta.o]] V fun e w' => e = .returned (.bool true) ∧ Below V.heap.size V w' from fun V => by have := IsBreak_any ta.k ta.s ta.d ta.o V hfa; rw [hbr] at this; exact this)
                have HN := Lib.hid (ownN_yes (bs := bs) (l := l) (k := k) (f := f) (b := x) (by rw [HAA.out, HOB.out, hlv, hbr]; rfl) (by rw [HAA.out]; exact HBX5.out))
                clear hbr
                go_wp2_with fail
                refine wp_region_class (Bw w5) (by kernel_rfl) (by kernel_rfl) (Bw.start w5) (fun hne => ?_)
                repeat (go_big_quiet_step (fail))
                refine wpQuiet_step (fun K hK => ?_)
                go_simp
                refine ⟨.bool true, fun y => calls_class y (Bw.keep w5) (HIB.out y.W), hK _ ?_⟩
                clear hK K
                repeat (go_big_quiet_step (fail))
                refine wpQuiet_nil ?_
                rintro w6 ⟨y, rfl⟩
                have HC6 := Lib.hid (HC5.out.trans (Below.mono y.ok HC5.out.size))
                have HP6 := Lib.hid (os_below HP5.out y.ok)
                have HD6 := Lib.hid (Bw.rd d1 y)
                generalize y.W = w6 at *
                clear r0 r1 t0 t1 t2 t3 hne
                have e6 := HD6.out
                have hS := BlkL.new w6 4 [.bool x]
                have hb7 := (Below.refl w6.heap.size w6).alloc (Nat.le_refl _) (.cells #[.bool x] 4)
                have HP7 := Lib.hid (os_below HP6.out hb7)
                have HC7 := Lib.hid (HC6.out.trans (hb7.mono HC6.out.size))
                have HS := Lib.hid hS
                have hz7 : wX.heap.size ≤ (w6.alloc (.cells #[.bool x] 4)).heap.size := HC7.out.size
                clear hS hb7
                go_wp2_with (at_builtin; refine wpList_append_own_at _ rfl _ _ 59 rfl wX.heap.size 4 i0 (.bool false) 1 1 Try.underlying59 hi0 hz0 hz1 hz2 rfl (by decide) _ _ _ rfl HP7.out ⟨w6.heap.size, 0, none⟩ 1 1 [.bool x] rfl rfl (fun j u hj => by rw [Addr.add_lit, Nat.zero_add]; exact (HS.out.cell j).trans hj) (os_bool _) (by simp only [maxLen]; omega) (by omega) hz7 ?_)
                intro v' w8 hown8 hgr8 _ _
                have HC8 := Lib.hid (HC7.out.grown hgr8 hz7 (fun g hg => (HP7.out.lt g hg).1))
                obtain ⟨A8, c8, rfl⟩ := os_slice hown8
                have HP8 := Lib.hid (show w8.ownsRow wX.heap.size 4 1 (.slice A8 ((ownN l bs k f).length + 1) c8) (ownN l bs k (f + 1)).length (fl fb (ownN l bs k (f + 1))) by rw [HN.out, List.length_append, fl_append]; exact hown8)
                clear hown8 hgr8 HP7 HC7 HS
                go_wp2_with fail
                go_roundw
                case rel => exact ⟨f + 1, by omega, by rw [show k + 1 + (f + 1) = a + 1 by omega]; go_num, HP8.out, HC8.out⟩
                case measure => simp [intOf]; omega
          · obtain rfl : a = e := by omega
            have hgt : decide (levI l k < levI l a) = false := decide_eq_false (by rw [HEN.out]; omega)
            go_wp2_with fail
            refine wp_region_class (Bw wr) (by kernel_rfl) (by kernel_rfl) (Bw.start wr) (fun hne => ?_)
            repeat (go_big_quiet_step (fail))
            refine wpQuiet_nil ?_
            rintro w5 ⟨y, rfl⟩
            have HC5 := Lib.hid (HC.out.trans (Below.mono y.ok HC.out.size))
            have HP5 := Lib.hid (os_below HP.out y.ok)
            generalize y.W = w5 at *
            clear r0 r1 hne v0 v1 hgl2 HP HC HBV hszv
            have HFF := Lib.hid (show ownN l bs k (endN l k - (k + 1)) = ownN l bs k f by rw [HEE.out, show a - (k + 1) = f by omega])
            rw [HFF.out] at HG
            have hb6 := (Below.refl w5.heap.size w5).alloc (Nat.le_refl _) (.cells #[.slice Ao (ownN l bs k f).length co] 59)
            have HB5 := Lib.hid (HBX.out.trans (HC5.out.mono HBX.out.size))
            have HO6 := Lib.hid (os_below (os_below HOX.out HC5.out) hb6)
            have HL6 := Lib.hid ((HLX.out.below HC5.out).below hb6)
            have HB6 := Lib.hid (HB5.out.trans (hb6.mono HB5.out.size))
            have HRO := Lib.hid ((RS.of_own fb_len rfl HP5.out).below hb6)
            have HS := Lib.hid (BlkL.new w5 59 [.slice Ao (ownN l bs k f).length co])
            have hz6 : w2.heap.size ≤ (w5.alloc (.cells #[.slice Ao (ownN l bs k f).length co] 59)).heap.size := HB6.out.size
            have hxs : wX.heap.size ≤ w5.heap.size := HC5.out.size
            have HLO := Lib.hid (show ∀ b', Ao.map (·.block) = some b' → b' < (w5.alloc (.cells #[.slice Ao (ownN l bs k f).length co] 59)).heap.size ∧ some b' ≠ (Value.slice Av vs.length cv).ownBlock from fun b' hb' => by
              have h1 := ow_blk HP5.out hb'
              refine ⟨Nat.lt_of_lt_of_le h1.2 hb6.size, fun h2 => ?_⟩
              have h3 := HOX.out.lt b' h2.symm
              omega)
            clear hb6
            go_wp2_with (at_builtin; refine wpList_append_own_at _ rfl _ _ 72 rfl w2.heap.size 59 j0 (.slice none 0 0) 1 24 Try.underlying72 hj0 hy0 hy1 hy2 rfl (by decide) _ _ _ rfl HO6.out ⟨w5.heap.size, 0, none⟩ 1 1 [.slice Ao (ownN l bs k f).length co] rfl rfl (fun j u hj => by rw [Addr.add_lit, Nat.zero_add]; exact (HS.out.cell j).trans hj) (os_sl _ _ _) (by simp only [maxLen]; omega) (by omega) hz6 ?_)
            intro v' w7 hown7 hgr7 _ hat7
            have HB7 := Lib.hid (HB6.out.grown hgr7 hz6 (fun g hg => (HO6.out.lt g hg).1))
            have HL7 := Lib.hid (LB.app (v := Value.slice Ao (ownN l bs k f).length co) HL6.out hgr7 (hat7.imp_right fun e => e.trans (by simp)) rfl HRO.out HLO.out)
            rw [← HG.out] at HL7
            obtain ⟨A7, c7, rfl⟩ := os_slice hown7
            have HO7 := Lib.hid (show w7.ownsRow w2.heap.size 59 1 (.slice A7 (vs.length + 1) c7) (vs ++ [Value.slice Ao (ownN l bs k f).length co]).length (vs ++ [Value.slice Ao (ownN l bs k f).length co]) by rw [List.length_append]; exact hown7)
            clear hown7 hgr7 hat7 HO6 HB6 HL6 HS HRO HLO
            go_wp2_with fail
            go_roundw
            case rel => exact ⟨k + 1, _, by omega, by go_num, HO7.out, HL7.out, HB7.out⟩
            case measure => simp [intOf]; omega
      · obtain rfl : k = m := by omega
        go_wp2_with fail
        go_ret
        exact ⟨Av, cv, vs, _, rfl, rs_own HO.out, HLB.out, HB2.out.trans (HB.out.mono HB2.out.size)⟩
  · rw [HST.out] at hno
    cases hno
end Go.Proofs.Ytegjgbgnpkncbab
