/-
  HeldAt, ListDeque and NewDeque, of the program and of the model.
-/
import Derived.Test.YtkpkchlbljlbnaaDql
namespace Go.Proofs.Ytkpkchlbljlbnaa
open Go.RowKit
set_option linter.unusedVariables false

def hatB (s : List Int) (H Q K : Int) : Bool := dqB s H Q && inB K 0 (Q - 1)
def hatX (s : List Int) (H Q K : Int) : Int := if hatB s H Q K = true then s.getD (plc s.length H.toNat K.toNat) 0 else 0
theorem hat_no {s : List Int} {H Q K : Int} (h : hatB s H Q K = false) : hatX s H Q K = 0 := if_neg (by rw [h]; simp)
theorem hat_yes {s : List Int} {H Q K : Int} (h : hatB s H Q K = true) : hatX s H Q K = s.getD (plc s.length H.toNat K.toNat) 0 := if_pos h
theorem getD_some {s : List Int} {p : Nat} (hp : p < s.length) : s[p]? = some (s.getD p 0) := by rw [List.getD_eq_getElem?_getD, List.getElem?_eq_getElem hp]; rfl

set_option maxHeartbeats 1000000 in
theorem HeldAt_any (A : Option Addr) (s : List Int) (c : Nat) (H Q K : Int) (w : World) (hm : s.length ≤ 2097152) (HI : IS w A s) :
    Calls Try.prog 18 #[.agg #[.slice A s.length c, .int .i64 H, .int .i64 Q], .int .i64 K] w fun e w' => e = .returned (.tuple #[.int .i64 (hatX s H Q K), .bool (hatB s H Q K)]) ∧ Below w.heap.size w w' := by
  have HI1 := Lib.hid (HI.below ((Below.refl _ _).alloc (Nat.le_refl _) (.cells #[.slice A s.length c, .int .i64 H, .int .i64 Q] 28)))
  have HB1 := Lib.hid ((Below.refl w.heap.size w).alloc (Nat.le_refl _) (.cells #[.slice A s.length c, .int .i64 H, .int .i64 Q] 28))
  clear HI
  go_enter Try.func18, Try.ntmps18
  go_wp2_with fail
  refine (ringOf_any A s c H Q _ hm HI1.out).mono ?_
  rintro e w1 ⟨hb, ⟨hR, rfl⟩ | ⟨h, q, b, rfl, rfl, B, rfl, hlo, hM⟩⟩
  · have HB2 := Lib.hid (HB1.out.trans (hb.mono (by simp)))
    have HR := Lib.hid (show hatB s H Q K = false by simp [hatB, dqB, hR])
    clear hb hR
    go_wp2
    go_ret2
    rw [hat_no HR.out, HR.out]
    exact ⟨rfl, HB2.out⟩
  · have HB2 := Lib.hid (HB1.out.trans (hb.mono (by simp)))
    have HM := Lib.hid hM
    have HB := Lib.hid B
    have n2 := B.n2
    have q1 := B.q1
    clear hb hM hlo
    cases hr : restB s h q
    · have HR := Lib.hid (show hatB s h q K = false by simp [hatB, dqB_of B, hr])
      clear hr B
      go_wp2
      go_ret2
      rw [hat_no HR.out, HR.out]
      exact ⟨rfl, HB2.out⟩
    · have HD := Lib.hid (show hatB s h q K = inB K 0 ((q : Int) - 1) by simp [hatB, dqB_of B, hr])
      clear hr B
      go_wp2_with fail
      refine (held_any b s h q _ n2 HM.out).mono ?_
      rintro e w2 ⟨rfl, rfl⟩
      go_wp2_with fail
      refine (within_any K 0 ((q : Int) - 1) _).mono ?_
      rintro e w2 ⟨rfl, rfl⟩
      cases hk : inB K 0 ((q : Int) - 1)
      · have HR := Lib.hid (HD.out.trans hk)
        clear hk
        go_wp2
        go_ret2
        rw [hat_no HR.out, HR.out]
        exact ⟨rfl, HB2.out⟩
      · have HR := Lib.hid (HD.out.trans hk)
        have hk2 := inB_true.1 hk
        obtain ⟨k, rfl⟩ : ∃ k : Nat, K = k := ⟨K.toNat, by omega⟩
        have hpl := plc_lt h k HB.out.n1
        have HX := Lib.hid (getD_some hpl)
        have HE := Lib.hid (show hatX s h q k = s.getD (plc s.length h k) 0 by rw [hat_yes HR.out]; simp)
        clear hk
        generalize s.getD (plc s.length h k) 0 = x at *
        go_wp2_with fail
        refine (at_any b s h q k x _ (by omega) HB.out HM.out HX.out).mono ?_
        rintro e w2 ⟨rfl, m, rfl⟩
        have HB3 := Lib.hid (below_drewN HB2.out m)
        clear HM HB2
        generalize w1.drewN m = w2 at *
        go_wp2
        go_ret2
        rw [HE.out, HR.out]
        exact ⟨rfl, HB3.out⟩

set_option maxHeartbeats 1000000 in
theorem sHeldAt_no (A : Option Addr) (s : List Int) (c : Nat) (H Q K : Int) (w : World) (hm : s.length ≤ 2097152) (HI : IS w A s) (hno : hatB s H Q K = false) (wq : (Lit.int .i64 Q).wf = true) :
    Calls Try.prog 37 #[.agg #[.slice A s.length c, .int .i64 H, .int .i64 Q], .int .i64 K] w fun e w' => e = .returned (.tuple #[.int .i64 0, .bool false]) ∧ Below w.heap.size w w' := by
  have HI1 := Lib.hid (HI.below ((Below.refl _ _).alloc (Nat.le_refl _) (.cells #[.slice A s.length c, .int .i64 H, .int .i64 Q] 28)))
  have HB1 := Lib.hid ((Below.refl w.heap.size w).alloc (Nat.le_refl _) (.cells #[.slice A s.length c, .int .i64 H, .int .i64 Q] 28))
  have HK1 := Lib.hid (BlkL.new w 28 [.slice A s.length c, .int .i64 H, .int .i64 Q])
  clear HI
  go_enter Try.func37, Try.ntmps37
  go_wp2_with fail
  refine (sDequeOk_any A s c H Q _ hm HI1.out).mono ?_
  rintro e w1 ⟨rfl, hb⟩
  have K1 := HK1.out.below hb (by simp)
  have a2 := K1.cell 2
  simp only [List.getElem?_cons_zero, List.getElem?_cons_succ] at a2
  have HB2 := Lib.hid (HB1.out.trans (hb.mono (by simp)))
  clear hb K1
  cases hd : dqB s H Q
  · clear hno hd
    go_wp2
    go_ret2
    exact ⟨rfl, HB2.out⟩
  · have HH := Lib.hid (show inB K 0 (Q - 1) = false by simpa [hatB, hd] using hno)
    have hq : 0 ≤ Q := by
      have h1 : inR s H Q = true := by cases h2 : inR s H Q <;> simp_all [dqB]
      obtain ⟨h, q, _, rfl, _⟩ := inR_true h1
      omega
    have hq2 : Q ≤ 64 := by
      have h1 : inR s H Q = true := by cases h2 : inR s H Q <;> simp_all [dqB]
      obtain ⟨h, q, _, rfl, B⟩ := inR_true h1
      have := B.q1; have := B.n2
      omega
    clear hd hno
    go_wp2_with (go_at_call 55; refine (l01In_any _ _ _ _).mono ?_; rintro e w' ⟨rfl, rfl⟩; rw [HH.out])
    go_ret2
    exact ⟨rfl, HB2.out⟩
set_option maxHeartbeats 1000000 in
theorem sHeldAt_yes (A : Option Addr) (s : List Int) (c : Nat) (h q k : Nat) (x : Int) (w : World) (HI : IS w A s) (B : RgB s h q) (hr : restB s h q = true) (hk : k < q) (hx : s[plc s.length h k]? = some x) :
    Calls Try.prog 37 #[.agg #[.slice A s.length c, .int .i64 h, .int .i64 q], .int .i64 k] w fun e w' => e = .returned (.tuple #[.int .i64 x, .bool true]) ∧ Below w.heap.size w w' := by
  have HI1 := Lib.hid (HI.below ((Below.refl _ _).alloc (Nat.le_refl _) (.cells #[.slice A s.length c, .int .i64 h, .int .i64 q] 28)))
  have HB1 := Lib.hid ((Below.refl w.heap.size w).alloc (Nat.le_refl _) (.cells #[.slice A s.length c, .int .i64 h, .int .i64 q] 28))
  have HK1 := Lib.hid (BlkL.new w 28 [.slice A s.length c, .int .i64 h, .int .i64 q])
  have HC := Lib.hid (fun w' (hi : IS w' A s) => sDequeOk_in A s c h q w' B hi)
  have HRR := Lib.hid hr
  have HX := Lib.hid hx
  obtain ⟨n1, n2, h1, q1⟩ := B
  have hpl := plc_lt h k n1
  clear HI hr hx
  generalize s.length = n at *
  have HH := Lib.hid (show inB (k : Int) 0 ((q : Int) - 1) = true from inB_true.2 (by omega))
  go_enter Try.func37, Try.ntmps37
  go_wp2_with fail
  refine (HC.out _ HI1.out).mono ?_
  rintro e w1 ⟨rfl, hb⟩
  rw [HRR.out]
  have K1 := HK1.out.below hb (by simp)
  have a0 := K1.cell 0
  have a1 := K1.cell 1
  have a2 := K1.cell 2
  simp only [List.getElem?_cons_zero, List.getElem?_cons_succ] at a0 a1 a2
  have HB2 := Lib.hid (HB1.out.trans (hb.mono (by simp)))
  obtain ⟨b, rfl, hbl, hcell⟩ := (HI1.out.below hb) (plc n h k) _ HX.out
  clear hb K1
  have x1 : IntKind.i64.wrap ((h : Int) + k) = h + k := IntWalk.i64_in _ (by omega)
  have x2 := plc_mod (k := k) n1 h1 (by omega) n2
  have x3 : ((n : Int) == 0) = false := by simp; omega
  have x4 : ((h : Int) + k) % n = (plc n h k : Nat) := by unfold plc; simp
  clear HX
  generalize plc n h k = p at *
  have hp1 : (p : Int) < (n : Int) := by omega
  go_wp2_with (go_at_call 55; refine (l01In_any _ _ _ _).mono ?_; rintro e w' ⟨rfl, rfl⟩; rw [HH.out])
  go_quiet (fail)
  go_wp2
  go_ret2
  exact ⟨rfl, below_drewN HB2.out _⟩
theorem sHeldAt_any (A : Option Addr) (s : List Int) (c : Nat) (H Q K : Int) (w : World) (hm : s.length ≤ 2097152) (HI : IS w A s) (wq : (Lit.int .i64 Q).wf = true) :
    Calls Try.prog 37 #[.agg #[.slice A s.length c, .int .i64 H, .int .i64 Q], .int .i64 K] w fun e w' => e = .returned (.tuple #[.int .i64 (hatX s H Q K), .bool (hatB s H Q K)]) ∧ Below w.heap.size w w' := by
  cases hb : hatB s H Q K
  · rw [hat_no hb]
    exact sHeldAt_no A s c H Q K w hm HI hb wq
  · rw [hat_yes hb]
    simp only [hatB, dqB, Bool.and_eq_true] at hb
    obtain ⟨h, q, rfl, rfl, B⟩ := inR_true hb.1.1
    have hk := inB_true.1 hb.2
    obtain ⟨k, rfl⟩ : ∃ k : Nat, K = k := ⟨K.toNat, by omega⟩
    simp only [Int.toNat_natCast] at hb ⊢
    exact sHeldAt_yes A s c h q k _ w HI B hb.1.2 (by omega) (getD_some (plc_lt h k B.n1))

theorem own_below {B : Nat} {w0 w w3 : World} {o : Obj} {e : TypeId} {v : Value} {n : Nat} {xs : List Value} (hB : Below B w0 w) (hle : B ≤ w.heap.size) (hown : w.ownsRow B e 1 v n xs) (hg : (w.alloc o).grownBy w3 v.ownBlock) : Below B w0 w3 :=
  (hB.alloc hle o).grown hg (by simp; omega) (fun k hk => (hown.lt k hk).1)
/-- what ListDeque gives. -/
def lisB (s : List Int) (H Q : Int) : List Int := if dqB s H Q = true then lstN s H.toNat Q.toNat else []
theorem lisB_no {s : List Int} {H Q : Int} (h : dqB s H Q = false) : lisB s H Q = [] := if_neg (by rw [h]; simp)
theorem lisB_yes {s : List Int} {H Q : Int} (h : dqB s H Q = true) : lisB s H Q = lstN s H.toNat Q.toNat := if_pos h
theorem lisB_le (s : List Int) (H Q : Int) : (lisB s H Q).length ≤ 64 := by
  cases h : dqB s H Q
  · rw [lisB_no h]; simp
  · rw [lisB_yes h, lstN_length]
    simp only [dqB, Bool.and_eq_true] at h
    obtain ⟨a, b, rfl, rfl, B⟩ := inR_true h.1
    have := B.q1; have := B.n2
    simp; omega
theorem ints_nil {w w' : World} (h : Below w.heap.size w w') : IntsOut w [] (.returned (.slice none 0 0)) w' := ⟨h, none, 0, rfl, fun b hb => by simp at hb, fun _ => rfl, .inl ⟨rfl, rfl⟩⟩

set_option maxHeartbeats 1000000 in
theorem ListDeque_any (A : Option Addr) (s : List Int) (c : Nat) (H Q : Int) (w : World) (hm : s.length ≤ 2097152) (HI : IS w A s) :
    Calls Try.prog 19 #[.agg #[.slice A s.length c, .int .i64 H, .int .i64 Q]] w (IntsOut w (lisB s H Q)) := by
  have HI1 := Lib.hid (HI.below ((Below.refl _ _).alloc (Nat.le_refl _) (.cells #[.slice A s.length c, .int .i64 H, .int .i64 Q] 28)))
  have HB1 := Lib.hid ((Below.refl w.heap.size w).alloc (Nat.le_refl _) (.cells #[.slice A s.length c, .int .i64 H, .int .i64 Q] 28))
  clear HI
  go_enter Try.func19, Try.ntmps19
  go_wp2_with fail
  refine (ringOf_any A s c H Q _ hm HI1.out).mono ?_
  rintro e w1 ⟨hb, ⟨hR, rfl⟩ | ⟨h, q, b, rfl, rfl, B, rfl, hlo, hM⟩⟩
  · have HB2 := Lib.hid (HB1.out.trans (hb.mono (by simp)))
    have HR := Lib.hid (show dqB s H Q = false by simp [dqB, hR])
    clear hb hR
    go_wp2
    go_ret
    rw [lisB_no HR.out]
    exact ints_nil HB2.out
  · have HB2 := Lib.hid (HB1.out.trans (hb.mono (by simp)))
    have HM := Lib.hid hM
    have HB := Lib.hid B
    clear hb hM hlo
    cases hr : restB s h q
    · have HR := Lib.hid (show dqB s h q = false by rw [dqB_of B, hr])
      clear hr B
      go_wp2
      go_ret
      rw [lisB_no HR.out]
      exact ints_nil HB2.out
    · have HR := Lib.hid (show lisB s h q = lstN s h q by rw [lisB_yes (by rw [dqB_of B, hr])]; simp)
      clear hr B
      go_wp2_with fail
      refine (list_any b s h q _ HB.out HM.out).mono ?_
      rintro e w2 ⟨hb2, A1, c1, rfl, hlo, hc, hrow⟩
      have HB3 := Lib.hid (HB2.out.trans (hb2.mono HB2.out.size))
      have HL := Lib.hid hlo
      have HC := Lib.hid hc
      have HO := Lib.hid hrow
      have hz := HB2.out.size
      clear hb2 hlo hc hrow
      go_wp2
      go_ret
      rw [HR.out]
      exact ⟨HB3.out, A1, c1, rfl, fun b hb => by have := HL.out b hb; omega, HC.out, HO.out⟩

set_option maxHeartbeats 1000000 in
set_option maxRecDepth 100000 in
theorem sListDeque_any (A : Option Addr) (s : List Int) (c : Nat) (H Q : Int) (w : World) (hm : s.length ≤ 2097152) (HI : IS w A s) :
    Calls Try.prog 38 #[.agg #[.slice A s.length c, .int .i64 H, .int .i64 Q]] w (IntsOut w (lisB s H Q)) := by
  have hmk : ∀ w : World, (Instr.buildSlice 24 0 #[]).run Try.prog w = .ok (.slice (some ⟨w.heap.size, 0, none⟩) 0 0) (w.alloc (.cells #[] 3)) := fun _ => by kernel_rfl
  obtain ⟨i0, hi, hz0, hz1, hz2⟩ := info_parts infoInt
  have HB0 := Lib.hid (((Below.refl w.heap.size w).alloc (Nat.le_refl _) (.cells #[.slice A s.length c, .int .i64 H, .int .i64 Q] 28)).alloc (by simp) (.cells #[] 3))
  have HI1 := Lib.hid (HI.below HB0.out)
  have HII := Lib.hid HI
  have HK1 := Lib.hid ((BlkL.new w 28 [.slice A s.length c, .int .i64 H, .int .i64 Q]).alloc (.cells #[] 3))
  have HOW := World.ownsRow_lit (base := w.heap.size + 1) (e := 3) (size := 1) (w.alloc (.cells #[.slice A s.length c, .int .i64 H, .int .i64 Q] 28)) #[] 0 (by simp) (Nat.zero_le _) rfl
  have HO1 := Lib.hid HOW
  clear HI HOW
  go_enter Try.func38, Try.ntmps38
  go_wp2_with fail
  generalize hw1 : (w.alloc (.cells #[.slice A s.length c, .int .i64 H, .int .i64 Q] 28)).alloc (.cells #[] 3) = w1 at *
  have hzw : w1.heap.size = w.heap.size + 1 + 1 := by rw [← hw1]; simp
  clear hw1 hmk
  refine (sDequeOk_any A s c H Q _ hm HI1.out).mono ?_
  rintro e w2 ⟨rfl, hb⟩
  cases hd : dqB s H Q
  · have HR := Lib.hid hd
    have HB2 := Lib.hid (HB0.out.trans (hb.mono (by omega)))
    clear hd hb
    go_wp2
    go_ret
    rw [lisB_no HR.out]
    exact ints_nil HB2.out
  · have HLS := Lib.hid (lisB_yes hd)
    simp only [dqB, Bool.and_eq_true] at hd
    obtain ⟨h, q, rfl, rfl, B⟩ := inR_true hd.1
    have HRR := Lib.hid (show restB s h q = true by simpa using hd.2)
    have HB := Lib.hid B
    have n1 := B.n1
    have n2 := B.n2
    have q1 := B.q1
    clear hd B
    have HB2 := Lib.hid hb
    have HI2 := Lib.hid (HI1.out.below hb)
    have HK2 := Lib.hid (HK1.out.below hb (by omega))
    have HO2' := ownsRow_keep HO1.out hb
    have hzb := hb.size
    simp only [World.size_alloc] at HO2'
    have HO2 := Lib.hid HO2'
    clear hb HI1 HK1 HO1 HO2'
    have a2' := HK2.out.cell 2
    simp only [List.getElem?_cons_zero, List.getElem?_cons_succ] at a2'
    go_wp2_with fail
    clear a2'
    go_loopw [3, 4] (fun v i wr => ∃ k : Nat, k ≤ q ∧ i = .int .i64 k ∧ wr.ownsRow (w.heap.size + 1) 3 1 v k (nums (lstN s h k)) ∧ Below (w.heap.size + 1) w2 wr) (fun _ i _ => q - (intOf i).toNat)
    case atStart => exact ⟨0, Nat.zero_le _, rfl, by simpa [nums, lstN] using HO2.out, Below.refl _ _⟩
    case round =>
      obtain ⟨k, hk, rfl, hown, hbw⟩ := hrel
      have HO := Lib.hid hown
      have HBW := Lib.hid hbw
      have hzz := hbw.size
      have K3 := HK2.out.below hbw (by omega)
      have a0 := K3.cell 0
      have a1 := K3.cell 1
      have a2 := K3.cell 2
      simp only [List.getElem?_cons_zero, List.getElem?_cons_succ] at a0 a1 a2
      have HI3 : IS wr A s := by
        intro i x hx
        obtain ⟨b, e, hbl, hc⟩ := HI2.out i x hx
        obtain ⟨b', e', hbl', _⟩ := HII.out i x hx
        rw [e] at e'
        injection e' with e'
        injection e' with e'
        subst e'
        exact ⟨b, e, by omega, (HBW.out.cell (p := ⟨b, i, none⟩) (by show b < w.heap.size + 1; omega)).trans hc⟩
      clear hown hbw K3
      by_cases hlt : k < q
      · have hpl := plc_lt h k n1
        have HX := Lib.hid (getD_some hpl)
        have HS := Lib.hid (lstN_succ s h k)
        generalize s.getD (plc s.length h k) 0 = x at *
        have HI4 := Lib.hid HI3
        clear HI3
        go_wp2_with fail
        refine (sHeldAt_yes A s c h q k x _ HI4.out HB.out HRR.out hlt HX.out).mono ?_
        rintro e w3 ⟨rfl, hb3⟩
        have HO3 := Lib.hid (ownsRow_keep HO.out hb3)
        have HBW3 := Lib.hid (HBW.out.trans (hb3.mono (by omega)))
        have hz3 := hb3.size
        clear hb3 a0 a1 a2 HI4
        go_wp2_with (at_builtin; refine wpList_append_own _ rfl _ _ 24 rfl (w.heap.size + 1) 3 i0 (.int .i64 0) 1 8 Try.underlying24 hi hz0 hz1 hz2 rfl (by decide) _ _ _ rfl (HO3.out.alloc _) ⟨w3.heap.size, 0, none⟩ 1 1 [_] rfl rfl (cell_one_new _ _ _) (by simp [Value.oneCell']) (by simp only [maxLen]; omega) (by omega) (by simp; omega) ?_; intro v' w4 hown4 hgrow4 _; have HBW4 := Lib.hid (own_below HBW3.out (by omega) HO3.out hgrow4); have HO4 := Lib.hid hown4; clear hown4 hgrow4)
        go_roundw
        case rel =>
          refine ⟨k + 1, by omega, by go_num, ?_, HBW4.out⟩
          have e : nums (lstN s h k) ++ [Value.int .i64 x] = nums (lstN s h (k + 1)) := by rw [HS.out]; simp [nums]
          rw [← e]; exact HO4.out
        case measure => simp [intOf]; omega
      · obtain rfl : k = q := by omega
        clear HI3
        go_wp2
        go_ret
        have ho := HO.out
        obtain ⟨A1, c1, rfl, _⟩ := own_slice ho
        obtain ⟨r1, r2, r3⟩ := row_of_own ho
        have e := HLS.out
        simp only [Int.toNat_natCast] at e
        rw [e]
        exact ⟨(HB0.out.trans (HB2.out.mono (by omega))).trans (HBW.out.mono (by omega)), A1, c1, by rw [lstN_length]; rfl, fun b hb => by have := r2 b hb; omega, r3, r1⟩

/-- n noughts, or nothing. -/
def newS (N : Int) : List Int := if inB N 1 64 = true then List.replicate N.toNat 0 else []
theorem newS_le (N : Int) : (newS N).length ≤ 64 := by
  unfold newS
  split
  · rename_i h
    have := inB_true.1 h
    simp; omega
  · simp
set_option maxHeartbeats 1000000 in
theorem NewDeque_any (N : Int) (w : World) :
    Calls Try.prog 26 #[.int .i64 N] w (DqOut w (newS N) 0 0 (fun v => .tuple #[v, .bool (inB N 1 64)])) := by
  cases hN : inB N 1 64
  · have HE := Lib.hid (show newS N = [] by simp [newS, hN])
    have HN := Lib.hid hN
    clear hN
    go_enter Try.func26, Try.ntmps26
    go_wp2_with (go_at_call 51; refine (within_any _ _ _ _).mono ?_; rintro e w' ⟨rfl, rfl⟩; rw [HN.out])
    refine bodyPost_ret (v := .tuple #[.agg #[.slice none 0 0, .int .i64 0, .int .i64 0], .bool false]) (by simp [results, Try.results26, go_sem]) rfl ?_
    rw [HE.out]
    exact ⟨(Below.refl _ _).alloc (Nat.le_refl _) _, none, 0, rfl, fun b hb => by simp at hb, fun _ => rfl, .inl ⟨rfl, rfl⟩⟩
  · have HN := Lib.hid hN
    have hk := inB_true.1 hN
    obtain ⟨n, rfl⟩ : ∃ n : Nat, N = n := ⟨N.toNat, by omega⟩
    have HE := Lib.hid (show newS (n : Int) = List.replicate n 0 by simp [newS, hN])
    have hmk : ∀ w : World, (Instr.makeSlice 24 (.int .i64 n) (.int .i64 n)).run Try.prog w = .ok (.slice (some ⟨w.heap.size, 0, none⟩) n n) (w.alloc (.cells (nums (List.replicate n 0)).toArray 3)) := fun w => mkInts n (by omega) w
    clear hN
    have K1 := BlkL.new (w.alloc (.cells #[.slice none 0 0, .int .i64 0, .int .i64 0] 28)) 3 (nums (List.replicate n 0))
    have K0 := (BlkL.new w 28 [.slice none 0 0, .int .i64 0, .int .i64 0]).alloc (.cells (nums (List.replicate n 0)).toArray 3)
    have HB1 := Lib.hid (((Below.refl w.heap.size w).alloc (Nat.le_refl _) (.cells #[.slice none 0 0, .int .i64 0, .int .i64 0] 28)).alloc (by simp) (.cells (nums (List.replicate n 0)).toArray 3))
    simp only [World.size_alloc] at K1
    have HK0 := Lib.hid K0
    have HK1 := Lib.hid K1
    clear K0 K1
    go_enter Try.func26, Try.ntmps26
    go_upto_region 3 with (go_at_call 51; refine (within_any _ _ _ _).mono ?_; rintro e w' ⟨rfl, rfl⟩; rw [HN.out])
    generalize hzs : nums (List.replicate n 0) = zs at *
    have HZS := Lib.hid hzs
    clear hzs
    have hmk1 := hmk (w.alloc (.cells #[.slice none 0 0, .int .i64 0, .int .i64 0] 28))
    clear hmk
    rw [World.size_alloc] at hmk1
    have d0 := HK0.out.cell 0
    have d1 := HK0.out.cell 1
    have d2 := HK0.out.cell 2
    have y0 := HK0.out.frozen 0
    have y1 := HK0.out.frozen 1
    have y2 := HK0.out.frozen 2
    simp only [List.getElem?_cons_zero, List.getElem?_cons_succ] at d0 d1 d2
    generalize hw1 : (w.alloc (.cells #[.slice none 0 0, .int .i64 0, .int .i64 0] 28)).alloc (.cells zs.toArray 3) = w1 at *
    clear hw1
    go_wp2
    refine bodyPost_ret (v := .tuple #[.agg #[.slice (some ⟨w.heap.size + 1, 0, none⟩) n n, .int .i64 0, .int .i64 0], .bool true]) (by simp [results, Try.results26, go_sem, d0, d1, d2]) rfl ?_
    rw [HE.out]
    refine ⟨((HB1.out.setCell (p := ⟨w.heap.size, 0, none⟩) (Nat.le_refl _) _).setCell (p := ⟨w.heap.size, 1, none⟩) (Nat.le_refl _) _).setCell (p := ⟨w.heap.size, 2, none⟩) (Nat.le_refl _) _, some ⟨w.heap.size + 1, 0, none⟩, n, by rw [List.length_replicate], fun b hb => by simp at hb; omega, (fun h => by cases h), .inr ⟨w.heap.size + 1, [], rfl, ?_⟩⟩
    rw [List.append_nil, HZS.out]
    exact ((HK1.out.far (p := ⟨w.heap.size, 0, none⟩) (by simp) _).far (p := ⟨w.heap.size, 1, none⟩) (by simp) _).far (p := ⟨w.heap.size, 2, none⟩) (by simp) _
set_option maxHeartbeats 1000000 in
theorem sNewDeque_any (N : Int) (w : World) :
    Calls Try.prog 25 #[.int .i64 N] w (DqOut w (newS N) 0 0 (fun v => .tuple #[v, .bool (inB N 1 64)])) := by
  cases hN : inB N 1 64
  · have HE := Lib.hid (show newS N = [] by simp [newS, hN])
    have HN := Lib.hid hN
    clear hN
    go_enter Try.func25, Try.ntmps25
    go_wp2_with (go_at_call 55; refine (l01In_any _ _ _ _).mono ?_; rintro e w' ⟨rfl, rfl⟩; rw [HN.out])
    refine bodyPost_ret (v := .tuple #[.agg #[.slice none 0 0, .int .i64 0, .int .i64 0], .bool false]) (by simp [results, Try.results25, go_sem]) rfl ?_
    rw [HE.out]
    exact ⟨(Below.refl _ _).alloc (Nat.le_refl _) _, none, 0, rfl, fun b hb => by simp at hb, fun _ => rfl, .inl ⟨rfl, rfl⟩⟩
  · have HN := Lib.hid hN
    have hk := inB_true.1 hN
    obtain ⟨n, rfl⟩ : ∃ n : Nat, N = n := ⟨N.toNat, by omega⟩
    have HE := Lib.hid (show newS (n : Int) = List.replicate n 0 by simp [newS, hN])
    have hmk : ∀ w : World, (Instr.makeSlice 24 (.int .i64 n) (.int .i64 n)).run Try.prog w = .ok (.slice (some ⟨w.heap.size, 0, none⟩) n n) (w.alloc (.cells (nums (List.replicate n 0)).toArray 3)) := fun w => mkInts n (by omega) w
    clear hN
    have K1 := BlkL.new (w.alloc (.cells #[.slice none 0 0, .int .i64 0, .int .i64 0] 28)) 3 (nums (List.replicate n 0))
    have K0 := (BlkL.new w 28 [.slice none 0 0, .int .i64 0, .int .i64 0]).alloc (.cells (nums (List.replicate n 0)).toArray 3)
    have HB1 := Lib.hid (((Below.refl w.heap.size w).alloc (Nat.le_refl _) (.cells #[.slice none 0 0, .int .i64 0, .int .i64 0] 28)).alloc (by simp) (.cells (nums (List.replicate n 0)).toArray 3))
    simp only [World.size_alloc] at K1
    have HK0 := Lib.hid K0
    have HK1 := Lib.hid K1
    clear K0 K1
    go_enter Try.func25, Try.ntmps25
    go_upto_region 3 with (go_at_call 55; refine (l01In_any _ _ _ _).mono ?_; rintro e w' ⟨rfl, rfl⟩; rw [HN.out])
    generalize hzs : nums (List.replicate n 0) = zs at *
    have HZS := Lib.hid hzs
    clear hzs
    have hmk1 := hmk (w.alloc (.cells #[.slice none 0 0, .int .i64 0, .int .i64 0] 28))
    clear hmk
    rw [World.size_alloc] at hmk1
    have d0 := HK0.out.cell 0
    have d1 := HK0.out.cell 1
    have d2 := HK0.out.cell 2
    have y0 := HK0.out.frozen 0
    have y1 := HK0.out.frozen 1
    have y2 := HK0.out.frozen 2
    simp only [List.getElem?_cons_zero, List.getElem?_cons_succ] at d0 d1 d2
    generalize hw1 : (w.alloc (.cells #[.slice none 0 0, .int .i64 0, .int .i64 0] 28)).alloc (.cells zs.toArray 3) = w1 at *
    clear hw1
    go_wp2
    refine bodyPost_ret (v := .tuple #[.agg #[.slice (some ⟨w.heap.size + 1, 0, none⟩) n n, .int .i64 0, .int .i64 0], .bool true]) (by simp [results, Try.results25, go_sem, d0, d1, d2]) rfl ?_
    rw [HE.out]
    refine ⟨((HB1.out.setCell (p := ⟨w.heap.size, 0, none⟩) (Nat.le_refl _) _).setCell (p := ⟨w.heap.size, 1, none⟩) (Nat.le_refl _) _).setCell (p := ⟨w.heap.size, 2, none⟩) (Nat.le_refl _) _, some ⟨w.heap.size + 1, 0, none⟩, n, by rw [List.length_replicate], fun b hb => by simp at hb; omega, (fun h => by cases h), .inr ⟨w.heap.size + 1, [], rfl, ?_⟩⟩
    rw [List.append_nil, HZS.out]
    exact ((HK1.out.far (p := ⟨w.heap.size, 0, none⟩) (by simp) _).far (p := ⟨w.heap.size, 1, none⟩) (by simp) _).far (p := ⟨w.heap.size, 2, none⟩) (by simp) _
end Go.Proofs.Ytkpkchlbljlbnaa
