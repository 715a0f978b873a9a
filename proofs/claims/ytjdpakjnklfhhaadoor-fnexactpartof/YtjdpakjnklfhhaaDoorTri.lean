/-
  TreeOk of the program; TreeDepth and SameTree on both sides.
-/
import Derived.Test.YtjdpakjnklfhhaaDoorTrh
namespace Go.Proofs.YtjdpakjnklfhhaaDoor
open Go.RowKit
set_option linter.unusedVariables false

set_option maxHeartbeats 1000000 in
set_option maxRecDepth 100000 in
theorem TreeOk_any (A : Option Addr) (l : List Nd) (n c : Nat) (w : World) (hn : l.length = n) (hm : n ≤ 2097152) (hl : NS w A l) (hg : ErrV w) :
    Calls Tryd.prog 13 #[.slice A n c] w fun e w' => e = .returned (.bool (treB l)) ∧ Below w.heap.size w w' := by
  go_enter Tryd.func13, Tryd.ntmps13
  go_wp2_with fail
  refine (planted_any A l n c w hn hm hl hg).mono ?_
  rintro e w1 ⟨hb, h | ⟨ht, g, c1, ps, vs, rfl, _⟩⟩
  · obtain ⟨h0, rfl⟩ := h
    have H0 := Lib.hid h0
    clear h0
    go_wp2
    go_ret
    rw [H0.out]
    exact ⟨rfl, hb⟩
  · have H0 := Lib.hid (treB_yes ht)
    clear ht
    go_wp2
    go_ret
    rw [H0.out]
    exact ⟨rfl, hb⟩
def tdI (l : List Nd) : Nat → Int
  | 0 => 0
  | i + 1 => if tdI l i < dep l (i + 1) + 1 then dep l (i + 1) + 1 else tdI l i
noncomputable def tdB (l : List Nd) : Int := if treB l = true then tdI l l.length else -1
theorem tdI_bd {l : List Nd} {k : Nat} (h : UpTo l k) : ∀ i, i ≤ k → 0 ≤ tdI l i ∧ tdI l i ≤ 13
  | 0, _ => by simp [tdI]
  | i + 1, hi => by
    have h1 := tdI_bd h i (by omega)
    have h2 := h.dep (i := i + 1) hi
    simp only [tdI]
    split <;> omega
set_option maxHeartbeats 1000000 in
set_option maxRecDepth 100000 in
theorem sTreeDepth_any (A : Option Addr) (l : List Nd) (n c : Nat) (w : World) (hn : l.length = n) (hm : n ≤ 2097152) (hl : NS w A l) (hs : ∀ (i : Nat) (x : Nd), l[i]? = some x → x.s.size ≤ 1048576) :
    Calls Tryd.prog 24 #[.slice A n c] w fun e w' => e = .returned (.int .i64 (tdB l)) ∧ Below w.heap.size w w' := by
  have HN := Lib.hid hn
  have HL := Lib.hid hl
  go_enter Tryd.func24, Tryd.ntmps24
  go_wp2_with fail
  refine (sTreeOk_any A l n c w hn hm hl hs).mono ?_
  rintro e w1 ⟨rfl, hb⟩
  have HB1 := Lib.hid hb
  clear hb hn hl hs
  cases ht : treB l
  · have HI := Lib.hid (show tdB l = -1 by rw [tdB, if_neg (by rw [ht]; decide)])
    clear ht
    go_wp2
    go_ret
    rw [HI.out]
    exact ⟨rfl, HB1.out⟩
  have HT := Lib.hid (treB_ok ht)
  have HI := Lib.hid (show tdB l = tdI l n by rw [tdB, if_pos ht, HN.out])
  clear ht
  go_wp2
  go_loopw [3, 4] (fun mv iv wr => ∃ k : Nat, k ≤ n ∧ iv = .int .i64 k ∧ mv = .int .i64 (tdI l k) ∧ wr = w1) (fun _ iv _ => n - (intOf iv).toNat)
  case atStart => exact ⟨0, Nat.zero_le _, rfl, rfl, rfl⟩
  case round =>
    obtain ⟨k, hk, rfl, rfl, rfl⟩ := hrel
    by_cases hkl : k < n
    · obtain ⟨x, b, o, hx, rfl, hbl, _⟩ := HL.out.all (k := k) (by have := HN.out; omega)
      obtain ⟨hbl', c0, c1, c2⟩ := NS.get (HL.out.below HB1.out) hx
      have hbd := tdI_bd HT.out.upTo k (by have := HN.out; omega)
      have hdd := HT.out.upTo.dep (i := k + 1) (by have := HN.out; omega)
      rw [dep_succ hx] at hdd
      have HST := Lib.hid (show tdI l (k + 1) = if tdI l k < x.d + 1 then x.d + 1 else tdI l k by simp only [tdI]; rw [dep_succ hx])
      clear hx c1 c2
      obtain ⟨t, ht⟩ : ∃ t, tdI l k = t := ⟨_, rfl⟩
      rw [ht] at hbd HST ⊢
      clear ht
      by_cases hlt : t < x.d + 1
      · have HE := Lib.hid (show tdI l (k + 1) = x.d + 1 by rw [HST.out, if_pos hlt])
        have hlb : decide (t < x.d + 1) = true := by simpa using hlt
        clear hlt
        go_wp2
        go_roundw
        case rel => exact ⟨k + 1, by omega, by go_num, by rw [HE.out], trivial⟩
        case measure => simp [intOf]; omega
      · have HE := Lib.hid (show tdI l (k + 1) = t by rw [HST.out, if_neg hlt])
        have hlb : decide (t < x.d + 1) = false := by simpa using hlt
        clear hlt
        go_wp2
        go_roundw
        case rel => exact ⟨k + 1, by omega, by go_num, by rw [HE.out], trivial⟩
        case measure => simp [intOf]; omega
    · obtain rfl : k = n := by omega
      go_wp2
      go_ret
      rw [HI.out]
      exact ⟨rfl, HB1.out⟩
def pdI (l : List Nd) : Nat → Int
  | 0 => -1
  | j + 1 => tdI l j
set_option maxHeartbeats 1000000 in
set_option maxRecDepth 100000 in
theorem TreeDepth_any (A : Option Addr) (l : List Nd) (n c : Nat) (w : World) (hn : l.length = n) (hm : n ≤ 2097152) (hl : NS w A l) (hg : ErrV w) :
    Calls Tryd.prog 25 #[.slice A n c] w fun e w' => e = .returned (.int .i64 (tdB l)) ∧ Below w.heap.size w w' := by
  have HN := Lib.hid hn
  go_enter Tryd.func25, Tryd.ntmps25
  go_wp2_with fail
  refine (planted_any A l n c w hn hm hl hg).mono ?_
  rintro e w1 ⟨hb, h | ⟨ht, g, c1, ps, vs, rfl, hfo, hgl, hc⟩⟩
  · obtain ⟨h0, rfl⟩ := h
    have HI := Lib.hid (show tdB l = -1 by rw [tdB, if_neg (by rw [h0]; decide)])
    have HB1 := Lib.hid hb
    clear h0 hb hl hg hn
    go_wp2
    go_loopw [3, 9] (fun dv iv wr => dv = .int .i64 (-1) ∧ iv = .int .i64 0 ∧ wr = w1) (fun _ iv _ => 0)
    case atStart => exact ⟨rfl, rfl, rfl⟩
    case round =>
      obtain ⟨rfl, rfl, rfl⟩ := hrel
      go_wp2
      go_ret
      rw [HI.out]
      exact ⟨rfl, HB1.out⟩
  · have HT := Lib.hid ht
    have HI := Lib.hid (show tdB l = tdI l l.length by rw [tdB, if_pos (treB_yes ht)])
    have HB1 := Lib.hid hb
    have HF := Lib.hid hfo
    have HC := Lib.hid hc
    have hlen := ht.len
    clear hb ht hfo hc hl hg hn
    obtain ⟨m, hm1⟩ : ∃ m, l.length = m := ⟨_, rfl⟩
    rw [hm1] at HF HI hlen HC ⊢
    have HM := Lib.hid hm1
    clear hm1
    go_wp2
    go_loopw [3, 9] (fun dv iv wr => ∃ j : Nat, j ≤ m + 1 ∧ iv = .int .i64 j ∧ dv = .int .i64 (pdI l j) ∧ wr = w1) (fun _ iv _ => m + 1 - (intOf iv).toNat)
    case atStart => exact ⟨0, Nat.zero_le _, rfl, rfl, rfl⟩
    case round =>
      obtain ⟨j, hj, rfl, rfl, rfl⟩ := hrel
      by_cases hjl : j < m + 1
      · have cj := HC.out j (by omega)
        unfold ptr at cj
        obtain ⟨d0, _, _, _, _, _, dl⟩ := HF.out.cells (show j ≤ m by omega)
        have hdd := HT.out.upTo.dep (i := j) (by have := HM.out; omega)
        have HST := Lib.hid (show pdI l (j + 1) = max (pdI l j) (dep l j + 1) by
          cases j with
          | zero => show tdI l 0 = max (-1) (dep l 0 + 1); rw [dep_zero]; rfl
          | succ j => simp only [pdI, tdI]; split <;> omega)
        have hpb : -1 ≤ pdI l j ∧ pdI l j ≤ 13 := by
          cases j with
          | zero => simp [pdI]
          | succ j => have := tdI_bd HT.out.upTo j (by have := HM.out; omega); simp only [pdI]; omega
        obtain ⟨t, ht⟩ : ∃ t, pdI l j = t := ⟨_, rfl⟩
        rw [ht] at hpb HST ⊢
        obtain ⟨D, hD⟩ : ∃ D, dep l j = D := ⟨_, rfl⟩
        rw [hD] at hdd d0 HST
        clear ht hD
        go_wp2
        go_roundw
        case rel => exact ⟨j + 1, by omega, by go_num, by rw [HST.out], trivial⟩
        case measure => simp [intOf]; omega
      · obtain rfl : j = m + 1 := by omega
        go_wp2
        go_ret
        rw [HI.out]
        exact ⟨rfl, HB1.out⟩
noncomputable def smtB (a b : List Nd) : Bool := treB a && lsB a b
set_option maxHeartbeats 1000000 in
set_option maxRecDepth 100000 in
theorem SameTree_any (A B : Option Addr) (l m : List Nd) (n cc n2 cd : Nat) (w : World) (hn : l.length = n) (hn2 : m.length = n2) (hm : n ≤ 2097152) (hm2 : n2 ≤ 2097152) (hl : NS w A l) (hr : NS w B m) (hg : ErrV w) :
    Calls Tryd.prog 27 #[.slice A n cc, .slice B n2 cd] w fun e w' => e = .returned (.bool (smtB l m)) ∧ Below w.heap.size w w' := by
  go_enter Tryd.func27, Tryd.ntmps27
  go_wp2_with fail
  refine (TreeOk_any A l n cc w hn hm hl hg).mono ?_
  rintro e w1 ⟨rfl, hb⟩
  have HB1 := Lib.hid hb
  cases ht : treB l
  · have HI := Lib.hid (show smtB l m = false by rw [smtB, ht]; rfl)
    clear ht
    go_wp2
    go_ret
    rw [HI.out]
    exact ⟨rfl, HB1.out⟩
  · have HI := Lib.hid (show smtB l m = lsB l m by rw [smtB, ht]; rfl)
    clear ht
    go_wp2_with fail
    refine (EqualNd_any A B l m n cc n2 cd w1 hn hn2 hm hm2 (hl.below hb) (hr.below hb)).mono ?_
    rintro e w2 ⟨rfl, hb2⟩
    have HB2 := Lib.hid (HB1.out.trans (hb2.mono HB1.out.size))
    go_wp2
    go_ret
    rw [HI.out]
    exact ⟨rfl, HB2.out⟩
set_option maxHeartbeats 4000000 in
set_option maxRecDepth 100000 in
theorem sSameTree_any (A B : Option Addr) (l m : List Nd) (n cc n2 cd : Nat) (w : World) (hn : l.length = n) (hn2 : m.length = n2) (hm : n ≤ 2097152) (hm2 : n2 ≤ 2097152) (hl : NS w A l) (hr : NS w B m) (hs : ∀ (i : Nat) (x : Nd), l[i]? = some x → x.s.size ≤ 1048576) (hs2 : ∀ (i : Nat) (x : Nd), m[i]? = some x → x.s.size ≤ 1048576) :
    Calls Tryd.prog 26 #[.slice A n cc, .slice B n2 cd] w fun e w' => e = .returned (.bool (smtB l m)) ∧ Below w.heap.size w w' := by
  have HN := Lib.hid hn
  have HN2 := Lib.hid hn2
  clear hn hn2
  go_enter Tryd.func26, Tryd.ntmps26
  go_wp2_with fail
  refine (sTreeOk_any A l n cc w HN.out hm hl hs).mono ?_
  rintro e w1 ⟨rfl, hb1⟩
  have HB1 := Lib.hid hb1
  cases ht : treB l
  · have HI := Lib.hid (show smtB l m = false by rw [smtB, ht]; rfl)
    clear ht hb1
    go_wp2
    go_ret
    rw [HI.out]
    exact ⟨rfl, HB1.out⟩
  have HTL := Lib.hid ht
  clear ht
  go_wp2_with fail
  refine (sTreeOk_any B m n2 cd w1 HN2.out hm2 (hr.below hb1) hs2).mono ?_
  rintro e w2 ⟨rfl, hb2⟩
  have HB2 := Lib.hid (HB1.out.trans (hb2.mono HB1.out.size))
  cases ht : treB m
  · have HI := Lib.hid (show smtB l m = false by
      rw [smtB, HTL.out]
      exact lsB_no fun e => by have h1 := HTL.out; rw [e, ht] at h1; cases h1)
    clear ht hb1 hb2
    go_wp2
    go_ret
    rw [HI.out]
    exact ⟨rfl, HB2.out⟩
  have HE0 := Lib.hid (show smtB l m = lsB l m by rw [smtB, HTL.out]; rfl)
  clear ht hb1 hb2
  by_cases he : n = n2
  · subst he
    go_wp2
    go_loopw [5] (fun i wr => ∃ k : Nat, k ≤ n ∧ i = .int .i64 k ∧ l.take k = m.take k ∧ Below w.heap.size w wr) (fun i _ => n - (intOf i).toNat)
    case atStart => exact ⟨0, Nat.zero_le _, rfl, rfl, HB2.out⟩
    case round =>
      obtain ⟨k, hk, rfl, hs, hb⟩ := hrel
      by_cases hkl : k < n
      · obtain ⟨t, b, o, ht, rfl, hbl, hc⟩ := hl.all (k := k) (by have := HN.out; omega)
        obtain ⟨u, b2, o2, hu, rfl, hbl2, hc2⟩ := hr.all (k := k) (by have := HN2.out; omega)
        obtain ⟨hbl', c0, c1, c2⟩ := NS.get (RS.below hl hb) ht
        obtain ⟨hbl2', d0, d1, d2⟩ := NS.get (RS.below hr hb) hu
        have HS := Lib.hid hs
        have HB := Lib.hid hb
        have HT := Lib.hid ht
        have HU := Lib.hid hu
        clear ht hu hc hc2 hs hb
        have p0 := Bw.rd c0
        have p1 := Bw.rd c1
        have p2 := Bw.rd c2
        have q0 := Bw.rd d0
        have q1 := Bw.rd d1
        have q2 := Bw.rd d2
        clear c0 c1 c2 d0 d1 d2
        cases h0 : (t.d == u.d) <;> cases h1 : (t.k == u.k) <;> cases h2 : (t.s.toList == u.s.toList)
        case true.true.true =>
          have HE := Lib.hid (show l.take (k + 1) = m.take (k + 1) by
            have e0 : t.d = u.d := by simpa using h0
            have e1 : t.k = u.k := by simpa using h1
            have e2 : t.s = u.s := ba_ext h2
            have e : t = u := by cases t; cases u; simp_all
            rw [List.take_add_one, List.take_add_one, HS.out, HT.out, HU.out, e])
          go_wp2_with fail
          refine wp_region_class (Bw wr) (by kernel_rfl) (by kernel_rfl) (Bw.start wr) (fun hne => ?_)
          repeat (go_big_quiet_step (fail))
          refine wpQuiet_nil ?_
          rintro w3 ⟨x, rfl⟩
          have hx := Lib.hid x.ok
          have hz0 := p0 x
          generalize x.W = w3 at *
          clear p0 q0 p1 q1 p2 q2
          go_wp2
          go_roundw
          case rel => exact ⟨k + 1, by omega, by go_num, HE.out, HB.out.trans (hx.out.mono HB.out.size)⟩
          case measure => simp [intOf]; omega
        all_goals
          have HE := Lib.hid (show lsB l m = false by
            refine lsB_no fun e => ?_
            subst e
            have e := Option.some.inj (HT.out.symm.trans HU.out)
            subst e
            try (rw [beq_self_eq_true] at h0; cases h0)
            try (rw [beq_self_eq_true] at h1; cases h1)
            try (rw [beq_self_eq_true] at h2; cases h2)
            )
          go_wp2_with fail
          refine wp_region_class (Bw wr) (by kernel_rfl) (by kernel_rfl) (Bw.start wr) (fun hne => ?_)
          repeat (go_big_quiet_step (fail))
          refine wpQuiet_nil ?_
          rintro w3 ⟨x, rfl⟩
          have hx := Lib.hid x.ok
          have hz0 := p0 x
          generalize x.W = w3 at *
          clear p0 q0 p1 q1 p2 q2
          go_wp2
          go_ret
          rw [HE0.out, HE.out]
          exact ⟨rfl, HB.out.trans (hx.out.mono HB.out.size)⟩
      · have HE := Lib.hid (show lsB l m = true by
          have e1 := HN.out; have e2 := HN2.out
          refine lsB_yes ?_
          rwa [List.take_of_length_le (by omega), List.take_of_length_le (by omega)] at hs)
        clear hs
        go_wp2
        go_ret
        rw [HE0.out, HE.out]
        exact ⟨rfl, hb⟩
  · have HE := Lib.hid (show lsB l m = false by
      have e1 := HN.out; have e2 := HN2.out
      exact lsB_no fun e => he (by rw [← e1, ← e2, e]))
    have b1 : ((n : Int) == (n2 : Int)) = false := by simp; omega
    have b2 : ((n : Int) != (n2 : Int)) = true := by simp; omega
    clear he
    go_wp2
    go_ret
    rw [HE0.out, HE.out]
    exact ⟨rfl, HB2.out⟩
end Go.Proofs.YtjdpakjnklfhhaaDoor
