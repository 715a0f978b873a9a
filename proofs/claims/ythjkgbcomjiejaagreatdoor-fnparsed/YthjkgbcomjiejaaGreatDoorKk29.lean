/-
  The program's nodeOk, and how a branch grows.
-/
import Derived.Test.YthjkgbcomjiejaaGreatDoorKk22
import Derived.Test.YthjkgbcomjiejaaGreatDoorKk28
namespace Go.Proofs.YthjkgbcomjiejaaGreatDoor
open Go.RowKit
set_option linter.unusedVariables false

set_option maxHeartbeats 400000 in
theorem nodeInRange_any (x : Nd) (w : World) :
    Calls Tryz.prog 37 #[.agg #[.int .i64 x.d, .int .i64 x.k, .string x.s]] w fun e w' => e = .returned (.bool (inB x.k 0 6 && inB x.d 0 12)) ∧ Below w.heap.size w w' := by
  cases h1 : inB x.k 0 6
  · go_enter Tryz.func37, Tryz.ntmps37
    go_wp2_with (go_at_call 35; refine (within_any _ _ _ _).mono ?_; rintro e w' ⟨rfl, rfl⟩; rw [h1])
    go_ret
    exact ⟨rfl, (Below.refl _ _).alloc (Nat.le_refl _) _⟩
  · cases h2 : inB x.d 0 12
    all_goals
      go_enter Tryz.func37, Tryz.ntmps37
      go_wp2_with (go_at_call 35; refine (within_any _ _ _ _).mono ?_; rintro e w' ⟨rfl, rfl⟩; first | rw [h1] | rw [h2])
      go_ret
      exact ⟨rfl, (Below.refl _ _).alloc (Nat.le_refl _) _⟩
open Classical in
noncomputable def lsB {α : Type} (l m : List α) : Bool := decide (l = m)
theorem lsB_yes {α : Type} {l m : List α} (h : l = m) : lsB l m = true := by simp [lsB, h]
theorem lsB_no {α : Type} {l m : List α} (h : l ≠ m) : lsB l m = false := by simp [lsB, h]
theorem ba_ext {a b : ByteArray} (h : (a.toList == b.toList) = true) : a = b := by
  have h : a.toList = b.toList := by simpa using h
  rw [ByteArray.toList_eq, ByteArray.toList_eq] at h
  obtain ⟨⟨x⟩⟩ := a
  obtain ⟨⟨y⟩⟩ := b
  simp at h
  rw [h]
set_option maxHeartbeats 4000000 in
set_option maxRecDepth 100000 in
theorem EqualLx_any (A B : Option Addr) (l m : List Lx) (n cc n2 cd : Nat) (w : World) (hn : l.length = n) (hn2 : m.length = n2) (hm : n ≤ 2097152) (hm2 : n2 ≤ 2097152) (hl : XS w A l) (hr : XS w B m) :
    Calls Tryz.prog 91 #[.slice A n cc, .slice B n2 cd] w fun e w' => e = .returned (.bool (lsB l m)) ∧ Below w.heap.size w w' := by
  have HN := Lib.hid hn
  have HN2 := Lib.hid hn2
  clear hn hn2
  by_cases he : n = n2
  · subst he
    go_enter Tryz.func91, Tryz.ntmps91
    go_wp2
    go_loopw [13] (fun i wr => ∃ k : Nat, k ≤ n ∧ i = .int .i64 k ∧ l.take k = m.take k ∧ Below w.heap.size w wr) (fun i _ => n - (intOf i).toNat)
    case atStart => exact ⟨0, Nat.zero_le _, rfl, rfl, Below.refl _ _⟩
    case round =>
      obtain ⟨k, hk, rfl, hs, hb⟩ := hrel
      by_cases hkl : k < n
      · obtain ⟨t, b, o, ht, rfl, hbl, hc⟩ := hl.all (k := k) (by have := HN.out; omega)
        obtain ⟨u, b2, o2, hu, rfl, hbl2, hc2⟩ := hr.all (k := k) (by have := HN2.out; omega)
        obtain ⟨hbl', c0, c1, c2⟩ := XS.get (RS.below hl hb) ht
        obtain ⟨hbl2', d0, d1, d2⟩ := XS.get (RS.below hr hb) hu
        have HS := Lib.hid hs
        have HB := Lib.hid hb
        have HT := Lib.hid ht
        have HU := Lib.hid hu
        clear ht hu hc hc2 hs hb
        have p0 := Bw.rd c0
        have p1 := Bw.rd c1
        have p2 := Bw.rd c2
        have q0 := Bw.rd d0
        have q1 := Bw.rd d1
        have q2 := Bw.rd d2
        clear c0 c1 c2 d0 d1 d2
        cases h0 : (t.k == u.k) <;> cases h1 : (t.s.toList == u.s.toList) <;> cases h2 : (t.a == u.a)
        case true.true.true =>
          have HE := Lib.hid (show l.take (k + 1) = m.take (k + 1) by
            have e0 : t.k = u.k := by simpa using h0
            have e1 : t.s = u.s := ba_ext h1
            have e2 : t.a = u.a := by simpa using h2
            have e : t = u := by cases t; cases u; simp_all
            rw [List.take_add_one, List.take_add_one, HS.out, HT.out, HU.out, e])
          go_wp2_with fail
          refine wp_region_class (Bw wr) (by kernel_rfl) (by kernel_rfl) (Bw.start wr) (fun hne => ?_)
          repeat (go_big_quiet_step (fail))
          refine wpQuiet_nil ?_
          rintro w3 ⟨x, rfl⟩
          have hx := Lib.hid x.ok
          have hz0 := p0 x
          generalize x.W = w3 at *
          clear p0 q0 p1 q1 p2 q2
          go_wp2
          go_roundw
          case rel => exact ⟨k + 1, by omega, by go_num, HE.out, HB.out.trans (hx.out.mono HB.out.size)⟩
          case measure => simp [intOf]; omega
        all_goals
          have HE := Lib.hid (show lsB l m = false by
            refine lsB_no fun e => ?_
            subst e
            have e := Option.some.inj (HT.out.symm.trans HU.out)
            subst e
            try (rw [beq_self_eq_true] at h0; cases h0)
            try (rw [beq_self_eq_true] at h1; cases h1)
            try (rw [beq_self_eq_true] at h2; cases h2)
            )
          go_wp2_with fail
          refine wp_region_class (Bw wr) (by kernel_rfl) (by kernel_rfl) (Bw.start wr) (fun hne => ?_)
          repeat (go_big_quiet_step (fail))
          refine wpQuiet_nil ?_
          rintro w3 ⟨x, rfl⟩
          have hx := Lib.hid x.ok
          have hz0 := p0 x
          generalize x.W = w3 at *
          clear p0 q0 p1 q1 p2 q2
          go_wp2
          go_ret
          rw [HE.out]
          exact ⟨rfl, HB.out.trans (hx.out.mono HB.out.size)⟩
      · have HE := Lib.hid (show lsB l m = true by
          have e1 := HN.out; have e2 := HN2.out
          refine lsB_yes ?_
          rwa [List.take_of_length_le (by omega), List.take_of_length_le (by omega)] at hs)
        clear hs
        go_wp2
        go_ret
        rw [HE.out]
        exact ⟨rfl, hb⟩
  · have HE := Lib.hid (show lsB l m = false by
      have e1 := HN.out; have e2 := HN2.out
      exact lsB_no fun e => he (by rw [← e1, ← e2, e]))
    have b1 : ((n : Int) == (n2 : Int)) = false := by simp; omega
    have b2 : ((n : Int) != (n2 : Int)) = true := by simp; omega
    clear he
    go_enter Tryz.func91, Tryz.ntmps91
    go_wp2
    go_ret
    rw [HE.out]
    exact ⟨rfl, Below.refl _ _⟩
set_option maxHeartbeats 4000000 in
set_option maxRecDepth 100000 in
theorem EqualNd_any (A B : Option Addr) (l m : List Nd) (n cc n2 cd : Nat) (w : World) (hn : l.length = n) (hn2 : m.length = n2) (hm : n ≤ 2097152) (hm2 : n2 ≤ 2097152) (hl : NS w A l) (hr : NS w B m) :
    Calls Tryz.prog 43 #[.slice A n cc, .slice B n2 cd] w fun e w' => e = .returned (.bool (lsB l m)) ∧ Below w.heap.size w w' := by
  have HN := Lib.hid hn
  have HN2 := Lib.hid hn2
  clear hn hn2
  by_cases he : n = n2
  · subst he
    go_enter Tryz.func43, Tryz.ntmps43
    go_wp2
    go_loopw [13] (fun i wr => ∃ k : Nat, k ≤ n ∧ i = .int .i64 k ∧ l.take k = m.take k ∧ Below w.heap.size w wr) (fun i _ => n - (intOf i).toNat)
    case atStart => exact ⟨0, Nat.zero_le _, rfl, rfl, Below.refl _ _⟩
    case round =>
      obtain ⟨k, hk, rfl, hs, hb⟩ := hrel
      by_cases hkl : k < n
      · obtain ⟨t, b, o, ht, rfl, hbl, hc⟩ := hl.all (k := k) (by have := HN.out; omega)
        obtain ⟨u, b2, o2, hu, rfl, hbl2, hc2⟩ := hr.all (k := k) (by have := HN2.out; omega)
        obtain ⟨hbl', c0, c1, c2⟩ := NS.get (RS.below hl hb) ht
        obtain ⟨hbl2', d0, d1, d2⟩ := NS.get (RS.below hr hb) hu
        have HS := Lib.hid hs
        have HB := Lib.hid hb
        have HT := Lib.hid ht
        have HU := Lib.hid hu
        clear ht hu hc hc2 hs hb
        have p0 := Bw.rd c0
        have p1 := Bw.rd c1
        have p2 := Bw.rd c2
        have q0 := Bw.rd d0
        have q1 := Bw.rd d1
        have q2 := Bw.rd d2
        clear c0 c1 c2 d0 d1 d2
        cases h0 : (t.d == u.d) <;> cases h1 : (t.k == u.k) <;> cases h2 : (t.s.toList == u.s.toList)
        case true.true.true =>
          have HE := Lib.hid (show l.take (k + 1) = m.take (k + 1) by
            have e0 : t.d = u.d := by simpa using h0
            have e1 : t.k = u.k := by simpa using h1
            have e2 : t.s = u.s := ba_ext h2
            have e : t = u := by cases t; cases u; simp_all
            rw [List.take_add_one, List.take_add_one, HS.out, HT.out, HU.out, e])
          go_wp2_with fail
          refine wp_region_class (Bw wr) (by kernel_rfl) (by kernel_rfl) (Bw.start wr) (fun hne => ?_)
          repeat (go_big_quiet_step (fail))
          refine wpQuiet_nil ?_
          rintro w3 ⟨x, rfl⟩
          have hx := Lib.hid x.ok
          have hz0 := p0 x
          generalize x.W = w3 at *
          clear p0 q0 p1 q1 p2 q2
          go_wp2
          go_roundw
          case rel => exact ⟨k + 1, by omega, by go_num, HE.out, HB.out.trans (hx.out.mono HB.out.size)⟩
          case measure => simp [intOf]; omega
        all_goals
          have HE := Lib.hid (show lsB l m = false by
            refine lsB_no fun e => ?_
            subst e
            have e := Option.some.inj (HT.out.symm.trans HU.out)
            subst e
            try (rw [beq_self_eq_true] at h0; cases h0)
            try (rw [beq_self_eq_true] at h1; cases h1)
            try (rw [beq_self_eq_true] at h2; cases h2)
            )
          go_wp2_with fail
          refine wp_region_class (Bw wr) (by kernel_rfl) (by kernel_rfl) (Bw.start wr) (fun hne => ?_)
          repeat (go_big_quiet_step (fail))
          refine wpQuiet_nil ?_
          rintro w3 ⟨x, rfl⟩
          have hx := Lib.hid x.ok
          have hz0 := p0 x
          generalize x.W = w3 at *
          clear p0 q0 p1 q1 p2 q2
          go_wp2
          go_ret
          rw [HE.out]
          exact ⟨rfl, HB.out.trans (hx.out.mono HB.out.size)⟩
      · have HE := Lib.hid (show lsB l m = true by
          have e1 := HN.out; have e2 := HN2.out
          refine lsB_yes ?_
          rwa [List.take_of_length_le (by omega), List.take_of_length_le (by omega)] at hs)
        clear hs
        go_wp2
        go_ret
        rw [HE.out]
        exact ⟨rfl, hb⟩
  · have HE := Lib.hid (show lsB l m = false by
      have e1 := HN.out; have e2 := HN2.out
      exact lsB_no fun e => he (by rw [← e1, ← e2, e]))
    have b1 : ((n : Int) == (n2 : Int)) = false := by simp; omega
    have b2 : ((n : Int) != (n2 : Int)) = true := by simp; omega
    clear he
    go_enter Tryz.func43, Tryz.ntmps43
    go_wp2
    go_ret
    rw [HE.out]
    exact ⟨rfl, Below.refl _ _⟩
/-! behind -/
theorem lxG_mem {s : ByteArray} (f : Nat) : ∀ (a : Nat) (out : List Lx) (y : Lx), y ∈ (lxG s f a out).1 → y ∈ out ∨ ∃ b, b < s.size ∧ y = lxAt s b := by
  induction f with
  | zero => intro a out y h; exact .inl h
  | succ f ih =>
    intro a out y h
    simp only [lxG] at h
    split at h
    · exact .inl h
    · split at h
      · exact ih _ _ _ h
      · cases hr : rdO s a out.length with
        | some p => rw [hr] at h; simp at h
        | none =>
          rw [hr] at h
          rcases ih _ _ _ h with h | h
          · rcases List.mem_append.1 h with h | h
            · exact .inl h
            · rw [List.mem_singleton] at h
              exact .inr ⟨a, by omega, h⟩
          · exact .inr h
theorem lxA_mem {s : ByteArray} {y : Lx} (h : y ∈ (lxA s).1) : ∃ b, b < s.size ∧ y = lxAt s b := by
  unfold lxA at h
  split at h
  · simp at h
  · rcases lxG_mem _ _ _ _ h with h | h
    · simp at h
    · exact h
theorem lxA_whole {s : ByteArray} {y : Lx} (h : y ∈ (lxA s).1) (hs : y.s = s) : y.a = 0 := by
  obtain ⟨b, hb, rfl⟩ := lxA_mem h
  have h1 : (s.extract b (b + rdZ s b)).size = s.size := congrArg ByteArray.size hs
  rw [ByteArray.size_extract] at h1
  show (b : Int) = 0
  omega
theorem one_eq (k : Int) (s : ByteArray) : lsB (lxA s).1 [⟨k, s, 0⟩] = oneB k s (lxA s).1 := by
  have hw : ∀ y : Lx, y ∈ (lxA s).1 → y.s = s → y.a = 0 := fun y h e => lxA_whole h e
  revert hw
  generalize (lxA s).1 = q
  intro hw
  unfold oneB
  match q with
  | [] => exact lsB_no (by simp)
  | [y] =>
    show lsB [y] [⟨k, s, 0⟩] = (y.k == k && y.s.toList == s.toList)
    cases h1 : (y.k == k)
    · rw [Bool.false_and]
      refine lsB_no fun e => ?_
      simp at e
      rw [e] at h1
      simp at h1
    · cases h2 : (y.s.toList == s.toList)
      · rw [Bool.and_false]
        refine lsB_no fun e => ?_
        simp at e
        rw [e] at h2
        simp at h2
      · have e2 := ba_ext h2
        have e3 := hw y (by simp) e2
        rw [Bool.and_true]
        refine lsB_yes ?_
        have e1 : y.k = k := by simpa using h1
        cases y
        simp_all
  | x :: y :: r => exact lsB_no (by simp)
set_option maxHeartbeats 1000000 in
set_option maxRecDepth 100000 in
theorem nodeOk_any (x : Nd) (w : World) (hg : ErrV w) :
    Calls Tryz.prog 69 #[.agg #[.int .i64 x.d, .int .i64 x.k, .string x.s]] w fun e w' => e = .returned (.bool (nodB x)) ∧ Below w.heap.size w w' := by
  have HG := Lib.hid hg
  clear hg
  go_enter Tryz.func69, Tryz.ntmps69
  go_wp2_with fail
  have hX1 := BlkL.new w 31 [.int .i64 x.d, .int .i64 x.k, .string x.s]
  have hB1 := (Below.refl w.heap.size w).alloc (Nat.le_refl _) (.cells #[.int .i64 x.d, .int .i64 x.k, .string x.s] 31)
  change BlkL (w.alloc (.cells #[.int .i64 x.d, .int .i64 x.k, .string x.s] 31)) _ _ _ at hX1
  generalize w.alloc (.cells #[.int .i64 x.d, .int .i64 x.k, .string x.s] 31) = w1 at *
  refine (nodeInRange_any x w1).mono ?_
  rintro e w2 ⟨rfl, hb2⟩
  have hX2 := hX1.below hb2 hX1.lt
  have HB2 := Lib.hid (hB1.trans (hb2.mono hB1.size))
  have x1 : w2.cell? ⟨w.heap.size, 1, none⟩ = some (.int .i64 x.k) := (hX2.cell 1).trans rfl
  have x2 : w2.cell? ⟨w.heap.size, 2, none⟩ = some (.string x.s) := (hX2.cell 2).trans rfl
  have xl := hX2.lt
  have HX2 := Lib.hid hX2
  clear hX1 hB1 hb2 hX2
  cases hr : (inB x.k 0 6 && inB x.d 0 12)
  · have HI := Lib.hid (show nodB x = false by
      unfold nodB
      rw [← Bool.and_assoc, hr, Bool.false_and])
    clear hr
    go_wp2
    go_ret
    rw [HI.out]
    exact ⟨rfl, HB2.out⟩
  have HR := Lib.hid hr
  have hk := inB_true.1 (Bool.and_eq_true_iff.1 hr).1
  clear hr
  go_wp2_with fail
  refine (marksOf_any _ _).mono ?_
  rintro e w' ⟨rfl, rfl⟩
  have HK := Lib.hid (mkS_toList x.k)
  by_cases h3 : 3 ≤ x.k
  · have hq : inB x.k 3 6 = true := inB_true.2 ⟨h3, hk.2⟩
    have hh := HK.out
    rw [hq] at hh
    have hh' : ((mkS x.k).toList != []) = true := by unfold bne; rw [hh]; rfl
    have HI := Lib.hid (show nodB x = x.s.toList.isEmpty by
      unfold nodB
      rw [← Bool.and_assoc, HR.out, Bool.true_and, if_pos h3]
      cases x.s.toList <;> rfl)
    clear hq h3 hk
    go_wp2
    go_ret
    rw [HI.out]
    exact ⟨rfl, HB2.out⟩
  · have hq : inB x.k 3 6 = false := by
      cases e : inB x.k 3 6
      · rfl
      · exact (h3 (inB_true.1 e).1).elim
    have hh := HK.out
    rw [hq] at hh
    have hh' : ((mkS x.k).toList != []) = false := by unfold bne; rw [hh]; rfl
    have HI := Lib.hid (show nodB x = oneB x.k x.s (lxA x.s).1 by
      unfold nodB
      rw [← Bool.and_assoc, HR.out, Bool.true_and, if_neg h3])
    clear hq h3 hk
    go_wp2_with fail
    refine (LexText_any x.s w2 (HG.out.belowB HB2.out HG.out.pos)).mono ?_
    rintro e w3 ⟨v3, rfl, ho3, hb3⟩
    obtain ⟨A3, c3, rfl⟩ := own_slice ho3
    have HX3 := Lib.hid (show XS w3 A3 (lxA x.s).1 from (OR.of_own fx_len rfl ho3).rs fx_len)
    have hX3 := HX2.out.below hb3 HX2.out.lt
    have HB3 := Lib.hid (HB2.out.trans (hb3.mono HB2.out.size))
    clear x1 x2 xl HX2
    have x1 : w3.cell? ⟨w.heap.size, 1, none⟩ = some (.int .i64 x.k) := (hX3.cell 1).trans rfl
    have x2 : w3.cell? ⟨w.heap.size, 2, none⟩ = some (.string x.s) := (hX3.cell 2).trans rfl
    have xl := hX3.lt
    have hlen : (lxA x.s).1.length ≤ 200 := lxA_len x.s
    clear ho3 hb3 hX3 hh hh' HK
    go_wp2_with fail
    have hY := BlkL.new w3 51 (fl fx [⟨x.k, x.s, 0⟩])
    have hB4 := (Below.refl w3.heap.size w3).alloc (Nat.le_refl _) (.cells (fl fx [⟨x.k, x.s, 0⟩]).toArray 51)
    refine (EqualLx_any A3 (some ⟨w3.heap.size, 0, none⟩) (lxA x.s).1 [⟨x.k, x.s, 0⟩] _ c3 1 1 (w3.alloc (.cells (fl fx [⟨x.k, x.s, 0⟩]).toArray 51)) rfl rfl (by omega) (by omega) (HX3.out.below hB4) (XS.of_blk hY)).mono ?_
    rintro e w5 ⟨rfl, hb5⟩
    have HB5 := Lib.hid (HB3.out.trans ((hB4.trans (hb5.mono hB4.size)).mono HB3.out.size))
    clear hb5 hB4 hY x1 x2 xl
    go_wp2
    go_ret
    rw [HI.out, one_eq]
    exact ⟨rfl, HB5.out⟩
theorem infoBr : (Tryz.prog.info? 68).map (fun i => (i.zero, i.size, i.bytes)) = some (some (.pointer none), 1, 8) := by kernel_rfl
def GrP (w : World) (B : Nat) (l : List Nd) (k : Nat) (ps : Nat → Nat) (vs : Nat → Value) (i : Nat) (e : Ending) (w' : World) : Prop :=
  ∃ p v, e = .returned (ptr p) ∧ w.heap.size ≤ p ∧ Fo w' B l (k + 1) (upd ps (k + 1) p) (upd (upd vs i v) (k + 1) (.slice none 0 0)) ∧ (v.ownBlock = (vs i).ownBlock ∨ ∃ g, v.ownBlock = some g ∧ w.heap.size ≤ g) ∧
    w'.os = w.os ∧ w'.tape = w.tape ∧ w'.output = w.output ∧ w.heap.size ≤ w'.heap.size ∧ ∀ q, q < w.heap.size → q ≠ ps i → some q ≠ (vs i).ownBlock → w'.heap[q]? = w.heap[q]?
set_option maxHeartbeats 1000000 in
set_option maxRecDepth 100000 in
theorem grow_any {w : World} {B k : Nat} {l : List Nd} {ps : Nat → Nat} {vs : Nat → Value} (h : Fo w B l k ps vs) (x : Nd) (hk : l[k]? = some x) (hB : B ≤ w.heap.size) (h200 : k ≤ 1000) :
    Calls Tryz.prog 71 #[ptr (ps (par l k)), .agg #[.int .i64 x.d, .int .i64 x.k, .string x.s], .int .i64 k] w (GrP w B l k ps vs (par l k)) := by
  obtain ⟨i0, hi0, hz0, hz1, hz2⟩ := info_parts infoBr
  have hpk := par_le l k
  obtain ⟨i, hi⟩ : ∃ i, par l k = i := ⟨_, rfl⟩
  rw [hi] at hpk ⊢
  have HI := Lib.hid hi
  have HK := Lib.hid hk
  have H := Lib.hid h
  clear hi hk h
  unfold ptr
  have hps := H.out.lt hpk
  obtain ⟨A, c, hv, hkid⟩ := H.out.kid hpk
  have hcell := H.out.cells hpk
  have hrow := H.out.row i hpk
  rw [hv] at hcell hrow
  obtain ⟨_, _, _, _, _, c5, cl⟩ := hcell
  have hlen := kidsN_len l i k
  clear hkid
  obtain ⟨n, hn⟩ : ∃ n, (kidsN l i k).length = n := ⟨_, rfl⟩
  rw [hn] at hv c5 hrow hlen
  have HN := Lib.hid hn
  have HV := Lib.hid hv
  have HROW := Lib.hid hrow
  clear hn hv hrow
  go_enter Tryz.func71, Tryz.ntmps71
  have hb1 := (Below.refl w.heap.size w).alloc (Nat.le_refl _) (.cells #[.int .i64 x.d, .int .i64 x.k, .string x.s] 31)
  have hP := BlkL.new (w.alloc (.cells #[.int .i64 x.d, .int .i64 x.k, .string x.s] 31)) 70 [.int .i64 x.d, .int .i64 x.k, .string x.s, .int .i64 k, .pointer (some ⟨ps i, 0, none⟩), .slice none 0 0]
  change BlkL ((w.alloc (.cells #[.int .i64 x.d, .int .i64 x.k, .string x.s] 31)).alloc (.cells #[.int .i64 x.d, .int .i64 x.k, .string x.s, .int .i64 k, .pointer (some ⟨ps i, 0, none⟩), .slice none 0 0] 70)) _ _ _ at hP
  have hb2 := hb1.alloc hb1.size (.cells #[.int .i64 x.d, .int .i64 x.k, .string x.s, .int .i64 k, .pointer (some ⟨ps i, 0, none⟩), .slice none 0 0] 70)
  have hz1' : (w.alloc (.cells #[.int .i64 x.d, .int .i64 x.k, .string x.s] 31)).heap.size = w.heap.size + 1 := by simp
  rw [hz1'] at hP
  have hz2' : ((w.alloc (.cells #[.int .i64 x.d, .int .i64 x.k, .string x.s] 31)).alloc (.cells #[.int .i64 x.d, .int .i64 x.k, .string x.s, .int .i64 k, .pointer (some ⟨ps i, 0, none⟩), .slice none 0 0] 70)).heap.size = w.heap.size + 2 := by simp
  have hS := BlkL.new ((w.alloc (.cells #[.int .i64 x.d, .int .i64 x.k, .string x.s] 31)).alloc (.cells #[.int .i64 x.d, .int .i64 x.k, .string x.s, .int .i64 k, .pointer (some ⟨ps i, 0, none⟩), .slice none 0 0] 70)) 68 [.pointer (some ⟨w.heap.size + 1, 0, none⟩)]
  change BlkL (((w.alloc (.cells #[.int .i64 x.d, .int .i64 x.k, .string x.s] 31)).alloc (.cells #[.int .i64 x.d, .int .i64 x.k, .string x.s, .int .i64 k, .pointer (some ⟨ps i, 0, none⟩), .slice none 0 0] 70)).alloc (.cells #[.pointer (some ⟨w.heap.size + 1, 0, none⟩)] 68)) _ _ _ at hS
  rw [hz2'] at hS
  have hb3 := hb2.alloc hb2.size (.cells #[.pointer (some ⟨w.heap.size + 1, 0, none⟩)] 68)
  have hP3 := hP.alloc (.cells #[.pointer (some ⟨w.heap.size + 1, 0, none⟩)] 68)
  have HS := Lib.hid hS
  have HP := Lib.hid hP3
  have HB3 := Lib.hid hb3
  have hO3 := Lib.hid (own_below HROW.out hb3)
  have hz3 : B ≤ (((w.alloc (.cells #[.int .i64 x.d, .int .i64 x.k, .string x.s] 31)).alloc (.cells #[.int .i64 x.d, .int .i64 x.k, .string x.s, .int .i64 k, .pointer (some ⟨ps i, 0, none⟩), .slice none 0 0] 70)).alloc (.cells #[.pointer (some ⟨w.heap.size + 1, 0, none⟩)] 68)).heap.size := Nat.le_trans hB hb3.size
  clear hS hP hb1 hb2 hP3 hb3 hz1' hz2'
  go_wp2_with (at_builtin; refine wpList_append_own_at _ rfl _ _ 64 rfl B 68 i0 (.pointer none) 1 8 Tryz.underlying64 hi0 hz0 hz1 hz2 rfl (by decide) _ _ _ rfl hO3.out ⟨w.heap.size + 2, 0, none⟩ 1 1 [.pointer (some ⟨w.heap.size + 1, 0, none⟩)] rfl rfl (fun j u hj => by rw [Addr.add_lit, Nat.zero_add]; exact (HS.out.cell j).trans hj) (ptr_one _) (by simp only [maxLen]; omega) (by omega) hz3 ?_)
  intro v' w6 hown6 hgr6 _ hat6
  have hw3 : (((w.alloc (.cells #[.int .i64 x.d, .int .i64 x.k, .string x.s] 31)).alloc (.cells #[.int .i64 x.d, .int .i64 x.k, .string x.s, .int .i64 k, .pointer (some ⟨ps i, 0, none⟩), .slice none 0 0] 70)).alloc (.cells #[.pointer (some ⟨w.heap.size + 1, 0, none⟩)] 68)).heap.size = w.heap.size + 1 + 1 + 1 := by simp
  have HF3 := Lib.hid (H.out.below HB3.out)
  generalize (((w.alloc (.cells #[.int .i64 x.d, .int .i64 x.k, .string x.s] 31)).alloc (.cells #[.int .i64 x.d, .int .i64 x.k, .string x.s, .int .i64 k, .pointer (some ⟨ps i, 0, none⟩), .slice none 0 0] 70)).alloc (.cells #[.pointer (some ⟨w.heap.size + 1, 0, none⟩)] 68)) = w3 at *
  rw [← HV.out] at hgr6 hat6
  have hat7 : v'.ownBlock = (vs i).ownBlock ∨ ∃ g, v'.ownBlock = some g ∧ w3.heap.size ≤ g := by
    rcases hat6 with h | h
    · exact .inl h
    · exact .inr ⟨_, h, by omega⟩
  have hbi := (HF3.out.blk i hpk).grown hgr6 (fun e => fo_blk (HF3.out.row i hpk) (HF3.out.blk i hpk) (by decide) e.symm)
  have HFo := Lib.hid (HF3.out.grow (p := w.heap.size + 1) (List.getElem?_eq_some_iff.1 HK.out).1 HI.out (by omega) (fun j hj e => by have := H.out.lt hj; omega) (by rw [nAt_succ HK.out]; exact HP.out) (by rw [HN.out]; exact hown6) hgr6 hat7)
  have HAT := Lib.hid (show v'.ownBlock = (vs i).ownBlock ∨ ∃ g, v'.ownBlock = some g ∧ w.heap.size ≤ g by
    rcases hat7 with h | ⟨g, h, hg⟩
    · exact .inl h
    · exact .inr ⟨g, h, by omega⟩)
  obtain ⟨A6, c6, rfl⟩ := own_slice hown6
  have HGR := Lib.hid hgr6
  have y5 : ∃ u, w6.cell? ⟨ps i, 5, none⟩ = some u := ⟨_, hbi.cell 5⟩
  obtain ⟨u5, y5⟩ := y5
  have yf := hbi.frozen
  have yl := hbi.lt
  clear hown6 hgr6 hat6 hat7 hbi HF3 hO3 HS HP c5 cl
  go_wp2
  go_ret
  refine ⟨w.heap.size + 1, _, rfl, by omega, HFo.out, HAT.out, HGR.out.os.trans HB3.out.os, HGR.out.tape.trans HB3.out.tape, HGR.out.output.trans HB3.out.output, ?_, fun q hq h1 h2 => ?_⟩
  · have := HGR.out.size
    simp only [World.setCell, Array.size_modify]
    omega
  · refine (Below.heap_setCell w6 ⟨ps i, 5, none⟩ _ q h1).trans ((HGR.out.block q (by omega) h2).trans (HB3.out.block q hq))
end Go.Proofs.YthjkgbcomjiejaaGreatDoor
