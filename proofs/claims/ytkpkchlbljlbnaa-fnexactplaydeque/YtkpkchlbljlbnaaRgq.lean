/-
  The ring out of a deque: whether it is one; the program's functions over deques.
-/
import Derived.Test.YtkpkchlbljlbnaaRgn
import Derived.Deep.Cut
namespace Go.Proofs.Ytkpkchlbljlbnaa
open Go.RowKit
set_option linter.unusedVariables false

/-- the parts are within their bounds. -/
def inR (s : List Int) (H Q : Int) : Bool := inB s.length 1 64 && (inB H 0 ((s.length : Int) - 1) && inB Q 0 s.length)
def dqB (s : List Int) (H Q : Int) : Bool := inR s H Q && restB s H.toNat Q.toNat
theorem inR_true {s : List Int} {H Q : Int} (h : inR s H Q = true) : ∃ h q : Nat, H = h ∧ Q = q ∧ RgB s h q := by
  simp only [inR, Bool.and_eq_true, inB_true] at h
  exact ⟨H.toNat, Q.toNat, by omega, by omega, ⟨by omega, by omega, by omega, by omega⟩⟩
theorem inR_of {s : List Int} {h q : Nat} (B : RgB s h q) : inR s h q = true := by
  obtain ⟨n1, n2, h1, q1⟩ := B
  simp only [inR, Bool.and_eq_true, inB_true]
  omega
theorem dqB_of {s : List Int} {h q : Nat} (B : RgB s h q) : dqB s h q = restB s h q := by
  simp only [dqB, inR_of B, Bool.true_and, Int.toNat_natCast]

/-- a new ring of n slots, all 0. -/
def rg0 (n : Nat) : List Value := nums noughts ++ [.int .i64 n, .int .i64 0, .int .i64 0]
theorem build_ring (n : Nat) (w : World) : (Instr.build 86 #[(1, .int .i64 n)]).run Try.prog w = .ok (.agg (rg0 n).toArray) w := run_build w 86 _ _ (by kernel_rfl)
theorem box_ring (n : Nat) (w : World) : (Instr.box 86 (.agg (rg0 n).toArray)).run Try.prog w = .ok (.pointer (some ⟨w.heap.size, 0, none⟩)) (w.alloc (.cells (rg0 n).toArray 86)) := by kernel_rfl
theorem splice_ring {s : List Int} (h : s.length ≤ 64) : splice (rg0 s.length) 0 (nums s) = rgC s 0 0 := by
  unfold splice rg0 rgC
  rw [List.take_zero, List.nil_append, Nat.zero_add, nums_length]
  congr 1
  rw [List.drop_append_of_le_length (by rw [nums_length, noughts_length]; exact h)]
  congr 1
  unfold noughts nums
  rw [← List.map_drop, List.drop_replicate]

def Stopped (p : Prop) : Prop := p
theorem wpList_stop {P : Program} {ops : Array Oper} {rest : List Oper} {o : Oper} {a : Act} {w : World} {Q : Exit → Act → World → Prop} (h : Stopped (wpList P ops Q (o :: rest) a w)) : wpList P ops Q (o :: rest) a w := h
def RingPost (w : World) (s : List Int) (H Q : Int) (e : Ending) (w' : World) : Prop :=
  Below w.heap.size w w' ∧ ((inR s H Q = false ∧ e = .returned (.tuple #[.pointer none, .bool false])) ∨
    ∃ (h q b : Nat), H = h ∧ Q = q ∧ RgB s h q ∧ e = .returned (.tuple #[.pointer (some ⟨b, 0, none⟩), .bool (restB s h q)]) ∧ w.heap.size ≤ b ∧ RgM w' b s h q)

set_option maxHeartbeats 1000000 in
theorem newRing_no (A : Option Addr) (s : List Int) (c : Nat) (H Q : Int) (w : World) (hm : s.length ≤ 2097152) (hno : inR s H Q = false) :
    Calls Try.prog 65 #[.slice A s.length c, .int .i64 H, .int .i64 Q] w fun e w' => e = .returned (.tuple #[.pointer none, .bool false]) ∧ w = w' := by
  cases h1 : inB (s.length : Int) 1 64
  · have H1 := Lib.hid h1
    clear h1 hno
    go_enter Try.func65, Try.ntmps65
    go_wp2_with (go_at_call 51; refine (within_any _ _ _ _).mono ?_; rintro e w' ⟨rfl, rfl⟩; rw [H1.out])
    go_ret2
    exact ⟨rfl, rfl⟩
  · cases h2 : inB H 0 ((s.length : Int) - 1)
    · have H1 := Lib.hid h1
      have H2 := Lib.hid h2
      clear h1 h2 hno
      go_enter Try.func65, Try.ntmps65
      go_wp2_with (go_at_call 51; refine (within_any _ _ _ _).mono ?_; rintro e w' ⟨rfl, rfl⟩; first | rw [H1.out] | rw [H2.out])
      go_ret2
      exact ⟨rfl, rfl⟩
    · have H1 := Lib.hid h1
      have H2 := Lib.hid h2
      have H3 := Lib.hid (show inB Q 0 (s.length : Int) = false by simpa [inR, h1, h2] using hno)
      clear h1 h2 hno
      go_enter Try.func65, Try.ntmps65
      go_wp2_with (go_at_call 51; refine (within_any _ _ _ _).mono ?_; rintro e w' ⟨rfl, rfl⟩; first | rw [H1.out] | rw [H2.out] | rw [H3.out])
      go_ret2
      exact ⟨rfl, rfl⟩
set_option maxHeartbeats 1000000 in
set_option maxRecDepth 100000 in
theorem newRing_yes (A : Option Addr) (s : List Int) (c : Nat) (h q : Nat) (w : World) (B : RgB s h q) (HI : IS w A s) :
    Calls Try.prog 65 #[.slice A s.length c, .int .i64 h, .int .i64 q] w fun e w' => Below w.heap.size w w' ∧ e = .returned (.tuple #[.pointer (some ⟨w.heap.size, 0, none⟩), .bool (restB s h q)]) ∧ RgM w' w.heap.size s h q := by
  have h123 := inR_of B
  simp only [inR, Bool.and_eq_true] at h123
  have H1 := Lib.hid h123.1
  have H2 := Lib.hid h123.2.1
  have H3 := Lib.hid h123.2.2
  have HB := Lib.hid B
  have n1 := B.n1
  have n2 := B.n2
  obtain ⟨ad, rfl⟩ : ∃ ad, A = some ad := by
    obtain ⟨b, e, _⟩ := HI 0 s[0] (List.getElem?_eq_getElem (by omega))
    exact ⟨_, e⟩
  have hsrc : ∀ j v, (nums s)[j]? = some v → w.cell? (ad.add j) = some v := by
    intro j u hu
    have hj : j < s.length := by have := (List.getElem?_eq_some_iff.1 hu).1; rwa [nums_length] at this
    obtain ⟨b, e, _, hc⟩ := HI j s[j] (List.getElem?_eq_getElem hj)
    injection e with e
    subst e
    rw [nums_at (List.getElem?_eq_getElem hj)] at hu
    injection hu with hu
    subst hu
    have hadd : (⟨b, 0, none⟩ : Addr).add j = ⟨b, j, none⟩ := by unfold Addr.add; split <;> simp_all
    rw [hadd]; exact hc
  have HS := Lib.hid hsrc
  clear h123 B HI hsrc
  go_enter Try.func65, Try.ntmps65
  go_upto_region 4 with (go_at_call 51; refine (within_any _ _ _ _).mono ?_; rintro e w' ⟨rfl, rfl⟩; first | rw [H1.out] | rw [H2.out] | rw [H3.out])
  refine wp_region_lit ?_
  refine wpList_run rfl _ _ (exec_move (.tmp 8) rfl) ?_
  refine wpList_run rfl _ _ (exec_build 86 #[(1, .tmp 28)] rfl #[(1, .int .i64 s.length)] (by simp [Act.eval, Act.put]) _ (build_ring s.length w)) ?_
  refine wpList_run rfl _ _ (exec_box 86 (.tmp 29) rfl (.agg (rg0 s.length).toArray) _ (by simp [Act.eval, Act.put]) (box_ring s.length w)) ?_
  have HK1 := Lib.hid (BlkL.new w 86 (rg0 s.length))
  have HB1 := Lib.hid ((Below.refl w.heap.size w).alloc (Nat.le_refl _) (.cells (rg0 s.length).toArray 86))
  generalize Value.agg (rg0 s.length).toArray = vb at *
  have HS1 := Lib.hid (show ∀ j v, (nums s)[j]? = some v → (w.alloc (.cells (rg0 s.length).toArray 86)).cell? (ad.add j) = some v from fun j v hj => by
    have h1 := HS.out j v hj
    exact (World.cell?_alloc_lt w _ _ (World.block_lt_of_cell? _ _ h1)).trans h1)
  generalize w.alloc (.cells (rg0 s.length).toArray 86) = w1 at *
  have c1 : (nums s).length = Nat.min s.length 64 := by rw [nums_length]; exact (Nat.min_eq_left n2).symm
  have c2 : 0 + (nums s).length ≤ (rg0 s.length).length := by rw [nums_length]; simp [rg0, nums_length, noughts_length]; omega
  have c3 : ∀ v ∈ nums s, v.oneCell' = true := fun v hv => by obtain ⟨x, _, rfl⟩ := List.mem_map.1 hv; rfl
  have C1 := Lib.hid c1
  have C2 := Lib.hid c2
  have C3 := Lib.hid c3
  clear c1 c2 c3
  go_wp2_with (refine wpList_copy_splice (o := ⟨some 36, _, _, _, _, _⟩) rfl (.tmp 34) (.tmp 35) 24 24 rfl 3 Try.underlying24 (by kernel_rfl) _ _ _ _ _ _ rfl rfl w.heap.size 0 (rg0 s.length) 86 HK1.out (nums s) C1.out (fun _ => ⟨rfl, ad, rfl, HS1.out⟩) C2.out C3.out w.heap.size w HB1.out (Nat.le_refl _) ?_)
  intro w2 hg2 hb2
  have HM2 := Lib.hid (show RgM w2 w.heap.size s 0 0 from by have := hg2.out; rw [splice_ring n2] at this; exact this)
  have HB2 := Lib.hid hb2
  clear hg2 hb2
  go_wp2_with fail
  refine (aStore_any w.heap.size 65 h _ _ (HM2.out.head n2) (HM2.out.fr 65)).mono ?_
  rintro e w3 ⟨rfl, rfl⟩
  have HM3 := Lib.hid (HM2.out.putH n2 h)
  have HB3 := Lib.hid (HB2.out.setCell (p := ⟨w.heap.size, 65, none⟩) (Nat.le_refl _) (.int .i64 h))
  clear HM2 HB2 HK1 HB1 HS1
  generalize w2.setCell ⟨w.heap.size, 65, none⟩ (.int .i64 (h : Int)) = w3 at *
  go_wp2_with fail
  refine (aStore_any w.heap.size 66 q _ _ (HM3.out.count n2) (HM3.out.fr 66)).mono ?_
  rintro e w4 ⟨rfl, rfl⟩
  have HM4 := Lib.hid (HM3.out.putQ n2 q)
  have HB4 := Lib.hid (HB3.out.setCell (p := ⟨w.heap.size, 66, none⟩) (Nat.le_refl _) (.int .i64 q))
  clear HM3 HB3
  generalize w3.setCell ⟨w.heap.size, 66, none⟩ (.int .i64 (q : Int)) = w4 at *
  go_wp2_with fail
  refine (rest_any w.heap.size s h q _ HB.out HM4.out).mono ?_
  rintro e w5 ⟨rfl, hb5⟩
  have HM5 := Lib.hid (HM4.out.below hb5 HM4.out.lt)
  have HB5 := Lib.hid (HB4.out.trans (hb5.mono HB4.out.size))
  clear hb5
  go_wp2
  go_ret2
  exact ⟨HB5.out, rfl, HM5.out⟩

theorem newRing_any (A : Option Addr) (s : List Int) (c : Nat) (H Q : Int) (w : World) (hm : s.length ≤ 2097152) (HI : IS w A s) :
    Calls Try.prog 65 #[.slice A s.length c, .int .i64 H, .int .i64 Q] w (RingPost w s H Q) := by
  cases hR : inR s H Q
  · refine (newRing_no A s c H Q w hm hR).mono ?_
    rintro e w' ⟨rfl, rfl⟩
    exact ⟨Below.refl _ _, .inl ⟨hR, rfl⟩⟩
  · obtain ⟨h, q, rfl, rfl, B⟩ := inR_true hR
    refine (newRing_yes A s c h q w B HI).mono ?_
    rintro e w' ⟨hb, rfl, hM⟩
    exact ⟨hb, .inr ⟨h, q, _, rfl, rfl, B, rfl, Nat.le_refl _, hM⟩⟩
set_option maxHeartbeats 1000000 in
theorem ringOf_any (A : Option Addr) (s : List Int) (c : Nat) (H Q : Int) (w : World) (hm : s.length ≤ 2097152) (HI : IS w A s) :
    Calls Try.prog 48 #[.agg #[.slice A s.length c, .int .i64 H, .int .i64 Q]] w (RingPost w s H Q) := by
  have HI1 := Lib.hid (HI.below ((Below.refl _ _).alloc (Nat.le_refl _) (.cells #[.slice A s.length c, .int .i64 H, .int .i64 Q] 28)))
  have HB1 := Lib.hid ((Below.refl w.heap.size w).alloc (Nat.le_refl _) (.cells #[.slice A s.length c, .int .i64 H, .int .i64 Q] 28))
  clear HI
  go_enter Try.func48, Try.ntmps48
  go_wp2_with fail
  refine (newRing_any A s c H Q _ hm HI1.out).mono ?_
  rintro e w1 ⟨hb, ⟨hR, rfl⟩ | ⟨h, q, b, rfl, rfl, B, rfl, hlo, hM⟩⟩
  · have HB2 := Lib.hid (HB1.out.trans (hb.mono (by simp)))
    have HR := Lib.hid hR
    clear hb hR
    go_wp2
    go_ret2
    exact ⟨HB2.out, .inl ⟨HR.out, rfl⟩⟩
  · have HB2 := Lib.hid (HB1.out.trans (hb.mono (by simp)))
    have HM := Lib.hid hM
    have HB := Lib.hid B
    have HLO := Lib.hid hlo
    clear hb hM B hlo
    go_wp2
    go_ret2
    exact ⟨HB2.out, .inr ⟨h, q, b, rfl, rfl, HB.out, rfl, by have := HLO.out; simp at this; omega, HM.out⟩⟩

set_option maxHeartbeats 1000000 in
theorem DequeOk_any (A : Option Addr) (s : List Int) (c : Nat) (H Q : Int) (w : World) (hm : s.length ≤ 2097152) (HI : IS w A s) :
    Calls Try.prog 20 #[.agg #[.slice A s.length c, .int .i64 H, .int .i64 Q]] w fun e w' => e = .returned (.bool (dqB s H Q)) ∧ Below w.heap.size w w' := by
  have HI1 := Lib.hid (HI.below ((Below.refl _ _).alloc (Nat.le_refl _) (.cells #[.slice A s.length c, .int .i64 H, .int .i64 Q] 28)))
  have HB1 := Lib.hid ((Below.refl w.heap.size w).alloc (Nat.le_refl _) (.cells #[.slice A s.length c, .int .i64 H, .int .i64 Q] 28))
  clear HI
  go_enter Try.func20, Try.ntmps20
  go_wp2_with fail
  refine (ringOf_any A s c H Q _ hm HI1.out).mono ?_
  rintro e w1 ⟨hb, ⟨hR, rfl⟩ | ⟨h, q, b, rfl, rfl, B, rfl, hlo, hM⟩⟩
  · have HB2 := Lib.hid (HB1.out.trans (hb.mono (by simp)))
    have HR := Lib.hid (show dqB s H Q = false by simp [dqB, hR])
    clear hb hR
    go_wp2
    go_ret
    rw [HR.out]
    exact ⟨rfl, HB2.out⟩
  · have HB2 := Lib.hid (HB1.out.trans (hb.mono (by simp)))
    have HR := Lib.hid (dqB_of B)
    clear hb hM B hlo
    go_wp2
    go_ret
    rw [HR.out]
    exact ⟨rfl, HB2.out⟩
end Go.Proofs.Ytkpkchlbljlbnaa
