/-
  The laws' helpers over deques: their size, their copy, their comparison, their marks.
-/
import Derived.Test.YtkpkchlbljlbnaaDqs
namespace Go.Proofs.Ytkpkchlbljlbnaa
open Go.RowKit
set_option linter.unusedVariables false

/-- the slice at A reads as the numbers xs, wherever it begins. -/
def IA (w : World) (A : Option Addr) (xs : List Int) : Prop :=
  ∀ i x, xs[i]? = some x → ∃ b o, A = some ⟨b, o, none⟩ ∧ b < w.heap.size ∧ w.cell? ⟨b, o + i, none⟩ = some (.int .i64 x)
theorem IA.below {w w' : World} {A : Option Addr} {l : List Int} (h : IA w A l) (hb : Below w.heap.size w w') : IA w' A l := by
  intro i t ht
  obtain ⟨b, o, rfl, hl, hc⟩ := h i t ht
  exact ⟨b, o, rfl, Nat.lt_of_lt_of_le hl hb.size, (hb.cell (p := ⟨b, o + i, none⟩) hl).trans hc⟩
theorem IA.old {w0 w w' : World} {A : Option Addr} {l : List Int} {row : Option Nat} (h : IA w A l) (h0 : IA w0 A l) (hz : w0.heap.size ≤ w.heap.size) (hg : w.grownBy w' row) (hr : ∀ g, row = some g → w0.heap.size ≤ g) : IA w' A l := by
  intro i t ht
  obtain ⟨b, o, rfl, hb, _⟩ := h0 i t ht
  obtain ⟨b', o', e, hb', hc⟩ := h i t ht
  injection e with e
  injection e with e1 e2
  subst e1 e2
  refine ⟨b, o, rfl, Nat.lt_of_lt_of_le hb' hg.size, (World.cell?_of_block (hg.block b hb' ?_)).trans hc⟩
  intro e
  have := hr b e.symm
  omega

set_option maxHeartbeats 400000 in
theorem szIntS_any (A : Option Addr) (n c : Nat) (left : Int) (w : World) (hm : n ≤ maxLen) (h0 : 0 ≤ left) (h1 : left ≤ 1048576) :
    Calls Try.prog 56 #[.slice A n c, .int .i64 left] w fun e w' => e = .returned (.int .i64 (if left < (n : Int) then -1 else left - n)) ∧ w = w' := by
  unfold maxLen at hm
  by_cases h : left < (n : Int)
  · rw [if_pos h]
    have h2 : left - (n : Int) < 0 := by omega
    go_enter Try.func56, Try.ntmps56
    go_wp2
    go_ret
    exact ⟨rfl, rfl⟩
  · rw [if_neg h]
    have h2 : 0 ≤ left - (n : Int) := by omega
    go_enter Try.func56, Try.ntmps56
    go_wp2
    go_ret
    exact ⟨rfl, rfl⟩
set_option maxHeartbeats 400000 in
theorem szDeque_any (A : Option Addr) (n c : Nat) (H Q left : Int) (w : World) (hm : n ≤ maxLen) (h0 : 0 ≤ left) (h1 : left ≤ 1048576) :
    Calls Try.prog 22 #[.agg #[.slice A n c, .int .i64 H, .int .i64 Q], .int .i64 left] w fun e w' => e = .returned (.int .i64 (if left < (n : Int) then -1 else left - n)) ∧ Below w.heap.size w w' := by
  by_cases h : left < (n : Int)
  · go_enter Try.func22, Try.ntmps22
    go_wp2_with fail
    refine (szIntS_any A n c left _ hm h0 h1).mono ?_
    rintro e w' ⟨rfl, rfl⟩
    rw [if_pos h]
    go_wp2
    go_ret
    exact ⟨rfl, (Below.refl _ _).alloc (Nat.le_refl _) _⟩
  · have h2 : 0 ≤ left - (n : Int) := by omega
    go_enter Try.func22, Try.ntmps22
    go_wp2_with fail
    refine (szIntS_any A n c left _ hm h0 h1).mono ?_
    rintro e w' ⟨rfl, rfl⟩
    rw [if_neg (Int.not_lt.2 h)]
    go_wp2
    go_ret
    exact ⟨rfl, (Below.refl _ _).alloc (Nat.le_refl _) _⟩

/-- the first k numbers, noughts behind them. -/
def fillI (xs : List Int) (n k : Nat) : List Int := xs.take k ++ List.replicate (n - k) 0
theorem fillI_length {xs : List Int} {n k : Nat} (hl : xs.length = n) (hk : k ≤ n) : (fillI xs n k).length = n := by simp [fillI]; omega
theorem fillI_set {xs : List Int} {n k : Nat} {x : Int} (hl : xs.length = n) (hk : k < n) (hx : xs[k]? = some x) : (fillI xs n k).set k x = fillI xs n (k + 1) := by
  unfold fillI
  have e : n - k = (n - (k + 1)) + 1 := by omega
  have hlen : (xs.take k).length = k := by simp; omega
  rw [List.set_append_right _ _ (by omega), hlen, e, List.replicate_succ, Nat.sub_self, List.set_cons_zero, List.take_add_one, hx]
  simp
theorem fillI_all {xs : List Int} {n : Nat} (hl : xs.length = n) : fillI xs n n = xs := by
  subst hl; simp [fillI]

set_option maxHeartbeats 400000 in
theorem toIntS_any (A : Option Addr) (xs : List Int) (n c : Nat) (w : World) (hn : xs.length = n) (hm : n ≤ 2097152) (h : IA w A xs) :
    Calls Try.prog 42 #[.slice A n c] w (IntsOut w xs) := by
  have HN := Lib.hid hn
  have HI := Lib.hid h
  clear hn h
  have hmk := mkInts n hm w
  have HK1 := Lib.hid (BlkL.new w 3 (nums (List.replicate n 0)))
  have HB1 := Lib.hid ((Below.refl w.heap.size w).alloc (Nat.le_refl _) (.cells (nums (List.replicate n 0)).toArray 3))
  go_enter Try.func42, Try.ntmps42
  go_wp2
  go_loopw [4] (fun i wr => ∃ k : Nat, k ≤ n ∧ i = .int .i64 k ∧ BlkL wr w.heap.size 3 (nums (fillI xs n k)) ∧ Below w.heap.size w wr) (fun i _ => n - (intOf i).toNat)
  case atStart => exact ⟨0, Nat.zero_le _, rfl, by simpa [fillI] using HK1.out, HB1.out⟩
  case round =>
    obtain ⟨k, hk, rfl, hblk, hbw⟩ := hrel
    clear HK1 HB1 hmk
    have hlen := fillI_length HN.out hk
    by_cases hlt : k < n
    · obtain ⟨x, hx⟩ : ∃ x, xs[k]? = some x := ⟨_, List.getElem?_eq_getElem (by rw [HN.out]; exact hlt)⟩
      obtain ⟨b, o, rfl, hbl, hc⟩ := (HI.out.below hbw) k _ hx
      obtain ⟨b0, o0, e0, hb0, _⟩ := HI.out k _ hx
      injection e0 with e0
      injection e0 with e1 e2
      subst e1 e2
      have HS := Lib.hid (fillI_set HN.out hlt hx)
      have HK := Lib.hid hblk
      have HBW := Lib.hid hbw
      have hcell : ∃ u, wr.cell? ⟨w.heap.size, k, none⟩ = some u := hblk.some_ (by rw [nums_length, hlen]; omega)
      obtain ⟨u, hu⟩ := hcell
      have hf := hblk.frozen k
      clear hblk hbw hx hlen
      go_wp2
      go_roundw
      case rel =>
        have h1 := HK.out.set k (.int .i64 x)
        have e1 : (nums (fillI xs n k)).set k (.int .i64 x) = nums (fillI xs n (k + 1)) := by rw [← HS.out]; simp [nums]
        rw [e1] at h1
        exact ⟨k + 1, by omega, by go_num, h1, HBW.out.setCell (p := ⟨w.heap.size, _, none⟩) (Nat.le_refl _) _⟩
      case measure => simp [intOf]; omega
    · obtain rfl : k = n := by omega
      rw [fillI_all HN.out] at hblk
      have HK := Lib.hid hblk
      have HBW := Lib.hid hbw
      clear hblk hbw hlen
      go_wp2
      go_ret
      exact ⟨HBW.out, some ⟨w.heap.size, 0, none⟩, k, by rw [HN.out]; rfl, fun b hb => by simp at hb; omega, fun h => (by cases h), .inr ⟨_, [], rfl, by simpa using HK.out⟩⟩

set_option maxHeartbeats 1000000 in
theorem toDeque_any (A : Option Addr) (s : List Int) (n c : Nat) (H Q : Int) (w : World) (hn : s.length = n) (hm : n ≤ 2097152) (HI : IA w A s) :
    Calls Try.prog 23 #[.agg #[.slice A n c, .int .i64 H, .int .i64 Q]] w (DqOut w s H Q id) := by
  have HN := Lib.hid hn
  have HB1 := Lib.hid ((((Below.refl w.heap.size w).alloc (Nat.le_refl _) (.cells #[.slice A n c, .int .i64 H, .int .i64 Q] 36)).alloc (by simp) (.cells #[.slice none 0 0, .int .i64 0, .int .i64 0] 28)).alloc (by simp; omega) (.cells #[.slice none 0 0, .int .i64 0, .int .i64 0] 28))
  have HI1 := Lib.hid (HI.below HB1.out)
  have K0 := ((BlkL.new w 36 [.slice A n c, .int .i64 H, .int .i64 Q]).alloc (.cells #[.slice none 0 0, .int .i64 0, .int .i64 0] 28)).alloc (.cells #[.slice none 0 0, .int .i64 0, .int .i64 0] 28)
  have K1 := (BlkL.new (w.alloc (.cells #[.slice A n c, .int .i64 H, .int .i64 Q] 36)) 28 [.slice none 0 0, .int .i64 0, .int .i64 0]).alloc (.cells #[.slice none 0 0, .int .i64 0, .int .i64 0] 28)
  have K2 := BlkL.new ((w.alloc (.cells #[.slice A n c, .int .i64 H, .int .i64 Q] 36)).alloc (.cells #[.slice none 0 0, .int .i64 0, .int .i64 0] 28)) 28 [.slice none 0 0, .int .i64 0, .int .i64 0]
  simp only [World.size_alloc] at K1 K2
  have HK0 := Lib.hid K0
  have HK1 := Lib.hid K1
  have HK2 := Lib.hid K2
  clear HI K0 K1 K2 hn
  go_enter Try.func23, Try.ntmps23
  go_wp2_with fail
  generalize hw1 : ((w.alloc (.cells #[.slice A n c, .int .i64 H, .int .i64 Q] 36)).alloc (.cells #[.slice none 0 0, .int .i64 0, .int .i64 0] 28)).alloc (.cells #[.slice none 0 0, .int .i64 0, .int .i64 0] 28) = w1 at *
  have hz1 : w1.heap.size = w.heap.size + 1 + 1 + 1 := by rw [← hw1]; simp
  clear hw1
  refine (toIntS_any A s n c _ HN.out hm HI1.out).mono ?_
  rintro e w2 ⟨hb, A1, c1, rfl, hlo, hc, hr⟩
  have k0 := HK0.out.below hb (by omega)
  have k1 := HK1.out.below hb (by omega)
  have k2 := HK2.out.below hb (by omega)
  have a0 := k0.cell 0
  have a1 := k0.cell 1
  have a2 := k0.cell 2
  have d0 := k1.cell 0
  have d1 := k1.cell 1
  have d2 := k1.cell 2
  have y0 := k1.frozen 0
  have y1 := k1.frozen 1
  have y2 := k1.frozen 2
  have e0 := k2.cell 0
  have e1 := k2.cell 1
  have e2 := k2.cell 2
  have z0 := k2.frozen 0
  have z1 := k2.frozen 1
  have z2 := k2.frozen 2
  simp only [List.getElem?_cons_zero, List.getElem?_cons_succ] at a0 a1 a2 d0 d1 d2 e0 e1 e2
  have HBW := Lib.hid (HB1.out.trans (hb.mono (by omega)))
  have HLO := Lib.hid hlo
  have HCC := Lib.hid hc
  have HR := Lib.hid hr
  clear hb hlo hc hr k0 k1 k2
  go_wp2
  refine bodyPost_ret (v := .agg #[.slice A1 s.length c1, .int .i64 H, .int .i64 Q]) (by simp [results, Try.results23, go_sem, d0, d1, d2]) rfl ?_
  refine ⟨(((((HBW.out.setCell (p := ⟨w.heap.size + 1 + 1, 0, none⟩) (by simp; omega) _).setCell (p := ⟨w.heap.size + 1 + 1, 1, none⟩) (by simp; omega) _).setCell (p := ⟨w.heap.size + 1 + 1, 2, none⟩) (by simp; omega) _).setCell (p := ⟨w.heap.size + 1, 0, none⟩) (by simp) _).setCell (p := ⟨w.heap.size + 1, 1, none⟩) (by simp) _).setCell (p := ⟨w.heap.size + 1, 2, none⟩) (by simp) _, A1, c1, rfl, fun b hb => by have := HLO.out b hb; omega, HCC.out, ?_⟩
  exact (((((HR.out.set (fun b hb => by have := HLO.out b hb; simp; omega) _).set (fun b hb => by have := HLO.out b hb; simp; omega) _).set (fun b hb => by have := HLO.out b hb; simp; omega) _).set (fun b hb => by have := HLO.out b hb; simp; omega) _).set (fun b hb => by have := HLO.out b hb; simp; omega) _).set (fun b hb => by have := HLO.out b hb; simp; omega) _

set_option maxHeartbeats 1000000 in
theorem eqDeque_same (A B : Option Addr) (s : List Int) (n c d : Nat) (H Q : Int) (w : World) (hn : s.length = n) (hm : n ≤ 2097152) (ha : IS w A s) (hb : IS w B s) :
    Calls Try.prog 24 #[.agg #[.slice A n c, .int .i64 H, .int .i64 Q], .agg #[.slice B n d, .int .i64 H, .int .i64 Q]] w fun e w' => e = .returned (.bool true) ∧ Below w.heap.size w w' := by
  have HB1 := Lib.hid (((Below.refl w.heap.size w).alloc (Nat.le_refl _) (.cells #[.slice A n c, .int .i64 H, .int .i64 Q] 28)).alloc (by simp) (.cells #[.slice B n d, .int .i64 H, .int .i64 Q] 28))
  have HA1 := Lib.hid (ha.below HB1.out)
  have HA2 := Lib.hid (hb.below HB1.out)
  have HN := Lib.hid hn
  have K0 := (BlkL.new w 28 [.slice A n c, .int .i64 H, .int .i64 Q]).alloc (.cells #[.slice B n d, .int .i64 H, .int .i64 Q] 28)
  have K1 := BlkL.new (w.alloc (.cells #[.slice A n c, .int .i64 H, .int .i64 Q] 28)) 28 [.slice B n d, .int .i64 H, .int .i64 Q]
  simp only [World.size_alloc] at K1
  have HK0 := Lib.hid K0
  have HK1 := Lib.hid K1
  clear ha hb hn K0 K1
  go_enter Try.func24, Try.ntmps24
  go_wp2_with fail
  refine (eqIntS_same A B s n c d _ HN.out hm HA1.out HA2.out).mono ?_
  rintro e w2 ⟨rfl, hb2⟩
  have k0 := HK0.out.below hb2 (by simp; omega)
  have k1 := HK1.out.below hb2 (by simp)
  have a1 := k0.cell 1
  have a2 := k0.cell 2
  have d1 := k1.cell 1
  have d2 := k1.cell 2
  simp only [List.getElem?_cons_zero, List.getElem?_cons_succ] at a1 a2 d1 d2
  have HBW := Lib.hid (HB1.out.trans (hb2.mono (by simp; omega)))
  clear hb2 k0 k1
  go_wp2
  go_ret
  exact ⟨rfl, HBW.out⟩

def MarkD (w : World) (A : Option Addr) (xs : List Int) (x : Int) (e : Ending) (w' : World) : Prop :=
  e = .returned (.int .i64 (x + xs.length)) ∧ IntRow w' A (upTo xs x xs.length) ∧ w.grownBy w' (A.map (·.block))
theorem grown_alloc_front {w w' : World} {o : Obj} {row : Option Nat} (hg : (w.alloc o).grownBy w' row) : w.grownBy w' row :=
  ⟨hg.os, hg.tape, hg.output, Nat.le_trans (by simp) hg.size, fun i hi hne => (hg.block i (by simp; omega) hne).trans (Below.heap_alloc w o i hi)⟩
set_option maxHeartbeats 400000 in
theorem markDeque_any (A : Option Addr) (s : List Int) (c : Nat) (H Q x : Int) (w : World) (hm : s.length ≤ 2097152) (hx0 : 0 ≤ x) (hx1 : x ≤ 1000000000) (hc : A = none → c = 0) (h : IntRow w A s) :
    Calls Try.prog 27 #[.agg #[.slice A s.length c, .int .i64 H, .int .i64 Q], .int .i64 x] w (MarkD w A s x) := by
  have HR := Lib.hid (h.below ((Below.refl _ _).alloc (Nat.le_refl _) (.cells #[.slice A s.length c, .int .i64 H, .int .i64 Q] 28)))
  clear h
  go_enter Try.func27, Try.ntmps27
  go_wp2_with fail
  refine (markIntS_any A s c x _ hm hx0 hx1 hc HR.out).mono ?_
  rintro e w2 ⟨rfl, hr, hg⟩
  have H1 := Lib.hid hr
  have H2 := Lib.hid (grown_alloc_front hg)
  clear hr hg
  go_wp2
  go_ret
  exact ⟨rfl, H1.out, H2.out⟩
set_option maxHeartbeats 400000 in
theorem heldDeque_any (A : Option Addr) (xs : List Int) (n c : Nat) (H Q x : Int) (w : World) (hn : xs.length = n) (hm : n ≤ 2097152) (hx0 : 0 ≤ x) (hx1 : x ≤ 1000000000) (ha : IS w A xs) (hv : ∀ i, i < n → xs[i]? = some (x + (i : Int))) :
    Calls Try.prog 28 #[.agg #[.slice A n c, .int .i64 H, .int .i64 Q], .int .i64 x] w fun e w' => e = .returned (.int .i64 (x + n)) ∧ Below w.heap.size w w' := by
  have HR := Lib.hid (ha.below ((Below.refl _ _).alloc (Nat.le_refl _) (.cells #[.slice A n c, .int .i64 H, .int .i64 Q] 28)))
  have HV := Lib.hid hv
  have HN := Lib.hid hn
  have hnn : 0 ≤ x + (n : Int) := by omega
  clear ha hv hn
  go_enter Try.func28, Try.ntmps28
  go_wp2_with fail
  refine (heldIntS_any A xs n c x _ HN.out hm hx0 hx1 HR.out HV.out).mono ?_
  rintro e w2 ⟨rfl, rfl⟩
  go_wp2
  go_ret
  exact ⟨rfl, (Below.refl _ _).alloc (Nat.le_refl _) _⟩
end Go.Proofs.Ytkpkchlbljlbnaa
