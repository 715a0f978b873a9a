/-
  The iterator of stops: from the last place to the first, with the next break of the level or a lower one.
-/
import Derived.RangeFuncNested
import Derived.RangeFuncBound
import Derived.RangeFuncCalls
import Derived.RangeFuncLeaves
import Derived.Shelf.Abstract
import Derived.Shelf.RegionOpen
import Derived.WalkKit
import Derived.OwnWalkIn
import Derived.TacticsInMore
import Derived.LoopNIn
import Derived.LoopIn
import Derived.Test.YthjkgbcomjiejabGreatDoorFf35
import Derived.Test.YthjkgbcomjiejabGreatDoorFf39
namespace Go.Proofs.YthjkgbcomjiejabGreatDoor
open Go.RowKit Go.Shelf
set_option linter.unusedVariables false
attribute [local go_sem] Oper.semAt_some

theorem levI_in {l : List Tk} (hok : okN l l.length = true) {k : Nat} (hk : k < l.length) : 0 ≤ levI l k ∧ levI l k ≤ 12 := by
  have ht : l[k]? = some l[k] := List.getElem?_eq_getElem hk
  have h1 := (okN_at hok hk ht).2
  have h2 := okN_lo (okN_mono (Nat.le_of_lt hk) hok) (Nat.le_of_lt hk)
  unfold levI; omega

/-- the next breaks from i on, for each level. -/
def nxs (l : List Tk) (i : Nat) : List Int := (List.range 13).map fun (L : Nat) => (nx l L i : Int)
theorem nxs_length (l : List Tk) (i : Nat) : (nxs l i).length = 13 := by simp [nxs]
theorem nxs_at (l : List Tk) (i : Nat) {L : Nat} (hL : L < 13) : (nxs l i)[L]? = some (nx l L i : Int) := by
  simp only [nxs, List.getElem?_map, List.getElem?_range hL, Option.map_some]
/-- the first j of 13 are x. -/
def fst13 (x : Int) (j : Nat) : List Int := (List.range 13).map fun L => if L < j then x else 0
theorem fst13_zero (x : Int) : fst13 x 0 = List.replicate 13 0 := by simp [fst13]; rfl
theorem fst13_at (x : Int) (j : Nat) (hj : j < 13) : (fst13 x j)[j]? = some 0 := by
  simp only [fst13, List.getElem?_map, List.getElem?_range hj, Option.map_some]
  rw [if_neg (by omega)]
theorem fst13_set (x : Int) {j : Nat} (hj : j < 13) : (fst13 x j).set j x = fst13 x (j + 1) := by
  apply List.ext_getElem?
  intro i
  by_cases hi : i < 13
  · rw [List.getElem?_set]
    simp only [fst13, List.length_map, List.length_range, List.getElem?_map, List.getElem?_range hi, Option.map_some]
    by_cases e : j = i
    · subst e; rw [if_pos rfl, if_pos (by omega), if_pos (by omega)]
    · rw [if_neg e]
      by_cases h : i < j
      · rw [if_pos h, if_pos (by omega)]
      · rw [if_neg h, if_neg (by omega)]
  · rw [List.getElem?_eq_none (by simp [fst13]; omega), List.getElem?_eq_none (by simp [fst13]; omega)]
theorem fst13_all (l : List Tk) : fst13 (l.length : Int) 13 = nxs l l.length := by
  simp only [fst13, nxs]
  apply List.map_congr_left
  intro L hL
  have := List.mem_range.1 hL
  rw [if_pos this, nx_end]
/-- place k is laid at the levels from its own up to j. -/
def nxT (l : List Tk) (k j : Nat) : List Int := (List.range 13).map fun (L : Nat) => if levI l k ≤ L ∧ L < j then (k : Int) else (nx l L (k + 1) : Int)
theorem nxT_length (l : List Tk) (k j : Nat) : (nxT l k j).length = 13 := by simp [nxT]
theorem nxT_start (l : List Tk) {k j : Nat} (hj : levI l k = j) : nxT l k j = nxs l (k + 1) := by
  simp only [nxT, nxs]
  apply List.map_congr_left
  intro L hL
  rw [if_neg (by omega)]
theorem nxT_at (l : List Tk) (k : Nat) {j : Nat} (hj : j < 13) : ∃ x, (nxT l k j)[j]? = some x := by
  simp only [nxT, List.getElem?_map, List.getElem?_range hj, Option.map_some]
  exact ⟨_, rfl⟩
theorem nxT_set (l : List Tk) {k j : Nat} (hj : j < 13) (hl : levI l k ≤ j) : (nxT l k j).set j (k : Int) = nxT l k (j + 1) := by
  apply List.ext_getElem?
  intro i
  by_cases hi : i < 13
  · rw [List.getElem?_set]
    simp only [nxT, List.length_map, List.length_range, List.getElem?_map, List.getElem?_range hi, Option.map_some]
    by_cases e : j = i
    · subst e; rw [if_pos rfl, if_pos (by omega), if_pos (by omega)]
    · rw [if_neg e]
      by_cases h : levI l k ≤ i ∧ i < j
      · rw [if_pos h, if_pos (by omega)]
      · rw [if_neg h, if_neg (by omega)]
  · rw [List.getElem?_eq_none (by simp [nxT]; omega), List.getElem?_eq_none (by simp [nxT]; omega)]
theorem nxT_all {l : List Tk} {k : Nat} {t : Tk} (ht : l[k]? = some t) (hb : t.brk = true) : nxT l k 13 = nxs l k := by
  have hkl : k < l.length := (List.getElem?_eq_some_iff.1 ht).1
  simp only [nxT, nxs]
  apply List.map_congr_left
  intro L hL
  have := List.mem_range.1 hL
  rw [nx_step hkl, brkAt_eq ht, hb]
  by_cases h : levI l k ≤ L
  · rw [if_pos ⟨h, this⟩, if_pos (by simp [h])]
  · rw [if_neg (by omega), if_neg (by simp; omega)]
theorem nxs_next {l : List Tk} {k : Nat} {t : Tk} (ht : l[k]? = some t) (hb : t.brk = false) : nxs l (k + 1) = nxs l k := by
  have hkl : k < l.length := (List.getElem?_eq_some_iff.1 ht).1
  simp only [nxs]
  apply List.map_congr_left
  intro L hL
  rw [nx_step hkl, brkAt_eq ht, hb, if_neg (by simp)]

theorem TS.kp {W W' : World} {A : Option Addr} {l : List Tk} {ll G : Nat} (h : TS W A l) (hA : ∀ b, A.map (·.block) = some b → b ≠ ll ∧ b ≠ G) (hk : KpL ll G W W') : TS W' A l :=
  h.keep hk.size fun b j hb hlt => World.cell?_of_block (hk.block b hlt (hA b hb).1 (hA b hb).2)
theorem IS.kp {W W' : World} {A : Option Addr} {l : List Int} {ll G : Nat} (h : IS W A l) (hA : ∀ b, A.map (·.block) = some b → b ≠ ll ∧ b ≠ G) (hk : KpL ll G W W') : IS W' A l :=
  h.keep hk.size fun b j hb hlt => World.cell?_of_block (hk.block b hlt (hA b hb).1 (hA b hb).2)
theorem BlkL.kp {W W' : World} {g : Nat} {ty : TypeId} {cs : List Value} {ll G : Nat} (h : BlkL W g ty cs) (h1 : g ≠ ll) (h2 : g ≠ G) (hk : KpL ll G W W') : BlkL W' g ty cs := (hk.block g h.lt h1 h2).trans h
theorem KpL.below {l G : Nat} {A B : World} (h : Below A.heap.size A B) : KpL l G A B := ⟨h.size, fun k hk _ _ => h.block k hk⟩
theorem KpL.alloc (l G : Nat) (W : World) (o : Obj) : KpL l G W (W.alloc o) := KpL.below ((Below.refl _ W).alloc (Nat.le_refl _) o)
/-- a step on a block that came behind W. -/
theorem KpL.late {l G : Nat} {W A B : World} {row : Option Nat} (h : KpL l G W A) (hg : A.grownBy B row) (hr : ∀ r, row = some r → W.heap.size ≤ r) : KpL l G W B :=
  ⟨Nat.le_trans h.size hg.size, fun k hk h1 h2 => (hg.block k (Nat.lt_of_lt_of_le hk h.size) (fun e => by have := hr k e.symm; omega)).trans (h.block k hk h1 h2)⟩
theorem grown_set (W : World) (p : Addr) (v : Value) : W.grownBy (W.setCell p v) (some p.block) :=
  ⟨rfl, rfl, rfl, (KeepsWalks.setCell W _ v).size, fun k _ hk => Below.heap_setCell _ _ _ k (fun e => hk (by rw [e]))⟩
theorem grown_of_below {A B : World} (h : Below A.heap.size A B) : A.grownBy B none := ⟨h.os, h.tape, h.output, h.size, fun k hk _ => h.block k hk⟩

set_option maxRecDepth 100000 in
set_option maxHeartbeats 2000000 in
theorem stops1_in (n ll G : Nat) (A A1 : Option Addr) (l : List Tk) (N c c1 Bl Bv : Nat) (J : Nat → World → Prop) (hn : 1 ≤ n) (hN : l.length = N) (hS : strB l = true) (hf : Fits l)
    (W : World) (hG : G < W.heap.size) (hll : ll < W.heap.size) (hbl : BlkL W Bl 25 [.slice A N c]) (hbv : BlkL W Bv 48 [.slice A1 N c1]) (hl1 : Bl ≠ ll) (hl2 : Bl ≠ G) (hv1 : Bv ≠ ll) (hv2 : Bv ≠ G)
    (hts : TS W A l) (hA : ∀ b, A.map (·.block) = some b → b ≠ ll ∧ b ≠ G) (hIS : IS W A1 (levs l)) (hA1 : ∀ b, A1.map (·.block) = some b → b ≠ ll ∧ b ≠ G)
    (hJ : KeptFrom W.heap.size J)
    (hY : ∀ k W1, k < N → J (N - (k + 1)) W1 → YieldAt Fence.wide (n - 1) Tryz.prog ll #[.int .i64 (k : Int), .int .i64 (nx l (levI l k) (k + 1) : Int)] W1 fun e W' => e = .returned (.bool true) ∧ J (N - k) W' ∧ KpL ll G W1 W')
    (h0 : J 0 W) :
    CallsIn Fence.wide n Tryz.prog 77 #[.func (.yield ll) #[] #[], .pointer (some ⟨Bl, 0, none⟩), .pointer (some ⟨Bv, 0, none⟩)] W fun e W' => (∃ v, e = .returned v) ∧ J N W' := by
  obtain ⟨h4, hok, _⟩ := strB_true hS
  have HN := Lib.hid hN
  have h4' : N ≤ 400 := by omega
  clear hN
  have HOK := Lib.hid hok
  have HJ := Lib.hid hJ
  have HY := Lib.hid hY
  have HBL := Lib.hid hbl
  have HBV := Lib.hid hbv
  have hb0 := hbl.cell 0
  have hv0 := hbv.cell 0
  simp only [List.getElem?_cons_zero] at hb0 hv0
  clear hok hS hJ hY hbl hbv
  refine callsIn_of_wp Tryz.func77 rfl trivial ?_ rfl
  simp only [Tryz.ntmps77, List.size_toArray, List.length_cons, List.length_nil, Nat.reduceAdd, Nat.reduceSub, Array.replicate_succ, Array.replicate_zero, List.push_toArray, List.append_toArray, List.nil_append, List.cons_append]
  gi_wp2
  gi_loopw [8] (fun v wr => ∃ j : Nat, j ≤ 13 ∧ v = .int .i64 j ∧ J 0 wr ∧ KpL ll G W wr ∧ BlkL wr W.heap.size 145 (nums (fst13 N j))) (fun v _ => 13 - (intOf v).toNat)
  case atStart =>
    refine ⟨0, Nat.zero_le _, rfl, HJ.out _ _ _ none h0 (World.grownBy_alloc W _ none) (fun r e => by cases e), KpL.alloc _ _ _ _, ?_⟩
    rw [fst13_zero]
    exact BlkL.new W _ _
  case round =>
    obtain ⟨j, hj, rfl, hJ, hkp, hblk⟩ := hrel
    have cb := (HBL.out.kp hl1 hl2 hkp).cell 0
    simp only [List.getElem?_cons_zero] at cb
    by_cases hj13 : j < 13
    · have z1 := (hblk.cell j).trans (nums_at (fst13_at N j hj13))
      have z2 := hblk.frozen j
      have HJ1 := Lib.hid hJ
      have HK1 := Lib.hid hkp
      have HB1 := Lib.hid hblk
      clear hJ hkp hblk
      gi_wp2
      go_roundw
      case rel =>
        have h1 := HB1.out.set j (.int .i64 (N : Int))
        rw [nums_set, fst13_set (N : Int) hj13] at h1
        exact ⟨j + 1, by omega, by go_num, HJ.out _ _ _ _ HJ1.out (grown_set wr ⟨W.heap.size, j, none⟩ _) (fun r e => by injection e with e; exact Nat.le_of_eq e), HK1.out.late (grown_set wr ⟨W.heap.size, j, none⟩ _) (fun r e => by injection e with e; exact Nat.le_of_eq e), h1⟩
      case measure => simp [intOf]; omega
    · have hj' : j = 13 := by omega
      subst hj'
      rw [show (N : Int) = (l.length : Int) from by rw [HN.out], fst13_all] at hblk
      have HJ1 := Lib.hid hJ
      have HK1 := Lib.hid hkp
      have HB1 := Lib.hid hblk
      clear hJ hkp hblk hj hj13
      simp only [show ((13 : Nat) : Int) = 13 from rfl]
      gi_wp2
      gi_loopw [6] (fun v wr => ∃ m : Nat, m ≤ N ∧ v = .int .i64 ((m : Int) - 1) ∧ J (N - m) wr ∧ KpL ll G W wr ∧ BlkL wr W.heap.size 145 (nums (nxs l m))) (fun v _ => ((intOf v) + 1).toNat)
      case atStart =>
        exact ⟨N, Nat.le_refl _, rfl, by rw [Nat.sub_self]; exact HJ1.out, HK1.out, by rw [← HN.out]; exact HB1.out⟩
      case round =>
        obtain ⟨m, hm, rfl, hJ, hkp, hblk⟩ := hrel
        clear HJ1 HK1 HB1 cb
        cases m with
        | zero =>
          have HJ1 := Lib.hid hJ
          clear hJ hkp hblk
          simp only [show (((0 : Nat)) : Int) - 1 = -1 from by omega]
          gi_wp2
          go_end0
          exact ⟨⟨_, rfl⟩, HJ1.out⟩
        | succ k =>
          simp only [show (((k + 1 : Nat)) : Int) - 1 = (k : Int) from by omega]
          have hkl : k < l.length := by have := HN.out; omega
          obtain ⟨hl0, hl12⟩ := levI_in HOK.out hkl
          obtain ⟨L, hL⟩ := Int.eq_ofNat_of_zero_le hl0
          rw [hL] at hl0 hl12
          have hL13 : L < 13 := by omega
          obtain ⟨t, b, o, ht, rfl, hbl, _⟩ := hts.at (k := k) hkl
          have hs := hf k t ht
          obtain ⟨g, hg1, _, _⟩ := hIS k _ (levs_at l hkl)
          have hY := HY.out k wr (by omega) hJ
          rw [hL] at hY
          obtain ⟨fn, tmps, assign, body, hy, hR⟩ := hY
          have hI1 := hIS.kp hA1 hkp
          subst hg1
          obtain ⟨hgl, d0⟩ := hI1.get (levs_at l hkl)
          rw [hL] at d0
          have z0 := (hblk.cell L).trans (nums_at (nxs_at l (k + 1) hL13))
          have cv := (HBV.out.kp hv1 hv2 hkp).cell 0
          simp only [List.getElem?_cons_zero] at cv
          have HJ1 := Lib.hid hJ
          have HK1 := Lib.hid hkp
          have HB1 := Lib.hid hblk
          have HT := Lib.hid ht
          have HL := Lib.hid hL
          clear hJ hkp hblk ht hL hI1 hkl
          gi_wp2
          refine hR.mono ?_
          clear hR hy
          rintro e W3 ⟨rfl, hJ3, hk3⟩
          have hk03 := HK1.out.trans hk3
          have cb := (HBL.out.kp hl1 hl2 hk03).cell 0
          simp only [List.getElem?_cons_zero] at cb
          obtain ⟨hbl3, c0, c1', c2, c3⟩ := (hts.kp hA hk03).get HT.out
          have hblk3 := HB1.out.kp (by omega) (by omega) hk3
          have HJ3 := Lib.hid hJ3
          have HK3 := Lib.hid hk03
          have HB3 := Lib.hid hblk3
          clear hJ3 hk3 hk03 hblk3 HB1 HK1 HJ1 z0 d0 cv
          have hib : CallsIn Fence.wide (n - 1) Tryz.prog 78 #[.agg #[.int .i64 t.k, .string t.s, .int .i64 t.d, .int .i64 t.o]] W3 fun e W4 => e = .returned (.bool t.brk) ∧ W4.cell? ⟨Bv, 0, none⟩ = some (.slice (some ⟨g, 0, none⟩) N c1) ∧ W4.cell? ⟨g, k, none⟩ = some (.int .i64 L) ∧ Hid (J (N - k) W4 ∧ KpL ll G W W4 ∧ BlkL W4 W.heap.size 145 (nums (nxs l (k + 1)))) := by
            refine (callsIn_wide.2 (IsBreak_any _ _ _ _ _ hs)).mono ?_
            rintro e W4 ⟨rfl, hb4⟩
            have hk4 := HK3.out.trans (KpL.below hb4)
            have q1 := (HBV.out.kp hv1 hv2 hk4).cell 0
            simp only [List.getElem?_cons_zero] at q1
            have q2 := ((hIS.kp hA1 hk4).get (levs_at l (i := k) (by have := HN.out; omega))).2
            rw [HL.out] at q2
            exact ⟨rfl, q1, q2, Lib.hid ⟨HJ.out _ _ _ none HJ3.out (grown_of_below hb4) (fun r e => by cases e), hk4, HB3.out.below hb4 HB3.out.lt⟩⟩
          have HIB := Lib.hid hib
          clear hib
          cases hbr : t.brk
          · rw [hbr] at HIB
            gi_wp2_with (refine ⟨trivial, ?_⟩; gi_at_call 78; refine HIB.out.mono ?_; rintro e W4 ⟨rfl, q1, q2, HQ⟩)
            go_roundw
            case rel =>
              obtain ⟨r1, r2, r3⟩ := HQ.out
              rw [nxs_next HT.out hbr] at r3
              exact ⟨k, by omega, rfl, r1, r2, r3⟩
            case measure => simp [intOf]
          · rw [hbr] at HIB
            gi_wp2_with (refine ⟨trivial, ?_⟩; gi_at_call 78; refine HIB.out.mono ?_; rintro e W4 ⟨rfl, q1, q2, HQ⟩)
            gi_loopw [7] (fun v wr => ∃ j : Nat, L ≤ j ∧ j ≤ 13 ∧ v = .int .i64 (j : Int) ∧ J (N - k) wr ∧ KpL ll G W wr ∧ BlkL wr W.heap.size 145 (nums (nxT l k j))) (fun v _ => 13 - (intOf v).toNat)
            case atStart =>
              obtain ⟨r1, r2, r3⟩ := HQ.out
              exact ⟨L, Nat.le_refl _, by omega, rfl, r1, r2, by rw [nxT_start l HL.out]; exact r3⟩
            case round =>
              obtain ⟨j, hLj, hj, rfl, hJ5, hk5, hblk5⟩ := hrel
              clear HQ HB3 HJ3 HK3 HIB
              by_cases hj13 : j < 13
              · obtain ⟨x, hx⟩ := nxT_at l k hj13
                have z1 := (hblk5.cell j).trans (nums_at hx)
                have z2 := hblk5.frozen j
                have HJ5 := Lib.hid hJ5
                have HK5 := Lib.hid hk5
                have HB5 := Lib.hid hblk5
                clear hJ5 hk5 hblk5 hx
                gi_wp2
                go_roundw
                case rel =>
                  have h1 := HB5.out.set j (.int .i64 (k : Int))
                  rw [nums_set, nxT_set l hj13 (by rw [HL.out]; omega)] at h1
                  exact ⟨j + 1, by omega, by omega, by go_num, HJ.out _ _ _ _ HJ5.out (grown_set _ ⟨W.heap.size, j, none⟩ _) (fun r e => by injection e with e; exact Nat.le_of_eq e), HK5.out.late (grown_set _ ⟨W.heap.size, j, none⟩ _) (fun r e => by injection e with e; exact Nat.le_of_eq e), h1⟩
                case measure => simp [intOf]; omega
              · have hj' : j = 13 := by omega
                subst hj'
                rw [nxT_all HT.out hbr] at hblk5
                have HJ5 := Lib.hid hJ5
                have HK5 := Lib.hid hk5
                have HB5 := Lib.hid hblk5
                clear hJ5 hk5 hblk5 hj13 hLj hj
                simp only [show ((13 : Nat) : Int) = 13 from rfl]
                gi_wp2
                go_roundw
                case rel => exact ⟨k, by omega, by go_num, HJ5.out, HK5.out, HB5.out⟩
                case measure => simp [intOf]

/-- what the rounds are handed, the last place first. -/
def stE (l : List Tk) (i : Nat) : Array Value := #[.int .i64 ((l.length - 1 - i : Nat) : Int), .int .i64 (nx l (levI l (l.length - 1 - i)) (l.length - 1 - i + 1) : Int)]
theorem stops_seq (n G : Nat) (A A1 : Option Addr) (l : List Tk) (c c1 Bl Bv : Nat) (hn : 1 ≤ n) (hS : strB l = true) (hf : Fits l) (w : World) (hG : G < w.heap.size)
    (hbl : BlkL w Bl 25 [.slice A l.length c]) (hbv : BlkL w Bv 48 [.slice A1 l.length c1]) (hl2 : Bl ≠ G) (hv2 : Bv ≠ G)
    (hts : TS w A l) (hA : ∀ b, A.map (·.block) = some b → b < w.heap.size ∧ b ≠ G) (hIS : IS w A1 (levs l)) (hA1 : ∀ b, A1.map (·.block) = some b → b < w.heap.size ∧ b ≠ G) :
    SeqW Fence.wide n Tryz.prog 77 #[.pointer (some ⟨Bl, 0, none⟩), .pointer (some ⟨Bv, 0, none⟩)] (stE l) G l.length w := by
  intro ll J W hb hll hll2 hJ hY h0
  refine stops1_in n ll G A A1 l l.length c c1 Bl Bv J hn rfl hS hf W (Nat.lt_of_lt_of_le hG hb.size) hll2 (hbl.below hb hbl.lt) (hbv.below hb hbv.lt) (by have := hbl.lt; omega) hl2 (by have := hbv.lt; omega) hv2
    (hts.below hb) (fun b h => ⟨by have := (hA b h).1; omega, (hA b h).2⟩) (hIS.below hb) (fun b h => ⟨by have := (hA1 b h).1; omega, (hA1 b h).2⟩) hJ ?_ h0
  intro k W1 hk hJk
  have h := hY (l.length - (k + 1)) W1 (by omega) hJk
  have e : l.length - 1 - (l.length - (k + 1)) = k := by omega
  have e2 : l.length - (k + 1) + 1 = l.length - k := by omega
  simp only [stE, e, e2] at h
  exact h

set_option maxHeartbeats 400000 in
theorem stops_any (A A1 : Option Addr) (n c n1 c1 : Nat) (w : World) :
    Calls Tryz.prog 47 #[.slice A n c, .slice A1 n1 c1] w fun e w' => e = .returned (.func (.func 77) #[] #[.pointer (some ⟨w.heap.size, 0, none⟩), .pointer (some ⟨w.heap.size + 1, 0, none⟩)]) ∧
      w' = (w.alloc (.cells #[.slice A n c] 25)).alloc (.cells #[.slice A1 n1 c1] 48) := by
  go_enter Tryz.func47, Tryz.ntmps47
  go_wp2
  go_ret
  exact ⟨by simp, rfl⟩
end Go.Proofs.YthjkgbcomjiejabGreatDoor
