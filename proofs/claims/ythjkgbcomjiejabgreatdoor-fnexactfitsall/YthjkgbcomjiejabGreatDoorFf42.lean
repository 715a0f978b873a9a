/-
  SizesOf of the program: a range over the iterator of stops.
-/
import Derived.Test.YthjkgbcomjiejabGreatDoorFf40
import Derived.Test.YthjkgbcomjiejabGreatDoorFf41
namespace Go.Proofs.YthjkgbcomjiejabGreatDoor
open Go.RowKit Go.Shelf
set_option linter.unusedVariables false
attribute [local go_sem] Oper.semAt_some

/-- the sizes from place m on, 0 ahead of it. -/
def szF (l : List Tk) (m : Nat) : List Int := (List.range l.length).map fun i => if m ≤ i then (match l[i]? with | some t => sizI l i t | none => 0) else 0
theorem szF_length (l : List Tk) (m : Nat) : (szF l m).length = l.length := by simp [szF]
theorem szF_all (l : List Tk) : szF l 0 = szs l := by
  simp only [szF, szs]
  apply List.map_congr_left
  intro i _
  rw [if_pos (Nat.zero_le _)]
  cases l[i]? <;> rfl
theorem szF_none (l : List Tk) : szF l l.length = List.replicate l.length 0 := by
  apply List.ext_getElem?
  intro i
  by_cases hi : i < l.length
  · simp only [szF, List.getElem?_map, List.getElem?_range hi, Option.map_some, List.getElem?_replicate, hi, if_true]
    rw [if_neg (by omega)]
  · rw [List.getElem?_eq_none (by rw [szF_length]; omega), List.getElem?_eq_none (by simp; omega)]
theorem szF_at {l : List Tk} {k : Nat} (hk : k < l.length) : (szF l (k + 1))[k]? = some 0 := by
  simp only [szF, List.getElem?_map, List.getElem?_range hk, Option.map_some]
  rw [if_neg (by omega)]
theorem szF_set {l : List Tk} {k : Nat} {t : Tk} (ht : l[k]? = some t) {x : Int} (hx : sizI l k t = x) : (szF l (k + 1)).set k x = szF l k := by
  have hk : k < l.length := (List.getElem?_eq_some_iff.1 ht).1
  apply List.ext_getElem?
  intro i
  by_cases hi : i < l.length
  · rw [List.getElem?_set]
    simp only [szF, List.length_map, List.length_range, List.getElem?_map, List.getElem?_range hi, Option.map_some]
    by_cases e : k = i
    · subst e; rw [if_pos rfl, if_pos hi, if_pos (Nat.le_refl _), ht, ← hx]
    · rw [if_neg e]
      by_cases h : k ≤ i
      · rw [if_pos (show k + 1 ≤ i by omega), if_pos h]
      · rw [if_neg (show ¬ k + 1 ≤ i by omega), if_neg h]
  · rw [List.getElem?_eq_none (by rw [List.length_set, szF_length]; omega), List.getElem?_eq_none (by rw [szF_length]; omega)]

theorem grown_late {w7 W W' : World} {G : Nat} {row : Option Nat} (h : w7.grownBy W (some G)) (hg : W.grownBy W' row) (hr : ∀ r, row = some r → w7.heap.size ≤ r) : w7.grownBy W' (some G) :=
  ⟨hg.os.trans h.os, hg.tape.trans h.tape, hg.output.trans h.output, Nat.le_trans h.size hg.size, fun k hk hne => (hg.block k (Nat.lt_of_lt_of_le hk h.size) (fun e => by have := hr k e.symm; omega)).trans (h.block k hk hne)⟩
theorem grown_same {w7 W W' : World} {G : Nat} (h : w7.grownBy W (some G)) (hg : W.grownBy W' (some G)) : w7.grownBy W' (some G) :=
  ⟨hg.os.trans h.os, hg.tape.trans h.tape, hg.output.trans h.output, Nat.le_trans h.size hg.size, fun k hk hne => (hg.block k (Nat.lt_of_lt_of_le hk h.size) hne).trans (h.block k hk hne)⟩

/-- what lies while the sizes are filled. -/
structure LayS (w : World) (s2 s3 : Nat) (A : Option Addr) (l : List Tk) (n c : Nat) (W : World) : Prop where
  below : Below w.heap.size w W
  lst : BlkL W w.heap.size 25 [.slice A n c]
  lev : BlkL W (w.heap.size + 1) 3 (nums (levs l) ++ [.int .i64 0])
  toks : TS W A l
  sums : BlkL W s2 3 (nums (sms l))
  o1 : w.heap.size + 1 < s2
  o2 : s2 < s3
  bsum : BlkL W s3 48 [.slice (some ⟨s2, 0, none⟩) (n + 1) (n + 1)]
  bsiz : BlkL W (s3 + 2) 48 [.slice (some ⟨s3 + 1, 0, none⟩) n n]
  blst : BlkL W (s3 + 3) 25 [.slice A n c]
  blev : BlkL W (s3 + 4) 48 [.slice (some ⟨w.heap.size + 1, 0, none⟩) n n]
  old : ∀ b, A.map (·.block) = some b → b < w.heap.size
theorem LayS.grown {w : World} {s2 s3 : Nat} {A : Option Addr} {l : List Tk} {n c : Nat} {W W' : World} {row : Option Nat} (h : LayS w s2 s3 A l n c W) (hg : W.grownBy W' row) (hr : ∀ r, row = some r → r = s3 + 1 ∨ s3 + 5 ≤ r) : LayS w s2 s3 A l n c W' := by
  obtain ⟨b0, b1, b2, b3, b4, o1, o2, b5, b6, b7, b8, ho⟩ := h
  refine ⟨⟨hg.os.trans b0.os, hg.tape.trans b0.tape, hg.output.trans b0.output, Nat.le_trans b0.size hg.size, fun k hk => (hg.block k (Nat.lt_of_lt_of_le hk b0.size) ?_).trans (b0.block k hk)⟩, b1.grown hg ?_, b2.grown hg ?_, b3.grown hg ?_, b4.grown hg ?_, o1, o2, b5.grown hg ?_, b6.grown hg ?_, b7.grown hg ?_, b8.grown hg ?_, ho⟩
  case refine_4 => intro b hb e; have := ho b hb; have := hr _ e.symm; omega
  all_goals (intro e; have := hr _ e.symm; omega)

set_option maxRecDepth 100000 in
set_option maxHeartbeats 2000000 in
theorem SizesOf_out (A : Option Addr) (l : List Tk) (n c : Nat) (w : World) (hn : l.length = n) (hm : n ≤ 2097152) (hts : TS w A l) (hf : Fits l) :
    Calls Tryz.prog 26 #[.slice A n c] w (IntsOut w (szsB l)) := by
  have HN := Lib.hid hn
  clear hn
  have hB0 := BlkL.new w 25 [.slice A n c]
  have hz1 : (w.alloc (.cells #[.slice A n c] 25)).heap.size = w.heap.size + 1 := by simp
  cases hS : strB l
  · have hlv : CallsIn Fence.wide 2 Tryz.prog 45 #[.slice A n c] (w.alloc (.cells #[.slice A n c] 25)) fun e w2 => e = .returned (.slice none 0 0) ∧ Hid (Below w.heap.size w w2) := by
      refine (callsIn_wide.2 (LevelsOf_any A l n c (w.alloc (.cells #[.slice A n c] 25)) HN.out hm (hts.alloc _) hf)).mono ?_
      rintro e w2 ⟨hb2, ⟨hS2, _⟩ | ⟨_, rfl⟩⟩
      · rw [hS] at hS2; cases hS2
      · exact ⟨rfl, Lib.hid (((Below.refl _ w).alloc (Nat.le_refl _) _).trans (hb2.mono (by simp)))⟩
    have HLV := Lib.hid hlv
    have HS := Lib.hid hS
    clear hS hlv hB0
    refine (callsIn_wide (n := 3)).1 ?_
    refine callsIn_of_wp_marks Tryz.func26 rfl trivial ?_ rfl
    simp only [Tryz.ntmps26, List.size_toArray, List.length_cons, List.length_nil, Nat.reduceAdd, Nat.reduceSub, Array.replicate_succ, Array.replicate_zero, List.push_toArray, List.append_toArray, List.nil_append, List.cons_append]
    gi_wp2_with (refine ⟨trivial, ?_⟩; gi_at_call 45; refine HLV.out.mono ?_; rintro e w2 ⟨rfl, hb2⟩)
    refine ⟨_, results_tmp rfl _ _ _, ?_⟩
    rw [szsB_no HS.out]
    exact ⟨hb2.out, none, 0, rfl, fun b hb => (by simp at hb), fun _ => rfl, .inl ⟨rfl, rfl⟩⟩
  · have hlv : CallsIn Fence.wide 2 Tryz.prog 45 #[.slice A n c] (w.alloc (.cells #[.slice A n c] 25)) fun e w2 => e = .returned (.slice (some ⟨w.heap.size + 1, 0, none⟩) n n) ∧ w2.cell? ⟨w.heap.size, 0, none⟩ = some (.slice A n c) ∧
        Hid (Below w.heap.size w w2 ∧ BlkL w2 w.heap.size 25 [.slice A n c] ∧ BlkL w2 (w.heap.size + 1) 3 (nums (levs l) ++ [.int .i64 0]) ∧ TS w2 A l) := by
      refine (callsIn_wide.2 (LevelsOf_any A l n c (w.alloc (.cells #[.slice A n c] 25)) HN.out hm (hts.alloc _) hf)).mono ?_
      rintro e w2 ⟨hb2, ⟨_, rfl, hk⟩ | ⟨hS2, _⟩⟩
      · rw [hz1] at hk
        have hb := hB0.below hb2 hB0.lt
        exact ⟨by rw [hz1, HN.out], (hb.cell 0).trans rfl, Lib.hid ⟨((Below.refl _ w).alloc (Nat.le_refl _) _).trans (hb2.mono (by simp)), hb, hk, (hts.alloc _).below hb2⟩⟩
      · rw [hS] at hS2; cases hS2
    have h4 := (strB_true hS).1
    have h4' : n ≤ 400 := by have := HN.out; omega
    have HLV := Lib.hid hlv
    have HS := Lib.hid hS
    clear hS hlv hB0 h4
    refine (callsIn_wide (n := 3)).1 ?_
    refine callsIn_of_wp_marks Tryz.func26 rfl trivial ?_ rfl
    simp only [Tryz.ntmps26, List.size_toArray, List.length_cons, List.length_nil, Nat.reduceAdd, Nat.reduceSub, Array.replicate_succ, Array.replicate_zero, List.push_toArray, List.append_toArray, List.nil_append, List.cons_append]
    by_cases hn0 : n = 0
    · subst hn0
      gi_wp2_with (refine ⟨trivial, ?_⟩; gi_at_call 45; refine HLV.out.mono ?_; rintro e w2 ⟨rfl, q1, hb2⟩)
      refine ⟨_, results_tmp rfl _ _ _, ?_⟩
      have hl0 : l = [] := List.eq_nil_of_length_eq_zero HN.out
      subst hl0
      rw [szsB_yes HS.out]
      exact ⟨hb2.out.1, none, 0, rfl, fun b hb => (by simp at hb), fun _ => rfl, .inl ⟨rfl, rfl⟩⟩
    · have hn1 : 0 < n := by omega
      clear hn0
      gi_wp2_with (refine ⟨trivial, ?_⟩; gi_at_call 45; refine HLV.out.mono ?_; rintro e w2 ⟨rfl, q1, hb2⟩; clear HLV)
      have hsm : CallsIn Fence.wide 2 Tryz.prog 46 #[.slice A n c] w2 fun e w3 => e = .returned (.slice (some ⟨w2.heap.size, 0, none⟩) (n + 1) (n + 1)) ∧ (w3.alloc (.cells #[.slice (some ⟨w2.heap.size, 0, none⟩) (n + 1) (n + 1)] 48)).cell? ⟨w.heap.size, 0, none⟩ = some (.slice A n c) ∧
          (((w3.alloc (.cells #[.slice (some ⟨w2.heap.size, 0, none⟩) (n + 1) (n + 1)] 48)).alloc (.cells (nums (List.replicate n 0)).toArray 3)).alloc (.cells #[.slice (some ⟨w3.heap.size + 1, 0, none⟩) n n] 48)).cell? ⟨w.heap.size, 0, none⟩ = some (.slice A n c) ∧
          Hid (Below w.heap.size w w3 ∧ BlkL w3 w.heap.size 25 [.slice A n c] ∧ BlkL w3 (w.heap.size + 1) 3 (nums (levs l) ++ [.int .i64 0]) ∧ TS w3 A l ∧ BlkL w3 w2.heap.size 3 (nums (sms l)) ∧ w.heap.size + 1 < w2.heap.size ∧ w2.heap.size < w3.heap.size) := by
        obtain ⟨a1, a2, a3, a4⟩ := hb2.out
        refine (callsIn_wide.2 (sumsAhead_any A l n c w2 HN.out HS.out a4 hf)).mono ?_
        rintro e w3 ⟨rfl, hk, hb⟩
        have hb1 := a2.below hb a2.lt
        exact ⟨rfl, ((hb1.alloc _).cell 0).trans rfl, ((((hb1.alloc _).alloc _).alloc _).cell 0).trans rfl, Lib.hid ⟨a1.trans (hb.mono a1.size), hb1, a3.below hb a3.lt, a4.below hb, hk, a3.lt, hk.lt⟩⟩
      have HSM := Lib.hid hsm
      clear hsm
      have hmk := fun W => mkInts n (by omega) W
      gi_wp2_with (refine ⟨trivial, ?_⟩; gi_at_call 46; refine HSM.out.mono ?_; rintro e w3 ⟨rfl, q2, q3, hb3⟩; clear HSM)
      have hA0 : ∀ b, A.map (·.block) = some b → b < w.heap.size := by
        obtain ⟨t, b, o, _, rfl, hbl, _⟩ := hts.at (k := 0) (by have := HN.out; omega)
        intro b' hb'; simp at hb'; omega
      have hst : CallsIn Fence.wide 2 Tryz.prog 47 #[.slice A n c, .slice (some ⟨w.heap.size + 1, 0, none⟩) n n] (((w3.alloc (.cells #[.slice (some ⟨w2.heap.size, 0, none⟩) (n + 1) (n + 1)] 48)).alloc (.cells (nums (List.replicate n 0)).toArray 3)).alloc (.cells #[.slice (some ⟨w3.heap.size + 1, 0, none⟩) n n] 48)) fun e w7 =>
          e = .returned (.func (.func 77) #[] #[.pointer (some ⟨w3.heap.size + 3, 0, none⟩), .pointer (some ⟨w3.heap.size + 4, 0, none⟩)]) ∧
          Hid (w7.heap.size = w3.heap.size + 5 ∧ LayS w w2.heap.size w3.heap.size A l n c w7 ∧ BlkL w7 (w3.heap.size + 1) 3 (nums (List.replicate n 0))) := by
        obtain ⟨a1, a2, a3, a4, a5, a6, a7⟩ := hb3.out
        refine (callsIn_wide.2 (stops_any _ _ _ _ _ _ _)).mono ?_
        rintro e w7 ⟨rfl, rfl⟩
        have e1 := BlkL.new w3 48 [.slice (some ⟨w2.heap.size, 0, none⟩) (n + 1) (n + 1)]
        have e2 := BlkL.new (w3.alloc (.cells #[.slice (some ⟨w2.heap.size, 0, none⟩) (n + 1) (n + 1)] 48)) 3 (nums (List.replicate n 0))
        have e3 := BlkL.new ((w3.alloc (.cells #[.slice (some ⟨w2.heap.size, 0, none⟩) (n + 1) (n + 1)] 48)).alloc (.cells (nums (List.replicate n 0)).toArray 3)) 48 [.slice (some ⟨w3.heap.size + 1, 0, none⟩) n n]
        have e4 := BlkL.new (((w3.alloc (.cells #[.slice (some ⟨w2.heap.size, 0, none⟩) (n + 1) (n + 1)] 48)).alloc (.cells (nums (List.replicate n 0)).toArray 3)).alloc (.cells #[.slice (some ⟨w3.heap.size + 1, 0, none⟩) n n] 48)) 25 [.slice A n c]
        have e5 := BlkL.new ((((w3.alloc (.cells #[.slice (some ⟨w2.heap.size, 0, none⟩) (n + 1) (n + 1)] 48)).alloc (.cells (nums (List.replicate n 0)).toArray 3)).alloc (.cells #[.slice (some ⟨w3.heap.size + 1, 0, none⟩) n n] 48)).alloc (.cells #[.slice A n c] 25)) 48 [.slice (some ⟨w.heap.size + 1, 0, none⟩) n n]
        simp only [World.size_alloc] at e1 e2 e3 e4 e5
        refine ⟨by simp, Lib.hid ⟨by simp, ⟨?_, ((((a2.alloc _).alloc _).alloc _).alloc _).alloc _, ((((a3.alloc _).alloc _).alloc _).alloc _).alloc _, ((((a4.alloc _).alloc _).alloc _).alloc _).alloc _, ((((a5.alloc _).alloc _).alloc _).alloc _).alloc _, a6, a7, (((e1.alloc _).alloc _).alloc _).alloc _, (e3.alloc _).alloc _, e4.alloc _, e5, hA0⟩, ((e2.alloc _).alloc _).alloc _⟩⟩
        have hs := a1.size
        exact ((((a1.alloc hs _).alloc (by simp; omega) _).alloc (by simp; omega) _).alloc (by simp; omega) _).alloc (by simp; omega) _
      have HST := Lib.hid hst
      clear hst
      gi_wp2_with (refine ⟨trivial, ?_⟩; gi_at_call 47; refine HST.out.mono ?_; rintro e w7 ⟨rfl, hb7⟩; clear HST)
      obtain ⟨hz7, hL7, hB7⟩ := hb7.out
      have hseq := stops_seq 2 (w3.heap.size + 1) A (some ⟨w.heap.size + 1, 0, none⟩) l c n (w3.heap.size + 3) (w3.heap.size + 4) (by decide) HS.out hf w7 (by omega) (by rw [HN.out]; exact hL7.blst) (by rw [HN.out]; exact hL7.blev) (by omega) (by omega) hL7.toks
        (fun b hb => by have := hL7.old b hb; have := hL7.o1; have := hL7.o2; omega) (IntRow.is (.inr ⟨_, _, rfl, hL7.lev⟩)) (fun b hb => by simp at hb; have := hL7.o1; have := hL7.o2; omega)
      rw [HN.out] at hseq
      rw [show List.replicate n (0 : Int) = szF l (n - 0) from by rw [Nat.sub_zero, ← HN.out, szF_none]] at hB7
      have HSEQ := Lib.hid hseq
      have HL7 := Lib.hid hL7
      have HB7 := Lib.hid hB7
      clear hb7 hL7 hB7 hseq hb3 hb2 q1 q2 q3 hmk
      refine wpIn_range_w rfl (by decide) (gf := 77) (lb := #[.pointer (some ⟨w3.heap.size + 3, 0, none⟩), .pointer (some ⟨w3.heap.size + 4, 0, none⟩)]) rfl trivial (enters_of Tryz.func77 (by kernel_rfl) rfl) (G := w3.heap.size + 1) (N := n) (by omega) HSEQ.out (fun _ => rfl)
        (fun i W => LayS w w2.heap.size w3.heap.size A l n c W ∧ BlkL W (w3.heap.size + 1) 3 (nums (szF l (n - i))))
        (fun s X Y row hs hg hr => ⟨hs.1.grown hg (fun r e => .inr (by have := hr r e; omega)), hs.2.grown hg (fun e => by have := hr _ e.symm; omega)⟩)
        ⟨HL7.out, HB7.out⟩
        (fun x => { tmps := #[.slice A n c, .pointer (some ⟨w.heap.size, 0, none⟩), .slice none 0 0, .slice (some ⟨w.heap.size + 1, 0, none⟩) n n, .pointer (some ⟨w3.heap.size, 0, none⟩), .pointer (some ⟨w3.heap.size + 1 + 1, 0, none⟩), .int .i64 ((l.length - 1 - x : Nat) : Int), .int .i64 (nx l (levI l (l.length - 1 - x)) (l.length - 1 - x + 1) : Int), .slice A n c, .slice (some ⟨w.heap.size + 1, 0, none⟩) n n, .slice (some ⟨w.heap.size + 1, 0, none⟩) n n, .int .i64 n, .bool false, .slice A n c, .slice (some ⟨w2.heap.size, 0, none⟩) (n + 1) (n + 1), .slice A n c, .int .i64 n, .slice (some ⟨w3.heap.size + 1, 0, none⟩) n n, .slice A n c, .slice (some ⟨w.heap.size + 1, 0, none⟩) n n, .func (.func 77) #[] #[.pointer (some ⟨w3.heap.size + 3, 0, none⟩), .pointer (some ⟨w3.heap.size + 4, 0, none⟩)], .int .i64 ((l.length - 1 - x : Nat) : Int), .int .i64 (nx l (levI l (l.length - 1 - x)) (l.length - 1 - x + 1) : Int), undef, undef, undef, undef, undef, undef, undef, undef, undef, undef, undef, undef, undef, undef, undef, undef, undef, undef, undef, undef, undef, undef, undef, undef, undef, undef, undef, undef, undef, undef], defers := [] }) ?assign ?body ?done
      case assign =>
        intro ll x W K hK
        simp only [stE]
        gi_wp2
        exact hK
      case body =>
        rintro ll x W ⟨hL, hB⟩ hx
        obtain ⟨k, hk⟩ : ∃ k, k = l.length - 1 - x := ⟨_, rfl⟩
        rw [← hk]
        have hlen := HN.out
        have hkl : k < l.length := by omega
        have hnx : n - x = k + 1 := by omega
        have hnx1 : n - (x + 1) = k := by omega
        rw [hnx] at hB
        rw [hnx1]
        have hstb := nx_bd (levI l k) (show k + 1 ≤ l.length by omega)
        have SIZ := Lib.hid (fun t (ht : l[k]? = some t) (h12 : t.k = 2 ∨ t.k = 1) => sizI_min HS.out ht h12)
        generalize hst : nx l (levI l k) (k + 1) = st at *
        obtain ⟨hst1, hst2⟩ := hstb
        obtain ⟨t, b, o, ht, rfl, hbl, _⟩ := hL.toks.at (k := k) hkl
        have hs := hf k t ht
        obtain ⟨hbl3, c0, c1, c2, c3⟩ := hL.toks.get ht
        have hok := (strB_true HS.out).2.1
        have b1 := smN_bd hok (show k ≤ l.length by omega)
        have b2 := smN_bd hok hst2
        obtain ⟨b10, b11⟩ := b1
        obtain ⟨b20, b21⟩ := b2
        have v0 := (hL.lst.cell 0).trans rfl
        have v1 := (hL.bsum.cell 0).trans rfl
        have v2 := (hL.bsiz.cell 0).trans rfl
        have v3 := (hL.sums.cell k).trans (nums_at (sms_at l (show k ≤ l.length by omega)))
        have v4 := (hL.sums.cell st).trans (nums_at (sms_at l hst2))
        have v5 := (hB.cell k).trans (nums_at (szF_at hkl))
        have v6 := hB.frozen k
        have HL := Lib.hid hL
        have HB := Lib.hid hB
        have HT := Lib.hid ht
        have hkn : k < n := by omega
        have hsn : st ≤ n := by omega
        clear hL hB ht hk hnx hnx1 hok hst hlen hst2 hkl
        have i1 : (k : Int) < n := by omega
        have i2 : (st : Int) < (n : Int) + 1 := by omega
        have i3 : (k : Int) < (n : Int) + 1 := by omega
        have hd0 : ∀ p : Addr, W.drew.cell? p = W.cell? p := fun _ => rfl
        have fin : ∀ (w1 : World) (y : Int), Below W.heap.size W w1 → sizI l k t = y → W.grownBy (w1.setCell ⟨w3.heap.size + 1, k, none⟩ (.int .i64 y)) (some (w3.heap.size + 1)) ∧ LayS w w2.heap.size w3.heap.size (some ⟨b, o, none⟩) l n c (w1.setCell ⟨w3.heap.size + 1, k, none⟩ (.int .i64 y)) ∧ BlkL (w1.setCell ⟨w3.heap.size + 1, k, none⟩ (.int .i64 y)) (w3.heap.size + 1) 3 (nums (szF l k)) := by
          intro w1 y hb1 hy
          have g1 := grown_of_below hb1
          have g2 := grown_set w1 ⟨w3.heap.size + 1, k, none⟩ (.int .i64 y)
          have g3 : W.grownBy (w1.setCell ⟨w3.heap.size + 1, k, none⟩ (.int .i64 y)) (some (w3.heap.size + 1)) :=
            ⟨g2.os.trans g1.os, g2.tape.trans g1.tape, g2.output.trans g1.output, Nat.le_trans g1.size g2.size, fun q hq hne => (g2.block q (Nat.lt_of_lt_of_le hq g1.size) hne).trans (g1.block q hq (by simp))⟩
          refine ⟨g3, HL.out.grown g3 (fun r e => by injection e with e; exact .inl e.symm), ?_⟩
          have h1 := (HB.out.grown g1 (by simp)).set k (.int .i64 y)
          rw [nums_set, szF_set HT.out hy] at h1
          exact h1
        have xw : IntKind.i64.wrap (smN l st - smN l k) = smN l st - smN l k := IntWalk.i64_in _ (by omega)
        by_cases h2 : t.k = 2
        · gi_wp2
          have hmin : sizI l k t = if smN l st - smN l k < 1000000 then smN l st - smN l k else 1000000 := by
            rw [SIZ.out t HT.out (.inl h2)]; split <;> omega
          have HF := Lib.hid (fin W.drew _ (Below.refl _ W).drew hmin)
          clear fin hmin
          refine wpIn_region_dets (F := Fence.wide) (vs := [.slice (some ⟨w3.heap.size + 1, 0, none⟩) n n, .int .i64 k, .slice (some ⟨w2.heap.size, 0, none⟩) (n + 1) (n + 1), .int .i64 st, .pointer (some ⟨w2.heap.size, st, none⟩), .int .i64 (smN l st), .slice (some ⟨w2.heap.size, 0, none⟩) (n + 1) (n + 1), .int .i64 k, .pointer (some ⟨w2.heap.size, k, none⟩), .int .i64 (smN l k), .int .i64 (smN l st - smN l k), .int .i64 (if smN l st - smN l k < 1000000 then smN l st - smN l k else 1000000), .pointer (some ⟨w3.heap.size + 1, k, none⟩), undef])
            (fun w' => w' = W.drew) (fun w' => w' = W.drew.setCell ⟨w3.heap.size + 1, k, none⟩ (.int .i64 (if smN l st - smN l k < 1000000 then smN l st - smN l k else 1000000))) _ (fun _ => trivial) (by kernel_rfl) (by kernel_rfl) rfl rfl ?_ ?_
          · simp only [putAll, Act.put, List.setIfInBounds_toArray, List.set_cons_succ, List.set_cons_zero]
            simp only [GvL]
            refine ⟨?_, ?_, ?_, ?_, ?_, ?_, ?_, ?_, ?_, ?_, ?_, ?_, ?_, ?_⟩
            all_goals (rintro w' rfl)
            all_goals go_simp
            all_goals first | exact ⟨rfl, rfl⟩ | (rw [xw]; exact ⟨rfl, rfl⟩)
          · rintro w' rfl
            simp only [putAll, Act.put, List.setIfInBounds_toArray, List.set_cons_succ, List.set_cons_zero]
            generalize W.drew.setCell ⟨w3.heap.size + 1, k, none⟩ (.int .i64 (if smN l st - smN l k < 1000000 then smN l st - smN l k else 1000000)) = w9 at *
            gi_wp2
            exact HF.out
        · by_cases h1 : t.k = 1
          · have h2' : (t.k == 2) = false := by simp [h2]
            have HSZ := Lib.hid (SIZ.out t HT.out (.inr h1))
            clear h2
            gi_wp2
            have hmin : sizI l k t = if smN l st - smN l k < 1000000 then smN l st - smN l k else 1000000 := by
              rw [HSZ.out]; split <;> omega
            have HF := Lib.hid (fin W.drew _ (Below.refl _ W).drew hmin)
            clear fin hmin
            refine wpIn_region_dets (F := Fence.wide) (vs := [.slice (some ⟨w3.heap.size + 1, 0, none⟩) n n, .int .i64 k, .slice (some ⟨w2.heap.size, 0, none⟩) (n + 1) (n + 1), .int .i64 st, .pointer (some ⟨w2.heap.size, st, none⟩), .int .i64 (smN l st), .slice (some ⟨w2.heap.size, 0, none⟩) (n + 1) (n + 1), .int .i64 k, .pointer (some ⟨w2.heap.size, k, none⟩), .int .i64 (smN l k), .int .i64 (smN l st - smN l k), .int .i64 (if smN l st - smN l k < 1000000 then smN l st - smN l k else 1000000), .pointer (some ⟨w3.heap.size + 1, k, none⟩), undef])
              (fun w' => w' = W.drew) (fun w' => w' = W.drew.setCell ⟨w3.heap.size + 1, k, none⟩ (.int .i64 (if smN l st - smN l k < 1000000 then smN l st - smN l k else 1000000))) _ (fun _ => trivial) (by kernel_rfl) (by kernel_rfl) rfl rfl ?_ ?_
            · simp only [putAll, Act.put, List.setIfInBounds_toArray, List.set_cons_succ, List.set_cons_zero]
              simp only [GvL]
              refine ⟨?_, ?_, ?_, ?_, ?_, ?_, ?_, ?_, ?_, ?_, ?_, ?_, ?_, ?_⟩
              all_goals (rintro w' rfl)
              all_goals go_simp
              all_goals first | exact ⟨rfl, rfl⟩ | (rw [xw]; exact ⟨rfl, rfl⟩)
            · rintro w' rfl
              simp only [putAll, Act.put, List.setIfInBounds_toArray, List.set_cons_succ, List.set_cons_zero]
              generalize W.drew.setCell ⟨w3.heap.size + 1, k, none⟩ (.int .i64 (if smN l st - smN l k < 1000000 then smN l st - smN l k else 1000000)) = w9 at *
              gi_wp2
              exact HF.out
          · have h2' : (t.k == 2) = false := by simp [h2]
            have h1' : (t.k == 1) = false := by simp [h1]
            have hsz : sizI l k t = widB t.k t.s t.d t.o := by unfold sizI; rw [if_neg (by simp [h1, h2])]; rfl
            clear h2 h1
            have l1 := HL.out.lst.lt
            have l2 := HL.out.bsiz.lt
            have l3 := HB.out.lt
            have HFIN := Lib.hid (fun w1 hb1 => fin w1 _ hb1 hsz)
            clear fin hsz SIZ
            gi_wp2
            refine wpIn_region_dets (F := Fence.wide) (vs := [.slice (some ⟨w3.heap.size + 1, 0, none⟩) n n, .int .i64 k, .slice (some ⟨b, o, none⟩) n c, .int .i64 k, .pointer (some ⟨b, o + k * 4, none⟩), .agg #[.int .i64 t.k, .string t.s, .int .i64 t.d, .int .i64 t.o], .int .i64 (widB t.k t.s t.d t.o), .pointer (some ⟨w3.heap.size + 1, k, none⟩), undef])
              (fun w' => Below W.heap.size W w') (fun w' => ∃ w1, Below W.heap.size W w1 ∧ w' = w1.setCell ⟨w3.heap.size + 1, k, none⟩ (.int .i64 (widB t.k t.s t.d t.o))) _ (fun _ => trivial) (by kernel_rfl) (by kernel_rfl) rfl (Below.refl _ W).drew ?_ ?_
            · simp only [putAll, Act.put, List.setIfInBounds_toArray, List.set_cons_succ, List.set_cons_zero]
              simp only [GvL]
              have lay : ∀ w', Below W.heap.size W w' → (w'.cell? ⟨w.heap.size, 0, none⟩ = some (.slice (some ⟨b, o, none⟩) n c) ∧ w'.cell? ⟨w3.heap.size + 1 + 1, 0, none⟩ = some (.slice (some ⟨w3.heap.size + 1, 0, none⟩) n n) ∧
                  w'.cell? ⟨b, o + k * 4, none⟩ = some (.int .i64 t.k) ∧ w'.cell? ⟨b, o + k * 4 + 1, none⟩ = some (.string t.s) ∧ w'.cell? ⟨b, o + k * 4 + 2, none⟩ = some (.int .i64 t.d) ∧ w'.cell? ⟨b, o + k * 4 + 3, none⟩ = some (.int .i64 t.o) ∧
                  w'.cell? ⟨w3.heap.size + 1, k, none⟩ = some (.int .i64 0) ∧ w'.frozen? ⟨w3.heap.size + 1, k, none⟩ = false) := fun w' hw =>
                ⟨(hw.cell (p := ⟨_, _, none⟩) l1).trans v0, (hw.cell (p := ⟨_, _, none⟩) l2).trans v2, (hw.cell (p := ⟨_, _, none⟩) hbl3).trans c0, (hw.cell (p := ⟨_, _, none⟩) hbl3).trans c1, (hw.cell (p := ⟨_, _, none⟩) hbl3).trans c2, (hw.cell (p := ⟨_, _, none⟩) hbl3).trans c3, (hw.cell (p := ⟨_, _, none⟩) l3).trans v5, (HB.out.below hw l3).frozen k⟩
              refine ⟨?_, ?_, ?_, ?_, ?_, ?_, ?_, ?_, ?_⟩
              all_goals (intro w' hw; obtain ⟨p1, p2, p3, p4, p5, p6, p7, p8⟩ := lay w' hw)
              all_goals (have HW := Lib.hid hw; clear hw)
              all_goals go_simp
              all_goals first
                | exact ⟨rfl, HW.out⟩
                | exact ⟨rfl, w', HW.out, rfl⟩
                | (refine ⟨fun h => (by cases h), (callsIn_wide.2 (WidthOf_any _ _ _ _ _ hs)).mono ?_⟩; rintro e w5 ⟨rfl, hb5⟩; exact ⟨rfl, HW.out.trans (hb5.mono HW.out.size)⟩)
            · rintro w' ⟨w1, hb1, rfl⟩
              simp only [putAll, Act.put, List.setIfInBounds_toArray, List.set_cons_succ, List.set_cons_zero]
              have HF := Lib.hid (HFIN.out w1 hb1)
              generalize w1.setCell ⟨w3.heap.size + 1, k, none⟩ (.int .i64 (widB t.k t.s t.d t.o)) = w9 at *
              gi_wp2
              exact HF.out
      case done =>
        rintro D W hD ⟨hL, hB⟩ hK
        rw [Nat.sub_self, szF_all] at hB
        have q := (hL.bsiz.cell 0).trans rfl
        have HL := Lib.hid hL
        have HB := Lib.hid hB
        clear hL hB
        gi_wp2
        refine ⟨by simp, .inl ⟨_, _, rfl, run_takeDeferred hK, ?_⟩⟩
        refine ⟨_, results_tmp rfl _ _ _, ?_⟩
        rw [szsB_yes HS.out]
        have hg := grownBy_putObj' W D (.deferred none)
        have hs3 := HL.out.o2
        have hs2 := HL.out.o1
        refine ⟨HL.out.below.trans (belowK_b (w := w) (Nat.le_refl _) W D _ _ (by omega) hK rfl rfl), some ⟨w3.heap.size + 1, 0, none⟩, n, ?_, (fun b hb => by simp at hb; omega), (fun h => by cases h), .inr ⟨_, [], rfl, ?_⟩⟩
        · rw [szs_length, HN.out]; rfl
        · rw [List.append_nil]
          exact HB.out.grown hg (fun e => by injection e with e; omega)
end Go.Proofs.YthjkgbcomjiejabGreatDoor
