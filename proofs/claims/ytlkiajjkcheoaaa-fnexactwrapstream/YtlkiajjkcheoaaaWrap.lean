/-
  WrapStream on both sides.
-/
import Derived.Test.YtlkiajjkcheoaaaJoin
import Derived.Test.YtlkiajjkcheoaaaLaw3
import Derived.Test.YtlkiajjkcheoaaaInts
namespace Go.Proofs.Ytlkiajjkcheoaaa
open Go.RowKit
set_option linter.unusedVariables false

/-- the TokBegin that WrapStream lays ahead: the zero token where it can't be. -/
def bgOk (b : Bool) (o : Int) : Bool := tokB 2 ByteArray.empty (if b = true then 1 else 0) o
def bgT (b : Bool) (o : Int) : Tk := if bgOk b o = true then ⟨2, ByteArray.empty, if b = true then 1 else 0, o⟩ else zeroTk
def endT : Tk := ⟨3, ByteArray.empty, 0, 0⟩
def wrB (l : List Tk) (b : Bool) (o : Int) (L : List Tk) : Bool := bgOk b o && (strB l && strB L)

theorem Begin_any (b : Bool) (o : Int) (w : World) :
    Calls Try.prog 54 #[.bool b, .int .i64 o] w fun e w' => e = .returned (.tuple #[.agg #[.int .i64 (bgT b o).k, .string (bgT b o).s, .int .i64 (bgT b o).d, .int .i64 (bgT b o).o], .bool (bgOk b o)]) ∧ Below w.heap.size w w' := by
  cases b
  · cases h : tokB 2 ByteArray.empty 0 o
    · have e : bgOk false o = false := by simpa [bgOk] using h
      simp only [bgT, e]
      exact BeginF_no o w h
    · have e : bgOk false o = true := by simpa [bgOk] using h
      simp only [bgT, e]
      exact BeginF_yes o w h
  · cases h : tokB 2 ByteArray.empty 1 o
    · have e : bgOk true o = false := by simpa [bgOk] using h
      simp only [bgT, e]
      exact BeginT_no o w h
    · have e : bgOk true o = true := by simpa [bgOk] using h
      simp only [bgT, e]
      exact BeginT_yes o w h
theorem sBegin_any (b : Bool) (o : Int) (w : World) :
    Calls Try.prog 67 #[.bool b, .int .i64 o] w fun e w' => e = .returned (.tuple #[.agg #[.int .i64 (bgT b o).k, .string (bgT b o).s, .int .i64 (bgT b o).d, .int .i64 (bgT b o).o], .bool (bgOk b o)]) ∧ Below w.heap.size w w' := by
  cases b
  · cases h : tokB 2 ByteArray.empty 0 o
    · have e : bgOk false o = false := by simpa [bgOk] using h
      simp only [bgT, e]
      exact sBeginF_no o w h
    · have e : bgOk false o = true := by simpa [bgOk] using h
      simp only [bgT, e]
      exact sBeginF_yes o w h
  · cases h : tokB 2 ByteArray.empty 1 o
    · have e : bgOk true o = false := by simpa [bgOk] using h
      simp only [bgT, e]
      exact sBeginT_no o w h
    · have e : bgOk true o = true := by simpa [bgOk] using h
      simp only [bgT, e]
      exact sBeginT_yes o w h
theorem bgT_fits (b : Bool) (o : Int) : (bgT b o).s.size ≤ maxLen := by unfold bgT; split <;> exact Nat.zero_le _
theorem Fits.one {t : Tk} (h : t.s.size ≤ maxLen) : Fits [t] := by
  intro i u hu
  match i, hu with
  | 0, hu => simp at hu; subst hu; exact h
  | i + 1, hu => simp at hu

theorem PS.three {w : World} {A B C : Option Addr} {la lb lc : List Tk} {n m q c d e : Nat} {t : TypeId} (hn : la.length = n) (hm : lb.length = m) (hq : lc.length = q) (ha : TS w A la) (hb : TS w B lb) (hc : TS w C lc) :
    PS (w.alloc (.cells #[.slice A n c, .slice B m d, .slice C q e] t)) w.heap.size [⟨A, c, la⟩, ⟨B, d, lb⟩, ⟨C, e, lc⟩] := by
  subst hn hm hq
  have hN := BlkL.new w t [.slice A la.length c, .slice B lb.length d, .slice C lc.length e]
  refine ⟨hN.lt, fun i x hx => ?_⟩
  match i, hx with
  | 0, hx => simp at hx; subst hx; exact ⟨(hN.cell 0).trans rfl, ha.alloc _⟩
  | 1, hx => simp at hx; subst hx; exact ⟨(hN.cell 1).trans rfl, hb.alloc _⟩
  | 2, hx => simp at hx; subst hx; exact ⟨(hN.cell 2).trans rfl, hc.alloc _⟩
  | i + 3, hx => simp at hx

theorem grow_of_app {w w' : World} {o : Obj} {row : Option Nat} (h : (w.alloc o).grownBy w' row) : w.grownBy w' row :=
  ⟨h.os, h.tape, h.output, Nat.le_trans (by simp) h.size, fun i hi hne => (h.block i (by simp; omega) hne).trans (Below.heap_alloc w o i hi)⟩

set_option maxHeartbeats 1000000 in
set_option maxRecDepth 100000 in
theorem WrapStream_any (A : Option Addr) (l : List Tk) (n c : Nat) (b : Bool) (o : Int) (w : World) (hn : l.length = n) (hm : n ≤ 1048576) (ha : TS w A l) (fa : Fits l) (L : List Tk) (hL : bgT b o :: (l ++ [endT]) = L) :
    Calls Try.prog 22 #[.slice A n c, .bool b, .int .i64 o] w (TokOut w (wrB l b o L) L) := by
  have HN := Lib.hid hn
  have HL := Lib.hid hL
  clear hn hL
  go_enter Try.func22, Try.ntmps22
  go_wp2_with fail
  refine (Begin_any b o _).mono ?_
  rintro e w1 ⟨rfl, hb1⟩
  have ha1 := ha.below hb1
  have HB1 := Lib.hid hb1
  clear hb1
  cases hok : bgOk b o
  · have HJ := Lib.hid (show wrB l b o L = false from by simp [wrB, hok])
    clear hok
    go_wp2
    go_ret2
    exact ⟨HB1.out.alloc HB1.out.size _, .inr ⟨HJ.out, rfl⟩⟩
  · have HOK := Lib.hid hok
    clear hok
    have hff := bgT_fits b o
    generalize bgT b o = f at *
    go_wp2_with fail
    refine (StreamOk_any _ l _ _ _ HN.out (by omega) (ha1.alloc _) fa).mono ?_
    rintro e w2 ⟨rfl, hb2⟩
    have hbx := (BlkL.new w1 33 [.int .i64 f.k, .string f.s, .int .i64 f.d, .int .i64 f.o]).below hb2 (by simp)
    have q0 := (hbx.cell 0).trans rfl
    have q1 := (hbx.cell 1).trans rfl
    have q2 := (hbx.cell 2).trans rfl
    have q3 := (hbx.cell 3).trans rfl
    have ha2 := (ha1.alloc _).below hb2
    have HB2 := Lib.hid ((HB1.out.alloc HB1.out.size _).trans (hb2.mono (Nat.le_trans HB1.out.size (by simp))))
    clear hb2 hbx
    cases hS : strB l
    · have HJ := Lib.hid (show wrB l b o L = false from by simp [wrB, hS])
      clear hS
      go_wp2
      go_ret2
      exact ⟨HB2.out, .inr ⟨HJ.out, rfl⟩⟩
    · have HJ := Lib.hid (show wrB l b o L = strB L from by simp [wrB, hS, HOK.out])
      clear hS
      go_wp2_with fail
      have hA := TS.of_blk (l := [f]) (BlkL.new w2 33 (flat [f]))
      have hE := TS.of_blk (l := [endT]) (BlkL.new (w2.alloc (.cells (flat [f]).toArray 33)) 33 (flat [endT]))
      have hfit : Fits L := HL.out ▸ (Fits.app (Fits.one hff) (Fits.app fa (Fits.one (t := endT) (Nat.zero_le _))))
      have hps := PS.three (t := 24) (c := 1) (d := c) (e := 1) (hn := rfl) (hm := HN.out) (hq := rfl) (hA.alloc (.cells (flat [endT]).toArray 33)) ((ha2.alloc (.cells (flat [f]).toArray 33)).alloc (.cells (flat [endT]).toArray 33)) hE
      simp only [World.size_alloc, flat, endT, List.length_cons, List.length_nil, Nat.zero_add] at hps
      have hps2 : PS (((w2.alloc (.cells #[.int .i64 f.k, .string f.s, .int .i64 f.d, .int .i64 f.o] 33)).alloc (.cells #[.int .i64 3, .string ⟨#[]⟩, .int .i64 0, .int .i64 0] 33)).alloc (.cells #[.slice (some ⟨w2.heap.size, 0, none⟩) 1 1, .slice A n c, .slice (some ⟨w2.heap.size + 1, 0, none⟩) 1 1] 24)) (w2.heap.size + 1 + 1)
        [⟨some ⟨w2.heap.size, 0, none⟩, 1, [f]⟩, ⟨A, c, l⟩, ⟨some ⟨w2.heap.size + 1, 0, none⟩, 1, [endT]⟩] := hps
      clear hps hA hE
      refine (streamOf_any _ _ 3 3 (n + 2) L _ rfl (by omega) (by rw [← HL.out]; simp [catTo]) (by rw [← HL.out]; simp [HN.out]) (by omega) hps2 hfit).mono ?_
      rintro e w3 ⟨hb3, ⟨hSL, rfl, hk3⟩ | ⟨hSL, rfl⟩⟩
      · have hb3' := (((HB2.out.alloc HB2.out.size _).alloc (Nat.le_trans HB2.out.size (by simp)) _).alloc (Nat.le_trans HB2.out.size (by simp; omega)) _).trans (hb3.mono (Nat.le_trans HB2.out.size (by simp; omega)))
        have HB3 := Lib.hid hb3'
        simp only [World.size_alloc] at hk3
        have HK3 := Lib.hid hk3
        have HS := Lib.hid hSL
        clear hb3 hk3 hSL hb3' hps2
        go_wp2
        go_ret2
        exact ⟨HB3.out, .inl ⟨by rw [HJ.out, HS.out], w2.heap.size + 1 + 1 + 1, rfl, by have := HB2.out.size; omega, HK3.out⟩⟩
      · have hb3' := (((HB2.out.alloc HB2.out.size _).alloc (Nat.le_trans HB2.out.size (by simp)) _).alloc (Nat.le_trans HB2.out.size (by simp; omega)) _).trans (hb3.mono (Nat.le_trans HB2.out.size (by simp; omega)))
        have HB3 := Lib.hid hb3'
        have HS := Lib.hid hSL
        clear hb3 hSL hb3' hps2
        go_wp2
        go_ret2
        exact ⟨HB3.out, .inr ⟨by rw [HJ.out, HS.out], rfl⟩⟩

set_option maxHeartbeats 2000000 in
set_option maxRecDepth 100000 in
theorem sWrapStream_any (A : Option Addr) (l : List Tk) (n c : Nat) (b : Bool) (o : Int) (w : World) (hn : l.length = n) (hm : n ≤ 1048576) (ha : TS w A l) (fa : Fits l) (L : List Tk) (hL : bgT b o :: (l ++ [endT]) = L) :
    Calls Try.prog 42 #[.slice A n c, .bool b, .int .i64 o] w (STokOut w (wrB l b o L) L) := by
  have HN := Lib.hid hn
  have HL := Lib.hid hL
  clear hn hL
  obtain ⟨i0, hi, hz0, hz1, hz2⟩ := info_parts infoTok
  go_enter Try.func42, Try.ntmps42
  go_wp2_with fail
  refine (sBegin_any b o _).mono ?_
  rintro e w1 ⟨rfl, hb1⟩
  have HB1 := Lib.hid hb1
  have hz1' := hb1.size
  clear hb1
  have hff := bgT_fits b o
  obtain ⟨ok, hok⟩ : ∃ ok, bgOk b o = ok := ⟨_, rfl⟩
  have HOK := Lib.hid hok
  rw [hok]
  clear hok
  generalize bgT b o = f at *
  go_wp2
  go_loopw [10, 11] (fun v i wr => ∃ k : Nat, k ≤ n ∧ i = .int .i64 k ∧ wr.ownsRow w.heap.size 33 4 v (1 + k) (flat (f :: l.take k)) ∧ Below w.heap.size w wr) (fun _ i _ => n - (intOf i).toNat)
  case atStart =>
    have h := World.ownsRow_lit (base := w.heap.size) (e := 33) (size := 4) (w1.alloc (.cells #[.int .i64 f.k, .string f.s, .int .i64 f.d, .int .i64 f.o] 33)) #[.int .i64 f.k, .string f.s, .int .i64 f.d, .int .i64 f.o] 1 (by simp; omega) (by decide) rfl
    simp only [World.size_alloc] at h
    exact ⟨0, Nat.zero_le _, rfl, h, (HB1.out.alloc HB1.out.size _).alloc (Nat.le_trans HB1.out.size (by simp)) _⟩
  case round =>
    obtain ⟨k, hk, rfl, hown, hbw⟩ := hrel
    have HO := Lib.hid hown
    have HB := Lib.hid hbw
    have hz := hbw.size
    by_cases hkl : k < n
    · obtain ⟨t, bb, oo, ht, rfl, hbl, _⟩ := ha.at (k := k) (by have := HN.out; omega)
      obtain ⟨hbl', c0, c1, c2, c3⟩ := (ha.below hbw).get ht
      have HT := Lib.hid (show flat (f :: l.take k) ++ [Value.int .i64 t.k, .string t.s, .int .i64 t.d, .int .i64 t.o] = flat (f :: l.take (k + 1)) from by rw [List.take_add_one, ht, ← List.cons_append, flat_append]; rfl)
      clear ht hown hbw
      go_wp2_with (at_builtin; refine wpList_append_own _ rfl _ _ 24 rfl w.heap.size 33 i0 (.agg #[.int .i64 0, .string ByteArray.empty, .int .i64 0, .int .i64 0]) 4 40 Try.underlying24 hi hz0 hz1 hz2 rfl (by decide) _ _ _ rfl (HO.out.alloc _) ⟨wr.heap.size, 0, none⟩ 1 1 [.int .i64 t.k, .string t.s, .int .i64 t.d, .int .i64 t.o] rfl rfl (cell_four_new _ _ _ _ _ _) (by simp [Value.oneCell']) (by simp only [maxLen]; omega) (by omega) (by simp; omega) ?_; intro v' w3 hown3 hgrow3 _; have HB3 := Lib.hid (app_below HB.out HO.out hgrow3); have HO3 := Lib.hid hown3; clear hown3 hgrow3)
      go_roundw
      case rel => exact ⟨k + 1, by omega, by go_num, HT.out ▸ HO3.out, HB3.out⟩
      case measure => simp [intOf] <;> omega
    · have hown' : wr.ownsRow w.heap.size 33 4 u10 (1 + n) (flat (f :: l)) := by
        have hkn : k = n := by omega
        have h := hown
        rw [hkn, List.take_of_length_le (by have := HN.out; omega)] at h
        exact h
      have HO' := Lib.hid hown'
      have ha1 := ha.below hbw
      have fL : Fits L := HL.out ▸ (Fits.app (Fits.one hff) (Fits.app fa (Fits.one (t := endT) (Nat.zero_le _))))
      have HE := Lib.hid (show flat (f :: l) ++ [Value.int .i64 3, .string ByteArray.empty, .int .i64 0, .int .i64 0] = flat L from by rw [← HL.out, ← List.cons_append, flat_append]; rfl)
      clear hown hown' hbw HO
      cases ok
      · have HJ := Lib.hid (show wrB l b o L = false from by simp [wrB, HOK.out])
        go_wp2_with (at_builtin; refine wpList_append_own _ rfl _ _ 24 rfl w.heap.size 33 i0 (.agg #[.int .i64 0, .string ByteArray.empty, .int .i64 0, .int .i64 0]) 4 40 Try.underlying24 hi hz0 hz1 hz2 rfl (by decide) _ _ _ rfl (HO'.out.alloc _) ⟨wr.heap.size, 0, none⟩ 1 1 [.int .i64 3, .string ByteArray.empty, .int .i64 0, .int .i64 0] rfl rfl (cell_four_new _ _ _ _ _ _) (by simp [Value.oneCell']) (by simp only [maxLen]; omega) (by omega) (by simp; omega) ?_; intro v' w3 hown3 hgrow3 _; have HB3 := Lib.hid (app_below HB.out HO'.out hgrow3); have ha3 := ha1.old ha HB.out.size (grow_of_app hgrow3) (fun g e => (HO'.out.lt g e).1); obtain ⟨hLl, A1, c1, rfl, hlo, hts1⟩ := toks_of_own (HE.out ▸ hown3 : w3.ownsRow w.heap.size 33 4 v' (1 + n + 1) (flat L)); have HLL := Lib.hid hLl; have HLO := Lib.hid hlo; clear hown3 hgrow3 hLl hlo)
        go_ret2
        exact ⟨HB3.out, .inr ⟨HJ.out, rfl⟩⟩
      · go_wp2_with (at_builtin; refine wpList_append_own _ rfl _ _ 24 rfl w.heap.size 33 i0 (.agg #[.int .i64 0, .string ByteArray.empty, .int .i64 0, .int .i64 0]) 4 40 Try.underlying24 hi hz0 hz1 hz2 rfl (by decide) _ _ _ rfl (HO'.out.alloc _) ⟨wr.heap.size, 0, none⟩ 1 1 [.int .i64 3, .string ByteArray.empty, .int .i64 0, .int .i64 0] rfl rfl (cell_four_new _ _ _ _ _ _) (by simp [Value.oneCell']) (by simp only [maxLen]; omega) (by omega) (by simp; omega) ?_; intro v' w3 hown3 hgrow3 _; have HB3 := Lib.hid (app_below HB.out HO'.out hgrow3); have ha3 := ha1.old ha HB.out.size (grow_of_app hgrow3) (fun g e => (HO'.out.lt g e).1); obtain ⟨hLl, A1, c1, rfl, hlo, hts1⟩ := toks_of_own (HE.out ▸ hown3 : w3.ownsRow w.heap.size 33 4 v' (1 + n + 1) (flat L)); have HLL := Lib.hid hLl; have HLO := Lib.hid hlo; clear hown3 hgrow3 hLl hlo)
        refine (sStreamOk_any _ l _ _ _ HN.out (by omega) ha3 fa).mono ?_
        rintro e w4 ⟨rfl, hb4⟩
        have HB4 := Lib.hid (HB3.out.trans (hb4.mono HB3.out.size))
        have ht4 := hts1.below hb4
        have hz4 := hb4.size
        clear hb4
        cases hS : strB l
        · have HJ := Lib.hid (show wrB l b o L = false from by simp [wrB, hS])
          clear hS
          go_wp2
          go_ret2
          exact ⟨HB4.out, .inr ⟨HJ.out, rfl⟩⟩
        · have HS := Lib.hid hS
          clear hS
          go_wp2_with fail
          refine (sStreamOk_any _ L _ _ _ HLL.out (by omega) ht4 fL).mono ?_
          rintro e w5 ⟨rfl, hb5⟩
          have HB5 := Lib.hid (HB4.out.trans (hb5.mono HB4.out.size))
          have ht5 := ht4.below hb5
          have hz5 := hb5.size
          clear hb5
          cases hT : strB L
          · have HJ := Lib.hid (show wrB l b o L = false from by simp [wrB, hT])
            clear hT
            go_wp2
            go_ret2
            exact ⟨HB5.out, .inr ⟨HJ.out, rfl⟩⟩
          · have HJ := Lib.hid (show wrB l b o L = true from by simp [wrB, hT, HS.out, HOK.out])
            clear hT
            go_wp2
            go_ret2
            refine ⟨HB5.out, .inl ⟨HJ.out, A1, c1, ?_, fun g hg => ?_, ht5⟩⟩
            · rw [HLL.out]; rfl
            · have := HLO.out g hg; omega
end Go.Proofs.Ytlkiajjkcheoaaa
