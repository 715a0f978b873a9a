/-
  WrapStream on both sides.
-/
import Derived.Test.YteoigpohmgjcbaaJoin
import Derived.Test.YteoigpohmgjcbaaLaw3
import Derived.Test.YteoigpohmgjcbaaInts
namespace Go.Proofs.Yteoigpohmgjcbaa
open Go.RowKit
set_option linter.unusedVariables false

/-- the TokBegin that WrapStream lays ahead: the zero token where it can't be. -/
def bgOk (b : Bool) (o : Int) : Bool := tokB 2 ByteArray.empty (if b = true then 1 else 0) o
def bgT (b : Bool) (o : Int) : Tk := if bgOk b o = true then ⟨2, ByteArray.empty, if b = true then 1 else 0, o⟩ else zeroTk
def endT : Tk := ⟨3, ByteArray.empty, 0, 0⟩
def wrB (l : List Tk) (b : Bool) (o : Int) (L : List Tk) : Bool := bgOk b o && (strB l && strB L)

theorem Begin_any (b : Bool) (o : Int) (w : World) :
    Calls Try.prog 55 #[.bool b, .int .i64 o] w fun e w' => e = .returned (.tuple #[.agg #[.int .i64 (bgT b o).k, .string (bgT b o).s, .int .i64 (bgT b o).d, .int .i64 (bgT b o).o], .bool (bgOk b o)]) ∧ Below w.heap.size w w' := by
  cases b
  · cases h : tokB 2 ByteArray.empty 0 o
    · have e : bgOk false o = false := by simpa [bgOk] using h
      simp only [bgT, e]
      exact BeginF_no o w h
    · have e : bgOk false o = true := by simpa [bgOk] using h
      simp only [bgT, e]
      exact BeginF_yes o w h
  · cases h : tokB 2 ByteArray.empty 1 o
    · have e : bgOk true o = false := by simpa [bgOk] using h
      simp only [bgT, e]
      exact BeginT_no o w h
    · have e : bgOk true o = true := by simpa [bgOk] using h
      simp only [bgT, e]
      exact BeginT_yes o w h
theorem bgT_fits (b : Bool) (o : Int) : (bgT b o).s.size ≤ maxLen := by unfold bgT; split <;> exact Nat.zero_le _
theorem Fits.one {t : Tk} (h : t.s.size ≤ maxLen) : Fits [t] := by
  intro i u hu
  match i, hu with
  | 0, hu => simp at hu; subst hu; exact h
  | i + 1, hu => simp at hu

theorem PS.three {w : World} {A B C : Option Addr} {la lb lc : List Tk} {n m q c d e : Nat} {t : TypeId} (hn : la.length = n) (hm : lb.length = m) (hq : lc.length = q) (ha : TS w A la) (hb : TS w B lb) (hc : TS w C lc) :
    PS (w.alloc (.cells #[.slice A n c, .slice B m d, .slice C q e] t)) w.heap.size [⟨A, c, la⟩, ⟨B, d, lb⟩, ⟨C, e, lc⟩] := by
  subst hn hm hq
  have hN := BlkL.new w t [.slice A la.length c, .slice B lb.length d, .slice C lc.length e]
  refine ⟨hN.lt, fun i x hx => ?_⟩
  match i, hx with
  | 0, hx => simp at hx; subst hx; exact ⟨(hN.cell 0).trans rfl, ha.alloc _⟩
  | 1, hx => simp at hx; subst hx; exact ⟨(hN.cell 1).trans rfl, hb.alloc _⟩
  | 2, hx => simp at hx; subst hx; exact ⟨(hN.cell 2).trans rfl, hc.alloc _⟩
  | i + 3, hx => simp at hx

theorem grow_of_app {w w' : World} {o : Obj} {row : Option Nat} (h : (w.alloc o).grownBy w' row) : w.grownBy w' row :=
  ⟨h.os, h.tape, h.output, Nat.le_trans (by simp) h.size, fun i hi hne => (h.block i (by simp; omega) hne).trans (Below.heap_alloc w o i hi)⟩

set_option maxHeartbeats 1000000 in
set_option maxRecDepth 100000 in
theorem WrapStream_any (A : Option Addr) (l : List Tk) (n c : Nat) (b : Bool) (o : Int) (w : World) (hn : l.length = n) (hm : n ≤ 1048576) (ha : TS w A l) (fa : Fits l) (L : List Tk) (hL : bgT b o :: (l ++ [endT]) = L) :
    Calls Try.prog 32 #[.slice A n c, .bool b, .int .i64 o] w (TokOut w (wrB l b o L) L) := by
  have HN := Lib.hid hn
  have HL := Lib.hid hL
  clear hn hL
  go_enter Try.func32, Try.ntmps32
  go_wp2_with fail
  refine (Begin_any b o _).mono ?_
  rintro e w1 ⟨rfl, hb1⟩
  have ha1 := ha.below hb1
  have HB1 := Lib.hid hb1
  clear hb1
  cases hok : bgOk b o
  · have HJ := Lib.hid (show wrB l b o L = false from by simp [wrB, hok])
    clear hok
    go_wp2
    go_ret2
    exact ⟨HB1.out.alloc HB1.out.size _, .inr ⟨HJ.out, rfl⟩⟩
  · have HOK := Lib.hid hok
    clear hok
    have hff := bgT_fits b o
    generalize bgT b o = f at *
    go_wp2_with fail
    refine (StreamOk_any _ l _ _ _ HN.out (by omega) (ha1.alloc _) fa).mono ?_
    rintro e w2 ⟨rfl, hb2⟩
    have hbx := (BlkL.new w1 45 [.int .i64 f.k, .string f.s, .int .i64 f.d, .int .i64 f.o]).below hb2 (by simp)
    have q0 := (hbx.cell 0).trans rfl
    have q1 := (hbx.cell 1).trans rfl
    have q2 := (hbx.cell 2).trans rfl
    have q3 := (hbx.cell 3).trans rfl
    have ha2 := (ha1.alloc _).below hb2
    have HB2 := Lib.hid ((HB1.out.alloc HB1.out.size _).trans (hb2.mono (Nat.le_trans HB1.out.size (by simp))))
    clear hb2 hbx
    cases hS : strB l
    · have HJ := Lib.hid (show wrB l b o L = false from by simp [wrB, hS])
      clear hS
      go_wp2
      go_ret2
      exact ⟨HB2.out, .inr ⟨HJ.out, rfl⟩⟩
    · have HJ := Lib.hid (show wrB l b o L = strB L from by simp [wrB, hS, HOK.out])
      clear hS
      go_wp2_with fail
      have hA := TS.of_blk (l := [f]) (BlkL.new w2 45 (flat [f]))
      have hE := TS.of_blk (l := [endT]) (BlkL.new (w2.alloc (.cells (flat [f]).toArray 45)) 45 (flat [endT]))
      have hfit : Fits L := HL.out ▸ (Fits.app (Fits.one hff) (Fits.app fa (Fits.one (t := endT) (Nat.zero_le _))))
      have hps := PS.three (t := 26) (c := 1) (d := c) (e := 1) (hn := rfl) (hm := HN.out) (hq := rfl) (hA.alloc (.cells (flat [endT]).toArray 45)) ((ha2.alloc (.cells (flat [f]).toArray 45)).alloc (.cells (flat [endT]).toArray 45)) hE
      simp only [World.size_alloc, flat, endT, List.length_cons, List.length_nil, Nat.zero_add] at hps
      have hps2 : PS (((w2.alloc (.cells #[.int .i64 f.k, .string f.s, .int .i64 f.d, .int .i64 f.o] 45)).alloc (.cells #[.int .i64 3, .string ⟨#[]⟩, .int .i64 0, .int .i64 0] 45)).alloc (.cells #[.slice (some ⟨w2.heap.size, 0, none⟩) 1 1, .slice A n c, .slice (some ⟨w2.heap.size + 1, 0, none⟩) 1 1] 26)) (w2.heap.size + 1 + 1)
        [⟨some ⟨w2.heap.size, 0, none⟩, 1, [f]⟩, ⟨A, c, l⟩, ⟨some ⟨w2.heap.size + 1, 0, none⟩, 1, [endT]⟩] := hps
      clear hps hA hE
      refine (streamOf_any _ _ 3 3 (n + 2) L _ rfl (by omega) (by rw [← HL.out]; simp [catTo]) (by rw [← HL.out]; simp [HN.out]) (by omega) hps2 hfit).mono ?_
      rintro e w3 ⟨hb3, ⟨hSL, rfl, hk3⟩ | ⟨hSL, rfl⟩⟩
      · have hb3' := (((HB2.out.alloc HB2.out.size _).alloc (Nat.le_trans HB2.out.size (by simp)) _).alloc (Nat.le_trans HB2.out.size (by simp; omega)) _).trans (hb3.mono (Nat.le_trans HB2.out.size (by simp; omega)))
        have HB3 := Lib.hid hb3'
        simp only [World.size_alloc] at hk3
        have HK3 := Lib.hid hk3
        have HS := Lib.hid hSL
        clear hb3 hk3 hSL hb3' hps2
        go_wp2
        go_ret2
        exact ⟨HB3.out, .inl ⟨by rw [HJ.out, HS.out], w2.heap.size + 1 + 1 + 1, rfl, by have := HB2.out.size; omega, HK3.out⟩⟩
      · have hb3' := (((HB2.out.alloc HB2.out.size _).alloc (Nat.le_trans HB2.out.size (by simp)) _).alloc (Nat.le_trans HB2.out.size (by simp; omega)) _).trans (hb3.mono (Nat.le_trans HB2.out.size (by simp; omega)))
        have HB3 := Lib.hid hb3'
        have HS := Lib.hid hSL
        clear hb3 hSL hb3' hps2
        go_wp2
        go_ret2
        exact ⟨HB3.out, .inr ⟨by rw [HJ.out, HS.out], rfl⟩⟩

end Go.Proofs.Yteoigpohmgjcbaa
