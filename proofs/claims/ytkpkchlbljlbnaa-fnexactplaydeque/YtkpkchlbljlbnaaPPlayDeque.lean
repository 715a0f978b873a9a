/-
  The law FnExactPlayDeque returns true at every argument: PlayDeque answers as its model does, writes into no argument, and its answers own their memory.
  Conditions: none beyond the row's own; whatever the arguments.
-/
import Derived.Test.YtkpkchlbljlbnaaArd
import Derived.Test.YtkpkchlbljlbnaaPlm
namespace Go.Proofs.Ytkpkchlbljlbnaa.fnExactPlayDeque
open Go.ChangeShapes Go.WideShapes Go.ChangeAt Go.RowKit Go.Joins
set_option linter.unusedVariables false

theorem play_open {N : Int} {ops : List Int} (h : plyB N ops = true) : 1 ≤ N.toNat ∧ N.toNat ≤ 64 ∧ ops.length ≤ 400 ∧ ((N.toNat : Nat) : Int) = N := by
  simp only [plyB, Bool.and_eq_true, decide_eq_true_eq, inB_true] at h
  omega
theorem PlayDeque_any (N : Int) (O : Option Addr) (ops : List Int) (c : Nat) (w : World) (hm : ops.length ≤ 2097152) (hO : IS w O ops) (hw : ∀ x ∈ ops, (Lit.int .i64 x).wf = true) :
    Calls Try.prog 16 #[.int .i64 N, .slice O ops.length c] w (PlayOut w (plyR N ops)) := by
  cases h : plyB N ops
  · rw [plyR_no h]; exact PlayDeque_no N O ops _ c w rfl hm h
  · obtain ⟨h1, h2, h3, h4⟩ := play_open h
    rw [plyR_yes h]
    have := PlayDeque_yes N.toNat O ops _ c w rfl h1 h2 h3 hO hw
    rw [h4] at this
    exact this
theorem sPlayDeque_any (N : Int) (O : Option Addr) (ops : List Int) (c : Nat) (w : World) (hm : ops.length ≤ 2097152) (hO : IS w O ops) (hw : ∀ x ∈ ops, (Lit.int .i64 x).wf = true) :
    Calls Try.prog 15 #[.int .i64 N, .slice O ops.length c] w (PlayOut w (plyR N ops)) := by
  cases h : plyB N ops
  · rw [plyR_no h]; exact sPlayDeque_no N O ops _ c w rfl hm h
  · obtain ⟨h1, h2, h3, h4⟩ := play_open h
    rw [plyR_yes h]
    have := sPlayDeque_yes N.toNat O ops _ c w rfl h1 h2 h3 hO hw
    rw [h4] at this
    exact this
set_option maxHeartbeats 4000000 in
set_option maxRecDepth 100000 in
theorem law (N : Int) (A : Option Addr) (s : List Int) (n c : Nat) (w1 : World) (wn : (Lit.int .i64 N).wf = true) (hn : s.length = n) (hm : n ≤ maxLen) (hi : IA w1 A s) (hw : ∀ x ∈ s, (Lit.int .i64 x).wf = true) :
    Calls Try.prog 12 #[.int .i64 N, .slice A n c] w1 fun e w' => e = .returned (.bool true) ∧ Below w1.heap.size w1 w' := by
  have HN := Lib.hid hn
  have HW := Lib.hid hw
  have HB1 := Lib.hid (Below.refl w1.heap.size w1)
  have hnM : (n : Int) ≤ 9223372036854775807 := by simp only [maxLen] at hm; omega
  clear hn hw
  go_enter Try.func12, Try.ntmps12
  by_cases hbig : (1048576 : Int) < (n : Int)
  · have hbg : decide ((1048576 : Int) < (n : Int)) = true := by simpa using hbig
    have HI := Lib.hid hi
    clear hi
    go_wp2
    go_ret
    exact ⟨rfl, HB1.out⟩
  have hbg : decide ((1048576 : Int) < (n : Int)) = false := by simpa using hbig
  have hsm : n ≤ 2097152 := by omega
  clear hbig
  have HIM := Lib.hid (fun (O : Option Addr) (c : Nat) (w : World) (h : IS w O s) => PlayDeque_any N O s c w (by have := HN.out; omega) h HW.out)
  have HSP := Lib.hid (fun (O : Option Addr) (c : Nat) (w : World) (h : IS w O s) => sPlayDeque_any N O s c w (by have := HN.out; omega) h HW.out)
  have hle1 := (plyR_le N s).1
  have hle2 := (plyR_le N s).2
  generalize plyR N s = R at *
  obtain ⟨⟨rs, rh, rq⟩, rt⟩ := R
  simp only at hle1 hle2
  have ia1 := hi
  have HIA := Lib.hid ia1
  clear ia1
  go_wp2_with fail
  have ia1 := HIA.out
  clear HIA
  refine (toIntS_any A s n c _ HN.out hsm ia1).mono ?_
  rintro e w2 ⟨hb2, At, ct, rfl, hlot, hcct, hrt⟩
  have ia2 := ia1.below hb2
  have HB2 := Lib.hid (HB1.out.trans (hb2.mono HB1.out.size))
  have z2 := hb2.size
  clear hb2 ia1
  have lot := Lib.hid hlot
  have cct := Lib.hid hcct
  have rt2 := hrt
  have ltt := Lib.hid hrt.lt
  clear hlot hcct hrt
  have HIA := Lib.hid ia2
  clear ia2
  have HRt := Lib.hid rt2
  clear rt2
  go_wp2_with fail
  have ia2 := HIA.out
  clear HIA
  have rt2 := HRt.out
  clear HRt
  refine (HSP.out At ct _ rt2.is).mono ?_
  rintro e w3 ⟨hb3, Aw, cw, Av, cv, rfl, hlow, hlov, hapw, hccw, hccv, hrw, hrv⟩
  simp only at hrw hrv
  have APw := Lib.hid hapw
  clear hapw
  have ia3 := ia2.below hb3
  have HB3 := Lib.hid (HB2.out.trans (hb3.mono HB2.out.size))
  have rt3 := rt2.below hb3
  have z3 := hb3.size
  clear hb3 rt2 ia2
  have low := Lib.hid hlow
  have ccw := Lib.hid hccw
  have rw3 := hrw
  have ltw := Lib.hid hrw.lt
  clear hlow hccw hrw
  have lov := Lib.hid hlov
  have ccv := Lib.hid hccv
  have rv3 := hrv
  have ltv := Lib.hid hrv.lt
  clear hlov hccv hrv
  clear rt3
  have HIA := Lib.hid ia3
  clear ia3
  have HRw := Lib.hid rw3
  clear rw3
  have HRv := Lib.hid rv3
  clear rv3
  go_wp2_with fail
  have ia3 := HIA.out
  clear HIA
  have rw3 := HRw.out
  clear HRw
  have rv3 := HRv.out
  clear HRv
  have hbA := (Below.refl w3.heap.size w3).alloc (Nat.le_refl _) (.cells #[.slice Aw rs.length cw, .int .i64 (rh : Nat), .int .i64 (rq : Nat)] 28)
  have bxw4 := BlkL.new w3 28 [.slice Aw rs.length cw, .int .i64 (rh : Nat), .int .i64 (rq : Nat)]
  have ia4 := ia3.below hbA
  have HB4 := Lib.hid (HB3.out.trans (hbA.mono HB3.out.size))
  have rw4 := rw3.below hbA
  have rv4 := rv3.below hbA
  have z4 := hbA.size
  clear hbA rw3 rv3 ia3
  generalize w3.alloc (.cells #[.slice Aw rs.length cw, .int .i64 (rh : Nat), .int .i64 (rq : Nat)] 28) = w4 at *
  have lbw := bxw4.lt
  refine (toIntS_any A s n c _ HN.out hsm ia4).mono ?_
  rintro e w5 ⟨hb5, Ax, cx, rfl, hlox, hccx, hrx⟩
  have ia5 := ia4.below hb5
  have HB5 := Lib.hid (HB4.out.trans (hb5.mono HB4.out.size))
  have rw5 := rw4.below hb5
  have rv5 := rv4.below hb5
  have bxw5 := bxw4.below hb5 bxw4.lt
  have z5 := hb5.size
  clear hb5 rw4 rv4 bxw4 ia4
  have lox := Lib.hid hlox
  have ccx := Lib.hid hccx
  have rx5 := hrx
  have ltx := Lib.hid hrx.lt
  clear hlox hccx hrx
  have qw0 := bxw5.cell 0
  have qw1 := bxw5.cell 1
  have qw2 := bxw5.cell 2
  have lqw := bxw5.lt
  simp only [List.getElem?_cons_zero, List.getElem?_cons_succ] at qw0 qw1 qw2
  have HIA := Lib.hid ia5
  clear ia5
  have HRw := Lib.hid rw5
  clear rw5
  have HRv := Lib.hid rv5
  clear rv5
  have HRx := Lib.hid rx5
  clear rx5
  have HXw := Lib.hid bxw5
  clear bxw5
  go_wp2_with fail
  clear qw0 qw1 qw2 lqw
  have ia5 := HIA.out
  clear HIA
  have rw5 := HRw.out
  clear HRw
  have rv5 := HRv.out
  clear HRv
  have rx5 := HRx.out
  clear HRx
  have bxw5 := HXw.out
  clear HXw
  refine (HIM.out Ax cx _ rx5.is).mono ?_
  rintro e w6 ⟨hb6, Ag, cg, Ap, cp, rfl, hlog, hlop, hapg, hccg, hccp, hrg, hrp⟩
  simp only at hrg hrp
  have APg := Lib.hid hapg
  clear hapg
  have ia6 := ia5.below hb6
  have HB6 := Lib.hid (HB5.out.trans (hb6.mono HB5.out.size))
  have rw6 := rw5.below hb6
  have rv6 := rv5.below hb6
  have rx6 := rx5.below hb6
  have bxw6 := bxw5.below hb6 bxw5.lt
  have z6 := hb6.size
  clear hb6 rw5 rv5 rx5 bxw5 ia5
  have log := Lib.hid hlog
  have ccg := Lib.hid hccg
  have rg6 := hrg
  have ltg := Lib.hid hrg.lt
  clear hlog hccg hrg
  have lop := Lib.hid hlop
  have ccp := Lib.hid hccp
  have rp6 := hrp
  have ltp := Lib.hid hrp.lt
  clear hlop hccp hrp
  have qw0 := bxw6.cell 0
  have qw1 := bxw6.cell 1
  have qw2 := bxw6.cell 2
  have lqw := bxw6.lt
  simp only [List.getElem?_cons_zero, List.getElem?_cons_succ] at qw0 qw1 qw2
  have HIA := Lib.hid ia6
  clear ia6
  have HRw := Lib.hid rw6
  clear rw6
  have HRv := Lib.hid rv6
  clear rv6
  have HRx := Lib.hid rx6
  clear rx6
  have HRg := Lib.hid rg6
  clear rg6
  have HRp := Lib.hid rp6
  clear rp6
  have HXw := Lib.hid bxw6
  clear bxw6
  go_wp2_with fail
  clear qw0 qw1 qw2 lqw
  have ia6 := HIA.out
  clear HIA
  have rw6 := HRw.out
  clear HRw
  have rv6 := HRv.out
  clear HRv
  have rx6 := HRx.out
  clear HRx
  have rg6 := HRg.out
  clear HRg
  have rp6 := HRp.out
  clear HRp
  have bxw6 := HXw.out
  clear HXw
  have hbA := (Below.refl w6.heap.size w6).alloc (Nat.le_refl _) (.cells #[.slice Ag rs.length cg, .int .i64 (rh : Nat), .int .i64 (rq : Nat)] 28)
  have bxg7 := BlkL.new w6 28 [.slice Ag rs.length cg, .int .i64 (rh : Nat), .int .i64 (rq : Nat)]
  have ia7 := ia6.below hbA
  have HB7 := Lib.hid (HB6.out.trans (hbA.mono HB6.out.size))
  have rw7 := rw6.below hbA
  have rv7 := rv6.below hbA
  have rx7 := rx6.below hbA
  have rg7 := rg6.below hbA
  have rp7 := rp6.below hbA
  have bxw7 := bxw6.below hbA bxw6.lt
  have z7 := hbA.size
  clear hbA rw6 rv6 rx6 rg6 rp6 bxw6 ia6
  generalize w6.alloc (.cells #[.slice Ag rs.length cg, .int .i64 (rh : Nat), .int .i64 (rq : Nat)] 28) = w7 at *
  have lbg := bxg7.lt
  refine (eqDeque_same Ag Aw rs _ _ _ (rh : Nat) (rq : Nat) _ rfl (by omega) rg7.is rw7.is).mono ?_
  rintro e w8 ⟨rfl, hb8⟩
  have ia8 := ia7.below hb8
  have HB8 := Lib.hid (HB7.out.trans (hb8.mono HB7.out.size))
  have rw8 := rw7.below hb8
  have rv8 := rv7.below hb8
  have rx8 := rx7.below hb8
  have rg8 := rg7.below hb8
  have rp8 := rp7.below hb8
  have bxw8 := bxw7.below hb8 bxw7.lt
  have bxg8 := bxg7.below hb8 bxg7.lt
  have z8 := hb8.size
  clear hb8 rw7 rv7 rx7 rg7 rp7 bxw7 bxg7 ia7
  have qw0 := bxw8.cell 0
  have qw1 := bxw8.cell 1
  have qw2 := bxw8.cell 2
  have lqw := bxw8.lt
  have qg0 := bxg8.cell 0
  have qg1 := bxg8.cell 1
  have qg2 := bxg8.cell 2
  have lqg := bxg8.lt
  simp only [List.getElem?_cons_zero, List.getElem?_cons_succ] at qw0 qw1 qw2 qg0 qg1 qg2
  have HIA := Lib.hid ia8
  clear ia8
  have HRw := Lib.hid rw8
  clear rw8
  have HRv := Lib.hid rv8
  clear rv8
  have HRx := Lib.hid rx8
  clear rx8
  have HRg := Lib.hid rg8
  clear rg8
  have HRp := Lib.hid rp8
  clear rp8
  have HXw := Lib.hid bxw8
  clear bxw8
  have HXg := Lib.hid bxg8
  clear bxg8
  go_wp2_with fail
  clear qw0 qw1 qw2 lqw
  clear qg0 qg1 qg2 lqg
  have ia8 := HIA.out
  clear HIA
  have rw8 := HRw.out
  clear HRw
  have rv8 := HRv.out
  clear HRv
  have rx8 := HRx.out
  clear HRx
  have rg8 := HRg.out
  clear HRg
  have rp8 := HRp.out
  clear HRp
  have bxw8 := HXw.out
  clear HXw
  have bxg8 := HXg.out
  clear HXg
  refine (eqIntS_same Ap Av rt _ _ _ _ rfl (by omega) rp8.is rv8.is).mono ?_
  rintro e w9 ⟨rfl, hb9⟩
  have ia9 := ia8.below hb9
  have HB9 := Lib.hid (HB8.out.trans (hb9.mono HB8.out.size))
  have rw9 := rw8.below hb9
  have rv9 := rv8.below hb9
  have rx9 := rx8.below hb9
  have rg9 := rg8.below hb9
  have rp9 := rp8.below hb9
  have bxw9 := bxw8.below hb9 bxw8.lt
  have bxg9 := bxg8.below hb9 bxg8.lt
  have z9 := hb9.size
  clear hb9 rw8 rv8 rx8 rg8 rp8 bxw8 bxg8 ia8
  have qw0 := bxw9.cell 0
  have qw1 := bxw9.cell 1
  have qw2 := bxw9.cell 2
  have lqw := bxw9.lt
  have qg0 := bxg9.cell 0
  have qg1 := bxg9.cell 1
  have qg2 := bxg9.cell 2
  have lqg := bxg9.lt
  simp only [List.getElem?_cons_zero, List.getElem?_cons_succ] at qw0 qw1 qw2 qg0 qg1 qg2
  have HIA := Lib.hid ia9
  clear ia9
  have HRw := Lib.hid rw9
  clear rw9
  have HRv := Lib.hid rv9
  clear rv9
  have HRx := Lib.hid rx9
  clear rx9
  have HRg := Lib.hid rg9
  clear rg9
  have HRp := Lib.hid rp9
  clear rp9
  have HXw := Lib.hid bxw9
  clear bxw9
  have HXg := Lib.hid bxg9
  clear bxg9
  go_wp2_with fail
  clear qw0 qw1 qw2 lqw
  clear qg0 qg1 qg2 lqg
  have ia9 := HIA.out
  clear HIA
  have rw9 := HRw.out
  clear HRw
  have rv9 := HRv.out
  clear HRv
  have rx9 := HRx.out
  clear HRx
  have rg9 := HRg.out
  clear HRg
  have rp9 := HRp.out
  clear HRp
  have bxw9 := HXw.out
  clear HXw
  have bxg9 := HXg.out
  clear HXg
  refine (toIntS_any A s n c _ HN.out hsm ia9).mono ?_
  rintro e w10 ⟨hb10, Ay, cy, rfl, hloy, hccy, hry⟩
  have ia10 := ia9.below hb10
  have HB10 := Lib.hid (HB9.out.trans (hb10.mono HB9.out.size))
  have rw10 := rw9.below hb10
  have rv10 := rv9.below hb10
  have rx10 := rx9.below hb10
  have rg10 := rg9.below hb10
  have rp10 := rp9.below hb10
  have bxw10 := bxw9.below hb10 bxw9.lt
  have bxg10 := bxg9.below hb10 bxg9.lt
  have z10 := hb10.size
  clear hb10 rw9 rv9 rx9 rg9 rp9 bxw9 bxg9 ia9
  have loy := Lib.hid hloy
  have ccy := Lib.hid hccy
  have ry10 := hry
  have lty := Lib.hid hry.lt
  clear hloy hccy hry
  have qw0 := bxw10.cell 0
  have qw1 := bxw10.cell 1
  have qw2 := bxw10.cell 2
  have lqw := bxw10.lt
  have qg0 := bxg10.cell 0
  have qg1 := bxg10.cell 1
  have qg2 := bxg10.cell 2
  have lqg := bxg10.lt
  simp only [List.getElem?_cons_zero, List.getElem?_cons_succ] at qw0 qw1 qw2 qg0 qg1 qg2
  have HIA := Lib.hid ia10
  clear ia10
  have HRw := Lib.hid rw10
  clear rw10
  have HRv := Lib.hid rv10
  clear rv10
  have HRx := Lib.hid rx10
  clear rx10
  have HRg := Lib.hid rg10
  clear rg10
  have HRp := Lib.hid rp10
  clear rp10
  have HRy := Lib.hid ry10
  clear ry10
  have HXw := Lib.hid bxw10
  clear bxw10
  have HXg := Lib.hid bxg10
  clear bxg10
  go_wp2_with fail
  clear qw0 qw1 qw2 lqw
  clear qg0 qg1 qg2 lqg
  have ia10 := HIA.out
  clear HIA
  have rw10 := HRw.out
  clear HRw
  have rv10 := HRv.out
  clear HRv
  have rx10 := HRx.out
  clear HRx
  have rg10 := HRg.out
  clear HRg
  have rp10 := HRp.out
  clear HRp
  have ry10 := HRy.out
  clear HRy
  have bxw10 := HXw.out
  clear HXw
  have bxg10 := HXg.out
  clear HXg
  refine (eqIntS_same Ax Ay s _ _ _ _ rfl (by have := HN.out; omega) rx10.is ry10.is).mono ?_
  rintro e w11 ⟨rfl, hb11⟩
  have ia11 := ia10.below hb11
  have HB11 := Lib.hid (HB10.out.trans (hb11.mono HB10.out.size))
  have rw11 := rw10.below hb11
  have rv11 := rv10.below hb11
  have rx11 := rx10.below hb11
  have rg11 := rg10.below hb11
  have rp11 := rp10.below hb11
  have ry11 := ry10.below hb11
  have bxw11 := bxw10.below hb11 bxw10.lt
  have bxg11 := bxg10.below hb11 bxg10.lt
  have z11 := hb11.size
  clear hb11 rw10 rv10 rx10 rg10 rp10 ry10 bxw10 bxg10 ia10
  clear ry11
  have qw0 := bxw11.cell 0
  have qw1 := bxw11.cell 1
  have qw2 := bxw11.cell 2
  have lqw := bxw11.lt
  have qg0 := bxg11.cell 0
  have qg1 := bxg11.cell 1
  have qg2 := bxg11.cell 2
  have lqg := bxg11.lt
  simp only [List.getElem?_cons_zero, List.getElem?_cons_succ] at qw0 qw1 qw2 qg0 qg1 qg2
  have HIA := Lib.hid ia11
  clear ia11
  have HRw := Lib.hid rw11
  clear rw11
  have HRv := Lib.hid rv11
  clear rv11
  have HRx := Lib.hid rx11
  clear rx11
  have HRg := Lib.hid rg11
  clear rg11
  have HRp := Lib.hid rp11
  clear rp11
  have HXw := Lib.hid bxw11
  clear bxw11
  have HXg := Lib.hid bxg11
  clear bxg11
  go_wp2_with fail
  clear qw0 qw1 qw2 lqw
  clear qg0 qg1 qg2 lqg
  have ia11 := HIA.out
  clear HIA
  have rw11 := HRw.out
  clear HRw
  have rv11 := HRv.out
  clear HRv
  have rx11 := HRx.out
  clear HRx
  have rg11 := HRg.out
  clear HRg
  have rp11 := HRp.out
  clear HRp
  have bxw11 := HXw.out
  clear HXw
  have bxg11 := HXg.out
  clear HXg
  refine (markIntS_any Ax s cx 1 _ (by have := HN.out; omega) (by omega) (by omega) ccx.out rx11).mono ?_
  rintro e w12 ⟨rfl, hmx, hg12⟩
  have ia12 : IA w12 A s := ia11.old hi HB11.out.size hg12 (fun b hb => by have := lox.out b hb; omega)
  have rw12 := rw11.grown hg12 (fun b hb e => by first | (have h1 := ltw.out b hb; have h2 := lox.out b e.symm; omega) | (have h1 := low.out b hb; have h2 := ltx.out b e.symm; omega))
  have rv12 := rv11.grown hg12 (fun b hb e => by first | (have h1 := ltv.out b hb; have h2 := lox.out b e.symm; omega) | (have h1 := lov.out b hb; have h2 := ltx.out b e.symm; omega))
  have rg12 := rg11.grown hg12 (fun b hb e => by first | (have h1 := ltg.out b hb; have h2 := lox.out b e.symm; omega) | (have h1 := log.out b hb; have h2 := ltx.out b e.symm; omega))
  have rp12 := rp11.grown hg12 (fun b hb e => by first | (have h1 := ltp.out b hb; have h2 := lox.out b e.symm; omega) | (have h1 := lop.out b hb; have h2 := ltx.out b e.symm; omega))
  have bxw12 := bxw11.grown hg12 (fun e => by first | (have h2 := lox.out _ e.symm; omega) | (have h2 := ltx.out _ e.symm; omega))
  have bxg12 := bxg11.grown hg12 (fun e => by first | (have h2 := lox.out _ e.symm; omega) | (have h2 := ltx.out _ e.symm; omega))
  have rx12 := hmx
  have HB12 := Lib.hid (HB11.out.grown hg12 HB11.out.size (fun b hb => by have := lox.out b hb; omega))
  have z12 := hg12.size
  clear hmx hg12 rw11 rv11 rx11 rg11 rp11 bxw11 bxg11 ia11
  clear rx12
  have qw0 := bxw12.cell 0
  have qw1 := bxw12.cell 1
  have qw2 := bxw12.cell 2
  have lqw := bxw12.lt
  have qg0 := bxg12.cell 0
  have qg1 := bxg12.cell 1
  have qg2 := bxg12.cell 2
  have lqg := bxg12.lt
  simp only [List.getElem?_cons_zero, List.getElem?_cons_succ] at qw0 qw1 qw2 qg0 qg1 qg2
  have HIA := Lib.hid ia12
  clear ia12
  have HRw := Lib.hid rw12
  clear rw12
  have HRv := Lib.hid rv12
  clear rv12
  have HRg := Lib.hid rg12
  clear rg12
  have HRp := Lib.hid rp12
  clear rp12
  have HXw := Lib.hid bxw12
  clear bxw12
  have HXg := Lib.hid bxg12
  clear bxg12
  go_wp2_with fail
  clear qw0 qw1 qw2 lqw
  clear qg0 qg1 qg2 lqg
  have ia12 := HIA.out
  clear HIA
  have rw12 := HRw.out
  clear HRw
  have rv12 := HRv.out
  clear HRv
  have rg12 := HRg.out
  clear HRg
  have rp12 := HRp.out
  clear HRp
  have bxw12 := HXw.out
  clear HXw
  have bxg12 := HXg.out
  clear HXg
  refine (eqDeque_same Ag Aw rs _ _ _ (rh : Nat) (rq : Nat) _ rfl (by omega) rg12.is rw12.is).mono ?_
  rintro e w13 ⟨rfl, hb13⟩
  have ia13 := ia12.below hb13
  have HB13 := Lib.hid (HB12.out.trans (hb13.mono HB12.out.size))
  have rw13 := rw12.below hb13
  have rv13 := rv12.below hb13
  have rg13 := rg12.below hb13
  have rp13 := rp12.below hb13
  have bxw13 := bxw12.below hb13 bxw12.lt
  have bxg13 := bxg12.below hb13 bxg12.lt
  have z13 := hb13.size
  clear hb13 rw12 rv12 rg12 rp12 bxw12 bxg12 ia12
  have qw0 := bxw13.cell 0
  have qw1 := bxw13.cell 1
  have qw2 := bxw13.cell 2
  have lqw := bxw13.lt
  have qg0 := bxg13.cell 0
  have qg1 := bxg13.cell 1
  have qg2 := bxg13.cell 2
  have lqg := bxg13.lt
  simp only [List.getElem?_cons_zero, List.getElem?_cons_succ] at qw0 qw1 qw2 qg0 qg1 qg2
  have HIA := Lib.hid ia13
  clear ia13
  have HRw := Lib.hid rw13
  clear rw13
  have HRv := Lib.hid rv13
  clear rv13
  have HRg := Lib.hid rg13
  clear rg13
  have HRp := Lib.hid rp13
  clear rp13
  have HXw := Lib.hid bxw13
  clear bxw13
  have HXg := Lib.hid bxg13
  clear bxg13
  go_wp2_with fail
  clear qw0 qw1 qw2 lqw
  clear qg0 qg1 qg2 lqg
  have ia13 := HIA.out
  clear HIA
  have rw13 := HRw.out
  clear HRw
  have rv13 := HRv.out
  clear HRv
  have rg13 := HRg.out
  clear HRg
  have rp13 := HRp.out
  clear HRp
  have bxw13 := HXw.out
  clear HXw
  have bxg13 := HXg.out
  clear HXg
  refine (eqIntS_same Ap Av rt _ _ _ _ rfl (by omega) rp13.is rv13.is).mono ?_
  rintro e w14 ⟨rfl, hb14⟩
  have ia14 := ia13.below hb14
  have HB14 := Lib.hid (HB13.out.trans (hb14.mono HB13.out.size))
  have rw14 := rw13.below hb14
  have rv14 := rv13.below hb14
  have rg14 := rg13.below hb14
  have rp14 := rp13.below hb14
  have bxw14 := bxw13.below hb14 bxw13.lt
  have bxg14 := bxg13.below hb14 bxg13.lt
  have z14 := hb14.size
  clear hb14 rw13 rv13 rg13 rp13 bxw13 bxg13 ia13
  have qw0 := bxw14.cell 0
  have qw1 := bxw14.cell 1
  have qw2 := bxw14.cell 2
  have lqw := bxw14.lt
  have qg0 := bxg14.cell 0
  have qg1 := bxg14.cell 1
  have qg2 := bxg14.cell 2
  have lqg := bxg14.lt
  simp only [List.getElem?_cons_zero, List.getElem?_cons_succ] at qw0 qw1 qw2 qg0 qg1 qg2
  have HIA := Lib.hid ia14
  clear ia14
  have HRw := Lib.hid rw14
  clear rw14
  have HRv := Lib.hid rv14
  clear rv14
  have HRg := Lib.hid rg14
  clear rg14
  have HRp := Lib.hid rp14
  clear rp14
  have HXw := Lib.hid bxw14
  clear bxw14
  have HXg := Lib.hid bxg14
  clear bxg14
  go_wp2_with fail
  clear qw0 qw1 qw2 lqw
  clear qg0 qg1 qg2 lqg
  have ia14 := HIA.out
  clear HIA
  have rw14 := HRw.out
  clear HRw
  have rv14 := HRv.out
  clear HRv
  have rg14 := HRg.out
  clear HRg
  have rp14 := HRp.out
  clear HRp
  have bxw14 := HXw.out
  clear HXw
  have bxg14 := HXg.out
  clear HXg
  refine (markDeque_any Ag rs cg (rh : Nat) (rq : Nat) 1 _ (by omega) (by omega) (by omega) ccg.out rg14).mono ?_
  rintro e w15 ⟨rfl, hmg, hg15⟩
  have ia15 : IA w15 A s := ia14.old hi HB14.out.size hg15 (fun b hb => by have := log.out b hb; omega)
  have rw15 := rw14.grown hg15 (fun b hb e => by first | (have h1 := ltw.out b hb; have h2 := log.out b e.symm; omega) | (have h1 := low.out b hb; have h2 := ltg.out b e.symm; omega))
  have rv15 := rv14.grown hg15 (fun b hb e => by first | (have h1 := ltv.out b hb; have h2 := log.out b e.symm; omega) | (have h1 := lov.out b hb; have h2 := ltg.out b e.symm; omega))
  have rp15 := rp14.grown hg15 (fun b hb e => by first | (have h1 := ltp.out b hb; have h2 := log.out b e.symm; omega) | (have h1 := lop.out b hb; have h2 := ltg.out b e.symm; omega) | exact APg.out b e.symm hb)
  have bxw15 := bxw14.grown hg15 (fun e => by first | (have h2 := log.out _ e.symm; omega) | (have h2 := ltg.out _ e.symm; omega))
  have bxg15 := bxg14.grown hg15 (fun e => by first | (have h2 := log.out _ e.symm; omega) | (have h2 := ltg.out _ e.symm; omega))
  have rg15 := hmg
  have HB15 := Lib.hid (HB14.out.grown hg15 HB14.out.size (fun b hb => by have := log.out b hb; omega))
  have z15 := hg15.size
  clear hmg hg15 rw14 rv14 rg14 rp14 bxw14 bxg14 ia14
  have qw0 := bxw15.cell 0
  have qw1 := bxw15.cell 1
  have qw2 := bxw15.cell 2
  have lqw := bxw15.lt
  have qg0 := bxg15.cell 0
  have qg1 := bxg15.cell 1
  have qg2 := bxg15.cell 2
  have lqg := bxg15.lt
  simp only [List.getElem?_cons_zero, List.getElem?_cons_succ] at qw0 qw1 qw2 qg0 qg1 qg2
  have HIA := Lib.hid ia15
  clear ia15
  have HRw := Lib.hid rw15
  clear rw15
  have HRv := Lib.hid rv15
  clear rv15
  have HRg := Lib.hid rg15
  clear rg15
  have HRp := Lib.hid rp15
  clear rp15
  have HXw := Lib.hid bxw15
  clear bxw15
  have HXg := Lib.hid bxg15
  clear bxg15
  go_wp2_with fail
  clear qw0 qw1 qw2 lqw
  clear qg0 qg1 qg2 lqg
  have ia15 := HIA.out
  clear HIA
  have rw15 := HRw.out
  clear HRw
  have rv15 := HRv.out
  clear HRv
  have rg15 := HRg.out
  clear HRg
  have rp15 := HRp.out
  clear HRp
  have bxw15 := HXw.out
  clear HXw
  have bxg15 := HXg.out
  clear HXg
  refine (markIntS_any Ap rt cp (1 + (rs.length : Int)) _ (by omega) (by omega) (by omega) ccp.out rp15).mono ?_
  rintro e w16 ⟨rfl, hmp, hg16⟩
  have ia16 : IA w16 A s := ia15.old hi HB15.out.size hg16 (fun b hb => by have := lop.out b hb; omega)
  have rw16 := rw15.grown hg16 (fun b hb e => by first | (have h1 := ltw.out b hb; have h2 := lop.out b e.symm; omega) | (have h1 := low.out b hb; have h2 := ltp.out b e.symm; omega))
  have rv16 := rv15.grown hg16 (fun b hb e => by first | (have h1 := ltv.out b hb; have h2 := lop.out b e.symm; omega) | (have h1 := lov.out b hb; have h2 := ltp.out b e.symm; omega))
  have rg16 := rg15.grown hg16 (fun b hb e => by first | (have h1 := ltg.out b hb; have h2 := lop.out b e.symm; omega) | (have h1 := log.out b hb; have h2 := ltp.out b e.symm; omega) | exact APg.out b hb e.symm)
  have bxw16 := bxw15.grown hg16 (fun e => by first | (have h2 := lop.out _ e.symm; omega) | (have h2 := ltp.out _ e.symm; omega))
  have bxg16 := bxg15.grown hg16 (fun e => by first | (have h2 := lop.out _ e.symm; omega) | (have h2 := ltp.out _ e.symm; omega))
  have rp16 := hmp
  have HB16 := Lib.hid (HB15.out.grown hg16 HB15.out.size (fun b hb => by have := lop.out b hb; omega))
  have z16 := hg16.size
  clear hmp hg16 rw15 rv15 rg15 rp15 bxw15 bxg15 ia15
  have HU := Lib.hid (show ∀ i, i < rs.length → (upTo rs 1 rs.length)[i]? = some ((1 : Int) + (i : Int)) from fun i hi => upTo_at _ _ hi hi)
  have HU2 := Lib.hid (show ∀ i, i < rt.length → (upTo rt (1 + (rs.length : Int)) rt.length)[i]? = some ((1 + (rs.length : Int)) + (i : Int)) from fun i hi => upTo_at _ _ hi hi)
  have qw0 := bxw16.cell 0
  have qw1 := bxw16.cell 1
  have qw2 := bxw16.cell 2
  have lqw := bxw16.lt
  have qg0 := bxg16.cell 0
  have qg1 := bxg16.cell 1
  have qg2 := bxg16.cell 2
  have lqg := bxg16.lt
  simp only [List.getElem?_cons_zero, List.getElem?_cons_succ] at qw0 qw1 qw2 qg0 qg1 qg2
  have HIA := Lib.hid ia16
  clear ia16
  have HRw := Lib.hid rw16
  clear rw16
  have HRv := Lib.hid rv16
  clear rv16
  have HRg := Lib.hid rg16
  clear rg16
  have HRp := Lib.hid rp16
  clear rp16
  have HXw := Lib.hid bxw16
  clear bxw16
  have HXg := Lib.hid bxg16
  clear bxg16
  go_wp2_with fail
  clear qw0 qw1 qw2 lqw
  clear qg0 qg1 qg2 lqg
  have ia16 := HIA.out
  clear HIA
  have rw16 := HRw.out
  clear HRw
  have rv16 := HRv.out
  clear HRv
  have rg16 := HRg.out
  clear HRg
  have rp16 := HRp.out
  clear HRp
  have bxw16 := HXw.out
  clear HXw
  have bxg16 := HXg.out
  clear HXg
  refine (heldDeque_any Ag (upTo rs 1 rs.length) _ _ (rh : Nat) (rq : Nat) 1 _ (upTo_length _ _ _) (by omega) (by omega) (by omega) rg16.is HU.out).mono ?_
  rintro e w17 ⟨rfl, hb17⟩
  have ia17 := ia16.below hb17
  have HB17 := Lib.hid (HB16.out.trans (hb17.mono HB16.out.size))
  have rw17 := rw16.below hb17
  have rv17 := rv16.below hb17
  have rg17 := rg16.below hb17
  have rp17 := rp16.below hb17
  have bxw17 := bxw16.below hb17 bxw16.lt
  have bxg17 := bxg16.below hb17 bxg16.lt
  have z17 := hb17.size
  clear hb17 rw16 rv16 rg16 rp16 bxw16 bxg16 ia16
  have qw0 := bxw17.cell 0
  have qw1 := bxw17.cell 1
  have qw2 := bxw17.cell 2
  have lqw := bxw17.lt
  have qg0 := bxg17.cell 0
  have qg1 := bxg17.cell 1
  have qg2 := bxg17.cell 2
  have lqg := bxg17.lt
  simp only [List.getElem?_cons_zero, List.getElem?_cons_succ] at qw0 qw1 qw2 qg0 qg1 qg2
  have HIA := Lib.hid ia17
  clear ia17
  have HRw := Lib.hid rw17
  clear rw17
  have HRv := Lib.hid rv17
  clear rv17
  have HRg := Lib.hid rg17
  clear rg17
  have HRp := Lib.hid rp17
  clear rp17
  have HXw := Lib.hid bxw17
  clear bxw17
  have HXg := Lib.hid bxg17
  clear bxg17
  go_wp2_with fail
  clear qw0 qw1 qw2 lqw
  clear qg0 qg1 qg2 lqg
  have ia17 := HIA.out
  clear HIA
  have rw17 := HRw.out
  clear HRw
  have rv17 := HRv.out
  clear HRv
  have rg17 := HRg.out
  clear HRg
  have rp17 := HRp.out
  clear HRp
  have bxw17 := HXw.out
  clear HXw
  have bxg17 := HXg.out
  clear HXg
  refine (heldIntS_any Ap (upTo rt (1 + (rs.length : Int)) rt.length) _ _ (1 + (rs.length : Int)) _ (upTo_length _ _ _) (by omega) (by omega) (by omega) rp17.is HU2.out).mono ?_
  rintro e w' ⟨rfl, rfl⟩
  have qw0 := bxw17.cell 0
  have qw1 := bxw17.cell 1
  have qw2 := bxw17.cell 2
  have lqw := bxw17.lt
  have qg0 := bxg17.cell 0
  have qg1 := bxg17.cell 1
  have qg2 := bxg17.cell 2
  have lqg := bxg17.lt
  simp only [List.getElem?_cons_zero, List.getElem?_cons_succ] at qw0 qw1 qw2 qg0 qg1 qg2
  have HIA := Lib.hid ia17
  clear ia17
  have HRw := Lib.hid rw17
  clear rw17
  have HRv := Lib.hid rv17
  clear rv17
  have HRg := Lib.hid rg17
  clear rg17
  have HRp := Lib.hid rp17
  clear rp17
  have HXw := Lib.hid bxw17
  clear bxw17
  have HXg := Lib.hid bxg17
  clear bxg17
  go_wp2_with fail
  clear qw0 qw1 qw2 lqw
  clear qg0 qg1 qg2 lqg
  have ia17 := HIA.out
  clear HIA
  have rw17 := HRw.out
  clear HRw
  have rv17 := HRv.out
  clear HRv
  have rg17 := HRg.out
  clear HRg
  have rp17 := HRp.out
  clear HRp
  have bxw17 := HXw.out
  clear HXw
  have bxg17 := HXg.out
  clear HXg
  refine (toIntS_any A s n c _ HN.out hsm ia17).mono ?_
  rintro e w18 ⟨hb18, Au, cu, rfl, hlou, hccu, hru⟩
  have ia18 := ia17.below hb18
  have HB18 := Lib.hid (HB17.out.trans (hb18.mono HB17.out.size))
  have rw18 := rw17.below hb18
  have rv18 := rv17.below hb18
  have rg18 := rg17.below hb18
  have rp18 := rp17.below hb18
  have bxw18 := bxw17.below hb18 bxw17.lt
  have bxg18 := bxg17.below hb18 bxg17.lt
  have z18 := hb18.size
  clear hb18 rw17 rv17 rg17 rp17 bxw17 bxg17 ia17
  have lou := Lib.hid hlou
  have ccu := Lib.hid hccu
  have ru18 := hru
  have ltu := Lib.hid hru.lt
  clear hlou hccu hru
  have qw0 := bxw18.cell 0
  have qw1 := bxw18.cell 1
  have qw2 := bxw18.cell 2
  have lqw := bxw18.lt
  have qg0 := bxg18.cell 0
  have qg1 := bxg18.cell 1
  have qg2 := bxg18.cell 2
  have lqg := bxg18.lt
  simp only [List.getElem?_cons_zero, List.getElem?_cons_succ] at qw0 qw1 qw2 qg0 qg1 qg2
  have HIA := Lib.hid ia18
  clear ia18
  have HRw := Lib.hid rw18
  clear rw18
  have HRv := Lib.hid rv18
  clear rv18
  have HRg := Lib.hid rg18
  clear rg18
  have HRp := Lib.hid rp18
  clear rp18
  have HRu := Lib.hid ru18
  clear ru18
  have HXw := Lib.hid bxw18
  clear bxw18
  have HXg := Lib.hid bxg18
  clear bxg18
  go_wp2_with fail
  clear qw0 qw1 qw2 lqw
  clear qg0 qg1 qg2 lqg
  have ia18 := HIA.out
  clear HIA
  have rw18 := HRw.out
  clear HRw
  have rv18 := HRv.out
  clear HRv
  have rg18 := HRg.out
  clear HRg
  have rp18 := HRp.out
  clear HRp
  have ru18 := HRu.out
  clear HRu
  have bxw18 := HXw.out
  clear HXw
  have bxg18 := HXg.out
  clear HXg
  refine (HIM.out Au cu _ ru18.is).mono ?_
  rintro e w19 ⟨hb19, Ah, ch, Ai, ci, rfl, hloh, hloi, haph, hcch, hcci, hrh, hri⟩
  simp only at hrh hri
  have APh := Lib.hid haph
  clear haph
  have ia19 := ia18.below hb19
  have HB19 := Lib.hid (HB18.out.trans (hb19.mono HB18.out.size))
  have rw19 := rw18.below hb19
  have rv19 := rv18.below hb19
  have rg19 := rg18.below hb19
  have rp19 := rp18.below hb19
  have ru19 := ru18.below hb19
  have bxw19 := bxw18.below hb19 bxw18.lt
  have bxg19 := bxg18.below hb19 bxg18.lt
  have z19 := hb19.size
  clear hb19 rw18 rv18 rg18 rp18 ru18 bxw18 bxg18 ia18
  have loh := Lib.hid hloh
  have cch := Lib.hid hcch
  have rh19 := hrh
  have lth := Lib.hid hrh.lt
  clear hloh hcch hrh
  have loi := Lib.hid hloi
  have cci := Lib.hid hcci
  have ri19 := hri
  have lti := Lib.hid hri.lt
  clear hloi hcci hri
  clear ru19
  have qw0 := bxw19.cell 0
  have qw1 := bxw19.cell 1
  have qw2 := bxw19.cell 2
  have lqw := bxw19.lt
  have qg0 := bxg19.cell 0
  have qg1 := bxg19.cell 1
  have qg2 := bxg19.cell 2
  have lqg := bxg19.lt
  simp only [List.getElem?_cons_zero, List.getElem?_cons_succ] at qw0 qw1 qw2 qg0 qg1 qg2
  have HIA := Lib.hid ia19
  clear ia19
  have HRw := Lib.hid rw19
  clear rw19
  have HRv := Lib.hid rv19
  clear rv19
  have HRg := Lib.hid rg19
  clear rg19
  have HRp := Lib.hid rp19
  clear rp19
  have HRh := Lib.hid rh19
  clear rh19
  have HRi := Lib.hid ri19
  clear ri19
  have HXw := Lib.hid bxw19
  clear bxw19
  have HXg := Lib.hid bxg19
  clear bxg19
  go_wp2_with fail
  clear qw0 qw1 qw2 lqw
  clear qg0 qg1 qg2 lqg
  have ia19 := HIA.out
  clear HIA
  have rw19 := HRw.out
  clear HRw
  have rv19 := HRv.out
  clear HRv
  have rg19 := HRg.out
  clear HRg
  have rp19 := HRp.out
  clear HRp
  have rh19 := HRh.out
  clear HRh
  have ri19 := HRi.out
  clear HRi
  have bxw19 := HXw.out
  clear HXw
  have bxg19 := HXg.out
  clear HXg
  have hbA := (Below.refl w19.heap.size w19).alloc (Nat.le_refl _) (.cells #[.slice Ah rs.length ch, .int .i64 (rh : Nat), .int .i64 (rq : Nat)] 28)
  have bxh20 := BlkL.new w19 28 [.slice Ah rs.length ch, .int .i64 (rh : Nat), .int .i64 (rq : Nat)]
  have ia20 := ia19.below hbA
  have HB20 := Lib.hid (HB19.out.trans (hbA.mono HB19.out.size))
  have rw20 := rw19.below hbA
  have rv20 := rv19.below hbA
  have rg20 := rg19.below hbA
  have rp20 := rp19.below hbA
  have rh20 := rh19.below hbA
  have ri20 := ri19.below hbA
  have bxw20 := bxw19.below hbA bxw19.lt
  have bxg20 := bxg19.below hbA bxg19.lt
  have z20 := hbA.size
  clear hbA rw19 rv19 rg19 rp19 rh19 ri19 bxw19 bxg19 ia19
  generalize w19.alloc (.cells #[.slice Ah rs.length ch, .int .i64 (rh : Nat), .int .i64 (rq : Nat)] 28) = w20 at *
  have lbh := bxh20.lt
  refine (eqDeque_same Ah Aw rs _ _ _ (rh : Nat) (rq : Nat) _ rfl (by omega) rh20.is rw20.is).mono ?_
  rintro e w21 ⟨rfl, hb21⟩
  have ia21 := ia20.below hb21
  have HB21 := Lib.hid (HB20.out.trans (hb21.mono HB20.out.size))
  have rw21 := rw20.below hb21
  have rv21 := rv20.below hb21
  have rg21 := rg20.below hb21
  have rp21 := rp20.below hb21
  have rh21 := rh20.below hb21
  have ri21 := ri20.below hb21
  have bxw21 := bxw20.below hb21 bxw20.lt
  have bxg21 := bxg20.below hb21 bxg20.lt
  have bxh21 := bxh20.below hb21 bxh20.lt
  have z21 := hb21.size
  clear hb21 rw20 rv20 rg20 rp20 rh20 ri20 bxw20 bxg20 bxh20 ia20
  have qw0 := bxw21.cell 0
  have qw1 := bxw21.cell 1
  have qw2 := bxw21.cell 2
  have lqw := bxw21.lt
  have qg0 := bxg21.cell 0
  have qg1 := bxg21.cell 1
  have qg2 := bxg21.cell 2
  have lqg := bxg21.lt
  have qh0 := bxh21.cell 0
  have qh1 := bxh21.cell 1
  have qh2 := bxh21.cell 2
  have lqh := bxh21.lt
  simp only [List.getElem?_cons_zero, List.getElem?_cons_succ] at qw0 qw1 qw2 qg0 qg1 qg2 qh0 qh1 qh2
  have HIA := Lib.hid ia21
  clear ia21
  have HRw := Lib.hid rw21
  clear rw21
  have HRv := Lib.hid rv21
  clear rv21
  have HRg := Lib.hid rg21
  clear rg21
  have HRp := Lib.hid rp21
  clear rp21
  have HRh := Lib.hid rh21
  clear rh21
  have HRi := Lib.hid ri21
  clear ri21
  have HXw := Lib.hid bxw21
  clear bxw21
  have HXg := Lib.hid bxg21
  clear bxg21
  have HXh := Lib.hid bxh21
  clear bxh21
  go_wp2_with fail
  clear qw0 qw1 qw2 lqw
  clear qg0 qg1 qg2 lqg
  clear qh0 qh1 qh2 lqh
  have ia21 := HIA.out
  clear HIA
  have rw21 := HRw.out
  clear HRw
  have rv21 := HRv.out
  clear HRv
  have rg21 := HRg.out
  clear HRg
  have rp21 := HRp.out
  clear HRp
  have rh21 := HRh.out
  clear HRh
  have ri21 := HRi.out
  clear HRi
  have bxw21 := HXw.out
  clear HXw
  have bxg21 := HXg.out
  clear HXg
  have bxh21 := HXh.out
  clear HXh
  refine (eqIntS_same Ai Av rt _ _ _ _ rfl (by omega) ri21.is rv21.is).mono ?_
  rintro e w22 ⟨rfl, hb22⟩
  have ia22 := ia21.below hb22
  have HB22 := Lib.hid (HB21.out.trans (hb22.mono HB21.out.size))
  have rw22 := rw21.below hb22
  have rv22 := rv21.below hb22
  have rg22 := rg21.below hb22
  have rp22 := rp21.below hb22
  have rh22 := rh21.below hb22
  have ri22 := ri21.below hb22
  have bxw22 := bxw21.below hb22 bxw21.lt
  have bxg22 := bxg21.below hb22 bxg21.lt
  have bxh22 := bxh21.below hb22 bxh21.lt
  have z22 := hb22.size
  clear hb22 rw21 rv21 rg21 rp21 rh21 ri21 bxw21 bxg21 bxh21 ia21
  have qw0 := bxw22.cell 0
  have qw1 := bxw22.cell 1
  have qw2 := bxw22.cell 2
  have lqw := bxw22.lt
  have qg0 := bxg22.cell 0
  have qg1 := bxg22.cell 1
  have qg2 := bxg22.cell 2
  have lqg := bxg22.lt
  have qh0 := bxh22.cell 0
  have qh1 := bxh22.cell 1
  have qh2 := bxh22.cell 2
  have lqh := bxh22.lt
  simp only [List.getElem?_cons_zero, List.getElem?_cons_succ] at qw0 qw1 qw2 qg0 qg1 qg2 qh0 qh1 qh2
  have HIA := Lib.hid ia22
  clear ia22
  have HRw := Lib.hid rw22
  clear rw22
  have HRv := Lib.hid rv22
  clear rv22
  have HRg := Lib.hid rg22
  clear rg22
  have HRp := Lib.hid rp22
  clear rp22
  have HRh := Lib.hid rh22
  clear rh22
  have HRi := Lib.hid ri22
  clear ri22
  have HXw := Lib.hid bxw22
  clear bxw22
  have HXg := Lib.hid bxg22
  clear bxg22
  have HXh := Lib.hid bxh22
  clear bxh22
  go_wp2_with fail
  clear qw0 qw1 qw2 lqw
  clear qg0 qg1 qg2 lqg
  clear qh0 qh1 qh2 lqh
  have ia22 := HIA.out
  clear HIA
  have rw22 := HRw.out
  clear HRw
  have rv22 := HRv.out
  clear HRv
  have rg22 := HRg.out
  clear HRg
  have rp22 := HRp.out
  clear HRp
  have rh22 := HRh.out
  clear HRh
  have ri22 := HRi.out
  clear HRi
  have bxw22 := HXw.out
  clear HXw
  have bxg22 := HXg.out
  clear HXg
  have bxh22 := HXh.out
  clear HXh
  refine (heldDeque_any Ag (upTo rs 1 rs.length) _ _ (rh : Nat) (rq : Nat) 1 _ (upTo_length _ _ _) (by omega) (by omega) (by omega) rg22.is HU.out).mono ?_
  rintro e w23 ⟨rfl, hb23⟩
  have ia23 := ia22.below hb23
  have HB23 := Lib.hid (HB22.out.trans (hb23.mono HB22.out.size))
  have rw23 := rw22.below hb23
  have rv23 := rv22.below hb23
  have rg23 := rg22.below hb23
  have rp23 := rp22.below hb23
  have rh23 := rh22.below hb23
  have ri23 := ri22.below hb23
  have bxw23 := bxw22.below hb23 bxw22.lt
  have bxg23 := bxg22.below hb23 bxg22.lt
  have bxh23 := bxh22.below hb23 bxh22.lt
  have z23 := hb23.size
  clear hb23 rw22 rv22 rg22 rp22 rh22 ri22 bxw22 bxg22 bxh22 ia22
  have qw0 := bxw23.cell 0
  have qw1 := bxw23.cell 1
  have qw2 := bxw23.cell 2
  have lqw := bxw23.lt
  have qg0 := bxg23.cell 0
  have qg1 := bxg23.cell 1
  have qg2 := bxg23.cell 2
  have lqg := bxg23.lt
  have qh0 := bxh23.cell 0
  have qh1 := bxh23.cell 1
  have qh2 := bxh23.cell 2
  have lqh := bxh23.lt
  simp only [List.getElem?_cons_zero, List.getElem?_cons_succ] at qw0 qw1 qw2 qg0 qg1 qg2 qh0 qh1 qh2
  have HIA := Lib.hid ia23
  clear ia23
  have HRw := Lib.hid rw23
  clear rw23
  have HRv := Lib.hid rv23
  clear rv23
  have HRg := Lib.hid rg23
  clear rg23
  have HRp := Lib.hid rp23
  clear rp23
  have HRh := Lib.hid rh23
  clear rh23
  have HRi := Lib.hid ri23
  clear ri23
  have HXw := Lib.hid bxw23
  clear bxw23
  have HXg := Lib.hid bxg23
  clear bxg23
  have HXh := Lib.hid bxh23
  clear bxh23
  go_wp2_with fail
  clear qw0 qw1 qw2 lqw
  clear qg0 qg1 qg2 lqg
  clear qh0 qh1 qh2 lqh
  have ia23 := HIA.out
  clear HIA
  have rw23 := HRw.out
  clear HRw
  have rv23 := HRv.out
  clear HRv
  have rg23 := HRg.out
  clear HRg
  have rp23 := HRp.out
  clear HRp
  have rh23 := HRh.out
  clear HRh
  have ri23 := HRi.out
  clear HRi
  have bxw23 := HXw.out
  clear HXw
  have bxg23 := HXg.out
  clear HXg
  have bxh23 := HXh.out
  clear HXh
  refine (heldIntS_any Ap (upTo rt (1 + (rs.length : Int)) rt.length) _ _ (1 + (rs.length : Int)) _ (upTo_length _ _ _) (by omega) (by omega) (by omega) rp23.is HU2.out).mono ?_
  rintro e w' ⟨rfl, rfl⟩
  have qw0 := bxw23.cell 0
  have qw1 := bxw23.cell 1
  have qw2 := bxw23.cell 2
  have lqw := bxw23.lt
  have qg0 := bxg23.cell 0
  have qg1 := bxg23.cell 1
  have qg2 := bxg23.cell 2
  have lqg := bxg23.lt
  have qh0 := bxh23.cell 0
  have qh1 := bxh23.cell 1
  have qh2 := bxh23.cell 2
  have lqh := bxh23.lt
  simp only [List.getElem?_cons_zero, List.getElem?_cons_succ] at qw0 qw1 qw2 qg0 qg1 qg2 qh0 qh1 qh2
  have HIA := Lib.hid ia23
  clear ia23
  have HRw := Lib.hid rw23
  clear rw23
  have HRv := Lib.hid rv23
  clear rv23
  have HRg := Lib.hid rg23
  clear rg23
  have HRp := Lib.hid rp23
  clear rp23
  have HRh := Lib.hid rh23
  clear rh23
  have HRi := Lib.hid ri23
  clear ri23
  have HXw := Lib.hid bxw23
  clear bxw23
  have HXg := Lib.hid bxg23
  clear bxg23
  have HXh := Lib.hid bxh23
  clear bxh23
  go_wp2
  clear qw0 qw1 qw2 lqw
  clear qg0 qg1 qg2 lqg
  clear qh0 qh1 qh2 lqh
  have ia23 := HIA.out
  clear HIA
  have rw23 := HRw.out
  clear HRw
  have rv23 := HRv.out
  clear HRv
  have rg23 := HRg.out
  clear HRg
  have rp23 := HRp.out
  clear HRp
  have rh23 := HRh.out
  clear HRh
  have ri23 := HRi.out
  clear HRi
  have bxw23 := HXw.out
  clear HXw
  have bxg23 := HXg.out
  clear HXg
  have bxh23 := HXh.out
  clear HXh
  go_ret
  exact ⟨rfl, HB23.out⟩

set_option maxRecDepth 100000 in
theorem lifted (os : Os) (started : os.Started) (H : Type) (enc : TypeId × Value → H) :
    ReturnsInHanded {} Try.checked os 12 .any (Rows.fnExactPlayDequeSpec.pre6 enc Try.prog Try.f12 Rows.fnExactPlayDequeRow.domain false) (Rows.fnExactPlayDequeSpec.post enc Try.prog Try.f12 false true false false) := by
  refine returnsInHanded_of_change (C := Try.checked) own started (by kernel_rfl) Try.func12
    (ChangeSpec.witness6 (enc := enc) (C := Try.checked) false ⟨#[], #[.int .i64 0, .slice none 0 0], []⟩ 8 (by kernel_rfl) (by kernel_rfl) (by kernel_rfl) (by kernel_rfl)) ?_
  intro W base args ds gs before hval0 hW _ _
  have hval : ∀ (j : Nat) t v, Try.f12.params[j]? = some t → args[j]? = some v → Value.okWide Try.prog W .any base t v := hval0
  have hW' := hW
  obtain ⟨p, q, hA0, hV, rfl, _, _⟩ := hW
  have hA : DataW.TrodAll enc Try.prog W 0 (fun _ => true) true Try.f12.params.toList args.toList ds p := hA0
  rw [Try.params12] at hA hval
  obtain ⟨v0, vs0, d0, ds0, p0, q0, hargs0, rfl, rfl, h0, r0⟩ := trodAll_cons hA
  obtain ⟨v1, vs1, d1, ds1, p1, q1, hargs1, rfl, rfl, h1, r1⟩ := trodAll_cons r0
  obtain ⟨rfl, rfl, rfl⟩ := trodAll_nil r1
  obtain rfl : args = #[v0, v1] := by cases args; simp_all
  obtain ⟨rfl, rfl⟩ := trodVars_none hV
  have z0 := h0
  have lt0 : ∀ x ∈ p0, x.block < W.heap.size := by obtain ⟨m, hm⟩ := z0; exact DataW.trod_lt m _ _ _ hm
  have z1 := h1
  have lt1 : ∀ x ∈ p1, x.block < W.heap.size := by obtain ⟨m, hm⟩ := z1; exact DataW.trod_lt m _ _ _ hm
  obtain ⟨x0, rfl⟩ := okWide_int Try.underlying3 (hval 0 3 v0 rfl rfl)
  have wx0 : (Lit.int .i64 x0).wf = true := by obtain ⟨m, hm⟩ := h0; obtain ⟨n', e, _, wf⟩ := DataW.trod_int Try.underlying3 hm; simp [Value.cells] at e; subst e; exact wf
  obtain ⟨A1, n1, c1, s1, rfl, hl1, hn1, hi1, hw1⟩ := open_nums (hval 1 24 v1 rfl rfl) h1
  clear hA0 hval0
  refine (law x0 A1 s1 n1 c1 W wx0 hl1 hn1 hi1 hw1).mono fun e W' ⟨he, bel⟩ => ?_
  subst he
  exact ⟨_, rfl, _, _, _, [], _, [], hW', trodAll_mk1 (shut_bool Try.underlying4 _), (trodAll_cons_mk (Below.trod laidOut (by kernel_rfl) (of_decide_eq_true (by kernel_rfl)) z0 bel lt0) (trodAll_cons_mk (Below.trod laidOut (by kernel_rfl) (of_decide_eq_true (by kernel_rfl)) z1 bel lt1) trodAll_mk0)), rfl, bel.frame _, (fun h => by cases h)⟩

theorem over : Rows.fnExactPlayDequeRow.holds Try.pinned (OpenSpec.ofChange Rows.fnExactPlayDequeSpec) :=
  OpenClaim.holds_of_wide 12 Try.f12 rfl rfl rfl rfl rfl rfl rfl ⟨rfl, rfl, rfl, rfl, rfl⟩ rfl rfl rfl rfl rfl (by kernel_rfl) Try.func12 (by kernel_rfl)
    (of_decide_eq_true (by kernel_rfl)) (by unfold Func.isWrapper; first | (rw [if_pos (by decide +kernel)]; kernel_rfl) | (rw [if_neg (by decide +kernel)]; exact ⟨rfl, rfl⟩))
    (fun os started H enc _ => lifted os started H enc)

theorem proved : Rows.FnExactPlayDequeSaid := over
#print axioms proved
end Go.Proofs.Ytkpkchlbljlbnaa.fnExactPlayDeque
