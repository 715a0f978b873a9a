/-
  The ring: what pushes and pops do to it.
-/
import Derived.Test.YtkpkchlbljlbnaaRg
import Derived.Test.YtkpkchlbljlbnaaTal
namespace Go.Proofs.Ytkpkchlbljlbnaa
open Go.RowKit
set_option linter.unusedVariables false

/-- the ring in block b is now s, h, q; all other memory is as it was. -/
def RgOut (w : World) (b : Nat) (s : List Int) (h q : Nat) (v : Value) (e : Ending) (w' : World) : Prop :=
  e = .returned v ∧ RgM w' b s h q ∧ w.grownBy w' (some b)
theorem grown_drewN {a w : World} {row : Option Nat} (h : a.grownBy w row) (n : Nat) : a.grownBy (w.drewN n) row := ⟨h.os, h.tape, h.output, h.size, h.block⟩
theorem grown_drew {a w : World} {row : Option Nat} (h : a.grownBy w row) : a.grownBy w.drew row := ⟨h.os, h.tape, h.output, h.size, h.block⟩
theorem RgM.drewN {w : World} {b : Nat} {s : List Int} {h q : Nat} (H : RgM w b s h q) (n : Nat) : RgM (w.drewN n) b s h q := H

theorem held_q (b : Nat) (s : List Int) (h q : Nat) (w : World) (h4 : s.length ≤ 64) (H : RgM w b s h q) (n : Nat) :
    Calls Try.prog 52 #[.pointer (some ⟨b, 0, none⟩)] (w.drewN n) fun e w'' => e = .returned (.int .i64 q) ∧ ∃ m, w'' = w.drewN m := quiet_same (held_any b s h q (w.drewN n) h4 H)
theorem place_q (b : Nat) (s : List Int) (h q k : Nat) (w : World) (hk : k ≤ 64) (B : RgB s h q) (H : RgM w b s h q) (n : Nat) :
    Calls Try.prog 69 #[.pointer (some ⟨b, 0, none⟩), .int .i64 k] (w.drewN n) fun e w'' => e = .returned (.int .i64 (plc s.length h k : Nat)) ∧ ∃ m, w'' = w.drewN m := Calls.quiet_of (place_any b s h q k (w.drewN n) hk B H)

set_option maxHeartbeats 1000000 in
theorem pushLast_full (b : Nat) (s : List Int) (h : Nat) (x : Int) (w : World) (B : RgB s h s.length) (H : RgM w b s h s.length) :
    Calls Try.prog 59 #[.pointer (some ⟨b, 0, none⟩), .int .i64 x] w (RgOut w b s h s.length (.bool false)) := by
  have HH := Lib.hid (held_q b s h s.length w B.n2 H)
  have hs := H.size B.n2
  have HM := Lib.hid H
  clear H B
  generalize s.length = n at *
  go_enter Try.func59, Try.ntmps59
  go_wp2
  go_quiet ((exact HH.out _))
  go_wp2
  go_ret
  exact ⟨rfl, HM.out, grown_drewN (World.grownBy.refl _ _) _⟩
set_option maxHeartbeats 1000000 in
theorem pushLast_room (b : Nat) (s : List Int) (h q : Nat) (x : Int) (w : World) (hq : q < s.length) (B : RgB s h q) (H : RgM w b s h q) :
    Calls Try.prog 59 #[.pointer (some ⟨b, 0, none⟩), .int .i64 x] w (RgOut w b (s.set (plc s.length h q) x) h (q + 1) (.bool true)) := by
  have HB := Lib.hid B
  have HM := Lib.hid H
  have h2 := B.n2
  have hs := H.size h2
  have hpl := plc_lt h q B.n1
  have ne : ((q : Int) == (s.length : Int)) = false := by simp; omega
  have ne' : (q == s.length) = false := by simp; omega
  clear B H
  go_enter Try.func59, Try.ntmps59
  go_wp2
  go_quiet ((exact held_q b s h q w h2 HM.out _))
  go_wp2
  clear hs ne ne'
  have HM1 := Lib.hid (HM.out.drewN nq)
  have HM0 := Lib.hid (World.grownBy.refl w (some b) |> fun t => grown_drewN t nq)
  clear HM
  generalize w.drewN nq = w1 at *
  have hcell : ∃ u, w1.cell? ⟨b, plc s.length h q, none⟩ = some u := ⟨_, HM1.out.slot (List.getElem?_eq_getElem hpl)⟩
  obtain ⟨u, hu⟩ := hcell
  have hf := HM1.out.fr (plc s.length h q)
  have x1 : ((plc s.length h q : Nat) : Int) < 64 := by omega
  refine wp_region_tail 9 (fun w' => ∃ m, w' = w1.drewN m) (by kernel_rfl) (by kernel_rfl) ⟨1, rfl⟩ ?_
  simp only [List.take_succ_cons, List.take_zero, List.drop_succ_cons, List.drop_zero]
  repeat (go_big_quiet_step (first | exact held_q b s h q w1 h2 HM1.out _ | exact place_q b s h q q w1 (by omega) HB.out HM1.out _))
  refine wpQuiet_nil ?_
  rintro w2 ⟨m, rfl⟩
  go_wp2_with fail
  have HM2 := Lib.hid ((HM1.out.drewN m).put hpl x)
  have l2 : (s.set (plc s.length h q) x).length ≤ 64 := by rw [List.length_set]; exact h2
  refine (aAdd_any b 66 q 1 ((q + 1 : Nat) : Int) _ (HM2.out.count l2) (HM2.out.fr 66) (IntWalk.i64_in _ (by omega))).mono ?_
  rintro e w3 ⟨rfl, rfl⟩
  have HM3 := Lib.hid (HM2.out.putQ l2 (q + 1))
  have HG := Lib.hid (grown_self_set (grown_self_set (grown_drewN HM0.out m) (plc s.length h q) (.int .i64 x)) 66 (.int .i64 ((q + 1 : Nat) : Int)))
  clear HM2 HM1 HM0
  go_wp2
  go_ret
  exact ⟨rfl, HM3.out, HG.out⟩
theorem plc_zero {n h : Nat} (hh : h < n) : plc n h 0 = h := Nat.mod_eq_of_lt hh

set_option maxHeartbeats 1000000 in
theorem pushFirst_full (b : Nat) (s : List Int) (h : Nat) (x : Int) (w : World) (B : RgB s h s.length) (H : RgM w b s h s.length) :
    Calls Try.prog 60 #[.pointer (some ⟨b, 0, none⟩), .int .i64 x] w (RgOut w b s h s.length (.bool false)) := by
  have HH := Lib.hid (held_q b s h s.length w B.n2 H)
  have hs := H.size B.n2
  have HM := Lib.hid H
  clear H B
  generalize s.length = n at *
  go_enter Try.func60, Try.ntmps60
  go_wp2
  go_quiet ((exact HH.out _))
  go_wp2
  go_ret
  exact ⟨rfl, HM.out, grown_drewN (World.grownBy.refl _ _) _⟩
set_option maxHeartbeats 1000000 in
theorem pushFirst_room (b : Nat) (s : List Int) (h q : Nat) (x : Int) (w : World) (hq : q < s.length) (B : RgB s h q) (H : RgM w b s h q) :
    Calls Try.prog 60 #[.pointer (some ⟨b, 0, none⟩), .int .i64 x] w (RgOut w b (s.set (plc s.length h (s.length - 1)) x) (plc s.length h (s.length - 1)) (q + 1) (.bool true)) := by
  have HB := Lib.hid B
  have HM := Lib.hid H
  have h2 := B.n2
  have h1 := B.n1
  have hs := H.size h2
  have hpl := plc_lt h (s.length - 1) B.n1
  have ne : ((q : Int) == (s.length : Int)) = false := by simp; omega
  have ne' : (q == s.length) = false := by simp; omega
  clear B H
  go_enter Try.func60, Try.ntmps60
  go_wp2
  go_quiet ((exact held_q b s h q w h2 HM.out _))
  go_wp2
  clear hs ne ne'
  have HM1 := Lib.hid (HM.out.drewN nq)
  have HM0 := Lib.hid (World.grownBy.refl w (some b) |> fun t => grown_drewN t nq)
  clear HM
  generalize w.drewN nq = w1 at *
  have hs := HM1.out.size h2
  have hsub : (s.length : Int) - 1 = ((s.length - 1 : Nat) : Int) := by omega
  have x0 : IntKind.i64.wrap ((s.length : Int) - 1) = ((s.length - 1 : Nat) : Int) := by rw [← hsub]; exact IntWalk.i64_in _ (by omega)
  have HP := Lib.hid (place_q b s h q (s.length - 1) w1 (by omega) HB.out HM1.out)
  have HSUB := Lib.hid hsub
  clear hsub
  refine wp_region_tail 10 (fun w' => ∃ m, w' = w1.drewN m) (by kernel_rfl) (by kernel_rfl) ⟨1, rfl⟩ ?_
  simp only [List.take_succ_cons, List.take_zero, List.drop_succ_cons, List.drop_zero]
  repeat (go_big_quiet_step (first | exact HP.out _ | (rw [HSUB.out]; exact HP.out _)))
  refine wpQuiet_nil ?_
  rintro w2 ⟨m, rfl⟩
  clear hs x0
  generalize plc s.length h (s.length - 1) = h' at *
  go_wp2_with fail
  refine (aStore_any b 65 h' _ _ ((HM1.out.drewN m).head h2) (HM1.out.fr 65)).mono ?_
  rintro e w3 ⟨rfl, rfl⟩
  have HM3 := Lib.hid ((HM1.out.drewN m).putH h2 h')
  have HG3 := Lib.hid (grown_self_set (grown_drewN HM0.out m) 65 (.int .i64 (h' : Int)))
  have HB3 := Lib.hid (show RgB s h' q from ⟨h1, h2, hpl, by omega⟩)
  clear HM1 HM0 HB HP
  generalize (w1.drewN m).setCell ⟨b, 65, none⟩ (.int .i64 (h' : Int)) = w3 at *
  go_wp2_with fail
  have hcell : ∃ u, w3.cell? ⟨b, h', none⟩ = some u := ⟨_, HM3.out.slot (List.getElem?_eq_getElem hpl)⟩
  obtain ⟨u, hu⟩ := hcell
  have hf := HM3.out.fr h'
  have x1 : (h' : Int) < 64 := by omega
  have HP := Lib.hid (fun n => place_q b s h' q 0 w3 (by omega) HB3.out HM3.out n)
  have HP' := HP.out
  rw [plc_zero hpl] at HP'
  have HP2 := Lib.hid HP'
  clear HP HP'
  refine wp_region_tail 7 (fun w' => ∃ m, w' = w3.drewN m) (by kernel_rfl) (by kernel_rfl) ⟨1, rfl⟩ ?_
  simp only [List.take_succ_cons, List.take_zero, List.drop_succ_cons, List.drop_zero]
  repeat (go_big_quiet_step (exact HP2.out _))
  refine wpQuiet_nil ?_
  rintro w2 ⟨m2, rfl⟩
  go_wp2_with fail
  have HM4 := Lib.hid ((HM3.out.drewN m2).put hpl x)
  have l2 : (s.set h' x).length ≤ 64 := by rw [List.length_set]; exact h2
  refine (aAdd_any b 66 q 1 ((q + 1 : Nat) : Int) _ (HM4.out.count l2) (HM4.out.fr 66) (IntWalk.i64_in _ (by omega))).mono ?_
  rintro e w5 ⟨rfl, rfl⟩
  have HM5 := Lib.hid (HM4.out.putQ l2 (q + 1))
  have HG := Lib.hid (grown_self_set (grown_self_set (grown_drewN HG3.out m2) h' (.int .i64 x)) 66 (.int .i64 ((q + 1 : Nat) : Int)))
  clear HM4 HM3 HG3
  go_wp2
  go_ret
  exact ⟨rfl, HM5.out, HG.out⟩

set_option maxHeartbeats 1000000 in
theorem take_none (b : Nat) (s : List Int) (h : Nat) (k : Int) (w : World) (B : RgB s h 0) (H : RgM w b s h 0) :
    Calls Try.prog 75 #[.pointer (some ⟨b, 0, none⟩), .int .i64 k] w (RgOut w b s h 0 (.tuple #[.int .i64 0, .bool false])) := by
  have HH := Lib.hid (held_any b s h 0 w B.n2 H)
  have HM := Lib.hid H
  clear H B
  go_enter Try.func75, Try.ntmps75
  go_wp2_with ((with_reducible refine (HH.out).mono ?_); rintro e w' ⟨rfl, rfl⟩)
  go_ret2
  exact ⟨rfl, HM.out, World.grownBy.refl _ _⟩
set_option maxHeartbeats 1000000 in
theorem take_one (b : Nat) (s : List Int) (h q k : Nat) (x : Int) (w : World) (hk : k ≤ 64) (B : RgB s h (q + 1)) (H : RgM w b s h (q + 1)) (hx : s[plc s.length h k]? = some x) :
    Calls Try.prog 75 #[.pointer (some ⟨b, 0, none⟩), .int .i64 k] w (RgOut w b (s.set (plc s.length h k) 0) h q (.tuple #[.int .i64 x, .bool true])) := by
  have HH := Lib.hid (held_any b s h (q + 1) w B.n2 H)
  have HB := Lib.hid B
  have HM := Lib.hid H
  have HX := Lib.hid hx
  have h2 := B.n2
  have q1 := B.q1
  have hpl := plc_lt h k B.n1
  clear H B hx
  have e0 : (((q : Int) + 1) == 0) = false := by simp; omega
  go_enter Try.func75, Try.ntmps75
  go_wp2_with fail
  refine HH.out.mono ?_
  rintro e w' ⟨rfl, rfl⟩
  go_wp2_with fail
  clear e0
  refine (at_any b s h (q + 1) k x _ hk HB.out HM.out HX.out).mono ?_
  rintro e w' ⟨rfl, m, rfl⟩
  have HM1 := Lib.hid (HM.out.drewN m)
  have HM0 := Lib.hid (World.grownBy.refl w (some b) |> fun t => grown_drewN t m)
  clear HM HH
  generalize w.drewN m = w1 at *
  go_wp2_with fail
  have hcell : ∃ u, w1.cell? ⟨b, plc s.length h k, none⟩ = some u := ⟨_, HM1.out.slot HX.out⟩
  obtain ⟨u, hu⟩ := hcell
  have hf := HM1.out.fr (plc s.length h k)
  have x1 : ((plc s.length h k : Nat) : Int) < 64 := by omega
  have HP := Lib.hid (place_q b s h (q + 1) k w1 hk HB.out HM1.out)
  generalize plc s.length h k = p at *
  refine wp_region_tail 8 (fun w' => ∃ m, w' = w1.drewN m) (by kernel_rfl) (by kernel_rfl) ⟨1, rfl⟩ ?_
  simp only [List.take_succ_cons, List.take_zero, List.drop_succ_cons, List.drop_zero]
  repeat (go_big_quiet_step (exact HP.out _))
  refine wpQuiet_nil ?_
  rintro w2 ⟨m2, rfl⟩
  go_wp2_with fail
  have HM4 := Lib.hid ((HM1.out.drewN m2).put hpl 0)
  have l2 : (s.set p 0).length ≤ 64 := by rw [List.length_set]; exact h2
  refine (aAdd_any b 66 ((q + 1 : Nat) : Int) (-1) (q : Int) _ (HM4.out.count l2) (HM4.out.fr 66) (by rw [show ((q + 1 : Nat) : Int) + -1 = q by omega]; exact IntWalk.i64_in _ (by omega))).mono ?_
  rintro e w5 ⟨rfl, rfl⟩
  have HM5 := Lib.hid (HM4.out.putQ l2 q)
  have HG := Lib.hid (grown_self_set (grown_self_set (grown_drewN HM0.out m2) p (.int .i64 0)) 66 (.int .i64 (q : Int)))
  clear HM4 HM1 HM0
  go_wp2
  go_ret2
  exact ⟨rfl, HM5.out, HG.out⟩

set_option maxHeartbeats 1000000 in
theorem popFirst_none (b : Nat) (s : List Int) (h : Nat) (w : World) (B : RgB s h 0) (H : RgM w b s h 0) :
    Calls Try.prog 62 #[.pointer (some ⟨b, 0, none⟩)] w (RgOut w b s h 0 (.tuple #[.int .i64 0, .bool false])) := by
  go_enter Try.func62, Try.ntmps62
  go_wp2_with fail
  refine (take_none b s h 0 w B H).mono ?_
  rintro e w' ⟨rfl, h1, h2⟩
  have H1 := Lib.hid h1
  have H2 := Lib.hid h2
  clear h1 h2 H
  go_wp2
  go_ret2
  exact ⟨rfl, H1.out, H2.out⟩
set_option maxHeartbeats 1000000 in
theorem popFirst_one (b : Nat) (s : List Int) (h q : Nat) (x : Int) (w : World) (B : RgB s h (q + 1)) (H : RgM w b s h (q + 1)) (hx : s[h]? = some x) :
    Calls Try.prog 62 #[.pointer (some ⟨b, 0, none⟩)] w (RgOut w b (s.set h 0) (plc s.length h 1) q (.tuple #[.int .i64 x, .bool true])) := by
  have HX := Lib.hid (show s[plc s.length h 0]? = some x from by rw [plc_zero B.h1]; exact hx)
  have h1 := B.h1
  have h2 := B.n2
  have n1 := B.n1
  have q1 := B.q1
  go_enter Try.func62, Try.ntmps62
  go_wp2_with fail
  refine (take_one b s h q 0 x w (by omega) B H HX.out).mono ?_
  rintro e w1 ⟨rfl, hm, hg⟩
  rw [plc_zero h1] at hm
  have HM1 := Lib.hid hm
  have HG1 := Lib.hid hg
  clear hm hg H B hx HX
  go_wp2_with fail
  have l2 : (s.set h 0).length = s.length := List.length_set
  have HB1 := Lib.hid (show RgB (s.set h 0) h q from ⟨by omega, by omega, by omega, by omega⟩)
  have HP := place_q b (s.set h 0) h q 1 w1 (by omega) HB1.out HM1.out
  rw [l2] at HP
  have HP2 := Lib.hid HP
  clear HP
  have HL := Lib.hid (show (s.set h 0).length ≤ 64 by omega)
  clear l2
  generalize plc s.length h 1 = p at *
  refine wp_region_tail 5 (fun w' => ∃ m, w' = w1.drewN m) (by kernel_rfl) (by kernel_rfl) ⟨1, rfl⟩ ?_
  simp only [List.take_succ_cons, List.take_zero, List.drop_succ_cons, List.drop_zero]
  repeat (go_big_quiet_step (exact HP2.out _))
  refine wpQuiet_nil ?_
  rintro w2 ⟨m, rfl⟩
  go_wp2_with fail
  refine (aStore_any b 65 p _ _ ((HM1.out.drewN m).head HL.out) (HM1.out.fr 65)).mono ?_
  rintro e w3 ⟨rfl, rfl⟩
  have HM3 := Lib.hid ((HM1.out.drewN m).putH HL.out p)
  have HG3 := Lib.hid (grown_self_set (grown_drewN HG1.out m) 65 (.int .i64 (p : Int)))
  clear HM1 HG1
  go_wp2
  go_ret2
  exact ⟨rfl, HM3.out, HG3.out⟩

set_option maxHeartbeats 1000000 in
theorem popLast_none (b : Nat) (s : List Int) (h : Nat) (w : World) (B : RgB s h 0) (H : RgM w b s h 0) :
    Calls Try.prog 63 #[.pointer (some ⟨b, 0, none⟩)] w (RgOut w b s h 0 (.tuple #[.int .i64 0, .bool false])) := by
  go_enter Try.func63, Try.ntmps63
  go_wp2_with fail
  refine (held_any b s h 0 w B.n2 H).mono ?_
  rintro e w1 ⟨rfl, rfl⟩
  go_wp2_with fail
  refine (take_none b s h _ w B H).mono ?_
  rintro e w' ⟨rfl, h1, h2⟩
  have H1 := Lib.hid h1
  have H2 := Lib.hid h2
  clear h1 h2 H
  go_wp2
  go_ret2
  exact ⟨rfl, H1.out, H2.out⟩
set_option maxHeartbeats 1000000 in
theorem popLast_one (b : Nat) (s : List Int) (h q : Nat) (x : Int) (w : World) (B : RgB s h (q + 1)) (H : RgM w b s h (q + 1)) (hx : s[plc s.length h q]? = some x) :
    Calls Try.prog 63 #[.pointer (some ⟨b, 0, none⟩)] w (RgOut w b (s.set (plc s.length h q) 0) h q (.tuple #[.int .i64 x, .bool true])) := by
  have q1 := B.q1
  have h2 := B.n2
  have HX := Lib.hid hx
  have HB := Lib.hid B
  have HM := Lib.hid H
  clear hx B H
  go_enter Try.func63, Try.ntmps63
  go_wp2_with fail
  refine (held_any b s h (q + 1) w h2 HM.out).mono ?_
  rintro e w1 ⟨rfl, rfl⟩
  have hsub : ((q + 1 : Nat) : Int) - 1 = (q : Int) := by omega
  go_wp2_with fail
  first | refine (take_one b s h q q x w (by omega) HB.out HM.out HX.out).mono ?_ | (rw [hsub]; refine (take_one b s h q q x w (by omega) HB.out HM.out HX.out).mono ?_)
  rintro e w' ⟨rfl, h1, h3⟩
  have H1 := Lib.hid h1
  have H2 := Lib.hid h3
  clear h1 h3 HM
  go_wp2
  go_ret2
  exact ⟨rfl, H1.out, H2.out⟩
end Go.Proofs.Ytkpkchlbljlbnaa
