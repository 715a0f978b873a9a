/-
  Layout, BreaksOf, LinesIn, MarksAt of the program.
-/
import Derived.Test.YthjkgbcomjiejabGreatDoorFf44
namespace Go.Proofs.YthjkgbcomjiejabGreatDoor
open Go.RowKit
set_option linter.unusedVariables false

theorem conv_own {w : World} {B : Nat} {v : Value} {out : List UInt8} (h : w.ownsRow B 5 1 v out.length (Lib.byteCells out)) : (convert 54 9 v).run Tryz.prog w = .ok (.string ⟨out.toArray⟩) w := by
  rcases Joins.ownsRow_forms h with ⟨rfl, h0⟩ | ⟨g, cap, rfl⟩
  · have : out = [] := List.eq_nil_of_length_eq_zero h0
    subst this
    exact run_convert_bytes_nil w 54 5 Tryz.underlying54 Tryz.underlying5 0 0 9 Tryz.underlying9
  · refine run_convert_bytes_back w 54 9 5 ⟨g, 0, none⟩ cap out Tryz.underlying54 Tryz.underlying5 Tryz.underlying9 fun j hj => ?_
    refine h.cells (g := g) rfl j _ ?_
    simp [Lib.byteCells, List.getElem?_eq_getElem hj]
def layB (W : Int) (l : List Tk) : ByteArray := if okB W l = true then ⟨(run W l l.length).1.out.toArray⟩ else ByteArray.empty
set_option maxHeartbeats 1000000 in
set_option maxRecDepth 100000 in
theorem Layout_any (W : Int) (A : Option Addr) (l : List Tk) (m c : Nat) (w : World) (hm : l.length = m) (hmb : m ≤ 2097152) (hmc : m ≤ c) (hts : TS w A l) (hlow : ∀ b, A.map (·.block) = some b → b < w.heap.size) (hf : Fits l) :
    Calls Tryz.prog 21 #[.int .i64 W, .slice A m c] w fun e w' => e = .returned (.tuple #[.string (layB W l), .bool (okB W l)]) ∧ Below w.heap.size w w' := by
  have HM := Lib.hid hm
  have HT := Lib.hid hts
  have HF := Lib.hid hf
  have HL := Lib.hid hlow
  clear hm hts hf hlow
  go_enter Tryz.func21, Tryz.ntmps21
  go_wp2_with fail
  refine (printed_any W A l m m c _ HM.out hmb (Nat.le_refl _) hmc HT.out HL.out HF.out).mono ?_
  rintro e w1 ⟨hb1, ⟨hok, p, v, vW, vM, rfl, hrow, hpa⟩ | ⟨hok, rfl⟩⟩
  · have HB1 := Lib.hid hb1
    have HOK := Lib.hid hok
    have HPA := Lib.hid hpa
    obtain ⟨c0, c1, c2, c3, c4, hp⟩ := hpa.cells
    have hcv := conv_own hpa.own
    have e := HM.out
    subst e
    have HV := Lib.hid (show layB W l = ⟨(run W l l.length).1.out.toArray⟩ from by simp [layB, hok])
    clear hb1 hok hpa hrow
    go_wp2
    go_ret2
    rw [HV.out, HOK.out]
    exact ⟨rfl, HB1.out⟩
  · have HB1 := Lib.hid hb1
    have HOK := Lib.hid hok
    clear hb1 hok
    go_wp2
    go_ret2
    exact ⟨by rw [show layB W l = ByteArray.empty from by simp [layB, HOK.out], HOK.out]; rfl, HB1.out⟩

set_option maxHeartbeats 400000 in
theorem line_any (w : World) (p n m : Nat) (hn : n ≤ 1000000) (h : w.cell? ⟨p, 0, none⟩ = some (.complex .f64 (fN n) (fN m))) :
    Calls Tryz.prog 60 #[.pointer (some ⟨p, 0, none⟩)] w fun e w' => e = .returned (.int .i64 n) ∧ w' = w := by
  have hc := conv_fN (n := n) (by omega)
  go_enter Tryz.func60, Tryz.ntmps60
  go_wp2
  go_ret
  exact ⟨rfl, rfl⟩
def linB (W : Int) (l : List Tk) : Int := if okB W l = true then (run W l l.length).1.ln else -1
def brkL (W : Int) (l : List Tk) : List Int := if okB W l = true then (run W l l.length).2 else []
theorem brkL_le (W : Int) (l : List Tk) : (brkL W l).length ≤ 400 := by
  unfold brkL
  split
  · rename_i h
    have hS := (okB_true h).2.2
    have h4 := (strB_true hS).1
    have := (run_ok W hS l.length (Nat.le_refl _)).2.2.2
    omega
  · simp
theorem ints_of_own {w w' : World} {v : Value} {xs : List Int} (hb : Below w.heap.size w w') (h : w'.ownsRow w.heap.size 3 1 v xs.length (nums xs)) : IntsOut w xs (.returned v) w' := by
  obtain ⟨A, c, rfl, hlo⟩ := own_slice1 h
  obtain ⟨h1, h2, h3⟩ := row_of_own h
  exact ⟨hb, A, c, rfl, h2, h3, h1⟩
end Go.Proofs.YthjkgbcomjiejabGreatDoor
