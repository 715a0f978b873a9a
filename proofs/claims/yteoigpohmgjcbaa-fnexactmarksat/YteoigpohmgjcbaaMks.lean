/-
  MarksAt of the program.
-/
import Derived.Test.YteoigpohmgjcbaaLay
namespace Go.Proofs.Yteoigpohmgjcbaa
open Go.RowKit
set_option linter.unusedVariables false

def mcol (s : Pr) : List Int := s.ms.map fun m => (m.2 : Int)
def mksB (W : Int) (l : List Tk) (k : Int) : List Int := if okB W l = true then mcol (run W l (clampN k l.length)).1 else []
theorem mcol_length (s : Pr) : (mcol s).length = s.ms.length := by simp [mcol]
theorem mksB_le (W : Int) (l : List Tk) (k : Int) : (mksB W l k).length ≤ 400 := by
  unfold mksB
  split
  · rename_i h
    have hS := (okB_true h).2.2
    have := (run_ms (W := W) hS (k := clampN k l.length) (by unfold clampN; omega)).2
    rw [mcol_length]; omega
  · simp
def colTo (xs : List Int) (i : Nat) : List Int := xs.take i ++ List.replicate (xs.length - i) 0
theorem colTo_zero (xs : List Int) : colTo xs 0 = List.replicate xs.length 0 := by simp [colTo]
theorem colTo_all (xs : List Int) : colTo xs xs.length = xs := by simp [colTo]
theorem colTo_at {xs : List Int} {k : Nat} (hk : k < xs.length) : (colTo xs k)[k]? = some 0 := by
  unfold colTo
  have hlen : (xs.take k).length = k := by simp; omega
  rw [List.getElem?_append_right (by omega), hlen, Nat.sub_self, List.getElem?_replicate, if_pos (by omega)]
theorem colTo_set {xs : List Int} {k : Nat} {x : Int} (hk : k < xs.length) (hx : xs[k]? = some x) : (colTo xs k).set k x = colTo xs (k + 1) := by
  unfold colTo
  have e : xs.length - k = (xs.length - (k + 1)) + 1 := by omega
  have hlen : (xs.take k).length = k := by simp; omega
  rw [List.set_append_right _ _ (by omega), hlen, e, List.replicate_succ, Nat.sub_self, List.set_cons_zero, List.take_add_one, hx]
  simp

theorem PM.mark_at {w : World} {B p g c : Nat} {tp tm : TypeId} {cs : List Value} {vW : Value} {out : List UInt8} {ms : List (Nat × Nat)} (h : PM w B p tp tm cs vW (.slice (some ⟨g, 0, none⟩) ms.length c) out ms) {j : Nat} {m : Nat × Nat} (hj : ms[j]? = some m) :
    w.cell? ⟨g, j * 2, none⟩ = some (.int .i64 m.1) ∧ w.cell? ⟨g, j * 2 + 1, none⟩ = some (.int .i64 m.2) := by
  have hlt : j < ms.length := (List.getElem?_eq_some_iff.1 hj).1
  have hat := mf_at hj
  exact ⟨(h.mks.cellAt _ (by omega)).trans hat.1, (h.mks.cellAt _ (by omega)).trans hat.2⟩

set_option maxHeartbeats 2000000 in
set_option maxRecDepth 100000 in
theorem MarksAt_out (W : Int) (A : Option Addr) (l : List Tk) (m c : Nat) (k : Int) (w : World) (hm : l.length = m) (hmb : m ≤ 2097152) (hmc : m ≤ c) (hts : TS w A l) (hlow : ∀ b, A.map (·.block) = some b → b < w.heap.size) (hf : Fits l) :
    Calls Try.prog 22 #[.int .i64 W, .slice A m c, .int .i64 k] w (IntsOut w (mksB W l k)) := by
  have HM := Lib.hid hm
  have HT := Lib.hid hts
  have HF := Lib.hid hf
  have HL := Lib.hid hlow
  clear hm hts hf hlow
  obtain ⟨n, hn⟩ : ∃ n, clampN k m = n := ⟨_, rfl⟩
  have hcl : n ≤ m := by rw [← hn]; unfold clampN; omega
  have HC := Lib.hid hn
  have hcase : (k < 0 ∧ n = 0) ∨ (0 ≤ k ∧ k ≤ m ∧ k = n) ∨ ((m : Int) < k ∧ n = m) := by
    unfold clampN at hn; omega
  clear hn
  rcases hcase with ⟨h1, rfl⟩ | ⟨h1, h2, rfl⟩ | ⟨h1, rfl⟩
  all_goals
    go_enter Try.func22, Try.ntmps22
    go_wp2_with fail
    first
      | refine (printed_any W A l m 0 c _ HM.out hmb hcl hmc HT.out HL.out HF.out).mono ?_
      | refine (printed_any W A l m n c _ HM.out hmb hcl hmc HT.out HL.out HF.out).mono ?_
      | refine (printed_any W A l n n c _ HM.out hmb hcl hmc HT.out HL.out HF.out).mono ?_
    rintro e w1 ⟨hb1, ⟨hok, p, v, vW, vM, rfl, hrow, hpa⟩ | ⟨hok, rfl⟩⟩
    · have HB1 := Lib.hid hb1
      have hml := HM.out
      have hS := (okB_true hok).2.2
      have HV := Lib.hid (show mksB W l _ = mcol _ from (by unfold mksB; rw [if_pos hok, HM.out, HC.out]))
      have hsm := run_sm W hS (show _ ≤ l.length from (by rw [hml]; exact hcl))
      have hln := (run_ms (W := W) hS (show _ ≤ l.length from (by rw [hml]; exact hcl))).2
      generalize (run W l _).1 = s at *
      obtain ⟨g, cM, rfl, hg, h0, _, _⟩ := hpa.last hsm.ne
      have c4 := hpa.cells.2.2.2.2.1
      have hp := hpa.cells.2.2.2.2.2
      have HPA := Lib.hid hpa
      have hmk := fun V => mkInts s.ms.length (by omega) V
      clear hb1 hok hrow hpa hS hml
      go_wp2
      go_loopw [38] (fun i wr => ∃ j : Nat, j ≤ s.ms.length ∧ i = .int .i64 j ∧ BlkL wr w1.heap.size 3 (nums (colTo (mcol s) j)) ∧ Below w1.heap.size w1 wr) (fun i _ => s.ms.length - (intOf i).toNat)
      case atStart => exact ⟨0, Nat.zero_le _, rfl, by rw [colTo_zero, mcol_length]; exact BlkL.new w1 3 _, (Below.refl _ _).alloc (Nat.le_refl _) _⟩
      case round =>
        obtain ⟨j, hj, rfl, hblk, hbw⟩ := hrel
        clear hmk c4
        have HK := Lib.hid hblk
        have HB := Lib.hid hbw
        have hz := hbw.size
        by_cases hlt : j < s.ms.length
        · obtain ⟨mk, hmk⟩ : ∃ mk, s.ms[j]? = some mk := ⟨_, List.getElem?_eq_getElem hlt⟩
          obtain ⟨m0, m1⟩ := PM.mark_at HPA.out hmk
          have d0 : wr.cell? ⟨g, j * 2, none⟩ = some (.int .i64 mk.1) := (hbw.cell (p := ⟨g, j * 2, none⟩) hg).trans m0
          have d1 : wr.cell? ⟨g, j * 2 + 1, none⟩ = some (.int .i64 mk.2) := (hbw.cell (p := ⟨g, j * 2 + 1, none⟩) hg).trans m1
          have hx : (mcol s)[j]? = some (mk.2 : Int) := by simp [mcol, hmk]
          have e0 : wr.cell? ⟨w1.heap.size, j, none⟩ = some (.int .i64 0) := (hblk.cell j).trans (nums_at (colTo_at (by rw [mcol_length]; exact hlt)))
          have ef := hblk.frozen j
          have hbl := hblk.lt
          have hgw : g < wr.heap.size := by omega
          have HS := Lib.hid (colTo_set (xs := mcol s) (k := j) (by rw [mcol_length]; exact hlt) hx)
          clear m0 m1 hmk hx hblk hbw
          go_wp2
          try go_region
          try go_wp2
          go_roundw
          case rel =>
            have h1 := HK.out.set j (.int .i64 mk.2)
            rw [nums_set, HS.out] at h1
            first
              | exact ⟨j + 1, by omega, by go_num, h1.alloc _, (HB.out.setCell (p := ⟨w1.heap.size, j, none⟩) (Nat.le_refl _) _).alloc (by simp [World.setCell]; omega) _⟩
              | exact ⟨j + 1, by omega, by go_num, (h1.alloc _).drew, ((HB.out.setCell (p := ⟨w1.heap.size, j, none⟩) (Nat.le_refl _) _).alloc (by simp [World.setCell]; omega) _).drew⟩
          case measure => simp [intOf] <;> omega
        · have hjn : j = (mcol s).length := by rw [mcol_length]; omega
          have HV2 := Lib.hid (show BlkL wr w1.heap.size 3 (nums (mcol s)) from by have h := hblk; rw [hjn, colTo_all] at h; exact h)
          clear hblk hbw hjn
          go_wp2
          go_ret
          rw [HV.out]
          refine ⟨HB1.out.trans (HB.out.mono HB1.out.size), some ⟨w1.heap.size, 0, none⟩, s.ms.length, by rw [mcol_length]; rfl, fun b hb => ?_, (fun h => by cases h), .inr ⟨w1.heap.size, [], rfl, by rw [List.append_nil]; exact HV2.out⟩⟩
          have := HB1.out.size
          simp at hb; omega
    · have HB1 := Lib.hid hb1
      have HV := Lib.hid (show ∀ kk, mksB W l kk = [] from fun kk => by unfold mksB; rw [if_neg (by rw [hok]; simp)])
      clear hb1 hok
      go_wp2
      go_ret
      rw [HV.out]
      exact ⟨HB1.out, none, 0, rfl, fun b hb => by simp at hb, fun _ => rfl, .inl ⟨rfl, rfl⟩⟩
end Go.Proofs.Yteoigpohmgjcbaa
