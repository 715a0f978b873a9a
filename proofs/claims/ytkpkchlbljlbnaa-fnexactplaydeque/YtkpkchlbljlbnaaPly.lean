/-
  PlayDeque in plain words, and the program's.
-/
import Derived.Test.YtkpkchlbljlbnaaDqm
namespace Go.Proofs.Ytkpkchlbljlbnaa
open Go.RowKit
set_option linter.unusedVariables false

structure Rs where
  s : List Int
  h : Nat
  q : Nat
structure Rs.Ok (d : Rs) : Prop where
  b : RgB d.s d.h d.q
  r : restB d.s d.h d.q = true
def stepR (d : Rs) (op : Int) : Rs × Int :=
  if op = -1 then (if d.q = 0 then (d, -1) else (⟨d.s.set d.h 0, plc d.s.length d.h 1, d.q - 1⟩, d.s.getD d.h 0))
  else if op = -2 then (if d.q = 0 then (d, -1) else (⟨d.s.set (plc d.s.length d.h (d.q - 1)) 0, d.h, d.q - 1⟩, d.s.getD (plc d.s.length d.h (d.q - 1)) 0))
  else if op < 0 then (d, -9)
  else if op % 2 = 0 then (if d.q = d.s.length then (d, 0) else (⟨d.s.set (plc d.s.length d.h d.q) op, d.h, d.q + 1⟩, 1))
  else (if d.q = d.s.length then (d, 0) else (⟨d.s.set (plc d.s.length d.h (d.s.length - 1)) op, plc d.s.length d.h (d.s.length - 1), d.q + 1⟩, 1))

theorem getD_set (s : List Int) (i j : Nat) (x : Int) (hi : i < s.length) : (s.set i x).getD j 0 = if i = j then x else s.getD j 0 := by
  simp only [List.getD_eq_getElem?_getD, List.getElem?_set]
  by_cases e : i = j
  · rw [if_pos e, if_pos e, if_pos (by omega)]; rfl
  · rw [if_neg e, if_neg e]
theorem plc_inj {n h j k : Nat} (hh : h < n) (hj : j < n) (hk : k < n) (e : plc n h j = plc n h k) : j = k := by
  rw [plc_eq hh (by omega), plc_eq hh (by omega)] at e
  split at e <;> split at e <;> omega
theorem plc_back {n h k : Nat} (hh : h < n) (hk : 1 ≤ k) (hkn : k < n) : plc n (plc n h (n - 1)) k = plc n h (k - 1) := by
  have h1 := plc_eq hh (show n - 1 ≤ n by omega)
  have h2 := plc_lt h (n - 1) (show 1 ≤ n by omega)
  have e2 := plc_eq h2 (show k ≤ n by omega)
  have e3 := plc_eq hh (show k - 1 ≤ n by omega)
  rw [e2, e3, h1]
  split <;> split <;> split <;> omega
theorem plc_on {n h k : Nat} (hh : h < n) (hk : k + 1 < n) : plc n (plc n h 1) k = plc n h (k + 1) := by
  have h1 := plc_eq hh (show 1 ≤ n by omega)
  have h2 := plc_lt h 1 (show 1 ≤ n by omega)
  have e2 := plc_eq h2 (show k ≤ n by omega)
  have e3 := plc_eq hh (show k + 1 ≤ n by omega)
  rw [e2, e3, h1]
  split <;> split <;> split <;> omega
theorem plc_round {n h : Nat} (hh : h < n) : plc n (plc n h 1) (n - 1) = h := by
  have h1 := plc_eq hh (show 1 ≤ n by omega)
  have h2 := plc_lt h 1 (show 1 ≤ n by omega)
  rw [plc_eq h2 (by omega), h1]
  split <;> split <;> omega

theorem pushL_ok {s : List Int} {h q : Nat} {x : Int} (B : RgB s h q) (hr : restB s h q = true) (hq : q < s.length) : Rs.Ok ⟨s.set (plc s.length h q) x, h, q + 1⟩ := by
  obtain ⟨n1, n2, h1, q1⟩ := B
  refine ⟨⟨by simpa using n1, by simpa using n2, by simpa using h1, by simp; omega⟩, restB_true.2 ?_⟩
  intro k hk hkq
  simp only [List.length_set] at hk ⊢
  rw [getD_set _ _ _ _ (plc_lt h q n1), if_neg (fun e => by have := plc_inj h1 hq hk e; simp at hkq; omega)]
  exact restB_true.1 hr k hk (by simp at hkq; omega)
theorem pushF_ok {s : List Int} {h q : Nat} {x : Int} (B : RgB s h q) (hr : restB s h q = true) (hq : q < s.length) : Rs.Ok ⟨s.set (plc s.length h (s.length - 1)) x, plc s.length h (s.length - 1), q + 1⟩ := by
  obtain ⟨n1, n2, h1, q1⟩ := B
  have hp := plc_lt h (s.length - 1) n1
  refine ⟨⟨by simpa using n1, by simpa using n2, by simpa using hp, by simp; omega⟩, restB_true.2 ?_⟩
  intro k hk hkq
  simp only [List.length_set] at hk hkq ⊢
  rw [plc_back h1 (by omega) hk, getD_set _ _ _ _ hp, if_neg (fun e => by have := plc_inj h1 (by omega) (by omega) e; omega)]
  exact restB_true.1 hr (k - 1) (by omega) (by omega)
theorem popF_ok {s : List Int} {h q : Nat} (B : RgB s h (q + 1)) (hr : restB s h (q + 1) = true) : Rs.Ok ⟨s.set h 0, plc s.length h 1, q⟩ := by
  obtain ⟨n1, n2, h1, q1⟩ := B
  have hp := plc_lt h 1 n1
  refine ⟨⟨by simpa using n1, by simpa using n2, by simpa using hp, by simp; omega⟩, restB_true.2 ?_⟩
  intro k hk hkq
  simp only [List.length_set] at hk hkq ⊢
  rw [getD_set _ _ _ _ h1]
  by_cases e : k + 1 = s.length
  · have ek : k = s.length - 1 := by omega
    rw [ek, plc_round h1, if_pos rfl]
  · rw [plc_on h1 (by omega)]
    split
    · rfl
    · exact restB_true.1 hr (k + 1) (by omega) (by omega)
theorem popL_ok {s : List Int} {h q : Nat} (B : RgB s h (q + 1)) (hr : restB s h (q + 1) = true) : Rs.Ok ⟨s.set (plc s.length h q) 0, h, q⟩ := by
  obtain ⟨n1, n2, h1, q1⟩ := B
  refine ⟨⟨by simpa using n1, by simpa using n2, by simpa using h1, by simp; omega⟩, restB_true.2 ?_⟩
  intro k hk hkq
  simp only [List.length_set] at hk hkq ⊢
  rw [getD_set _ _ _ _ (plc_lt h q n1)]
  by_cases e : k = q
  · rw [e, if_pos rfl]
  · split
    · rfl
    · exact restB_true.1 hr k hk (by omega)
theorem stepR_ok {d : Rs} (o : d.Ok) (op : Int) : (stepR d op).1.Ok ∧ (stepR d op).1.s.length = d.s.length := by
  obtain ⟨s, h, q⟩ := d
  obtain ⟨B, hr⟩ := o
  simp only at B hr
  have q1 := B.q1
  unfold stepR
  simp only
  split
  · split
    · exact ⟨⟨B, hr⟩, rfl⟩
    · obtain ⟨k, rfl⟩ : ∃ k, q = k + 1 := ⟨q - 1, by omega⟩
      exact ⟨popF_ok B hr, by simp⟩
  · split
    · split
      · exact ⟨⟨B, hr⟩, rfl⟩
      · obtain ⟨k, rfl⟩ : ∃ k, q = k + 1 := ⟨q - 1, by omega⟩
        exact ⟨popL_ok B hr, by simp⟩
    · split
      · exact ⟨⟨B, hr⟩, rfl⟩
      · split
        · split
          · exact ⟨⟨B, hr⟩, rfl⟩
          · exact ⟨pushL_ok B hr (by omega), by simp⟩
        · split
          · exact ⟨⟨B, hr⟩, rfl⟩
          · exact ⟨pushF_ok B hr (by omega), by simp⟩

/-- behind the first k ops: the deque, and what was told. -/
def runR (d : Rs) (ops : List Int) : Nat → Rs × List Int
  | 0 => (d, [])
  | k + 1 => ((stepR (runR d ops k).1 (ops.getD k 0)).1, (runR d ops k).2 ++ [(stepR (runR d ops k).1 (ops.getD k 0)).2])
theorem runR_told (d : Rs) (ops : List Int) (k : Nat) : (runR d ops k).2.length = k := by
  induction k with
  | zero => rfl
  | succ k ih => simp [runR, ih]
theorem runR_ok {d : Rs} (o : d.Ok) (ops : List Int) (k : Nat) : (runR d ops k).1.Ok ∧ (runR d ops k).1.s.length = d.s.length := by
  induction k with
  | zero => exact ⟨o, rfl⟩
  | succ k ih =>
    have := stepR_ok ih.1 (ops.getD k 0)
    exact ⟨this.1, this.2.trans ih.2⟩
def newR (n : Nat) : Rs := ⟨List.replicate n 0, 0, 0⟩
theorem newR_ok {n : Nat} (h1 : 1 ≤ n) (h2 : n ≤ 64) : (newR n).Ok := by
  refine ⟨⟨by simpa [newR] using h1, by simpa [newR] using h2, by simp [newR]; omega, Nat.zero_le _⟩, restB_true.2 fun k hk _ => ?_⟩
  have hp := plc_lt 0 k h1
  simp [newR, hp]
def plyB (N : Int) (ops : List Int) : Bool := inB N 1 64 && decide (ops.length ≤ 400)
def plyR (N : Int) (ops : List Int) : Rs × List Int := if plyB N ops = true then runR (newR N.toNat) ops ops.length else (⟨[], 0, 0⟩, [])
theorem plyR_no {N : Int} {ops : List Int} (h : plyB N ops = false) : plyR N ops = (⟨[], 0, 0⟩, []) := if_neg (by rw [h]; simp)
theorem plyR_yes {N : Int} {ops : List Int} (h : plyB N ops = true) : plyR N ops = runR (newR N.toNat) ops ops.length := if_pos h
theorem plyR_le (N : Int) (ops : List Int) : (plyR N ops).1.s.length ≤ 64 ∧ (plyR N ops).2.length ≤ 400 := by
  cases h : plyB N ops
  · rw [plyR_no h]; simp
  · rw [plyR_yes h]
    simp only [plyB, Bool.and_eq_true, decide_eq_true_eq, inB_true] at h
    have := runR_ok (newR_ok (n := N.toNat) (by omega) (by omega)) ops ops.length
    rw [this.2, runR_told]
    simp [newR]; omega

set_option maxHeartbeats 400000 in
theorem tellPush_any (ok : Bool) (w : World) : Calls Try.prog 67 #[.bool ok] w fun e w' => e = .returned (.int .i64 (if ok = true then 1 else 0)) ∧ w = w' := by
  cases ok
  all_goals
    go_enter Try.func67, Try.ntmps67
    go_wp2
    go_ret
    exact ⟨rfl, rfl⟩
set_option maxHeartbeats 400000 in
theorem tellPop_any (x : Int) (ok : Bool) (w : World) : Calls Try.prog 66 #[.int .i64 x, .bool ok] w fun e w' => e = .returned (.int .i64 (if ok = true then x else -1)) ∧ w = w' := by
  cases ok
  all_goals
    go_enter Try.func66, Try.ntmps66
    go_wp2
    go_ret
    exact ⟨rfl, rfl⟩

def PlayPost (w : World) (b : Nat) (r : Rs × Int) (e : Ending) (w' : World) : Prop := e = .returned (.int .i64 r.2) ∧ RgM w' b r.1.s r.1.h r.1.q ∧ w.grownBy w' (some b)
set_option maxHeartbeats 2000000 in
theorem play_any (b : Nat) (s : List Int) (h q : Nat) (op : Int) (w : World) (B : RgB s h q) (H : RgM w b s h q) (wo : (Lit.int .i64 op).wf = true) :
    Calls Try.prog 49 #[.pointer (some ⟨b, 0, none⟩), .int .i64 op] w (PlayPost w b (stepR ⟨s, h, q⟩ op)) := by
  have HB := Lib.hid B
  have HM := Lib.hid H
  have n1 := B.n1
  have hh := B.h1
  have q1 := B.q1
  clear B H
  by_cases h1 : op = -1
  · subst h1
    cases q with
    | zero =>
      have HE := Lib.hid (show stepR ⟨s, h, 0⟩ (-1) = (⟨s, h, 0⟩, -1) from rfl)
      go_enter Try.func49, Try.ntmps49
      go_wp2_with fail
      refine (popFirst_none b s h _ HB.out HM.out).mono ?_
      rintro e w1 ⟨rfl, hM, hG⟩
      have HM1 := Lib.hid hM
      have HG1 := Lib.hid hG
      clear hM hG HM
      go_wp2_with fail
      refine (tellPop_any _ _ _).mono ?_
      rintro e w2 ⟨rfl, rfl⟩
      go_wp2
      go_ret
      rw [HE.out]
      exact ⟨rfl, HM1.out, HG1.out⟩
    | succ q =>
      have HE := Lib.hid (show stepR ⟨s, h, q + 1⟩ (-1) = (⟨s.set h 0, plc s.length h 1, q⟩, s.getD h 0) from rfl)
      have HX := Lib.hid (getD_some hh)
      generalize s.getD h 0 = x at *
      go_enter Try.func49, Try.ntmps49
      go_wp2_with fail
      refine (popFirst_one b s h q x _ HB.out HM.out HX.out).mono ?_
      rintro e w1 ⟨rfl, hM, hG⟩
      have HM1 := Lib.hid hM
      have HG1 := Lib.hid hG
      clear hM hG HM
      go_wp2_with fail
      refine (tellPop_any _ _ _).mono ?_
      rintro e w2 ⟨rfl, rfl⟩
      go_wp2
      go_ret
      rw [HE.out]
      exact ⟨rfl, HM1.out, HG1.out⟩
  · have b1 : (op == -1) = false := by simpa using h1
    by_cases h2 : op = -2
    · subst h2
      cases q with
      | zero =>
        have HE := Lib.hid (show stepR ⟨s, h, 0⟩ (-2) = (⟨s, h, 0⟩, -1) from rfl)
        clear h1 b1
        go_enter Try.func49, Try.ntmps49
        go_wp2_with fail
        refine (popLast_none b s h _ HB.out HM.out).mono ?_
        rintro e w1 ⟨rfl, hM, hG⟩
        have HM1 := Lib.hid hM
        have HG1 := Lib.hid hG
        clear hM hG HM
        go_wp2_with fail
        refine (tellPop_any _ _ _).mono ?_
        rintro e w2 ⟨rfl, rfl⟩
        go_wp2
        go_ret
        rw [HE.out]
        exact ⟨rfl, HM1.out, HG1.out⟩
      | succ q =>
        have hpl := plc_lt h q n1
        have HE := Lib.hid (show stepR ⟨s, h, q + 1⟩ (-2) = (⟨s.set (plc s.length h q) 0, h, q⟩, s.getD (plc s.length h q) 0) from rfl)
        have HX := Lib.hid (getD_some hpl)
        clear h1 b1
        generalize s.getD (plc s.length h q) 0 = x at *
        go_enter Try.func49, Try.ntmps49
        go_wp2_with fail
        refine (popLast_one b s h q x _ HB.out HM.out HX.out).mono ?_
        rintro e w1 ⟨rfl, hM, hG⟩
        have HM1 := Lib.hid hM
        have HG1 := Lib.hid hG
        clear hM hG HM
        go_wp2_with fail
        refine (tellPop_any _ _ _).mono ?_
        rintro e w2 ⟨rfl, rfl⟩
        go_wp2
        go_ret
        rw [HE.out]
        exact ⟨rfl, HM1.out, HG1.out⟩
    · have b2 : (op == -2) = false := by simpa using h2
      by_cases h3 : op < 0
      · have HE := Lib.hid (show stepR ⟨s, h, q⟩ op = (⟨s, h, q⟩, -9) by simp [stepR, h1, h2, h3])
        clear h1 h2
        go_enter Try.func49, Try.ntmps49
        go_wp2
        go_ret
        rw [HE.out]
        exact ⟨rfl, HM.out, World.grownBy.refl _ _⟩
      · have h3' : 0 ≤ op := by omega
        have hwf : op ≤ 9223372036854775807 := by
          have : IntKind.i64.min ≤ op ∧ op ≤ IntKind.i64.max := by simpa [Lit.wf] using wo
          rw [show IntKind.i64.max = 9223372036854775807 from rfl] at this
          exact this.2
        have d3 : decide (op < 0) = false := by simpa using h3'
        have x1 : IntKind.i64.wrap (op.tmod 2) = op % 2 := by
          rw [Int.tmod_eq_emod_of_nonneg h3']
          exact IntWalk.i64_in _ (by omega)
        by_cases h4 : op % 2 = 0
        · have b4 : (op % 2 == 0) = true := by simpa using h4
          by_cases hq : q = s.length
          · have HE := Lib.hid (show stepR ⟨s, h, q⟩ op = (⟨s, h, q⟩, 0) by simp [stepR, h1, h2, h3, h4, hq])
            subst hq
            clear h1 h2 h3 h4 hwf wo
            go_enter Try.func49, Try.ntmps49
            go_wp2_with fail
            refine (pushLast_full b s h op _ HB.out HM.out).mono ?_
            rintro e w1 ⟨rfl, hM, hG⟩
            have HM1 := Lib.hid hM
            have HG1 := Lib.hid hG
            clear hM hG HM
            go_wp2_with fail
            refine (tellPush_any _ _).mono ?_
            rintro e w2 ⟨rfl, rfl⟩
            go_wp2
            go_ret
            rw [HE.out]
            exact ⟨rfl, HM1.out, HG1.out⟩
          · have HE := Lib.hid (show stepR ⟨s, h, q⟩ op = (⟨s.set (plc s.length h q) op, h, q + 1⟩, 1) by simp [stepR, h1, h2, h3, h4, hq])
            clear h1 h2 h3 h4 hwf wo
            go_enter Try.func49, Try.ntmps49
            go_wp2_with fail
            refine (pushLast_room b s h q op _ (by omega) HB.out HM.out).mono ?_
            rintro e w1 ⟨rfl, hM, hG⟩
            have HM1 := Lib.hid hM
            have HG1 := Lib.hid hG
            clear hM hG HM
            go_wp2_with fail
            refine (tellPush_any _ _).mono ?_
            rintro e w2 ⟨rfl, rfl⟩
            go_wp2
            go_ret
            rw [HE.out]
            exact ⟨rfl, HM1.out, HG1.out⟩
        · have b4 : (op % 2 == 0) = false := by simpa using h4
          by_cases hq : q = s.length
          · have HE := Lib.hid (show stepR ⟨s, h, q⟩ op = (⟨s, h, q⟩, 0) by simp [stepR, h1, h2, h3, h4, hq])
            subst hq
            clear h1 h2 h3 h4 hwf wo
            go_enter Try.func49, Try.ntmps49
            go_wp2_with fail
            refine (pushFirst_full b s h op _ HB.out HM.out).mono ?_
            rintro e w1 ⟨rfl, hM, hG⟩
            have HM1 := Lib.hid hM
            have HG1 := Lib.hid hG
            clear hM hG HM
            go_wp2_with fail
            refine (tellPush_any _ _).mono ?_
            rintro e w2 ⟨rfl, rfl⟩
            go_wp2
            go_ret
            rw [HE.out]
            exact ⟨rfl, HM1.out, HG1.out⟩
          · have HE := Lib.hid (show stepR ⟨s, h, q⟩ op = (⟨s.set (plc s.length h (s.length - 1)) op, plc s.length h (s.length - 1), q + 1⟩, 1) by simp [stepR, h1, h2, h3, h4, hq])
            clear h1 h2 h3 h4 hwf wo
            go_enter Try.func49, Try.ntmps49
            go_wp2_with fail
            refine (pushFirst_room b s h q op _ (by omega) HB.out HM.out).mono ?_
            rintro e w1 ⟨rfl, hM, hG⟩
            have HM1 := Lib.hid hM
            have HG1 := Lib.hid hG
            clear hM hG HM
            go_wp2_with fail
            refine (tellPush_any _ _).mono ?_
            rintro e w2 ⟨rfl, rfl⟩
            go_wp2
            go_ret
            rw [HE.out]
            exact ⟨rfl, HM1.out, HG1.out⟩
end Go.Proofs.Ytkpkchlbljlbnaa
