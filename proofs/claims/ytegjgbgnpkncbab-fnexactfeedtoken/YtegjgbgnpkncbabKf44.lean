/-
  The model's flush: plain words.
-/
import Derived.Test.YtegjgbgnpkncbabKfWrt
namespace Go.Proofs.Ytegjgbgnpkncbab
open Go.RowKit
set_option linter.unusedVariables false
def Pr.bare (s : Pr) : Pr := { s with out := [] }
theorem put_bare (W : Int) (s : Pr) (t : Tk) (z : Int) : (s.put W t z).1.out = s.out ++ (s.bare.put W t z).1.out ∧ (s.bare.put W t z).1.col = (s.put W t z).1.col ∧ (s.bare.put W t z).1.pend = (s.put W t z).1.pend ∧ (s.bare.put W t z).1.ms = (s.put W t z).1.ms := by
  have h1 : s.bare.stays W z = s.stays W z := rfl
  unfold Pr.put
  rw [h1]
  repeat' split
  all_goals simp [Pr.text, Pr.brk, Pr.open, Pr.bare]
  all_goals (first | rfl | simp [Pr.top, Pr.room])
theorem HS.drop1 {w : World} {b o : Nat} {h : Hd} {r : List Hd} (hh : HS w (some ⟨b, o, none⟩) (h :: r)) : HS w (some ⟨b, o + 7, none⟩) r := by
  intro i t ht
  obtain ⟨b', o', e, h1, h2⟩ := hh (i + 1) t (by simpa using ht)
  injection e with e
  injection e with e1 e2
  subst e1 e2
  exact ⟨b, o + 7, rfl, h1, fun j hj => by rw [← h2 j hj]; congr 2; omega⟩
theorem HS.setHead {w : World} {b o : Nat} {h : Hd} {r : List Hd} {cs : List Value} {ty : TypeId} (hb : BlkL w b ty cs) (hh : HS w (some ⟨b, o, none⟩) (h :: r)) (z : Int) : HS (w.setCell ⟨b, o + 6, none⟩ (.int .i64 z)) (some ⟨b, o, none⟩) ({ h with sz := z } :: r) := by
  have hlt := (hb.set (o + 6) (.int .i64 z)).lt
  have hc : ∀ x, x ≠ o + 6 → (w.setCell ⟨b, o + 6, none⟩ (.int .i64 z)).cell? ⟨b, x, none⟩ = w.cell? ⟨b, x, none⟩ := fun x hx => by
    rw [(hb.set (o + 6) _).cell, hb.cell, List.getElem?_set_ne (by omega)]
  intro i t ht
  cases i with
  | zero =>
    obtain rfl : { h with sz := z } = t := by simpa using ht
    obtain ⟨hl, g0, g1, g2, g3, g4, g5, g6⟩ := hh.get (k := 0) (m := h) rfl
    simp only [Nat.zero_mul, Nat.add_zero] at g0 g1 g2 g3 g4 g5 g6
    refine ⟨b, o, rfl, hlt, fun j hj => ?_⟩
    simp only [Nat.zero_mul, Nat.add_zero]
    match j, hj with
    | 0, _ => rw [hc _ (by omega)]; exact g0
    | 1, _ => rw [hc _ (by omega)]; exact g1
    | 2, _ => rw [hc _ (by omega)]; exact g2
    | 3, _ => rw [hc _ (by omega)]; exact g3
    | 4, _ => rw [hc _ (by omega)]; exact g4
    | 5, _ => rw [hc _ (by omega)]; exact g5
    | 6, _ =>
      rw [(hb.set (o + 6) _).cell]
      rw [hb.cell] at g6
      rw [List.getElem?_set_self (List.getElem?_eq_some_iff.1 g6).1]
      rfl
  | succ i =>
    obtain ⟨b', o', e, h1, h2⟩ := hh (i + 1) t (by simpa using ht)
    injection e with e
    injection e with e1 e2
    subst e1 e2
    exact ⟨b, o, rfl, hlt, fun j hj => by rw [hc _ (by omega)]; exact h2 j hj⟩
theorem Pr.Sm.bare {s : Pr} (h : s.Sm) : s.bare.Sm := ⟨h.ln, h.col, h.pend, h.ne, h.len, h.top, h.kind, Nat.zero_le _⟩
theorem write_step (V : World) (B q : Nat) (W : Int) (s : Pr) (l : List Hd) (k : Nat) (A : Option Addr) (c : Nat) (b o cap : Nat) (h : Hd) (tot lev : Int) (cs : List Value) (hBq : B ≤ q) (hBb : B ≤ b) (hlk : l[k]? = some h) (hq : BlkL V q 47 [.int .i64 W, .int .i64 ((runP W s l k).col : Int), .int .i64 ((runP W s l k).pend : Int), .slice A (runP W s l k).ms.length c, .slice (some ⟨b, o, none⟩) (l.length - k) cap, .int .i64 tot, .int .i64 lev]) (hm : MS V A (runP W s l k).ms) (hi : HS V (some ⟨b, o, none⟩) ({ h with sz := szF h } :: l.drop (k + 1))) (hcs : BlkL V b 80 cs) (hf : Fine s l) (hcap : l.length - k ≤ cap) (hW0 : 0 ≤ W) (hW1 : W ≤ 1000) :
    Calls Try.prog 77 #[.pointer (some ⟨q, 0, none⟩)] V fun r w' => ∃ x A9 c9 A8 c8, r = .returned (.string ⟨x⟩) ∧ (runP W s l k).out.toArray ++ x = (runP W s l (k + 1)).out.toArray ∧ BlkL w' q 47 [.int .i64 W, .int .i64 ((runP W s l (k + 1)).col : Int), .int .i64 ((runP W s l (k + 1)).pend : Int), .slice A9 (runP W s l (k + 1)).ms.length c9, .slice A8 (l.length - (k + 1)) c8, .int .i64 tot, .int .i64 lev] ∧ MS w' A9 (runP W s l (k + 1)).ms ∧ HS w' A8 (l.drop (k + 1)) ∧ l.length - (k + 1) ≤ c8 ∧ (∀ b o, A8 = some ⟨b, o, none⟩ → k + 1 < l.length → B ≤ b ∧ (∃ cs, BlkL w' b 80 cs) ∧ (∀ g, A9.map (·.block) = some g → g ≠ b)) ∧ (∀ g, A9.map (·.block) = some g → B ≤ g) ∧ Below B V w' := by
  have hk : k < l.length := (List.getElem?_eq_some_iff.1 hlk).1
  have hlen := hf.len
  obtain ⟨hbl, hsev⟩ := hi.get (k := 0) (m := { h with sz := szF h }) rfl
  simp only [Nat.zero_mul, Nat.add_zero] at hsev
  have hqb : q ≠ b := fun e => by
    subst e
    unfold BlkL at hq hcs
    rw [hq] at hcs
    injection hcs with hcs
    injection hcs with _ hcs
    revert hcs
    decide
  obtain ⟨p1, p2, p3, p4⟩ := put_bare W (runP W s l k) h.t (szF h)
  rw [show l.length - k = l.length - (k + 1) + 1 by omega] at hq
  refine (l05Write_any V q W (runP W s l k).bare A c b o (l.length - (k + 1)) cap { h with sz := szF h } tot lev hq hm (hf.sm k (by omega)).bare rfl hsev hbl (hf.tok k h hlk) hW0 hW1 (by omega) (by omega)).mono ?_
  rintro r w' ⟨rfl, ⟨A9, c9, o9, hQ9, hM9, ho9, hg9⟩, hgr⟩
  simp only [p2, p3, p4] at hQ9 hM9
  rw [runP_succ hlk]
  refine ⟨_, A9, c9, some ⟨b, o9, none⟩, cap - 1, rfl, by rw [p1]; simp, hQ9, hM9, ?_, by omega, ?_, fun g hg => by (have := hg9 g hg; omega), ⟨hgr.os, hgr.tape, hgr.output, hgr.size, fun i hi' => ?_⟩⟩
  · by_cases hn : l.length - (k + 1) = 0
    · rw [List.drop_eq_nil_of_le (by omega)]; exact RS.nil _ _
    · obtain rfl := ho9 hn
      exact RS.grown (HS.drop1 hi) hgr (fun g hg e => by simp at hg; injection e with e; omega)
  · intro b' o' e' hk'
    injection e' with e'
    injection e' with e1 e2
    subst e1
    exact ⟨hBb, ⟨cs, hcs.grown hgr (fun e => by injection e with e; omega)⟩, fun g hg e => by have := hg9 g hg; omega⟩
  · exact hgr.block i (by omega) (fun e => by injection e with e; omega)
set_option maxHeartbeats 2000000 in
set_option maxRecDepth 100000 in
theorem l05Flush_any (w : World) (B q : Nat) (W : Int) (s : Pr) (A : Option Addr) (c : Nat) (A2 : Option Addr) (c2 : Nat) (l : List Hd) (tot lev : Int) (hBq : B ≤ q) (hq : BlkL w q 47 [.int .i64 W, .int .i64 s.col, .int .i64 s.pend, .slice A s.ms.length c, .slice A2 l.length c2, .int .i64 tot, .int .i64 lev]) (hm : MS w A s.ms) (hi : HS w A2 l) (hcap : l.length ≤ c2) (hown : ∀ b o, A2 = some ⟨b, o, none⟩ → l ≠ [] → B ≤ b ∧ (∃ cs, BlkL w b 80 cs) ∧ (∀ g, A.map (·.block) = some g → g ≠ b)) (hAB : ∀ g, A.map (·.block) = some g → B ≤ g) (ho : s.out = []) (hf : Fine s l) (hst : ∀ (i : Nat) (x : Hd), l[i]? = some x → 0 ≤ x.st ∧ x.st ≤ tot) (ht1 : tot ≤ 1000000) (hW0 : 0 ≤ W) (hW1 : W ≤ 1000) :
    Calls Try.prog 53 #[.pointer (some ⟨q, 0, none⟩)] w fun r w' => r = .returned (.string ⟨(flu W tot s l).1.out.toArray⟩) ∧ (∃ A' c' A2' c2', BlkL w' q 47 [.int .i64 W, .int .i64 ((flu W tot s l).1.col : Int), .int .i64 ((flu W tot s l).1.pend : Int), .slice A' (flu W tot s l).1.ms.length c', .slice A2' (flu W tot s l).2.length c2', .int .i64 tot, .int .i64 lev] ∧ MS w' A' (flu W tot s l).1.ms ∧ HS w' A2' (flu W tot s l).2 ∧ (∀ g, A'.map (·.block) = some g → B ≤ g) ∧ ((flu W tot s l).2 ≠ [] → ∀ g, A2'.map (·.block) = some g → B ≤ g)) ∧ Below B w w' := by
  have HQ := Lib.hid hq
  have HM := Lib.hid hm
  have HI := Lib.hid hi
  have HO := Lib.hid hown
  have HF := Lib.hid hf
  have HST := Lib.hid hst
  have HOE := Lib.hid ho
  have HAB := Lib.hid hAB
  have hlen := hf.len
  clear hq hm hi hown hf hst ho hAB
  go_enter Try.func53, Try.ntmps53
  go_wp2_with fail
  go_loopw [3] (fun i wr => ∃ (k : Nat) (A' : Option Addr) (c' : Nat) (A2' : Option Addr) (c2' : Nat), k ≤ l.length ∧ i = .string ⟨(runP W s l k).out.toArray⟩ ∧ flu W tot s l = flu W tot (runP W s l k) (l.drop k) ∧ BlkL wr q 47 [.int .i64 W, .int .i64 ((runP W s l k).col : Int), .int .i64 ((runP W s l k).pend : Int), .slice A' (runP W s l k).ms.length c', .slice A2' (l.length - k) c2', .int .i64 tot, .int .i64 lev] ∧ MS wr A' (runP W s l k).ms ∧ HS wr A2' (l.drop k) ∧ l.length - k ≤ c2' ∧ (∀ b o, A2' = some ⟨b, o, none⟩ → k < l.length → B ≤ b ∧ (∃ cs, BlkL wr b 80 cs) ∧ (∀ g, A'.map (·.block) = some g → g ≠ b)) ∧ (∀ g, A'.map (·.block) = some g → B ≤ g) ∧ Below B w wr) (fun _ wr => match wr.cell? ⟨q, 4, none⟩ with | some (.slice _ n _) => n | _ => 0)
  case atStart => exact ⟨0, A, c, A2, c2, Nat.zero_le _, by rw [show (runP W s l 0).out = [] from HOE.out], rfl, HQ.out, HM.out, HI.out, hcap, fun b o e hl => HO.out b o e (fun e' => by subst e'; simp at hl), HAB.out, Below.refl _ _⟩
  case round =>
    obtain ⟨k, A', c', A2', c2', hk, rfl, hfl, hQ, hM, hI, hc, hO, hab, hb⟩ := hrel
    have HAB1 := Lib.hid hab
    clear hab
    have x4 : wr.cell? ⟨q, 4, none⟩ = some (.slice A2' (l.length - k) c2') := (hQ.cell 4).trans rfl
    have xl := hQ.lt
    have HQ1 := Lib.hid hQ
    have HM1 := Lib.hid hM
    have HI1 := Lib.hid hI
    have HO1 := Lib.hid hO
    have HB1 := Lib.hid hb
    have HFL := Lib.hid hfl
    clear hQ hM hI hO hb hfl
    by_cases hkl : k < l.length
    · obtain ⟨h, b, o, hh, rfl, hbl, hsev⟩ := HS.sev HI1.out (k := 0) (by simp; omega)
      have hlk : l[k]? = some h := by simpa using hh
      obtain ⟨hBb, ⟨cs, hcs⟩, hgb⟩ := HO1.out b o rfl hkl
      have hsm := HF.out.sm (W := W) k (by omega)
      have hcol := hsm.col
      have hpen := hsm.pend
      have hst := HST.out k h hlk
      have x0 : wr.cell? ⟨q, 0, none⟩ = some (.int .i64 W) := (HQ1.out.cell 0).trans rfl
      have x1 : wr.cell? ⟨q, 1, none⟩ = some (.int .i64 ((runP W s l k).col : Int)) := (HQ1.out.cell 1).trans rfl
      have x2 : wr.cell? ⟨q, 2, none⟩ = some (.int .i64 ((runP W s l k).pend : Int)) := (HQ1.out.cell 2).trans rfl
      have x5 : wr.cell? ⟨q, 5, none⟩ = some (.int .i64 tot) := (HQ1.out.cell 5).trans rfl
      simp only [Nat.zero_mul, Nat.add_zero] at hsev
      have f5 := hsev.2.2.2.2.2.1
      have f6 := hsev.2.2.2.2.2.2
      have ff := hcs.frozen (o + 6)
      have hI2 : HS wr (some ⟨b, o, none⟩) (h :: l.drop (k + 1)) := by
        have := HI1.out
        obtain ⟨hk', e'⟩ := List.getElem?_eq_some_iff.1 hlk
        rw [List.drop_eq_getElem_cons hk', e'] at this
        exact this
      have HI2 := Lib.hid hI2
      have HCS := Lib.hid hcs
      have HLK := Lib.hid hlk
      have HSM := Lib.hid hsm
      clear hI2 hcs hlk hsm hsev hh
      by_cases hsz : h.sz = -1
      · by_cases hrm : tot - h.st ≤ W - ((runP W s l k).col : Int) - ((runP W s l k).pend : Int)
        · have hE : flu W tot s l = (runP W s l k, l.drop k) := HFL.out.trans (flu_stop HLK.out (by simp [stopB, Pr.room, hsz, hrm]))
          have HE := Lib.hid hE
          clear hE
          rw [hsz] at f6
          have hdc : decide (tot - h.st ≤ W - ((runP W s l k).col : Int) - ((runP W s l k).pend : Int)) = true := by simpa using hrm
          go_wp2_with fail
          refine wp_region_tail 26 (fun w' => ∃ m, w' = wr.drewN m) (by kernel_rfl) (by kernel_rfl) ⟨1, rfl⟩ ?_
          simp only [List.take_succ_cons, List.take_zero, List.drop_succ_cons, List.drop_zero]
          repeat (go_big_quiet_step (fail))
          refine wpQuiet_nil ?_
          rintro w2 ⟨m, rfl⟩
          go_wp2_with fail
          go_ret
          rw [HE.out]
          exact ⟨rfl, ⟨A', c', _, c2', by rw [List.length_drop]; exact HQ1.out.drewN m, HM1.out, HI1.out, HAB1.out, fun _ g hg => by (injection hg with hg; rw [← hg]; exact hBb)⟩, HB1.out.trans ⟨rfl, rfl, rfl, Nat.le_refl _, fun _ _ => rfl⟩⟩
        · have hE := HFL.out.trans (flu_go HLK.out (by simp [stopB, Pr.room, hsz, hrm]))
          rw [← runP_succ HLK.out] at hE
          have HE := Lib.hid hE
          clear hE
          rw [hsz] at f6
          have hdc : decide (tot - h.st ≤ W - ((runP W s l k).col : Int) - ((runP W s l k).pend : Int)) = false := by simpa using hrm
          go_wp2_with fail
          refine wp_region_tail 26 (fun w' => ∃ m, w' = wr.drewN m) (by kernel_rfl) (by kernel_rfl) ⟨1, rfl⟩ ?_
          simp only [List.take_succ_cons, List.take_zero, List.drop_succ_cons, List.drop_zero]
          repeat (go_big_quiet_step (fail))
          refine wpQuiet_nil ?_
          rintro w2 ⟨m, rfl⟩
          go_wp2_with fail
          have hgw : (wr.drewN m).grownBy ((wr.drewN m).setCell ⟨b, o + 6, none⟩ (.int .i64 1000000)) (some b) := grown_self_set (World.grownBy.refl _ _) _ _
          have hqb : q ≠ b := fun e => by
            subst e
            have h1 := HQ1.out
            have h2 := HCS.out
            unfold BlkL at h1 h2
            rw [h1] at h2
            injection h2 with h2
            injection h2 with _ h2
            revert h2
            decide
          have HQ3 := Lib.hid (BlkL.grown (HQ1.out.drewN m) hgw (fun e => by injection e with e; omega))
          have HM3 := Lib.hid (show MS _ A' (runP W s l k).ms from RS.grown (w := wr.drewN m) HM1.out hgw (fun g hg e => by injection e with e; exact hgb g hg e))
          have HI3 := Lib.hid (show HS _ (some ⟨b, o, none⟩) ({ h with sz := szF h } :: l.drop (k + 1)) by rw [show szF h = 1000000 from if_pos hsz]; exact HS.setHead (w := wr.drewN m) (HCS.out.drewN m) HI2.out 1000000)
          have HC3 := Lib.hid (BlkL.set (HCS.out.drewN m) (o + 6) (.int .i64 1000000))
          have HB3 := Lib.hid (show Below B w ((wr.drewN m).setCell ⟨b, o + 6, none⟩ (.int .i64 1000000)) from HB1.out.trans ⟨hgw.os, hgw.tape, hgw.output, hgw.size, fun i hi => hgw.block i (by show i < wr.heap.size; omega) (fun e => by injection e with e; omega)⟩)
          refine (write_step _ B q W s l k A' c' b o c2' h tot lev _ hBq hBb HLK.out HQ3.out HM3.out HI3.out HC3.out HF.out hc hW0 hW1).mono ?_
          rintro r w' ⟨x, A9, c9, A8, c8, rfl, hx, hQ9, hM9, hI9, hc9, hO9, hab9, hb9⟩
          have HQ9 := Lib.hid hQ9
          have HM9 := Lib.hid hM9
          have HI9 := Lib.hid hI9
          have HO9 := Lib.hid hO9
          have HB9 := Lib.hid (HB3.out.trans hb9)
          have HX := Lib.hid hx
          have HAB9 := Lib.hid hab9
          clear hab9
          have y4 : w'.cell? ⟨q, 4, none⟩ = some (.slice A8 (l.length - (k + 1)) c8) := (hQ9.cell 4).trans rfl
          have hxl : (runP W s l k).out.length + x.size ≤ 10000000000 := by
            have h1 := congrArg Array.size hx
            simp only [Array.size_append, List.size_toArray] at h1
            have h2 := (HF.out.sm (W := W) (k + 1) (by omega)).out
            omega
          clear hQ9 hM9 hI9 hO9 hb9 hx
          go_wp2
          exact ⟨⟨k + 1, A9, c9, A8, c8, by omega, congrArg Value.string (ByteArray.ext (by rw [ByteArray.data_append]; exact HX.out)), HE.out, HQ9.out, HM9.out, HI9.out, hc9, HO9.out, HAB9.out, HB9.out⟩, by rw [y4, x4]; simp only []; omega⟩
      · have hE := HFL.out.trans (flu_go HLK.out (by simp [stopB, hsz]))
        rw [← runP_succ HLK.out] at hE
        have HE := Lib.hid hE
        clear hE
        have hb6 : (h.sz == -1) = false := by simpa using hsz
        have hI3 : HS wr (some ⟨b, o, none⟩) ({ h with sz := szF h } :: l.drop (k + 1)) := by rw [show szF h = h.sz from if_neg hsz]; exact HI2.out
        have HI3 := Lib.hid hI3
        have HQ3 := HQ1
        have HM3 := HM1
        have HC3 := HCS
        have HB3 := HB1
        clear hI3
        go_wp2_with fail
        refine (write_step wr B q W s l k A' c' b o c2' h tot lev cs hBq hBb HLK.out HQ3.out HM3.out HI3.out HC3.out HF.out hc hW0 hW1).mono ?_
        rintro r w' ⟨x, A9, c9, A8, c8, rfl, hx, hQ9, hM9, hI9, hc9, hO9, hab9, hb9⟩
        have HQ9 := Lib.hid hQ9
        have HM9 := Lib.hid hM9
        have HI9 := Lib.hid hI9
        have HO9 := Lib.hid hO9
        have HB9 := Lib.hid (HB3.out.trans hb9)
        have HX := Lib.hid hx
        have HAB9 := Lib.hid hab9
        clear hab9
        have y4 : w'.cell? ⟨q, 4, none⟩ = some (.slice A8 (l.length - (k + 1)) c8) := (hQ9.cell 4).trans rfl
        have hxl : (runP W s l k).out.length + x.size ≤ 10000000000 := by
          have h1 := congrArg Array.size hx
          simp only [Array.size_append, List.size_toArray] at h1
          have h2 := (HF.out.sm (W := W) (k + 1) (by omega)).out
          omega
        clear hQ9 hM9 hI9 hO9 hb9 hx
        go_wp2
        exact ⟨⟨k + 1, A9, c9, A8, c8, by omega, congrArg Value.string (ByteArray.ext (by rw [ByteArray.data_append]; exact HX.out)), HE.out, HQ9.out, HM9.out, HI9.out, hc9, HO9.out, HAB9.out, HB9.out⟩, by rw [y4, x4]; simp only []; omega⟩
    · obtain rfl : k = l.length := by omega
      have hE := HFL.out.trans (flu_end (by omega))
      go_wp2_with fail
      go_ret
      rw [hE]
      exact ⟨rfl, ⟨A', c', A2', c2', by rw [List.length_drop]; exact HQ1.out, HM1.out, HI1.out, HAB1.out, fun hne => (hne (List.drop_length)).elim⟩, HB1.out⟩
end Go.Proofs.Ytegjgbgnpkncbab
