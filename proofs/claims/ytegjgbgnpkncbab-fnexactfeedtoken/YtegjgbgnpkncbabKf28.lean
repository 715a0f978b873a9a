/-
  The program's EngineOk, part by part.
-/
import Derived.Test.YtegjgbgnpkncbabKf27
namespace Go.Proofs.Ytegjgbgnpkncbab
open Go.RowKit
set_option linter.unusedVariables false
theorem all_take_succ {α : Type} {p : α → Bool} {l : List α} {k : Nat} {t : α} (h : l[k]? = some t) (h1 : (l.take k).all p = true) (h2 : p t = true) : (l.take (k + 1)).all p = true := by
  rw [List.take_add_one, h]; simp only [List.all_append, Option.toList, List.all_cons, List.all_nil, h1, h2, Bool.and_true]
theorem all_bad {α : Type} {p : α → Bool} {l : List α} {k : Nat} {t : α} (h : l[k]? = some t) (h2 : p t = false) : l.all p = false := by
  rw [List.all_eq_false]
  exact ⟨t, List.mem_of_getElem? h, by simp [h2]⟩
theorem all_end {α : Type} {p : α → Bool} {l : List α} {k n : Nat} (hn : l.length = n) (hk : ¬ k < n) (h1 : (l.take k).all p = true) : l.all p = true := by
  rw [List.take_of_length_le (by omega)] at h1; exact h1
def colP (m : Int × Int) : Bool := inB m.2 (-1000000) 1000000
def colB (col pend : Int) (l : List (Int × Int)) : Bool := l.all colP && (inB col 0 1000000 && inB pend 0 1000000)
set_option maxHeartbeats 400000 in
set_option maxRecDepth 100000 in
theorem columnsOk_any (col pend : Int) (A : Option Addr) (l : List (Int × Int)) (n c : Nat) (w : World) (hn : l.length = n) (hm : n ≤ maxLen) (h : MS w A l) :
    Calls Try.prog 80 #[.int .i64 col, .int .i64 pend, .slice A n c] w fun r w' => r = .returned (.bool (colB col pend l)) ∧ Below w.heap.size w w' := by
  unfold maxLen at hm
  have HN := Lib.hid hn
  clear hn
  go_enter Try.func80, Try.ntmps80
  go_wp2_with fail
  go_loopw [11] (fun i wr => ∃ k : Nat, k ≤ n ∧ i = .int .i64 k ∧ (l.take k).all colP = true ∧ Below w.heap.size w wr) (fun i _ => n - (intOf i).toNat)
  case atStart => exact ⟨0, Nat.zero_le _, rfl, by simp, Below.refl _ _⟩
  case round =>
    obtain ⟨k, hk, rfl, hall, hb⟩ := hrel
    have HA := Lib.hid hall
    clear hall
    by_cases hkl : k < n
    · obtain ⟨t, b, o, ht, rfl, hbl, _⟩ := h.two (k := k) (by have := HN.out; omega)
      obtain ⟨hbl', c0, c1⟩ := MS.get (RS.below h hb) ht
      have HT := Lib.hid ht
      clear ht
      have HB := Lib.hid hb
      have hz := hb.size
      clear hb
      cases hp : inB t.2 (-1000000) 1000000
      · have HP := Lib.hid hp
        have HI := Lib.hid (show colB col pend l = false by unfold colB; rw [all_bad HT.out (show colP t = false from hp)]; rfl)
        clear hp
        go_wp2_with (go_at_call 73; refine (within_any _ _ _ _).mono ?_; rintro e w' ⟨rfl, rfl⟩; rw [HP.out])
        go_ret
        rw [HI.out]
        exact ⟨rfl, HB.out.alloc hz _⟩
      · have HP := Lib.hid hp
        have HI := Lib.hid (all_take_succ HT.out HA.out (show colP t = true from hp))
        clear hp
        go_wp2_with (go_at_call 73; refine (within_any _ _ _ _).mono ?_; rintro e w' ⟨rfl, rfl⟩; rw [HP.out])
        go_roundw
        case rel => exact ⟨k + 1, by omega, by go_num, HI.out, HB.out.alloc hz _⟩
        case measure => simp [intOf]; omega
    · have HI := Lib.hid (all_end HN.out hkl HA.out)
      have HB := Lib.hid hb
      clear hb
      cases h1 : inB col 0 1000000
      · have H1 := Lib.hid h1
        have HJ := Lib.hid (show colB col pend l = false by unfold colB; rw [h1]; simp)
        clear h1
        go_wp2_with (go_at_call 73; refine (within_any _ _ _ _).mono ?_; rintro e w' ⟨rfl, rfl⟩; rw [H1.out])
        go_ret
        rw [HJ.out]
        exact ⟨rfl, HB.out⟩
      · have H1 := Lib.hid h1
        have HJ := Lib.hid (show colB col pend l = inB pend 0 1000000 by unfold colB; rw [h1, HI.out]; simp)
        clear h1
        cases h2 : inB pend 0 1000000
        all_goals
          have H2 := Lib.hid h2
          clear h2
          go_wp2_with (go_at_call 73; refine (within_any _ _ _ _).mono ?_; rintro e w' ⟨rfl, rfl⟩; first | rw [H1.out] | rw [H2.out])
          go_ret
          rw [HJ.out, H2.out]
          exact ⟨rfl, HB.out⟩
def kindP (m : Int × Int) : Bool := inB m.1 0 2
def mksOkB (l : List (Int × Int)) : Bool := l.all kindP && inB l.length 1 13
set_option maxHeartbeats 400000 in
set_option maxRecDepth 100000 in
theorem marksOk_any (A : Option Addr) (l : List (Int × Int)) (n c : Nat) (w : World) (hn : l.length = n) (hm : n ≤ maxLen) (h : MS w A l) :
    Calls Try.prog 81 #[.slice A n c] w fun r w' => r = .returned (.bool (mksOkB l)) ∧ Below w.heap.size w w' := by
  unfold maxLen at hm
  have HN := Lib.hid hn
  clear hn
  go_enter Try.func81, Try.ntmps81
  go_wp2_with fail
  go_loopw [7] (fun i wr => ∃ k : Nat, k ≤ n ∧ i = .int .i64 k ∧ (l.take k).all kindP = true ∧ Below w.heap.size w wr) (fun i _ => n - (intOf i).toNat)
  case atStart => exact ⟨0, Nat.zero_le _, rfl, by simp, Below.refl _ _⟩
  case round =>
    obtain ⟨k, hk, rfl, hall, hb⟩ := hrel
    have HA := Lib.hid hall
    clear hall
    by_cases hkl : k < n
    · obtain ⟨t, b, o, ht, rfl, hbl, _⟩ := h.two (k := k) (by have := HN.out; omega)
      obtain ⟨hbl', c0, c1⟩ := MS.get (RS.below h hb) ht
      have HT := Lib.hid ht
      clear ht
      have HB := Lib.hid hb
      have hz := hb.size
      clear hb
      cases hp : inB t.1 0 2
      · have HP := Lib.hid hp
        have HI := Lib.hid (show mksOkB l = false by unfold mksOkB; rw [all_bad HT.out (show kindP t = false from hp)]; rfl)
        clear hp
        go_wp2_with (go_at_call 73; refine (within_any _ _ _ _).mono ?_; rintro e w' ⟨rfl, rfl⟩; rw [HP.out])
        go_ret
        rw [HI.out]
        exact ⟨rfl, HB.out.alloc hz _⟩
      · have HP := Lib.hid hp
        have HI := Lib.hid (all_take_succ HT.out HA.out (show kindP t = true from hp))
        clear hp
        go_wp2_with (go_at_call 73; refine (within_any _ _ _ _).mono ?_; rintro e w' ⟨rfl, rfl⟩; rw [HP.out])
        go_roundw
        case rel => exact ⟨k + 1, by omega, by go_num, HI.out, HB.out.alloc hz _⟩
        case measure => simp [intOf]; omega
    · have HI := Lib.hid (all_end HN.out hkl HA.out)
      have HJ := Lib.hid (show mksOkB l = inB n 1 13 by unfold mksOkB; rw [HI.out, HN.out]; simp)
      have HB := Lib.hid hb
      clear hb
      go_wp2_with (go_at_call 73; refine (within_any _ _ _ _).mono ?_; rintro e w' ⟨rfl, rfl⟩)
      go_ret
      rw [HJ.out]
      exact ⟨rfl, HB.out⟩
/-- a held that is right but for its start. -/
def hdB (h : Hd) : Bool := h.t.ok && (inB h.lv 0 12 && (if h.sz = -1 then decide (h.t.k = 2) || decide (h.t.k = 1) else inB h.sz 0 1000000))
theorem sizedLater_any (t : Tk) (w : World) : Calls Try.prog 88 #[.agg #[.int .i64 t.k, .string t.s, .int .i64 t.d, .int .i64 t.o]] w fun r w' => r = .returned (.bool (decide (t.k = 2) || decide (t.k = 1))) ∧ Below w.heap.size w w' := by
  by_cases h2 : t.k = 2
  · have b2 : (t.k == 2) = true := by rw [h2]; rfl
    have HI := Lib.hid (show (decide (t.k = 2) || decide (t.k = 1)) = true by simp [h2])
    clear h2
    go_enter Try.func88, Try.ntmps88
    go_wp2
    go_ret
    rw [HI.out]
    exact ⟨rfl, (Below.refl _ _).alloc (Nat.le_refl _) _⟩
  · have b2 : (t.k == 2) = false := by simpa using h2
    by_cases h1 : t.k = 1
    · have b1 : (t.k == 1) = true := by rw [h1]; rfl
      have HI := Lib.hid (show (decide (t.k = 2) || decide (t.k = 1)) = true by simp [h1])
      clear h1 h2
      go_enter Try.func88, Try.ntmps88
      go_wp2
      go_ret
      rw [HI.out]
      exact ⟨rfl, (Below.refl _ _).alloc (Nat.le_refl _) _⟩
    · have b1 : (t.k == 1) = false := by simpa using h1
      have HI := Lib.hid (show (decide (t.k = 2) || decide (t.k = 1)) = false by simp [h1, h2])
      clear h1 h2
      go_enter Try.func88, Try.ntmps88
      go_wp2
      go_ret
      rw [HI.out]
      exact ⟨rfl, (Below.refl _ _).alloc (Nat.le_refl _) _⟩
set_option maxHeartbeats 400000 in
set_option maxRecDepth 100000 in
theorem heldOk_any (h : Hd) (w : World) (hs : h.t.s.size ≤ maxLen) :
    Calls Try.prog 104 #[.agg #[.int .i64 h.t.k, .string h.t.s, .int .i64 h.t.d, .int .i64 h.t.o, .int .i64 h.lv, .int .i64 h.st, .int .i64 h.sz]] w fun r w' => r = .returned (.bool (hdB h)) ∧ Below w.heap.size w w' := by
  go_enter Try.func104, Try.ntmps104
  go_wp2_with fail
  have hX1 := BlkL.new w 80 (fh h)
  have hB1 := (Below.refl w.heap.size w).alloc (Nat.le_refl _) (.cells (fh h).toArray 80)
  change Calls _ _ _ (w.alloc (.cells (fh h).toArray 80)) _
  generalize w.alloc (.cells (fh h).toArray 80) = w1 at *
  refine (TokenOk_any _ _ _ _ w1 hs).mono ?_
  rintro r w2 ⟨rfl, hb2⟩
  have HB2 := Lib.hid (hB1.trans (hb2.mono hB1.size))
  have hX2 := hX1.below hb2 hX1.lt
  have HX := Lib.hid hX2
  have x4 : w2.cell? ⟨w.heap.size, 4, none⟩ = some (.int .i64 h.lv) := (hX2.cell 4).trans rfl
  have x6 : w2.cell? ⟨w.heap.size, 6, none⟩ = some (.int .i64 h.sz) := (hX2.cell 6).trans rfl
  have x0 : w2.cell? ⟨w.heap.size, 0, none⟩ = some (.int .i64 h.t.k) := (hX2.cell 0).trans rfl
  have x1 : w2.cell? ⟨w.heap.size, 1, none⟩ = some (.string h.t.s) := (hX2.cell 1).trans rfl
  have x2 : w2.cell? ⟨w.heap.size, 2, none⟩ = some (.int .i64 h.t.d) := (hX2.cell 2).trans rfl
  have x3 : w2.cell? ⟨w.heap.size, 3, none⟩ = some (.int .i64 h.t.o) := (hX2.cell 3).trans rfl
  have xl := hX2.lt
  clear hX1 hX2 hb2 hB1
  cases h1 : tokB h.t.k h.t.s h.t.d h.t.o
  · have HI := Lib.hid (show hdB h = false by unfold hdB Tk.ok; rw [h1]; rfl)
    clear h1
    go_wp2
    go_ret
    rw [HI.out]
    exact ⟨rfl, HB2.out⟩
  · have HI := Lib.hid (show hdB h = (inB h.lv 0 12 && (if h.sz = -1 then decide (h.t.k = 2) || decide (h.t.k = 1) else inB h.sz 0 1000000)) by unfold hdB Tk.ok; rw [h1]; simp)
    clear h1
    cases h2 : inB h.lv 0 12
    · have H2 := Lib.hid h2
      rw [h2] at HI
      clear h2
      go_wp2_with (go_at_call 73; refine (within_any _ _ _ _).mono ?_; rintro e w' ⟨rfl, rfl⟩; rw [H2.out])
      go_ret
      rw [HI.out]
      exact ⟨rfl, HB2.out⟩
    · have H2 := Lib.hid h2
      rw [h2] at HI
      clear h2
      by_cases h3 : h.sz = -1
      · have b3 : (h.sz == -1) = true := by rw [h3]; rfl
        rw [if_pos h3] at HI
        clear h3
        go_wp2_with (first | (go_at_call 73; refine (within_any _ _ _ _).mono ?_; rintro e w' ⟨rfl, rfl⟩; rw [H2.out]) | fail)
        refine (sizedLater_any h.t w2).mono ?_
        rintro r w3 ⟨rfl, hb3⟩
        have HB3 := Lib.hid (HB2.out.trans (hb3.mono HB2.out.size))
        clear hb3
        go_wp2
        go_ret
        rw [HI.out]
        exact ⟨rfl, HB3.out⟩
      · have b3 : (h.sz == -1) = false := by simpa using h3
        rw [if_neg h3] at HI
        clear h3
        go_wp2_with (go_at_call 73; refine (within_any _ _ _ _).mono ?_; rintro e w' ⟨rfl, rfl⟩; (try rw [H2.out]))
        go_ret
        rw [HI.out]
        exact ⟨rfl, HB2.out⟩
/-- the first k helds are right. -/
def hdsB (tot : Int) (l : List Hd) : Nat → Bool
  | 0 => true
  | k + 1 => hdsB tot l k && (match l[k]? with | some h => hdB h && inB h.st (lstN l k) tot | none => true)
theorem hdsB_succ {tot : Int} {l : List Hd} {k : Nat} {h : Hd} (e : l[k]? = some h) : hdsB tot l (k + 1) = (hdsB tot l k && (hdB h && inB h.st (lstN l k) tot)) := by simp [hdsB, e]
theorem hdsB_false {tot : Int} {l : List Hd} {j k : Nat} (hjk : j ≤ k) (h : hdsB tot l j = false) : hdsB tot l k = false := by
  induction hjk with
  | refl => exact h
  | step _ ih => simp [hdsB, ih]
def helB (tot : Int) (l : List Hd) : Bool := decide (l.length ≤ 400) && hdsB tot l l.length
set_option maxHeartbeats 1000000 in
set_option maxRecDepth 100000 in
theorem heldsOk_any (A : Option Addr) (l : List Hd) (n c : Nat) (tot : Int) (w : World) (hn : l.length = n) (hm : n ≤ maxLen) (h : HS w A l) (hf : Fits (tks l)) :
    Calls Try.prog 82 #[.slice A n c, .int .i64 tot] w fun r w' => r = .returned (.bool (helB tot l)) ∧ Below w.heap.size w w' := by
  unfold maxLen at hm
  have HN := Lib.hid hn
  clear hn
  by_cases h4 : 400 < n
  · have HI := Lib.hid (show helB tot l = false by unfold helB; rw [HN.out]; simp; omega)
    go_enter Try.func82, Try.ntmps82
    go_wp2
    go_ret
    rw [HI.out]
    exact ⟨rfl, Below.refl _ _⟩
  have HI := Lib.hid (show helB tot l = hdsB tot l n by unfold helB; rw [HN.out]; simp; omega)
  go_enter Try.func82, Try.ntmps82
  go_wp2_with fail
  go_loopw [5, 13] (fun s i wr => ∃ k : Nat, k ≤ n ∧ i = .int .i64 k ∧ s = .int .i64 (lstN l k) ∧ hdsB tot l k = true ∧ Below w.heap.size w wr) (fun _ i _ => n - (intOf i).toNat)
  case atStart => exact ⟨0, Nat.zero_le _, rfl, rfl, rfl, Below.refl _ _⟩
  case round =>
    obtain ⟨k, hk, rfl, rfl, hall, hb⟩ := hrel
    have HA := Lib.hid hall
    clear hall
    by_cases hkl : k < n
    · obtain ⟨t, b, o, ht, rfl, hbl, _⟩ := h.sev (k := k) (by have := HN.out; omega)
      have hs := hf k t.t (tks_at ht)
      obtain ⟨hbl', c0, c1, c2, c3, c4, c5, c6⟩ := HS.get (RS.below h hb) ht
      have HT := Lib.hid ht
      clear ht
      have HB := Lib.hid hb
      have hz := hb.size
      clear hb
      go_wp2_with fail
      have hX1 := BlkL.new wr 80 (fh t)
      have hB1 := HB.out.alloc hz (.cells (fh t).toArray 80)
      change Calls _ _ _ (wr.alloc (.cells (fh t).toArray 80)) _
      generalize wr.alloc (.cells (fh t).toArray 80) = w1 at *
      refine (heldOk_any t w1 hs).mono ?_
      rintro r w2 ⟨rfl, hb2⟩
      have HB2 := Lib.hid (hB1.trans (hb2.mono hB1.size))
      have hX2 := hX1.below hb2 hX1.lt
      have x5 : w2.cell? ⟨wr.heap.size, 5, none⟩ = some (.int .i64 t.st) := (hX2.cell 5).trans rfl
      have xl := hX2.lt
      clear hX1 hX2 hb2 hB1
      cases h1 : hdB t
      · have HJ := Lib.hid (show helB tot l = false by rw [HI.out]; exact hdsB_false (j := k + 1) (by omega) (by rw [hdsB_succ HT.out, h1]; simp))
        go_wp2
        go_ret
        rw [HJ.out]
        exact ⟨rfl, HB2.out⟩
      · cases h2 : inB t.st (lstN l k) tot
        · have HJ := Lib.hid (show helB tot l = false by rw [HI.out]; exact hdsB_false (j := k + 1) (by omega) (by rw [hdsB_succ HT.out, h2]; simp))
          have H2 := Lib.hid h2
          clear h1 h2
          go_wp2_with (go_at_call 73; refine (within_any _ _ _ _).mono ?_; rintro e w' ⟨rfl, rfl⟩; rw [H2.out])
          go_ret
          rw [HJ.out]
          exact ⟨rfl, HB2.out⟩
        · have HJ := Lib.hid (show hdsB tot l (k + 1) = true by rw [hdsB_succ HT.out, h1, h2, HA.out]; rfl)
          have H2 := Lib.hid h2
          clear h1 h2
          go_wp2_with (go_at_call 73; refine (within_any _ _ _ _).mono ?_; rintro e w' ⟨rfl, rfl⟩; rw [H2.out])
          go_roundw
          case rel => exact ⟨k + 1, by omega, by go_num, by rw [lstN_succ HT.out], HJ.out, HB2.out⟩
          case measure => simp [intOf]; omega
    · have HI := Lib.hid (show helB tot l = true by rw [HI.out, show n = k by omega]; exact HA.out)
      have HB := Lib.hid hb
      clear hb
      go_wp2
      go_ret
      rw [HI.out]
      exact ⟨rfl, HB.out⟩
/-- the stack behind each of the first k helds. -/
def stkN (n : Nat) (l : List Tk) : Nat → Bool
  | 0 => true
  | k + 1 => stkN n l k && inB ((n : Int) + opN l (k + 1)) 1 13
theorem stkN_false {n : Nat} {l : List Tk} {j k : Nat} (hjk : j ≤ k) (h : stkN n l j = false) : stkN n l k = false := by
  induction hjk with
  | refl => exact h
  | step _ ih => simp [stkN, ih]
def stkB (n : Nat) (l : List Tk) (lev : Int) : Bool := stkN n l l.length && decide ((n : Int) + opN l l.length = lev + 1)
set_option maxHeartbeats 1000000 in
set_option maxRecDepth 100000 in
theorem stackOk_any (e : En) (A : Option Addr) (c : Nat) (A2 : Option Addr) (c2 : Nat) (w : World) (hm : e.ms.length ≤ 13) (hi : e.it.length ≤ 400) (hl : 0 ≤ e.lev ∧ e.lev ≤ 12) (hs : HS w A2 e.it) :
    Calls Try.prog 83 #[.agg #[.int .i64 e.W, .int .i64 e.col, .int .i64 e.pend, .slice A e.ms.length c, .slice A2 e.it.length c2, .int .i64 e.tot, .int .i64 e.lev]] w fun r w' => r = .returned (.bool (stkB e.ms.length (tks e.it) e.lev)) ∧ Below w.heap.size w w' := by
  have hX0 := BlkL.new w 47 (ecs e (.slice A e.ms.length c) (.slice A2 e.it.length c2))
  have hB0 := (Below.refl w.heap.size w).alloc (Nat.le_refl _) (.cells (ecs e (.slice A e.ms.length c) (.slice A2 e.it.length c2)).toArray 47)
  have HX0 := Lib.hid hX0
  have HB0 := Lib.hid hB0
  have HL := Lib.hid (tks_length e.it)
  clear hX0 hB0
  go_enter Try.func83, Try.ntmps83
  go_wp2_with fail
  go_loopw [3, 12] (fun s i wr => ∃ k : Nat, k ≤ e.it.length ∧ i = .int .i64 k ∧ s = .int .i64 (e.ms.length + opN (tks e.it) k) ∧ stkN e.ms.length (tks e.it) k = true ∧ BlkL wr w.heap.size 47 (ecs e (.slice A e.ms.length c) (.slice A2 e.it.length c2)) ∧ Below w.heap.size w wr) (fun _ i _ => e.it.length - (intOf i).toNat)
  case atStart => exact ⟨0, Nat.zero_le _, rfl, by simp [opN_zero], rfl, HX0.out, HB0.out⟩
  case round =>
    obtain ⟨k, hk, rfl, rfl, hall, hbx, hb⟩ := hrel
    have HA := Lib.hid hall
    clear hall HX0 HB0
    have hop := opN_bd (tks e.it) k
    by_cases hkl : k < e.it.length
    · obtain ⟨t, b, o, ht, rfl, hbl, _⟩ := hs.sev (k := k) hkl
      obtain ⟨hbl', f0, f1, f2, f3, f4, f5, f6⟩ := HS.get (RS.below hs hb) ht
      have HT := Lib.hid (opN_succ (tks_at ht))
      have hto : -1 ≤ t.t.opn ∧ t.t.opn ≤ 1 := by rcases t.t.opn_cases with ⟨_, e⟩ | ⟨_, e⟩ | ⟨_, _, e⟩ <;> omega
      clear ht
      have HB := Lib.hid hb
      have hz := hb.size
      have HBX := Lib.hid hbx
      clear hb hbx
      go_wp2_with fail
      have hB1 := HB.out.alloc hz (.cells (fh t).toArray 80)
      have hBX1 := HBX.out.alloc (.cells (fh t).toArray 80)
      change Calls _ _ _ (wr.alloc (.cells (fh t).toArray 80)) _
      generalize wr.alloc (.cells (fh t).toArray 80) = w1 at *
      refine (opening_any t.t w1).mono ?_
      rintro r w2 ⟨rfl, hb2⟩
      have HB2 := Lib.hid (hB1.trans (hb2.mono hB1.size))
      have HBX2 := Lib.hid (hBX1.below hb2 hBX1.lt)
      clear hb2 hB1 hBX1
      cases hp : inB (e.ms.length + opN (tks e.it) k + t.t.opn) 1 13
      · have HJ := Lib.hid (show stkB e.ms.length (tks e.it) e.lev = false by
          have : stkN e.ms.length (tks e.it) (k + 1) = false := by simp only [stkN]; rw [HT.out, ← Int.add_assoc, hp]; simp
          unfold stkB; rw [stkN_false (by rw [HL.out]; omega) this]; rfl)
        have HP := Lib.hid hp
        clear hp
        go_wp2_with (go_at_call 73; refine (within_any _ _ _ _).mono ?_; rintro e w' ⟨rfl, rfl⟩; rw [HP.out])
        go_ret
        rw [HJ.out]
        exact ⟨rfl, HB2.out⟩
      · have HJ := Lib.hid (show stkN e.ms.length (tks e.it) (k + 1) = true by simp only [stkN]; rw [HT.out, ← Int.add_assoc, hp, HA.out]; rfl)
        have HP := Lib.hid hp
        clear hp
        go_wp2_with (go_at_call 73; refine (within_any _ _ _ _).mono ?_; rintro e w' ⟨rfl, rfl⟩; rw [HP.out])
        go_roundw
        case rel => exact ⟨k + 1, by omega, by go_num, by rw [HT.out, Int.add_assoc], HJ.out, HBX2.out, HB2.out⟩
        case measure => simp [intOf]; omega
    · have x6 : wr.cell? ⟨w.heap.size, 6, none⟩ = some (.int .i64 e.lev) := (hbx.cell 6).trans rfl
      have xl := hbx.lt
      have HJ := Lib.hid (show stkB e.ms.length (tks e.it) e.lev = ((e.ms.length : Int) + opN (tks e.it) k == e.lev + 1) by
        have hke : k = (tks e.it).length := by have := HL.out; omega
        unfold stkB
        rw [← hke, HA.out, Bool.true_and]
        by_cases hq : (e.ms.length : Int) + opN (tks e.it) k = e.lev + 1
        · rw [hq]; simp
        · simp [hq])
      have HB := Lib.hid hb
      clear hb hbx
      go_wp2
      go_ret
      rw [HJ.out]
      exact ⟨rfl, HB.out⟩
end Go.Proofs.Ytegjgbgnpkncbab
