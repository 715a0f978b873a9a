/-
  What a press does, in plain words; its sizes are ended.
-/
import Derived.Test.YtegjgbgnpkncbabKf34
namespace Go.Proofs.Ytegjgbgnpkncbab
open Go.RowKit
set_option linter.unusedVariables false

/-- one held whose size ends here. -/
def endH (tot lv : Int) (line : Bool) (h : Hd) : Hd := if h.sz = -1 then (if lv ≤ h.lv then { h with sz := tot - h.st } else if line = true then { h with sz := 1000000 } else h) else h
def endS (tot lv : Int) (line : Bool) (l : List Hd) : List Hd := l.map (endH tot lv line)
def mpF {α : Type} (f : α → α) (l : List α) (k : Nat) : List α := (l.take k).map f ++ l.drop k
theorem mpF_zero {α : Type} (f : α → α) (l : List α) : mpF f l 0 = l := by simp [mpF]
theorem mpF_all {α : Type} (f : α → α) (l : List α) : mpF f l l.length = l.map f := by simp [mpF]
theorem mpF_length {α : Type} (f : α → α) (l : List α) (k : Nat) : (mpF f l k).length = l.length := by simp [mpF]; omega
theorem mpF_at {α : Type} {f : α → α} {l : List α} {k : Nat} {t : α} (h : l[k]? = some t) : (mpF f l k)[k]? = some t := by
  have hk := (List.getElem?_eq_some_iff.1 h).1
  unfold mpF
  rw [List.getElem?_append_right (by simp; omega)]
  simp only [List.length_map, List.length_take, Nat.min_eq_left (Nat.le_of_lt hk), Nat.sub_self]
  rw [List.getElem?_drop, Nat.add_zero, h]
theorem mpF_set {α : Type} {f : α → α} {l : List α} {k : Nat} {t : α} (h : l[k]? = some t) : (mpF f l k).set k (f t) = mpF f l (k + 1) := by
  obtain ⟨hk, rfl⟩ := List.getElem?_eq_some_iff.1 h
  unfold mpF
  rw [List.set_append_right _ _ (by simp; omega)]
  simp only [List.length_map, List.length_take, Nat.min_eq_left (Nat.le_of_lt hk), Nat.sub_self]
  rw [List.drop_eq_getElem_cons hk, List.set_cons_zero, List.take_add_one, h]
  simp only [Option.toList, List.map_append, List.map_cons, List.map_nil, List.append_assoc, List.cons_append, List.nil_append]
theorem set_self {α : Type} {l : List α} {k : Nat} {t : α} (h : l[k]? = some t) : l.set k t = l := by
  obtain ⟨hk, rfl⟩ := List.getElem?_eq_some_iff.1 h
  exact List.set_getElem_self hk
theorem mpF_same {α : Type} {f : α → α} {l : List α} {k : Nat} {t : α} (h : l[k]? = some t) (hf : f t = t) : mpF f l (k + 1) = mpF f l k := by
  rw [← mpF_set h, hf, set_self (mpF_at h)]
/-- the last cell of a held. -/
theorem fh_size {l : List Hd} {k : Nat} {h : Hd} (e : l[k]? = some h) (x : Int) : (fl fh l).set (k * 7 + 6) (.int .i64 x) = fl fh (l.set k { h with sz := x }) := by
  have hk := (List.getElem?_eq_some_iff.1 e).1
  have hl : (fl fh (l.take k)).length = k * 7 := by rw [fl_length fh_len]; simp; omega
  have e2 : (l.set k { h with sz := x })[k]? = some { h with sz := x } := by simp [hk]
  have e3 : (l.set k { h with sz := x }).take k = l.take k := by rw [List.take_set]; exact List.set_eq_of_length_le (by simp; omega)
  have e4 : (l.set k { h with sz := x }).drop (k + 1) = l.drop (k + 1) := by rw [List.drop_set_of_lt (by omega)]
  rw [fl_split e, fl_split e2, e3, e4, List.set_append_right _ _ (by omega), hl, show k * 7 + 6 - k * 7 = 6 by omega, List.set_append_left _ _ (by rw [fh_len]; omega)]
  rfl
theorem own_put {w : World} {B z : Nat} {e : TypeId} {g n c : Nat} {xs : List Value} (h : w.ownsRow B e z (.slice (some ⟨g, 0, none⟩) n c) n xs) (i : Nat) (u : Value) :
    (w.setCell ⟨g, i, none⟩ u).ownsRow B e z (.slice (some ⟨g, 0, none⟩) n c) n (xs.set i u) ∧ w.frozen? ⟨g, i, none⟩ = false := by
  rcases h.2 with ⟨h1, _⟩ | ⟨g', cap, cur, hv, hB, hh, h1, h2, h3, h4⟩
  · cases h1
  · injection hv with e1 _ e2
    injection e1 with e1
    injection e1 with e1 _ _
    subst e1 e2
    have hk : BlkL w g e cur.toList := by unfold BlkL; simpa using hh
    refine ⟨⟨by rw [List.length_set]; exact h.1, .inr ⟨g, c, (cur.toList.set i u).toArray, rfl, hB, hk.set i u, h1, h2, by simpa using h3, ?_⟩⟩, hk.frozen i⟩
    show ((cur.toList.set i u)).take _ = _
    rw [List.take_set, h4]
theorem own_size {w : World} {B : Nat} {g n c : Nat} {l : List Hd} {k : Nat} {h : Hd} (ho : w.ownsRow B 80 7 (.slice (some ⟨g, 0, none⟩) n c) n (fl fh l)) (e : l[k]? = some h) (x : Int) :
    (w.setCell ⟨g, k * 7 + 6, none⟩ (.int .i64 x)).ownsRow B 80 7 (.slice (some ⟨g, 0, none⟩) n c) n (fl fh (l.set k { h with sz := x })) := by
  rw [← fh_size e]
  exact (own_put ho _ _).1
theorem PM.helds {w : World} {B p : Nat} {tp tm : TypeId} {cs : List Value} {vW vM : Value} {out : List UInt8} {ms : List (Int × Int)} (h : PM w B p tp tm cs vW vM out ms) {C n c g : Nat} {xs : List Value} (ho : w.ownsRow C 80 7 (.slice (some ⟨g, 0, none⟩) n c) n xs) (i : Nat) (u : Value) : PM (w.setCell ⟨g, i, none⟩ u) B p tp tm cs vW vM out ms := by
  have hg : w.grownBy (w.setCell ⟨g, i, none⟩ u) (some g) := grown_self_set (World.grownBy.refl _ _) i u
  refine h.grown hg ?_ (own_apart h.own ho (by decide)) (own_apart h.mks ho (fun e => by have := h.n5; rw [e] at this; revert this; decide))
  intro e
  injection e with e
  subst e
  exact own_blk ho h.blk (fun e => by have := h.n4; rw [e] at this; revert this; decide) rfl
theorem PM.drewN {w : World} {B p : Nat} {tp tm : TypeId} {cs : List Value} {vW vM : Value} {out : List UInt8} {ms : List (Int × Int)} (h : PM w B p tp tm cs vW vM out ms) (m : Nat) : PM (w.drewN m) B p tp tm cs vW vM out ms := ⟨h.base, h.blk, h.own, h.mks, h.n1, h.n2, h.n3, h.n4, h.n5⟩
theorem own_drewN {w : World} {B z : Nat} {e : TypeId} {v : Value} {n : Nat} {xs : List Value} (h : w.ownsRow B e z v n xs) (m : Nat) : (w.drewN m).ownsRow B e z v n xs := h
theorem grown_drewN {a w : World} {row : Option Nat} (h : a.grownBy w row) (m : Nat) : a.grownBy (w.drewN m) row := ⟨h.os, h.tape, h.output, h.size, h.block⟩
/-- what was below B, and all but the press' rows, is as it was. -/
structure CG (B : Nat) (row : Option Nat) (w w' : World) : Prop where
  os : w'.os = w.os
  tape : w'.tape = w.tape
  output : w'.output = w.output
  size : w.heap.size ≤ w'.heap.size
  low : ∀ q : Nat, q < w.heap.size → q < B → w'.heap[q]? = w.heap[q]?
  oth : ∀ (q : Nat) (cur : Array Value) (ty : TypeId) (fz : Nat × Nat), keepT ty = true → some q ≠ row → w.heap[q]? = some (.cells cur ty fz) → w'.heap[q]? = w.heap[q]?
theorem CG.refl (B : Nat) (row : Option Nat) (w : World) : CG B row w w := ⟨rfl, rfl, rfl, Nat.le_refl _, fun _ _ _ => rfl, fun _ _ _ _ _ _ _ => rfl⟩
theorem CG.of_chg {B : Nat} {row : Option Nat} {w w' : World} (h : Chg B w w') : CG B row w w' := ⟨h.os, h.tape, h.output, h.size, h.low, fun q cur ty fz hk _ hh => h.int q cur ty fz hk hh⟩
theorem CG.of_grown {B : Nat} {row : Option Nat} {w w' : World} (h : w.grownBy w' row) (hr : ∀ g, row = some g → B ≤ g) : CG B row w w' :=
  ⟨h.os, h.tape, h.output, h.size, fun q hq hB => h.block q hq (fun e => by have := hr q e.symm; omega), fun q cur ty fz hk hne hh => h.block q (Array.getElem?_eq_some_iff.1 hh).1 hne⟩
theorem CG.trans {B : Nat} {row row' : Option Nat} {a b c : World} (h : CG B row a b) (k : CG B row' b c) (hr : ∀ g, row' = some g → row = some g ∨ a.heap.size ≤ g) : CG B row a c :=
  ⟨k.os.trans h.os, k.tape.trans h.tape, k.output.trans h.output, Nat.le_trans h.size k.size, fun q hq hB => (k.low q (Nat.lt_of_lt_of_le hq h.size) hB).trans (h.low q hq hB),
    fun q cur ty fz hk hne hh => by
      have e := h.oth q cur ty fz hk hne hh
      refine (k.oth q cur ty fz hk (fun e' => ?_) (e.trans hh)).trans e
      rcases hr q e'.symm with h1 | h1
      · exact hne h1.symm
      · have := (Array.getElem?_eq_some_iff.1 hh).1; omega⟩
theorem CG.blk {B g : Nat} {row : Option Nat} {t : TypeId} {cs : List Value} {w w' : World} (h : CG B row w w') (hb : BlkL w g t cs) (hk : keepT t = true) (hne : some g ≠ row) : BlkL w' g t cs := (h.oth g _ _ _ hk hne hb).trans hb
theorem CG.below {B : Nat} {row : Option Nat} {a b : World} (h : CG B row a b) (hB : B ≤ a.heap.size) : Below B a b := ⟨h.os, h.tape, h.output, h.size, fun q hq => h.low q (Nat.lt_of_lt_of_le hq hB) hq⟩
set_option maxHeartbeats 1000000 in
set_option maxRecDepth 100000 in
theorem endSizes_any {w : World} {B p : Nat} {W : Int} {s : Pr} {vI : Value} {its : List Hd} {tot lev : Int} (lv : Int) (line : Bool) (h : PX w B p W s vI its tot lev) (hl : its.length ≤ 400) (ht : 0 ≤ tot ∧ tot ≤ 1000000) (hst : ∀ (i : Nat) (h : Hd), its[i]? = some h → 0 ≤ h.st ∧ h.st ≤ tot) :
    Calls Try.prog 90 #[.pointer (some ⟨p, 0, none⟩), .int .i64 lv, .bool line] w fun r w' => r = .returned (.tuple #[]) ∧ PX w' B p W s vI (endS tot lv line its) tot lev ∧ w.grownBy w' vI.ownBlock := by
  obtain ⟨vW, vM, hpa, hown⟩ := h
  obtain ⟨AI, cI, rfl⟩ := own_form hown
  have x5 : w.cell? ⟨p, 5, none⟩ = some (.slice AI its.length cI) := (hpa.blk.cell 5).trans rfl
  have HPA := Lib.hid hpa
  have HOW := Lib.hid hown
  have HST := Lib.hid hst
  clear hpa hown hst
  go_enter Try.func90, Try.ntmps90
  go_wp2_with fail
  clear x5
  go_loopw [13] (fun i wr => ∃ k : Nat, k ≤ its.length ∧ i = .int .i64 k ∧ PA wr B p 100 [.slice AI its.length cI, .int .i64 tot, .int .i64 lev] W s vW vM ∧ wr.ownsRow B 80 7 (.slice AI its.length cI) its.length (fl fh (mpF (endH tot lv line) its k)) ∧ w.grownBy wr (Value.slice AI its.length cI).ownBlock) (fun i _ => its.length - (intOf i).toNat)
  case atStart => exact ⟨0, Nat.zero_le _, rfl, HPA.out, by rw [mpF_zero]; exact HOW.out, World.grownBy.refl _ _⟩
  case round =>
    obtain ⟨k, hk, rfl, hpa, hown, hgr⟩ := hrel
    clear HPA HOW
    by_cases hkl : k < its.length
    · obtain ⟨g, c', hv⟩ := Joins.ownsRow_form hown (by omega)
      injection hv with hA _ hcc
      subst hA
      subst hcc
      have ht := List.getElem?_eq_getElem hkl
      obtain ⟨t, hte⟩ : ∃ t, its[k] = t := ⟨_, rfl⟩
      rw [hte] at ht
      have hm := mpF_at (f := endH tot lv line) ht
      have hbd := HST.out k t ht
      obtain ⟨hgl, f0, f1, f2, f3, f4, f5, f6⟩ := HS.get (RS.of_own fh_len (mpF_length _ _ _) hown) hm
      simp only [Nat.zero_add] at f0 f1 f2 f3 f4 f5 f6
      have ff := (own_put hown (k * 7 + 6) (.int .i64 0)).2
      have x5 : wr.cell? ⟨p, 5, none⟩ = some (.slice (some ⟨g, 0, none⟩) its.length cI) := (hpa.blk.cell 5).trans rfl
      have x6 : wr.cell? ⟨p, 6, none⟩ = some (.int .i64 tot) := (hpa.blk.cell 6).trans rfl
      have hpl := hpa.blk.lt
      have hgp : g ≠ p := fun e => by subst e; exact own_blk hown hpa.blk (by decide) rfl
      have HT := Lib.hid ht
      have HMP := Lib.hid hm
      have HPA := Lib.hid hpa
      have HOW := Lib.hid hown
      have HGR := Lib.hid hgr
      clear ht hm hpa hown hgr hte
      by_cases h1 : t.sz = -1
      · have b1 : (t.sz == -1) = true := by rw [h1]; rfl
        have b1' : (t.sz != -1) = false := by rw [h1]; rfl
        by_cases h2 : lv ≤ t.lv
        · have d2 := decide_eq_true h2
          have HE := Lib.hid (show endH tot lv line t = { t with sz := tot - t.st } by unfold endH; rw [if_pos h1, if_pos h2])
          clear h1 h2
          go_wp2_with fail
          refine wp_region_tail 12 (fun w' => ∃ m, w' = wr.drewN m) (by kernel_rfl) (by kernel_rfl) ⟨1, rfl⟩ ?_
          simp only [List.take_succ_cons, List.take_zero, List.drop_succ_cons, List.drop_zero]
          repeat (go_big_quiet_step (fail))
          refine wpQuiet_nil ?_
          rintro w2 ⟨m, rfl⟩
          go_wp2
          go_roundw
          case rel =>
            have h3 := own_size (own_drewN HOW.out m) HMP.out (tot - t.st)
            rw [← HE.out, mpF_set HT.out] at h3
            exact ⟨k + 1, by omega, by go_num, PM.helds (PM.drewN HPA.out m) (own_drewN HOW.out m) _ _, h3, grown_self_set (grown_drewN HGR.out m) _ _⟩
          case measure => simp [intOf]; omega
        · have d2 := decide_eq_false h2
          cases line with
          | true =>
            have HE := Lib.hid (show endH tot lv true t = { t with sz := 1000000 } by unfold endH; rw [if_pos h1, if_neg h2]; rfl)
            clear h1 h2
            go_wp2
            go_roundw
            case rel =>
              have h3 := own_size HOW.out HMP.out 1000000
              rw [← HE.out, mpF_set HT.out] at h3
              exact ⟨k + 1, by omega, by go_num, PM.helds HPA.out HOW.out _ _, h3, grown_self_set HGR.out _ _⟩
            case measure => simp [intOf]; omega
          | false =>
            have HE := Lib.hid (show endH tot lv false t = t by unfold endH; rw [if_pos h1, if_neg h2]; rfl)
            clear h1 h2
            go_wp2
            go_roundw
            case rel => exact ⟨k + 1, by omega, by go_num, HPA.out, by rw [mpF_same HT.out HE.out]; exact HOW.out, HGR.out⟩
            case measure => simp [intOf]; omega
      · have b1 : (t.sz == -1) = false := by simpa using h1
        have b1' : (t.sz != -1) = true := by simpa using h1
        have HE := Lib.hid (show endH tot lv line t = t by unfold endH; rw [if_neg h1])
        clear h1
        go_wp2
        go_roundw
        case rel => exact ⟨k + 1, by omega, by go_num, HPA.out, by rw [mpF_same HT.out HE.out]; exact HOW.out, HGR.out⟩
        case measure => simp [intOf]; omega
    · have HPA := Lib.hid hpa
      have HOW := Lib.hid hown
      have HGR := Lib.hid hgr
      clear hpa hown hgr
      go_wp2
      refine bodyPost_end (results_none rfl _ _ _) rfl ?_
      obtain rfl : k = its.length := by omega
      have h3 := HOW.out
      rw [mpF_all] at h3
      refine ⟨rfl, ⟨vW, vM, HPA.out, ?_⟩, HGR.out⟩
      show World.ownsRow _ _ _ 7 _ (its.map _).length _
      rw [List.length_map]
      exact h3
end Go.Proofs.Ytegjgbgnpkncbab
