/-
  The parser in memory: its nodes in a row of their own, its branches, and the places of open brackets as the keys of a map.
-/
import Derived.Test.YthjkgbcomjiejaaGreatDoorKk37
import Derived.Maps.RangeWalk
namespace Go.Proofs.YthjkgbcomjiejaaGreatDoor
open Go.RowKit
set_option linter.unusedVariables false

/-- where the node at a place stands in the text; the root is nowhere. -/
def atz (q : List Int) : Nat → Int
  | 0 => -1
  | i + 1 => q.getD i 0
theorem atz_app {q : List Int} {a : Int} {i : Nat} (h : i ≤ q.length) : atz (q ++ [a]) i = atz q i := by
  cases i with
  | zero => rfl
  | succ i => simp only [atz, List.getD_eq_getElem?_getD]; rw [List.getElem?_append_left (by omega)]
theorem atz_new {q : List Int} {a : Int} : atz (q ++ [a]) (q.length + 1) = a := by simp [atz]
/-- the places of the brackets from the outermost to place t. -/
def opl (l : List Nd) (q : List Int) (t : Nat) : List Int := ((anc l t).filter (fun j => knd l (j + 1) != 6)).map (fun j => q.getD j 0)
def opq (z : Pz) : List Int := opl z.l z.q z.t
theorem opl_zero (l : List Nd) (q : List Int) : opl l q 0 = [] := by simp [opl, anc_zero]
theorem opl_yes {l : List Nd} {q : List Int} {t : Nat} (h : knd l (t + 1) ≠ 6) : opl l q (t + 1) = opl l q (par l t) ++ [q.getD t 0] := by
  unfold opl
  rw [anc_succ, List.filter_append, List.map_append]
  simp [h]
theorem opl_no {l : List Nd} {q : List Int} {t : Nat} (h : knd l (t + 1) = 6) : opl l q (t + 1) = opl l q (par l t) := by
  unfold opl
  rw [anc_succ, List.filter_append, List.map_append]
  simp [h]
theorem opl_unq (l : List Nd) (q : List Int) : ∀ t, opl l q (unq l t) = opl l q t := by
  intro t
  induction t using Nat.strongRecOn with
  | _ t ih =>
    cases t with
    | zero => rw [unq_zero]
    | succ t =>
      have hp := par_le l t
      by_cases h : knd l (t + 1) = 6
      · rw [unq_go h, opl_no h]; exact ih (par l t) (by omega)
      · rw [unq_stop h]
theorem opl_app {l m : List Nd} {q r : List Int} {t : Nat} (ht : t ≤ l.length) (hq : q.length = l.length) : opl (l ++ m) (q ++ r) t = opl l q t := by
  unfold opl
  rw [anc_app t ht]
  have hf : (anc l t).filter (fun j => knd (l ++ m) (j + 1) != 6) = (anc l t).filter (fun j => knd l (j + 1) != 6) := by
    refine List.filter_congr fun j hj => ?_
    have := anc_lt t j hj
    rw [knd_app (by omega)]
  rw [hf]
  refine List.map_congr_left fun j hj => ?_
  have := anc_lt t j (List.mem_filter.1 hj).1
  simp only [List.getD_eq_getElem?_getD]
  rw [List.getElem?_append_left (by omega)]
/-- the lexemes' places grow, and all that are still to come stand behind. -/
def QOk (z : Pz) (r : List Lx) : Prop := z.q.Pairwise (· < ·) ∧ (∀ a ∈ z.q, ∀ y ∈ r, a < y.a) ∧ r.Pairwise (fun x y => x.a < y.a)
theorem getD_mem {q : List Int} {j : Nat} (h : j < q.length) : q.getD j 0 ∈ q := by
  rw [List.getD_eq_getElem?_getD, List.getElem?_eq_getElem h]; exact List.getElem_mem h
theorem getD_lt {q : List Int} (hq : q.Pairwise (· < ·)) {i j : Nat} (hi : i < j) (hj : j < q.length) : q.getD i 0 < q.getD j 0 := by
  rw [List.getD_eq_getElem?_getD, List.getD_eq_getElem?_getD, List.getElem?_eq_getElem hj, List.getElem?_eq_getElem (show i < q.length by omega)]
  exact List.pairwise_iff_getElem.1 hq i j (by omega) hj hi
theorem opl_mem {l : List Nd} {q : List Int} {t : Nat} {a : Int} (h : a ∈ opl l q t) : ∃ j, j < t ∧ a = q.getD j 0 := by
  unfold opl at h
  obtain ⟨j, hj, rfl⟩ := List.mem_map.1 h
  exact ⟨j, anc_lt t j (List.mem_filter.1 hj).1, rfl⟩
/-- the place of the innermost bracket is the greatest. -/
theorem opl_top {l : List Nd} {q : List Int} {t : Nat} (hq : q.Pairwise (· < ·)) (ht : t < q.length) {a : Int} (h : a ∈ opl l q (par l t)) : a < q.getD t 0 := by
  obtain ⟨j, hj, rfl⟩ := opl_mem h
  have := par_le l t
  exact getD_lt hq (by omega) ht
theorem QOk.step {z z' : Pz} {x : Lx} {r : List Lx} (h : QOk z (x :: r)) (hs : stepZ z x = .ok z') : QOk z' r := by
  obtain ⟨h1, h2, h3⟩ := h
  have h3' := List.pairwise_cons.1 h3
  have same : z'.q = z.q → QOk z' r := fun e => ⟨by rw [e]; exact h1, fun a ha y hy => h2 a (by rw [← e]; exact ha) y (by simp [hy]), h3'.2⟩
  unfold stepZ at hs
  split at hs
  · split at hs
    · split at hs
      · injection hs with hs; subst hs; exact same rfl
      · cases hs
    · cases hs
  · split at hs
    · cases hs
    · split at hs
      · cases hs
      · injection hs with hs
        subst hs
        refine ⟨?_, fun a ha y hy => ?_, h3'.2⟩
        · show (z.q ++ [x.a]).Pairwise (· < ·)
          rw [List.pairwise_append]
          refine ⟨h1, by simp, fun a ha b hb => ?_⟩
          simp only [List.mem_singleton] at hb
          subst hb
          exact h2 a ha x (by simp)
        · have ha : a ∈ z.q ++ [x.a] := ha
          rcases List.mem_append.1 ha with h5 | h5
          · exact h2 a h5 y (by simp [hy])
          · simp only [List.mem_singleton] at h5
            subst h5
            exact h3'.1 y hy
theorem QOk.start (s : ByteArray) : QOk pz0 (lxA s).1 := ⟨by simp [pz0], by simp [pz0], (lxA_good s).2⟩

abbrev DU := DataW Unit
theorem keyInt (a : Int) (h : (Lit.int .i64 a).wf = true) : keyOf Tryz.prog 3 (.int .i64 a) = some (.int .i64 a) := Maps.keyOf_int_mk Tryz.underlying3 h
/-- the parser z in memory. -/
structure PzM (w : World) (B : Nat) (z : Pz) (pb bm : Nat) (vL : Value) (ps : Nat → Nat) (vs : Nat → Value) (D : DU) : Prop where
  blk : BlkL w pb 86 [vL, ptr (ps z.t), .map (some bm)]
  base : B ≤ pb
  row : w.ownsRow B 31 3 vL z.l.length (fl fn z.l)
  fo : Fq w B z.l z.l.length (atz z.q) ps vs
  map : w.ownsMap Tryz.prog 3 (plainElem Tryz.prog 4) bm z.l.length D
  mbase : B ≤ bm
  has : ∀ a : Int, Maps.has D (.int .i64 a) = true ↔ a ∈ opq z
theorem map_ne_blk {w : World} {k : TypeId} {R : Value → Option (DU × List MemPlace)} {b n g : Nat} {D : DU} {t : TypeId} {cs : List Value} (h : w.ownsMap Tryz.prog k R b n D) (hb : BlkL w g t cs) : b ≠ g := by
  rintro rfl
  obtain ⟨es, clock, he, _⟩ := h
  unfold BlkL at hb
  rw [he] at hb
  cases hb
theorem map_ne_row {w : World} {k : TypeId} {R : Value → Option (DU × List MemPlace)} {b n B m z : Nat} {D : DU} {t : TypeId} {v : Value} {xs : List Value} (h : w.ownsMap Tryz.prog k R b n D) (hr : w.ownsRow B t z v m xs) : v.ownBlock ≠ some b := by
  intro e
  obtain ⟨cur, hc⟩ := fo_type hr e
  obtain ⟨es, clock, he, _⟩ := h
  rw [he] at hc
  cases hc
theorem PzM.below {w w' : World} {B : Nat} {z : Pz} {pb bm : Nat} {vL : Value} {ps : Nat → Nat} {vs : Nat → Value} {D : DU} (h : PzM w B z pb bm vL ps vs D) (hb : Below w.heap.size w w') : PzM w' B z pb bm vL ps vs D := by
  refine ⟨h.blk.below hb h.blk.lt, h.base, own_below h.row hb, h.fo.below hb, ?_, h.mbase, h.has⟩
  obtain ⟨es, clock, he, r⟩ := h.map
  exact ⟨es, clock, (hb.block bm (Array.getElem?_eq_some_iff.1 he).1).trans he, r⟩
theorem PzM.drew {w : World} {B : Nat} {z : Pz} {pb bm : Nat} {vL : Value} {ps : Nat → Nat} {vs : Nat → Value} {D : DU} (h : PzM w B z pb bm vL ps vs D) : PzM w.drew B z pb bm vL ps vs D := ⟨h.blk, h.base, h.row, h.fo.drew, h.map, h.mbase, h.has⟩
theorem PzM.cells {w : World} {B : Nat} {z : Pz} {pb bm : Nat} {vL : Value} {ps : Nat → Nat} {vs : Nat → Value} {D : DU} (h : PzM w B z pb bm vL ps vs D) :
    w.cell? ⟨pb, 0, none⟩ = some vL ∧ w.cell? ⟨pb, 1, none⟩ = some (ptr (ps z.t)) ∧ w.cell? ⟨pb, 2, none⟩ = some (.map (some bm)) ∧ pb < w.heap.size := ⟨h.blk.cell 0, h.blk.cell 1, h.blk.cell 2, h.blk.lt⟩
/-- a panic with a fault. -/
def fltV (c a : Int) : Value := .iface 56 (.agg #[.int .i64 c, .int .i64 a])
theorem Fq.rank {w : World} {B k : Nat} {l : List Nd} {at_ : Nat → Int} {ps : Nat → Nat} {vs : Nat → Value} (h : Fq w B l k at_ ps vs) {i : Nat} (hi : i ≤ k) : rank ps k (ptr (ps i)) = i := by
  unfold Go.Proofs.YthjkgbcomjiejaaGreatDoor.rank ptr
  refine fst_at (by omega) (by simp) fun j hj => ?_
  simp only [beq_eq_false_iff_ne]
  intro e
  have := h.dif j i (by omega) hi e
  omega
set_option maxHeartbeats 1000000 in
theorem unquoted_any {w : World} {B k : Nat} {l : List Nd} {at_ : Nat → Int} {ps : Nat → Nat} {vs : Nat → Value} (h : Fq w B l k at_ ps vs) (b : Nat) (hb : b ≤ k) :
    Calls Tryz.prog 83 #[ptr (ps b)] w fun e w' => e = .returned (ptr (ps (unq l b))) ∧ w = w' := by
  have H := Lib.hid h
  clear h
  unfold ptr
  go_enter Tryz.func83, Tryz.ntmps83
  go_wp2
  go_loopw [0] (fun v wr => ∃ c : Nat, c ≤ k ∧ v = ptr (ps c) ∧ unq l b = unq l c ∧ wr = w) (fun v _ => Go.Proofs.YthjkgbcomjiejaaGreatDoor.rank ps k v)
  case atStart => exact ⟨b, hb, rfl, rfl, rfl⟩
  case round =>
    obtain ⟨c, hc, rfl, he, rfl⟩ := hrel
    have HE := Lib.hid he
    clear he
    have hr := H.out.rank hc
    unfold ptr at hr ⊢
    obtain ⟨c0, c1, c2, c3, c4, c5, cl⟩ := H.out.cells hc
    by_cases h6 : knd l c = 6
    · cases c with
      | zero => rw [knd_zero] at h6; omega
      | succ c =>
        have c4' : wr.cell? ⟨ps (c + 1), 4, none⟩ = some (.pointer (some ⟨ps (par l c), 0, none⟩)) := c4
        have hp := par_le l c
        have HR := Lib.hid (show unq l b = unq l (par l c) from HE.out.trans (unq_go h6))
        have hr2 := H.out.rank (show par l c ≤ k by omega)
        unfold ptr at hr2
        rw [h6] at c1
        clear c0 c2 c3 c4 c5 h6
        go_wp2
        go_roundw
        case rel => exact ⟨par l c, by omega, rfl, HR.out, trivial⟩
        case measure => rw [hr, hr2]; omega
    · have hd1 : (knd l c == 6) = false := by simpa using h6
      have HR := Lib.hid (show unq l b = c from HE.out.trans (unq_stop h6))
      clear c0 c2 c3 c4 c5 h6
      go_wp2
      go_ret
      rw [HR.out]
      exact ⟨rfl, rfl⟩
end Go.Proofs.YthjkgbcomjiejaaGreatDoor
