/-
  Nodes that hang together by pointers, in memory: each branch in a block of its own, with its children in a row of its own.
-/
import Derived.Test.YthjkgbcomjiejaaGreatDoorKk20
namespace Go.Proofs.YthjkgbcomjiejaaGreatDoor
open Go.RowKit
set_option linter.unusedVariables false

def ptr (p : Nat) : Value := .pointer (some ⟨p, 0, none⟩)
theorem ptr_one (p : Nat) : ∀ u ∈ [ptr p], u.oneCell' = true := by
  intro u hu
  simp at hu
  subst hu
  rfl
theorem fo_type {w : World} {B : Nat} {e : TypeId} {z : Nat} {v : Value} {n : Nat} {xs : List Value} (h : w.ownsRow B e z v n xs) {g : Nat} (hg : v.ownBlock = some g) : ∃ cur, w.heap[g]? = some (.cells cur e (0, 0)) := by
  rcases h.2 with ⟨rfl, _⟩ | ⟨g', cap, cur, rfl, _, hb, _⟩
  · simp [Value.ownBlock] at hg
  · have : g' = g := by simpa [Value.ownBlock] using hg
    subst this
    exact ⟨cur, hb⟩
theorem fo_blk {w : World} {B : Nat} {e t : TypeId} {z : Nat} {v : Value} {n : Nat} {xs cs : List Value} {g : Nat} (h : w.ownsRow B e z v n xs) (hb : BlkL w g t cs) (hne : t ≠ e) : v.ownBlock ≠ some g := by
  intro hg
  obtain ⟨cur, hc⟩ := fo_type h hg
  unfold BlkL at hb
  rw [hb] at hc
  injection hc with hc
  injection hc with _ hc
  exact hne hc
theorem fo_kept {w w' : World} {B z n : Nat} {e : TypeId} {v : Value} {xs : List Value} {row : Option Nat} (h : w.ownsRow B e z v n xs) (hg : w.grownBy w' row) (hne : ∀ g, v.ownBlock = some g → some g ≠ row) : w'.ownsRow B e z v n xs := by
  refine h.kept hg ?_
  cases hv : v.ownBlock with
  | none => exact .inl rfl
  | some g => exact .inr (hne g hv)
/-- what a branch's pointer to the one above it is. -/
def ovr (l : List Nd) (ps : Nat → Nat) : Nat → Value
  | 0 => .pointer none
  | i + 1 => ptr (ps (par l i))
def brc (l : List Nd) (ps : Nat → Nat) (vs : Nat → Value) (i : Nat) : List Value := [.int .i64 (nAt l i).d, .int .i64 (nAt l i).k, .string (nAt l i).s, .int .i64 ((i : Int) - 1), ovr l ps i, vs i]
/-- the pointers to the children of place i among the first m nodes. -/
def kps (l : List Nd) (ps : Nat → Nat) (i m : Nat) : List Value := (kidsN l i m).map (fun j => ptr (ps (j + 1)))
theorem kps_len (l : List Nd) (ps : Nat → Nat) (i m : Nat) : (kps l ps i m).length = (kidsN l i m).length := by simp [kps]
/-- the first k nodes in memory: branch i in block ps i, its children in the row of vs i. -/
structure Fo (w : World) (B : Nat) (l : List Nd) (k : Nat) (ps : Nat → Nat) (vs : Nat → Value) : Prop where
  blk : ∀ i, i ≤ k → BlkL w (ps i) 70 (brc l ps vs i)
  base : ∀ i, i ≤ k → B ≤ ps i
  row : ∀ i, i ≤ k → w.ownsRow B 68 1 (vs i) (kidsN l i k).length (kps l ps i k)
  dif : ∀ i j, i ≤ k → j ≤ k → ps i = ps j → i = j
  rdif : ∀ i j g, i ≤ k → j ≤ k → (vs i).ownBlock = some g → (vs j).ownBlock = some g → i = j
theorem Fo.below {w w' : World} {B k : Nat} {l : List Nd} {ps : Nat → Nat} {vs : Nat → Value} (h : Fo w B l k ps vs) (hb : Below w.heap.size w w') : Fo w' B l k ps vs :=
  ⟨fun i hi => (h.blk i hi).below hb (h.blk i hi).lt, h.base, fun i hi => own_below (h.row i hi) hb, h.dif, h.rdif⟩
theorem Fo.drew {w : World} {B k : Nat} {l : List Nd} {ps : Nat → Nat} {vs : Nat → Value} (h : Fo w B l k ps vs) : Fo w.drew B l k ps vs := ⟨h.blk, h.base, h.row, h.dif, h.rdif⟩
theorem Fo.lt {w : World} {B k : Nat} {l : List Nd} {ps : Nat → Nat} {vs : Nat → Value} (h : Fo w B l k ps vs) {i : Nat} (hi : i ≤ k) : ps i < w.heap.size := (h.blk i hi).lt
theorem Fo.grown {w w' : World} {B k : Nat} {l : List Nd} {ps : Nat → Nat} {vs : Nat → Value} {row : Option Nat} (h : Fo w B l k ps vs) (hg : w.grownBy w' row) (h1 : ∀ i, i ≤ k → some (ps i) ≠ row) (h2 : ∀ i g, i ≤ k → (vs i).ownBlock = some g → some g ≠ row) : Fo w' B l k ps vs :=
  ⟨fun i hi => (h.blk i hi).grown hg (h1 i hi), h.base, fun i hi => fo_kept (h.row i hi) hg (fun g => h2 i g hi), h.dif, h.rdif⟩
theorem Fo.cells {w : World} {B k : Nat} {l : List Nd} {ps : Nat → Nat} {vs : Nat → Value} (h : Fo w B l k ps vs) {i : Nat} (hi : i ≤ k) :
    w.cell? ⟨ps i, 0, none⟩ = some (.int .i64 (dep l i)) ∧ w.cell? ⟨ps i, 1, none⟩ = some (.int .i64 (knd l i)) ∧ w.cell? ⟨ps i, 2, none⟩ = some (.string (nAt l i).s) ∧ w.cell? ⟨ps i, 3, none⟩ = some (.int .i64 ((i : Int) - 1)) ∧ w.cell? ⟨ps i, 4, none⟩ = some (ovr l ps i) ∧ w.cell? ⟨ps i, 5, none⟩ = some (vs i) ∧ ps i < w.heap.size :=
  have b := h.blk i hi
  ⟨b.cell 0, b.cell 1, b.cell 2, b.cell 3, b.cell 4, b.cell 5, b.lt⟩
/-- the child number j of place i, read out of its row. -/
theorem Fo.kid {w : World} {B k : Nat} {l : List Nd} {ps : Nat → Nat} {vs : Nat → Value} (h : Fo w B l k ps vs) {i : Nat} (hi : i ≤ k) :
    ∃ A c, vs i = .slice A (kidsN l i k).length c ∧ ∀ j x, (kidsN l i k)[j]? = some x → ∃ g, A = some ⟨g, 0, none⟩ ∧ g < w.heap.size ∧ w.cell? ⟨g, j, none⟩ = some (ptr (ps (x + 1))) := by
  have hr := h.row i hi
  obtain ⟨A, c, hv⟩ := own_slice hr
  refine ⟨A, c, hv, fun j x hj => ?_⟩
  have hl := (List.getElem?_eq_some_iff.1 hj).1
  rw [hv] at hr
  rcases hr.2 with ⟨_, h0⟩ | ⟨g, cap, cur, e, _, hb, _⟩
  · omega
  · injection e with e1 e2 e3
    subst e1 e3
    refine ⟨g, rfl, ?_, ?_⟩
    · rcases Nat.lt_or_ge g w.heap.size with hlt | hge
      · exact hlt
      · rw [Array.getElem?_eq_none hge] at hb; cases hb
    · rw [hr.cellAt j (by omega)]
      simp [kps, hj]
def upd {α : Type} (f : Nat → α) (i : Nat) (a : α) : Nat → α := fun j => if j = i then a else f j
theorem upd_self {α : Type} (f : Nat → α) (i : Nat) (a : α) : upd f i a i = a := if_pos rfl
theorem upd_ne {α : Type} {f : Nat → α} {i j : Nat} {a : α} (h : j ≠ i) : upd f i a j = f j := if_neg h
theorem kps_upd {l : List Nd} {ps : Nat → Nat} {i m p : Nat} : kps l (upd ps (m + 1) p) i m = kps l ps i m := by
  unfold kps
  apply List.map_congr_left
  intro j hj
  have := (kidsN_mem hj).1
  rw [upd_ne (by omega)]
/-- the list with no node: the root alone. -/
theorem Fo.root {w : World} {B p : Nat} {l : List Nd} (hp : BlkL w p 70 [.int .i64 (-1), .int .i64 (-1), .string ByteArray.empty, .int .i64 (-1), .pointer none, .slice none 0 0]) (hB : B ≤ p) : Fo w B l 0 (fun _ => p) (fun _ => .slice none 0 0) := by
  refine ⟨fun i hi => ?_, fun _ _ => hB, fun i hi => ⟨by simp [kps, kidsN], .inl ⟨rfl, by simp [kidsN]⟩⟩, fun i j hi hj _ => by omega, fun i j g hi hj h => by simp [Value.ownBlock] at h⟩
  obtain rfl : i = 0 := by omega
  exact hp
/-- one more node: a new branch p that hangs on place i, whose row has grown. -/
theorem Fo.grow {w w2 : World} {B k i p : Nat} {l : List Nd} {ps : Nat → Nat} {vs : Nat → Value} {v' : Value} (h : Fo w B l k ps vs) (hk : k < l.length) (hi : par l k = i) (hB : B ≤ p) (hn : ∀ j, j ≤ k → ps j ≠ p)
    (hp : BlkL w p 70 [.int .i64 (nAt l (k + 1)).d, .int .i64 (nAt l (k + 1)).k, .string (nAt l (k + 1)).s, .int .i64 k, ptr (ps i), .slice none 0 0])
    (hown : w2.ownsRow B 68 1 v' ((kidsN l i k).length + 1) (kps l ps i k ++ [ptr p])) (hg : w.grownBy w2 (vs i).ownBlock) (hat : v'.ownBlock = (vs i).ownBlock ∨ ∃ g, v'.ownBlock = some g ∧ w.heap.size ≤ g) :
    Fo (w2.setCell ⟨ps i, 5, none⟩ v') B l (k + 1) (upd ps (k + 1) p) (upd (upd vs i v') (k + 1) (.slice none 0 0)) := by
  have hik : i ≤ k := by rw [← hi]; exact par_le l k
  have hbr : 70 ≠ 68 := by decide
  have hps : ∀ j, j ≤ k → some (ps j) ≠ (vs i).ownBlock := fun j hj e => fo_blk (h.row i hik) (h.blk j hj) hbr e.symm
  have hpp : some p ≠ (vs i).ownBlock := fun e => fo_blk (h.row i hik) hp hbr e.symm
  have hp2 : BlkL w2 p 70 _ := hp.grown hg hpp
  have hrow : ∀ {v : Value} {n : Nat} {xs : List Value}, w2.ownsRow B 68 1 v n xs → (w2.setCell ⟨ps i, 5, none⟩ v').ownsRow B 68 1 v n xs := by
    intro v n xs hr
    refine fo_kept hr (row := some (ps i)) ⟨rfl, rfl, rfl, by simp [World.setCell], fun g hgl hne => Below.heap_setCell w2 ⟨ps i, 5, none⟩ v' g (by simpa using hne)⟩ (fun g hgv e => ?_)
    injection e with e
    subst e
    exact fo_blk hr ((h.blk i hik).grown hg (hps i hik)) hbr hgv
  refine ⟨fun j hj => ?_, fun j hj => ?_, fun j hj => ?_, fun a b ha hb e => ?_, fun a b g ha hb e1 e2 => ?_⟩
  · by_cases hjk : j = k + 1
    · subst hjk
      rw [upd_self]
      have := hp2.far (p := ⟨ps i, 5, none⟩) (fun e => hn i hik e.symm) v'
      simp only [brc, upd_self, ovr, hi]
      rw [upd_ne (show i ≠ k + 1 by omega)]
      rw [show ((↑(k + 1) : Int) - 1) = (k : Int) by omega]
      exact this
    · rw [upd_ne hjk]
      have hov : ovr l (upd ps (k + 1) p) j = ovr l ps j := by
        cases j with
        | zero => rfl
        | succ j => have := par_le l j; simp only [ovr]; rw [upd_ne (by omega)]
      by_cases hji : j = i
      · subst hji
        have := ((h.blk j hik).grown hg (hps j hik)).set 5 v'
        simp only [brc, hov]
        rw [upd_ne hjk, upd_self]
        exact this
      · have := ((h.blk j (by omega)).grown hg (hps j (by omega))).far (p := ⟨ps i, 5, none⟩) (fun e => hji (h.dif j i (by omega) hik e)) v'
        simp only [brc, hov]
        rw [upd_ne hjk, upd_ne hji]
        exact this
  · by_cases hjk : j = k + 1
    · subst hjk; rw [upd_self]; exact hB
    · rw [upd_ne hjk]; exact h.base j (by omega)
  · by_cases hjk : j = k + 1
    · subst hjk
      rw [upd_self, kps, kidsN_low]
      exact ⟨rfl, .inl ⟨rfl, rfl⟩⟩
    · rw [upd_ne hjk]
      by_cases hji : j = i
      · subst hji
        rw [upd_self]
        have e1 : kidsN l j (k + 1) = kidsN l j k ++ [k] := kidsN_yes hi
        have e2 : kps l (upd ps (k + 1) p) j (k + 1) = kps l ps j k ++ [ptr p] := by
          rw [← kps_upd (p := p) (ps := ps)]
          unfold kps
          rw [e1, List.map_append, List.map_cons, List.map_nil, upd_self]
        rw [e2, e1, List.length_append]
        exact hrow hown
      · rw [upd_ne hji]
        have e1 : kidsN l j (k + 1) = kidsN l j k := kidsN_no (by rw [hi]; exact fun e => hji e.symm)
        have e2 : kps l (upd ps (k + 1) p) j (k + 1) = kps l ps j k := by
          rw [← kps_upd (p := p) (ps := ps)]
          unfold kps
          rw [e1]
        rw [e2, e1]
        refine hrow (fo_kept (h.row j (by omega)) hg (fun g hgv e => ?_))
        exact hji (h.rdif j i g (by omega) hik hgv e.symm)
  · by_cases h1 : a = k + 1 <;> by_cases h2 : b = k + 1
    · omega
    · rw [h1, upd_self, upd_ne h2] at e; exact (hn b (by omega) e.symm).elim
    · rw [h2, upd_self, upd_ne h1] at e; exact (hn a (by omega) e).elim
    · rw [upd_ne h1, upd_ne h2] at e; exact h.dif a b (by omega) (by omega) e
  · by_cases h1 : a = k + 1
    · rw [h1, upd_self] at e1; simp [Value.ownBlock] at e1
    · by_cases h2 : b = k + 1
      · rw [h2, upd_self] at e2; simp [Value.ownBlock] at e2
      · rw [upd_ne h1] at e1
        rw [upd_ne h2] at e2
        have old : ∀ c, c ≤ k → (vs c).ownBlock = some g → g < w.heap.size := fun c hc e => ((h.row c hc).lt g e).2
        by_cases h3 : a = i <;> by_cases h4 : b = i
        · omega
        · rw [h3, upd_self] at e1
          rw [upd_ne h4] at e2
          rcases hat with hat | ⟨g', hat, hge⟩
          · rw [hat] at e1; exact (h3.trans (h.rdif i b g hik (by omega) e1 e2))
          · rw [hat] at e1; injection e1 with e1; have := old b (by omega) e2; omega
        · rw [h4, upd_self] at e2
          rw [upd_ne h3] at e1
          rcases hat with hat | ⟨g', hat, hge⟩
          · rw [hat] at e2; exact ((h.rdif a i g (by omega) hik e1 e2).trans h4.symm)
          · rw [hat] at e2; injection e2 with e2; have := old a (by omega) e1; omega
        · rw [upd_ne h3] at e1
          rw [upd_ne h4] at e2
          exact h.rdif a b g (by omega) (by omega) e1 e2
end Go.Proofs.YthjkgbcomjiejaaGreatDoor
