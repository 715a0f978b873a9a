/-
  SizesOf of the program: a range over the iterator of stops.
-/
import Derived.RangeFuncWrites
import Derived.Test.YthjkgbcomjiejadGreatDoorInts
import Derived.Test.YthjkgbcomjiejadGreatDoorSizm
import Derived.RangeFuncNested
import Derived.RangeFuncBound
import Derived.RangeFuncCalls
import Derived.RangeFuncLeaves
import Derived.Shelf.Abstract
import Derived.Shelf.RegionOpen
import Derived.WalkKit
import Derived.OwnWalkIn
import Derived.TacticsInMore
import Derived.LoopNIn
import Derived.LoopIn
import Derived.Test.YthjkgbcomjiejadGreatDoorMat
import Derived.OrdersIn
import Derived.TacticsIn
namespace Go.Proofs.YthjkgbcomjiejadGreatDoor
open Go Go.RowKit
set_option linter.unusedVariables false
variable {F : Fence} {n : Nat} {P : Program}

/-- J is kept when memory grows and one block from B on is written. -/
def KeptFrom (B : Nat) (J : Nat → World → Prop) : Prop := ∀ s W W' row, J s W → W.grownBy W' row → (∀ r, row = some r → B ≤ r) → J s W'
/-- all old blocks but G (and l) lie as they lay. -/
structure KpL (l G : Nat) (W W' : World) : Prop where
  size : W.heap.size ≤ W'.heap.size
  block : ∀ k, k < W.heap.size → k ≠ l → k ≠ G → W'.heap[k]? = W.heap[k]?
theorem KpL.trans {l G : Nat} {A B C : World} (h : KpL l G A B) (k : KpL l G B C) : KpL l G A C :=
  ⟨Nat.le_trans h.size k.size, fun i hi h1 h2 => (k.block i (Nat.lt_of_lt_of_le hi h.size) h1 h2).trans (h.block i hi h1 h2)⟩
theorem KpL.put {l G : Nat} (W : World) (o : Obj) : KpL l G W (W.putObj l o) :=
  ⟨(grownBy_putObj' W l o).size, fun k hk h1 _ => (grownBy_putObj' W l o).block k hk (fun e => h1 (by injection e))⟩
theorem KpL.refl (l G : Nat) (W : World) : KpL l G W W := ⟨Nat.le_refl _, fun _ _ _ _ => rfl⟩

def SeqW (F : Fence) (n : Nat) (P : Program) (g : Nat) (lb : Array Value) (encs : Nat → Array Value) (G N : Nat) (w : World) : Prop :=
  ∀ (l : Nat) (J : Nat → World → Prop) (W : World), Below w.heap.size w W → w.heap.size ≤ l → l < W.heap.size → KeptFrom W.heap.size J →
    (∀ i W1, i < N → J i W1 → YieldAt F (n - 1) P l (encs i) W1 fun e W' => e = .returned (.bool true) ∧ J (i + 1) W' ∧ KpL l G W1 W') →
    J 0 W →
    CallsIn F n P g (#[.func (.yield l) #[] #[]] ++ lb) W fun e W' => (∃ v, e = .returned v) ∧ J N W'

theorem wpIn_range_w {g : Operand} {ps : Array Tmp} {assign body : Code} {Q : Exit → Act → World → Prop} {a : Act} {w : World}
    (hro : F.round = none) (h1 : 1 ≤ n) {gf : Nat} {lb : Array Value} (hg : a.eval g = .func (.func gf) #[] lb) (hFg : F.fn gf) (eg : ∀ args w, (callFunc gf args).run P w = .ok (.enter gf args) w)
    {encs : Nat → Array Value} {G N : Nat} (hG : G < w.heap.size) (hseq : SeqW F (n - 1) P gf lb encs G N w)
    (hps : ∀ x, (encs x).size = ps.size)
    (I : Nat → World → Prop) (hI : KeptFrom w.heap.size I) (h0 : I 0 w) (a₁ : Nat → Act)
    (hassign : ∀ (l : Nat) (x : Nat) (W : World) (K : Act → World → Prop), K (a₁ x) W →
      assign.wpIn (F.inRound l) (n - 1 - 1) P (Exit.then K (fun _ _ _ => False)) { tmps := (ps.zip (encs x)).foldl (fun t (p, v) => t.setIfInBounds p v) a.tmps, defers := [] } W)
    (hbody : ∀ (l : Nat) (x : Nat) (W : World), I x W → x < N → body.wpIn (F.inRound l) (n - 1 - 1) P (fun e _ W' => e = .normal ∧ W.grownBy W' (some G) ∧ I (x + 1) W') (a₁ x) W)
    (hdone : ∀ (D : Nat) (W : World), w.heap.size ≤ D → I N W → W.heap[D]? = some (.deferred (some [])) → Q .normal { a with defers := { target := .collected D, args := #[] } :: a.defers } W) :
    (Code.rangeFunc g ps assign body).wpIn F n P Q a w := by
  refine wpIn_rangeFunc ?_
  intro fn hfn
  rw [hro]
  obtain ⟨rec, hrec⟩ : ∃ rec : LoopState → Option Code → Loop, rec = fun st pe => { state := st, pending := pe, fn, tmps := a.tmps, params := ps, assign, body, defers := w.heap.size } := ⟨_, rfl⟩
  obtain ⟨W1, hW1⟩ : ∃ W1, (w.alloc (.deferred (some []))).alloc (.loop (rec .ready none)) = W1 := ⟨_, rfl⟩
  have hz1 : W1.heap.size = w.heap.size + 2 := by rw [← hW1]; simp
  have hL1 : W1.heap[w.heap.size + 1]? = some (.loop (rec .ready none)) := by
    rw [← hW1]; have := World.alloc_heap_new (w.alloc (.deferred (some []))) (.loop (rec .ready none)); rwa [World.size_alloc] at this
  have hK1 : W1.heap[w.heap.size]? = some (.deferred (some [])) := by
    rw [← hW1]; exact (Below.heap_alloc _ _ _ (by simp)).trans (World.alloc_heap_new w _)
  have hI1 : I 0 W1 := by
    rw [← hW1]
    exact hI _ _ _ none (hI _ _ _ none h0 (World.grownBy_alloc w _ none) (fun r e => by cases e)) (World.grownBy_alloc _ _ none) (fun r e => by cases e)
  have hb1 : Below w.heap.size w W1 := by
    rw [← hW1]; exact ((Below.refl _ w).alloc (Nat.le_refl _) _).alloc (by simp) _
  refine ⟨w.heap.size + 1, [{ target := .collected w.heap.size, args := #[] }], W1, { target := .fn (.func gf) lb, args := #[.func (.yield (w.heap.size + 1)) #[] #[]] }, W1, gf,
    #[.func (.yield (w.heap.size + 1)) #[] #[]] ++ lb, W1, ?_, ?_, ?_, ?_, fun _ => h1, ?_⟩
  · rw [← hW1, hrec]; exact run_enterLoop_outer _ _ _ _ _
  · simp only [resolve, hg]
    simp [go_sem]
  · intro f' hf'; simp [Target.leads] at hf'; subst hf'; exact hFg
  · simp [invoke, go_sem, eg]
  · refine (hseq (w.heap.size + 1)
      (fun x W => I x W ∧ W.heap[w.heap.size + 1]? = some (.loop (rec .ready none)) ∧ W.heap[w.heap.size]? = some (.deferred (some [])))
      W1 hb1 (by omega) (by omega)
      (fun s A B row hs hg' hr => by
        have hlt := (Array.getElem?_eq_some_iff.1 hs.2.1).1
        refine ⟨hI s A B row hs.1 hg' (fun r e => by have := hr r e; omega), (hg'.block _ hlt ?_).trans hs.2.1, (hg'.block _ (by omega) ?_).trans hs.2.2⟩
        · intro e; have := hr _ e.symm; omega
        · intro e; have := hr _ e.symm; omega)
      ?_ ⟨hI1, hL1, hK1⟩).mono ?_
    · rintro x W hx ⟨hi, hl, hk⟩
      have hlt : w.heap.size + 1 < W.heap.size := (Array.getElem?_eq_some_iff.1 hl).1
      have hy := run_yield (P := P) (args := encs x) hl (by rw [hrec]; exact hps x)
      rw [hrec] at hy
      refine ⟨fn, _, assign, body, hy, roundIn_of_wpIn hfn (hassign _ x W _ ⟨_, run_beginRound hl (by rw [hrec]), ?_⟩)⟩
      have hl2 : (W.putObj (w.heap.size + 1) (.loop { rec .ready none with state := .busy })).heap[w.heap.size + 1]? = some (.loop { rec .ready none with state := .busy }) := World.putObj_heap_same hlt
      have hk2 : (W.putObj (w.heap.size + 1) (.loop { rec .ready none with state := .busy })).heap[w.heap.size]? = some (.deferred (some [])) := (World.putObj_heap_other (by omega)).trans hk
      refine wpIn_mono (hbody _ x _ (hI _ _ _ _ hi (grownBy_putObj' W (w.heap.size + 1) _) (fun r e => by injection e with e; omega)) hx) ?_
      rintro e a3 W3 ⟨rfl, hg3, hi3⟩
      have hl3 := (hg3.block _ (Array.getElem?_eq_some_iff.1 hl2).1 (fun e => by injection e with e; omega)).trans hl2
      have hk3 := (hg3.block _ (Array.getElem?_eq_some_iff.1 hk2).1 (fun e => by injection e with e; omega)).trans hk2
      have hend := run_endRound (P := P) none hl3
      rw [hrec] at hend
      refine ⟨_, _, hend, rfl, ⟨hI _ _ _ _ hi3 (grownBy_putObj' W3 (w.heap.size + 1) _) (fun r e => by injection e with e; omega), ?_, (World.putObj_heap_other (by omega)).trans hk3⟩, ?_⟩
      · rw [hrec]; exact World.putObj_heap_same (Array.getElem?_eq_some_iff.1 hl3).1
      · exact ((KpL.put W _).trans ⟨hg3.size, fun k hk _ h2 => hg3.block k hk (fun e => h2 (by injection e))⟩).trans (KpL.put _ _)
    · rintro e W2 ⟨⟨v, rfl⟩, hi, hl, hk⟩
      exact ⟨none, _, by have := run_endLoop (P := P) hl (by rw [hrec]; simp); rw [hrec] at this; exact this, hdone _ _ (Nat.le_refl _) (hI _ _ _ _ hi (grownBy_putObj' W2 (w.heap.size + 1) _) (fun r e => by injection e with e; omega)) ((World.putObj_heap_other (by omega)).trans hk)⟩
end Go.Proofs.YthjkgbcomjiejadGreatDoor
namespace Go.Proofs.YthjkgbcomjiejadGreatDoor
open Go.RowKit
set_option linter.unusedVariables false

def smTo (l : List Tk) (n k : Nat) : List Int := (List.range (n + 1)).map fun i => if i ≤ k then smN l i else 0
theorem smTo_length (l : List Tk) (n k : Nat) : (smTo l n k).length = n + 1 := by simp [smTo]
theorem smTo_at (l : List Tk) {n k i : Nat} (hi : i ≤ k) (hk : k ≤ n) : (smTo l n k)[i]? = some (smN l i) := by
  simp [smTo, List.getElem?_map, List.getElem?_range (show i < n + 1 by omega), hi]
theorem smTo_next (l : List Tk) {n k : Nat} (hk : k < n) : (smTo l n k)[k + 1]? = some 0 := by
  simp only [smTo, List.getElem?_map, List.getElem?_range (show k + 1 < n + 1 by omega), Option.map_some]
  rw [if_neg (by omega)]
theorem smTo_zero (l : List Tk) (n : Nat) : smTo l n 0 = List.replicate (n + 1) 0 := by
  apply List.ext_getElem?
  intro i
  by_cases hi : i < n + 1
  · simp only [smTo, List.getElem?_map, List.getElem?_range hi, List.getElem?_replicate, hi, if_true, Option.map_some]
    by_cases h0 : i ≤ 0
    · obtain rfl : i = 0 := by omega
      simp [smN_zero]
    · simp [h0]
  · rw [List.getElem?_eq_none (by rw [smTo_length]; omega), List.getElem?_eq_none (by simp; omega)]
theorem smTo_set (l : List Tk) {n k : Nat} (hk : k < n) {x : Int} (hx : smN l (k + 1) = x) : (smTo l n k).set (k + 1) x = smTo l n (k + 1) := by
  apply List.ext_getElem?
  intro i
  by_cases hi : i < n + 1
  · rw [List.getElem?_set]
    by_cases e : k + 1 = i
    · subst e
      rw [if_pos rfl, if_pos (by rw [smTo_length]; omega), smTo_at l (Nat.le_refl _) (by omega), hx]
    · rw [if_neg e]
      simp only [smTo, List.getElem?_map, List.getElem?_range hi, Option.map_some]
      by_cases h0 : i ≤ k
      · rw [if_pos h0, if_pos (by omega)]
      · rw [if_neg h0, if_neg (by omega)]
  · rw [List.getElem?_eq_none (by rw [List.length_set, smTo_length]; omega), List.getElem?_eq_none (by rw [smTo_length]; omega)]
def sms (l : List Tk) : List Int := smTo l l.length l.length
theorem sms_at (l : List Tk) {i : Nat} (hi : i ≤ l.length) : (sms l)[i]? = some (smN l i) := smTo_at l hi (Nat.le_refl _)
theorem Tk.kw_if (t : Tk) : t.kw = if t.k = 4 then 1000000 else widB t.k t.s t.d t.o := rfl

set_option maxHeartbeats 2000000 in
set_option maxRecDepth 100000 in
theorem sumsAhead_any (A : Option Addr) (l : List Tk) (n c : Nat) (w : World) (hn : l.length = n) (hS : strB l = true) (hts : TS w A l) (hf : Fits l) :
    Calls Tryz.prog 98 #[.slice A n c] w fun e w' => e = .returned (.slice (some ⟨w.heap.size, 0, none⟩) (n + 1) (n + 1)) ∧ BlkL w' w.heap.size 3 (nums (sms l)) ∧ Below w.heap.size w w' := by
  obtain ⟨h4, hok, _⟩ := strB_true hS
  have HN := Lib.hid hn
  have h4' : n ≤ 400 := by omega
  clear hn
  have hmk := fun W => mkInts (n + 1) (by omega) W
  simp only [show (((n + 1 : Nat)) : Int) = (n : Int) + 1 from by omega] at hmk
  have HOK := Lib.hid hok
  clear hok hS
  go_enter Tryz.func98, Tryz.ntmps98
  go_wp2
  go_loopw [13] (fun i wr => ∃ k : Nat, k ≤ n ∧ i = .int .i64 k ∧ BlkL wr w.heap.size 3 (nums (smTo l n k)) ∧ Below w.heap.size w wr) (fun i _ => n - (intOf i).toNat)
  case atStart => exact ⟨0, Nat.zero_le _, rfl, by rw [smTo_zero]; exact BlkL.new w 3 _, (Below.refl _ _).alloc (Nat.le_refl _) _⟩
  case round =>
    obtain ⟨k, hk, rfl, hblk, hbw⟩ := hrel
    clear hmk
    by_cases hkl : k < n
    · obtain ⟨t, b, o, ht, rfl, hbl, _⟩ := hts.at (k := k) (by have := HN.out; omega)
      have hs := hf k t ht
      obtain ⟨hbl', c0, c1, c2, c3⟩ := (hts.below hbw).get ht
      have HT := Lib.hid ht
      have hkw := t.kw_bd (okN_at HOK.out (by have := HN.out; omega) ht).1
      have hsm := smN_bd HOK.out (show k ≤ l.length by have := HN.out; omega)
      have KW := Lib.hid t.kw_if
      have SM := Lib.hid (smN_succ ht)
      clear ht
      have HB := Lib.hid hbw
      clear hbw
      have HK := Lib.hid hblk
      clear hblk
      obtain ⟨hkw0, hkw1⟩ := hkw
      obtain ⟨hsm0, hsm1⟩ := hsm
      have hN := BlkL.new wr 38 [.int .i64 t.k, .string t.s, .int .i64 t.d, .int .i64 t.o]
      have n0 := (hN.cell 0).trans rfl
      have n1 := (hN.cell 1).trans rfl
      have n2 := (hN.cell 2).trans rfl
      have n3 := (hN.cell 3).trans rfl
      have HNN := Lib.hid hN
      clear hN
      go_wp2_with fail
      refine (WidthOf_any _ _ _ _ _ hs).mono ?_
      rintro e w4 ⟨rfl, hb4⟩
      have m0 := (hb4.cell (p := ⟨wr.heap.size, 0, none⟩) HNN.out.lt).trans n0
      have hK4 := (HK.out.alloc (.cells #[.int .i64 t.k, .string t.s, .int .i64 t.d, .int .i64 t.o] 38)).below hb4 (by have := HK.out.lt; simp; omega)
      have HB4 := Lib.hid ((HB.out.alloc HB.out.size (.cells #[.int .i64 t.k, .string t.s, .int .i64 t.d, .int .i64 t.o] 38)).trans (hb4.mono (by have := HB.out.size; simp; omega)))
      have z0 := (hK4.cell k).trans (nums_at (smTo_at l (Nat.le_refl k) (show k ≤ n by omega)))
      have z1 := (hK4.cell (k + 1)).trans (nums_at (smTo_next l hkl))
      have z2 := hK4.frozen (k + 1)
      have HK4 := Lib.hid hK4
      clear hb4 hK4 n0 n1 n2 n3 c0 c1 c2 c3 HNN HB HK
      have x3 : ((k : Int) + 1).toNat = k + 1 := by omega
      by_cases hk4 : t.k = 4
      · have E := Lib.hid (show smN l (k + 1) = smN l k + 1000000 from by rw [SM.out, KW.out, if_pos hk4])
        go_wp2
        go_roundw
        case rel =>
          have h1 := HK4.out.set (k + 1) (.int .i64 (smN l k + 1000000))
          rw [nums_set, smTo_set l hkl E.out] at h1
          exact ⟨k + 1, by omega, by go_num, h1, (HB4.out.setCell (p := ⟨w.heap.size, k + 1, none⟩) (Nat.le_refl _) _)⟩
        case measure => simp [intOf]; omega
      · have hk4' : (t.k == 4) = false := by simp [hk4]
        have E := Lib.hid (show smN l (k + 1) = smN l k + widB t.k t.s t.d t.o from by rw [SM.out, KW.out, if_neg hk4])
        have hw0 : 0 ≤ widB t.k t.s t.d t.o ∧ widB t.k t.s t.d t.o ≤ 1000000 := by have := KW.out; rw [if_neg hk4] at this; omega
        obtain ⟨hw0, hw1⟩ := hw0
        clear hk4
        go_wp2
        go_roundw
        case rel =>
          have h1 := HK4.out.set (k + 1) (.int .i64 (smN l k + widB t.k t.s t.d t.o))
          rw [nums_set, smTo_set l hkl E.out] at h1
          exact ⟨k + 1, by omega, by go_num, h1, (HB4.out.setCell (p := ⟨w.heap.size, k + 1, none⟩) (Nat.le_refl _) _)⟩
        case measure => simp [intOf]; omega
    · have hkn : k = n := by omega
      have HB := Lib.hid hbw
      have HK := Lib.hid hblk
      have HKN := Lib.hid hkn
      clear hbw hblk hkn
      go_wp2
      go_ret
      have e1 := HN.out; have e2 := HKN.out; subst e1; subst e2
      exact ⟨rfl, HK.out, HB.out⟩
end Go.Proofs.YthjkgbcomjiejadGreatDoor
namespace Go.Proofs.YthjkgbcomjiejadGreatDoor
open Go.RowKit Go.Shelf
set_option linter.unusedVariables false
attribute [local go_sem] Oper.semAt_some

theorem levI_in {l : List Tk} (hok : okN l l.length = true) {k : Nat} (hk : k < l.length) : 0 ≤ levI l k ∧ levI l k ≤ 12 := by
  have ht : l[k]? = some l[k] := List.getElem?_eq_getElem hk
  have h1 := (okN_at hok hk ht).2
  have h2 := okN_lo (okN_mono (Nat.le_of_lt hk) hok) (Nat.le_of_lt hk)
  unfold levI; omega

/-- the next breaks from i on, for each level. -/
def nxs (l : List Tk) (i : Nat) : List Int := (List.range 13).map fun (L : Nat) => (nx l L i : Int)
theorem nxs_length (l : List Tk) (i : Nat) : (nxs l i).length = 13 := by simp [nxs]
theorem nxs_at (l : List Tk) (i : Nat) {L : Nat} (hL : L < 13) : (nxs l i)[L]? = some (nx l L i : Int) := by
  simp only [nxs, List.getElem?_map, List.getElem?_range hL, Option.map_some]
/-- the first j of 13 are x. -/
def fst13 (x : Int) (j : Nat) : List Int := (List.range 13).map fun L => if L < j then x else 0
theorem fst13_zero (x : Int) : fst13 x 0 = List.replicate 13 0 := by simp [fst13]; rfl
theorem fst13_at (x : Int) (j : Nat) (hj : j < 13) : (fst13 x j)[j]? = some 0 := by
  simp only [fst13, List.getElem?_map, List.getElem?_range hj, Option.map_some]
  rw [if_neg (by omega)]
theorem fst13_set (x : Int) {j : Nat} (hj : j < 13) : (fst13 x j).set j x = fst13 x (j + 1) := by
  apply List.ext_getElem?
  intro i
  by_cases hi : i < 13
  · rw [List.getElem?_set]
    simp only [fst13, List.length_map, List.length_range, List.getElem?_map, List.getElem?_range hi, Option.map_some]
    by_cases e : j = i
    · subst e; rw [if_pos rfl, if_pos (by omega), if_pos (by omega)]
    · rw [if_neg e]
      by_cases h : i < j
      · rw [if_pos h, if_pos (by omega)]
      · rw [if_neg h, if_neg (by omega)]
  · rw [List.getElem?_eq_none (by simp [fst13]; omega), List.getElem?_eq_none (by simp [fst13]; omega)]
theorem fst13_all (l : List Tk) : fst13 (l.length : Int) 13 = nxs l l.length := by
  simp only [fst13, nxs]
  apply List.map_congr_left
  intro L hL
  have := List.mem_range.1 hL
  rw [if_pos this, nx_end]
/-- place k is laid at the levels from its own up to j. -/
def nxT (l : List Tk) (k j : Nat) : List Int := (List.range 13).map fun (L : Nat) => if levI l k ≤ L ∧ L < j then (k : Int) else (nx l L (k + 1) : Int)
theorem nxT_length (l : List Tk) (k j : Nat) : (nxT l k j).length = 13 := by simp [nxT]
theorem nxT_start (l : List Tk) {k j : Nat} (hj : levI l k = j) : nxT l k j = nxs l (k + 1) := by
  simp only [nxT, nxs]
  apply List.map_congr_left
  intro L hL
  rw [if_neg (by omega)]
theorem nxT_at (l : List Tk) (k : Nat) {j : Nat} (hj : j < 13) : ∃ x, (nxT l k j)[j]? = some x := by
  simp only [nxT, List.getElem?_map, List.getElem?_range hj, Option.map_some]
  exact ⟨_, rfl⟩
theorem nxT_set (l : List Tk) {k j : Nat} (hj : j < 13) (hl : levI l k ≤ j) : (nxT l k j).set j (k : Int) = nxT l k (j + 1) := by
  apply List.ext_getElem?
  intro i
  by_cases hi : i < 13
  · rw [List.getElem?_set]
    simp only [nxT, List.length_map, List.length_range, List.getElem?_map, List.getElem?_range hi, Option.map_some]
    by_cases e : j = i
    · subst e; rw [if_pos rfl, if_pos (by omega), if_pos (by omega)]
    · rw [if_neg e]
      by_cases h : levI l k ≤ i ∧ i < j
      · rw [if_pos h, if_pos (by omega)]
      · rw [if_neg h, if_neg (by omega)]
  · rw [List.getElem?_eq_none (by simp [nxT]; omega), List.getElem?_eq_none (by simp [nxT]; omega)]
theorem nxT_all {l : List Tk} {k : Nat} {t : Tk} (ht : l[k]? = some t) (hb : t.brk = true) : nxT l k 13 = nxs l k := by
  have hkl : k < l.length := (List.getElem?_eq_some_iff.1 ht).1
  simp only [nxT, nxs]
  apply List.map_congr_left
  intro L hL
  have := List.mem_range.1 hL
  rw [nx_step hkl, brkAt_eq ht, hb]
  by_cases h : levI l k ≤ L
  · rw [if_pos ⟨h, this⟩, if_pos (by simp [h])]
  · rw [if_neg (by omega), if_neg (by simp; omega)]
theorem nxs_next {l : List Tk} {k : Nat} {t : Tk} (ht : l[k]? = some t) (hb : t.brk = false) : nxs l (k + 1) = nxs l k := by
  have hkl : k < l.length := (List.getElem?_eq_some_iff.1 ht).1
  simp only [nxs]
  apply List.map_congr_left
  intro L hL
  rw [nx_step hkl, brkAt_eq ht, hb, if_neg (by simp)]

theorem TS.kp {W W' : World} {A : Option Addr} {l : List Tk} {ll G : Nat} (h : TS W A l) (hA : ∀ b, A.map (·.block) = some b → b ≠ ll ∧ b ≠ G) (hk : KpL ll G W W') : TS W' A l :=
  h.keep hk.size fun b j hb hlt => World.cell?_of_block (hk.block b hlt (hA b hb).1 (hA b hb).2)
theorem IS.kp {W W' : World} {A : Option Addr} {l : List Int} {ll G : Nat} (h : IS W A l) (hA : ∀ b, A.map (·.block) = some b → b ≠ ll ∧ b ≠ G) (hk : KpL ll G W W') : IS W' A l :=
  h.keep hk.size fun b j hb hlt => World.cell?_of_block (hk.block b hlt (hA b hb).1 (hA b hb).2)
theorem BlkL.kp {W W' : World} {g : Nat} {ty : TypeId} {cs : List Value} {ll G : Nat} (h : BlkL W g ty cs) (h1 : g ≠ ll) (h2 : g ≠ G) (hk : KpL ll G W W') : BlkL W' g ty cs := (hk.block g h.lt h1 h2).trans h
theorem KpL.below {l G : Nat} {A B : World} (h : Below A.heap.size A B) : KpL l G A B := ⟨h.size, fun k hk _ _ => h.block k hk⟩
theorem KpL.alloc (l G : Nat) (W : World) (o : Obj) : KpL l G W (W.alloc o) := KpL.below ((Below.refl _ W).alloc (Nat.le_refl _) o)
/-- a step on a block that came behind W. -/
theorem KpL.late {l G : Nat} {W A B : World} {row : Option Nat} (h : KpL l G W A) (hg : A.grownBy B row) (hr : ∀ r, row = some r → W.heap.size ≤ r) : KpL l G W B :=
  ⟨Nat.le_trans h.size hg.size, fun k hk h1 h2 => (hg.block k (Nat.lt_of_lt_of_le hk h.size) (fun e => by have := hr k e.symm; omega)).trans (h.block k hk h1 h2)⟩
theorem grown_set (W : World) (p : Addr) (v : Value) : W.grownBy (W.setCell p v) (some p.block) :=
  ⟨rfl, rfl, rfl, (KeepsWalks.setCell W _ v).size, fun k _ hk => Below.heap_setCell _ _ _ k (fun e => hk (by rw [e]))⟩
theorem grown_of_below {A B : World} (h : Below A.heap.size A B) : A.grownBy B none := ⟨h.os, h.tape, h.output, h.size, fun k hk _ => h.block k hk⟩

set_option maxRecDepth 100000 in
set_option maxHeartbeats 2000000 in
theorem stops1_in (n ll G : Nat) (A A1 : Option Addr) (l : List Tk) (N c c1 Bl Bv : Nat) (J : Nat → World → Prop) (hn : 1 ≤ n) (hN : l.length = N) (hS : strB l = true) (hf : Fits l)
    (W : World) (hG : G < W.heap.size) (hll : ll < W.heap.size) (hbl : BlkL W Bl 29 [.slice A N c]) (hbv : BlkL W Bv 57 [.slice A1 N c1]) (hl1 : Bl ≠ ll) (hl2 : Bl ≠ G) (hv1 : Bv ≠ ll) (hv2 : Bv ≠ G)
    (hts : TS W A l) (hA : ∀ b, A.map (·.block) = some b → b ≠ ll ∧ b ≠ G) (hIS : IS W A1 (levs l)) (hA1 : ∀ b, A1.map (·.block) = some b → b ≠ ll ∧ b ≠ G)
    (hJ : KeptFrom W.heap.size J)
    (hY : ∀ k W1, k < N → J (N - (k + 1)) W1 → YieldAt Fence.wide (n - 1) Tryz.prog ll #[.int .i64 (k : Int), .int .i64 (nx l (levI l k) (k + 1) : Int)] W1 fun e W' => e = .returned (.bool true) ∧ J (N - k) W' ∧ KpL ll G W1 W')
    (h0 : J 0 W) :
    CallsIn Fence.wide n Tryz.prog 131 #[.func (.yield ll) #[] #[], .pointer (some ⟨Bl, 0, none⟩), .pointer (some ⟨Bv, 0, none⟩)] W fun e W' => (∃ v, e = .returned v) ∧ J N W' := by
  obtain ⟨h4, hok, _⟩ := strB_true hS
  have HN := Lib.hid hN
  have h4' : N ≤ 400 := by omega
  clear hN
  have HOK := Lib.hid hok
  have HJ := Lib.hid hJ
  have HY := Lib.hid hY
  have HBL := Lib.hid hbl
  have HBV := Lib.hid hbv
  have hb0 := hbl.cell 0
  have hv0 := hbv.cell 0
  simp only [List.getElem?_cons_zero] at hb0 hv0
  clear hok hS hJ hY hbl hbv
  refine callsIn_of_wp Tryz.func131 rfl trivial ?_ rfl
  simp only [Tryz.ntmps131, List.size_toArray, List.length_cons, List.length_nil, Nat.reduceAdd, Nat.reduceSub, Array.replicate_succ, Array.replicate_zero, List.push_toArray, List.append_toArray, List.nil_append, List.cons_append]
  gi_wp2
  gi_loopw [8] (fun v wr => ∃ j : Nat, j ≤ 13 ∧ v = .int .i64 j ∧ J 0 wr ∧ KpL ll G W wr ∧ BlkL wr W.heap.size 170 (nums (fst13 N j))) (fun v _ => 13 - (intOf v).toNat)
  case atStart =>
    refine ⟨0, Nat.zero_le _, rfl, HJ.out _ _ _ none h0 (World.grownBy_alloc W _ none) (fun r e => by cases e), KpL.alloc _ _ _ _, ?_⟩
    rw [fst13_zero]
    exact BlkL.new W _ _
  case round =>
    obtain ⟨j, hj, rfl, hJ, hkp, hblk⟩ := hrel
    have cb := (HBL.out.kp hl1 hl2 hkp).cell 0
    simp only [List.getElem?_cons_zero] at cb
    by_cases hj13 : j < 13
    · have z1 := (hblk.cell j).trans (nums_at (fst13_at N j hj13))
      have z2 := hblk.frozen j
      have HJ1 := Lib.hid hJ
      have HK1 := Lib.hid hkp
      have HB1 := Lib.hid hblk
      clear hJ hkp hblk
      gi_wp2
      go_roundw
      case rel =>
        have h1 := HB1.out.set j (.int .i64 (N : Int))
        rw [nums_set, fst13_set (N : Int) hj13] at h1
        exact ⟨j + 1, by omega, by go_num, HJ.out _ _ _ _ HJ1.out (grown_set wr ⟨W.heap.size, j, none⟩ _) (fun r e => by injection e with e; exact Nat.le_of_eq e), HK1.out.late (grown_set wr ⟨W.heap.size, j, none⟩ _) (fun r e => by injection e with e; exact Nat.le_of_eq e), h1⟩
      case measure => simp [intOf]; omega
    · have hj' : j = 13 := by omega
      subst hj'
      rw [show (N : Int) = (l.length : Int) from by rw [HN.out], fst13_all] at hblk
      have HJ1 := Lib.hid hJ
      have HK1 := Lib.hid hkp
      have HB1 := Lib.hid hblk
      clear hJ hkp hblk hj hj13
      simp only [show ((13 : Nat) : Int) = 13 from rfl]
      gi_wp2
      gi_loopw [6] (fun v wr => ∃ m : Nat, m ≤ N ∧ v = .int .i64 ((m : Int) - 1) ∧ J (N - m) wr ∧ KpL ll G W wr ∧ BlkL wr W.heap.size 170 (nums (nxs l m))) (fun v _ => ((intOf v) + 1).toNat)
      case atStart =>
        exact ⟨N, Nat.le_refl _, rfl, by rw [Nat.sub_self]; exact HJ1.out, HK1.out, by rw [← HN.out]; exact HB1.out⟩
      case round =>
        obtain ⟨m, hm, rfl, hJ, hkp, hblk⟩ := hrel
        clear HJ1 HK1 HB1 cb
        cases m with
        | zero =>
          have HJ1 := Lib.hid hJ
          clear hJ hkp hblk
          simp only [show (((0 : Nat)) : Int) - 1 = -1 from by omega]
          gi_wp2
          go_end0
          exact ⟨⟨_, rfl⟩, HJ1.out⟩
        | succ k =>
          simp only [show (((k + 1 : Nat)) : Int) - 1 = (k : Int) from by omega]
          have hkl : k < l.length := by have := HN.out; omega
          obtain ⟨hl0, hl12⟩ := levI_in HOK.out hkl
          obtain ⟨L, hL⟩ := Int.eq_ofNat_of_zero_le hl0
          rw [hL] at hl0 hl12
          have hL13 : L < 13 := by omega
          obtain ⟨t, b, o, ht, rfl, hbl, _⟩ := hts.at (k := k) hkl
          have hs := hf k t ht
          obtain ⟨g, hg1, _, _⟩ := hIS k _ (levs_at l hkl)
          have hY := HY.out k wr (by omega) hJ
          rw [hL] at hY
          obtain ⟨fn, tmps, assign, body, hy, hR⟩ := hY
          have hI1 := hIS.kp hA1 hkp
          subst hg1
          obtain ⟨hgl, d0⟩ := hI1.get (levs_at l hkl)
          rw [hL] at d0
          have z0 := (hblk.cell L).trans (nums_at (nxs_at l (k + 1) hL13))
          have cv := (HBV.out.kp hv1 hv2 hkp).cell 0
          simp only [List.getElem?_cons_zero] at cv
          have HJ1 := Lib.hid hJ
          have HK1 := Lib.hid hkp
          have HB1 := Lib.hid hblk
          have HT := Lib.hid ht
          have HL := Lib.hid hL
          clear hJ hkp hblk ht hL hI1 hkl
          gi_wp2
          refine hR.mono ?_
          clear hR hy
          rintro e W3 ⟨rfl, hJ3, hk3⟩
          have hk03 := HK1.out.trans hk3
          have cb := (HBL.out.kp hl1 hl2 hk03).cell 0
          simp only [List.getElem?_cons_zero] at cb
          obtain ⟨hbl3, c0, c1', c2, c3⟩ := (hts.kp hA hk03).get HT.out
          have hblk3 := HB1.out.kp (by omega) (by omega) hk3
          have HJ3 := Lib.hid hJ3
          have HK3 := Lib.hid hk03
          have HB3 := Lib.hid hblk3
          clear hJ3 hk3 hk03 hblk3 HB1 HK1 HJ1 z0 d0 cv
          have hib : CallsIn Fence.wide (n - 1) Tryz.prog 132 #[.agg #[.int .i64 t.k, .string t.s, .int .i64 t.d, .int .i64 t.o]] W3 fun e W4 => e = .returned (.bool t.brk) ∧ W4.cell? ⟨Bv, 0, none⟩ = some (.slice (some ⟨g, 0, none⟩) N c1) ∧ W4.cell? ⟨g, k, none⟩ = some (.int .i64 L) ∧ Hid (J (N - k) W4 ∧ KpL ll G W W4 ∧ BlkL W4 W.heap.size 170 (nums (nxs l (k + 1)))) := by
            refine (callsIn_wide.2 (IsBreak_any _ _ _ _ _ hs)).mono ?_
            rintro e W4 ⟨rfl, hb4⟩
            have hk4 := HK3.out.trans (KpL.below hb4)
            have q1 := (HBV.out.kp hv1 hv2 hk4).cell 0
            simp only [List.getElem?_cons_zero] at q1
            have q2 := ((hIS.kp hA1 hk4).get (levs_at l (i := k) (by have := HN.out; omega))).2
            rw [HL.out] at q2
            exact ⟨rfl, q1, q2, Lib.hid ⟨HJ.out _ _ _ none HJ3.out (grown_of_below hb4) (fun r e => by cases e), hk4, HB3.out.below hb4 HB3.out.lt⟩⟩
          have HIB := Lib.hid hib
          clear hib
          cases hbr : t.brk
          · rw [hbr] at HIB
            gi_wp2_with (refine ⟨trivial, ?_⟩; gi_at_call 132; refine HIB.out.mono ?_; rintro e W4 ⟨rfl, q1, q2, HQ⟩)
            go_roundw
            case rel =>
              obtain ⟨r1, r2, r3⟩ := HQ.out
              rw [nxs_next HT.out hbr] at r3
              exact ⟨k, by omega, rfl, r1, r2, r3⟩
            case measure => simp [intOf]
          · rw [hbr] at HIB
            gi_wp2_with (refine ⟨trivial, ?_⟩; gi_at_call 132; refine HIB.out.mono ?_; rintro e W4 ⟨rfl, q1, q2, HQ⟩)
            gi_loopw [7] (fun v wr => ∃ j : Nat, L ≤ j ∧ j ≤ 13 ∧ v = .int .i64 (j : Int) ∧ J (N - k) wr ∧ KpL ll G W wr ∧ BlkL wr W.heap.size 170 (nums (nxT l k j))) (fun v _ => 13 - (intOf v).toNat)
            case atStart =>
              obtain ⟨r1, r2, r3⟩ := HQ.out
              exact ⟨L, Nat.le_refl _, by omega, rfl, r1, r2, by rw [nxT_start l HL.out]; exact r3⟩
            case round =>
              obtain ⟨j, hLj, hj, rfl, hJ5, hk5, hblk5⟩ := hrel
              clear HQ HB3 HJ3 HK3 HIB
              by_cases hj13 : j < 13
              · obtain ⟨x, hx⟩ := nxT_at l k hj13
                have z1 := (hblk5.cell j).trans (nums_at hx)
                have z2 := hblk5.frozen j
                have HJ5 := Lib.hid hJ5
                have HK5 := Lib.hid hk5
                have HB5 := Lib.hid hblk5
                clear hJ5 hk5 hblk5 hx
                gi_wp2
                go_roundw
                case rel =>
                  have h1 := HB5.out.set j (.int .i64 (k : Int))
                  rw [nums_set, nxT_set l hj13 (by rw [HL.out]; omega)] at h1
                  exact ⟨j + 1, by omega, by omega, by go_num, HJ.out _ _ _ _ HJ5.out (grown_set _ ⟨W.heap.size, j, none⟩ _) (fun r e => by injection e with e; exact Nat.le_of_eq e), HK5.out.late (grown_set _ ⟨W.heap.size, j, none⟩ _) (fun r e => by injection e with e; exact Nat.le_of_eq e), h1⟩
                case measure => simp [intOf]; omega
              · have hj' : j = 13 := by omega
                subst hj'
                rw [nxT_all HT.out hbr] at hblk5
                have HJ5 := Lib.hid hJ5
                have HK5 := Lib.hid hk5
                have HB5 := Lib.hid hblk5
                clear hJ5 hk5 hblk5 hj13 hLj hj
                simp only [show ((13 : Nat) : Int) = 13 from rfl]
                gi_wp2
                go_roundw
                case rel => exact ⟨k, by omega, by go_num, HJ5.out, HK5.out, HB5.out⟩
                case measure => simp [intOf]

/-- what the rounds are handed, the last place first. -/
def stE (l : List Tk) (i : Nat) : Array Value := #[.int .i64 ((l.length - 1 - i : Nat) : Int), .int .i64 (nx l (levI l (l.length - 1 - i)) (l.length - 1 - i + 1) : Int)]
theorem stops_seq (n G : Nat) (A A1 : Option Addr) (l : List Tk) (c c1 Bl Bv : Nat) (hn : 1 ≤ n) (hS : strB l = true) (hf : Fits l) (w : World) (hG : G < w.heap.size)
    (hbl : BlkL w Bl 29 [.slice A l.length c]) (hbv : BlkL w Bv 57 [.slice A1 l.length c1]) (hl2 : Bl ≠ G) (hv2 : Bv ≠ G)
    (hts : TS w A l) (hA : ∀ b, A.map (·.block) = some b → b < w.heap.size ∧ b ≠ G) (hIS : IS w A1 (levs l)) (hA1 : ∀ b, A1.map (·.block) = some b → b < w.heap.size ∧ b ≠ G) :
    SeqW Fence.wide n Tryz.prog 131 #[.pointer (some ⟨Bl, 0, none⟩), .pointer (some ⟨Bv, 0, none⟩)] (stE l) G l.length w := by
  intro ll J W hb hll hll2 hJ hY h0
  refine stops1_in n ll G A A1 l l.length c c1 Bl Bv J hn rfl hS hf W (Nat.lt_of_lt_of_le hG hb.size) hll2 (hbl.below hb hbl.lt) (hbv.below hb hbv.lt) (by have := hbl.lt; omega) hl2 (by have := hbv.lt; omega) hv2
    (hts.below hb) (fun b h => ⟨by have := (hA b h).1; omega, (hA b h).2⟩) (hIS.below hb) (fun b h => ⟨by have := (hA1 b h).1; omega, (hA1 b h).2⟩) hJ ?_ h0
  intro k W1 hk hJk
  have h := hY (l.length - (k + 1)) W1 (by omega) hJk
  have e : l.length - 1 - (l.length - (k + 1)) = k := by omega
  have e2 : l.length - (k + 1) + 1 = l.length - k := by omega
  simp only [stE, e, e2] at h
  exact h

set_option maxHeartbeats 400000 in
theorem stops_any (A A1 : Option Addr) (n c n1 c1 : Nat) (w : World) :
    Calls Tryz.prog 99 #[.slice A n c, .slice A1 n1 c1] w fun e w' => e = .returned (.func (.func 131) #[] #[.pointer (some ⟨w.heap.size, 0, none⟩), .pointer (some ⟨w.heap.size + 1, 0, none⟩)]) ∧
      w' = (w.alloc (.cells #[.slice A n c] 29)).alloc (.cells #[.slice A1 n1 c1] 57) := by
  go_enter Tryz.func99, Tryz.ntmps99
  go_wp2
  go_ret
  exact ⟨by simp, rfl⟩
end Go.Proofs.YthjkgbcomjiejadGreatDoor
namespace Go.Proofs.YthjkgbcomjiejadGreatDoor
open Go
set_option linter.unusedVariables false
variable {F : Fence} {n : Nat} {P : Program} {ops : Array Oper}

def notDS : Op → Bool
  | .defer _ => false
  | .select _ _ => false
  | _ => true
theorem notDS_defer {o : Op} (h : notDS o = true) : ∀ c, o ≠ .defer c := by intro c e; subst e; cases h
theorem notDS_select {o : Op} (h : notDS o = true) : ∀ cs b, o ≠ .select cs b := by intro cs b e; subst e; cases h
def bindB (o : Oper) (j : Nat) : Bool := o.after.any fun e => Region.binds .any e && decide (e.on = j)
def seesB (ops : Array Oper) (o : Oper) (x : Operand) : Bool :=
  match x with
  | .tmp s => (List.range ops.size).all fun j => match ops[j]? with
    | some oj => !decide (oj.dst = some s) || bindB o j
    | none => true
  | _ => true
def apartB (ops : Array Oper) (i : Nat) (o : Oper) : Bool :=
  (List.range ops.size).all fun j => decide (j = i) || (match ops[j]? with
    | some oj => oj.dst.isNone || !decide (oj.dst = o.dst)
    | none => true)
structure DetAt (ops : Array Oper) (i : Nat) (o : Oper) : Prop where
  guard : o.guard = none
  plain : notDS o.op = true
  back : (o.after.all fun e => !Region.binds .any e || decide (e.on < i)) = true
  sees : (o.op.operands.all (seesB ops o)) = true
  apart : apartB ops i o = true
  last : (!decide (i + 1 = ops.size) || (List.range i).all (bindB o)) = true
def detB (ops : Array Oper) : Bool := (List.range ops.size).all fun i => match ops[i]? with
  | some o => o.guard.isNone && (notDS o.op && ((o.after.all fun e => !Region.binds .any e || decide (e.on < i)) && (o.op.operands.all (seesB ops o) && (apartB ops i o && (!decide (i + 1 = ops.size) || (List.range i).all (bindB o))))))
  | none => true
theorem det_at (h : detB ops = true) {i : Nat} {o : Oper} (ho : ops[i]? = some o) : DetAt ops i o := by
  have hlt : i < ops.size := (Array.getElem?_eq_some_iff.1 ho).1
  have h1 := List.all_eq_true.1 h i (List.mem_range.2 hlt)
  simp only [ho, Bool.and_eq_true, Option.isNone_iff_eq_none] at h1
  exact ⟨h1.1, h1.2.1, h1.2.2.1, h1.2.2.2.1, h1.2.2.2.2.1, h1.2.2.2.2.2⟩
theorem bindB_true {o : Oper} {j : Nat} (h : bindB o j = true) : ∃ e ∈ o.after, Region.binds .any e = true ∧ e.on = j := by
  obtain ⟨e, he, hb⟩ := Array.any_eq_true'.1 h
  simp only [Bool.and_eq_true, decide_eq_true_eq] at hb
  exact ⟨e, he, hb.1, hb.2⟩

theorem cnt_drop (p : Nat → Bool) (n i : Nat) (hi : i < n) (hp : p i = true) : ((List.range n).countP fun j => p j && j != i) + 1 = (List.range n).countP p := by
  induction n with
  | zero => omega
  | succ n ih =>
    rw [List.range_succ, List.countP_append, List.countP_append]
    by_cases e : i = n
    · subst e
      have h1 : (List.range i).countP (fun j => p j && j != i) = (List.range i).countP p := by
        apply List.countP_congr
        intro j hj
        have := List.mem_range.1 hj
        simp; omega
      rw [h1]
      simp [hp]
    · have := ih (by omega)
      have h2 : ([n].countP fun j => p j && j != i) = [n].countP p := by
        have : n ≠ i := fun h => e h.symm
        simp [this]
      omega

def cntU (ops : Array Oper) (listed : Array Bool) : Nat := (List.range ops.size).countP fun j => !listed.getD j true
theorem listed_ne {listed : Array Bool} {i j : Nat} (h : i ≠ j) (d : Bool) : (listed.setIfInBounds i true).getD j d = listed.getD j d := by
  simp only [Array.getD_eq_getD_getElem?, Array.getElem?_setIfInBounds_ne h]
theorem listed_eq {listed : Array Bool} (i : Nat) : (listed.setIfInBounds i true).getD i true = true := by
  simp only [Array.getD_eq_getD_getElem?]
  by_cases h : i < listed.size
  · simp [h]
  · rw [Array.getElem?_eq_none (by simp; omega)]; rfl
theorem listed_in {listed : Array Bool} {j : Nat} (h : listed.getD j false = true) : listed.getD j true = true := by
  simp only [Array.getD_eq_getD_getElem?] at *
  cases e : listed[j]? <;> simp_all
theorem listed_out {listed : Array Bool} {j : Nat} (hj : j < listed.size) (h : listed.getD j true = true) : listed.getD j false = true := by
  simp only [Array.getD_eq_getD_getElem?] at *
  rw [Array.getElem?_eq_getElem hj] at *
  exact h
theorem cntU_drop {listed : Array Bool} {i : Nat} (hi : i < ops.size) (h : listed.getD i true = false) : cntU ops (listed.setIfInBounds i true) + 1 = cntU ops listed := by
  unfold cntU
  rw [← cnt_drop (fun j => !listed.getD j true) ops.size i hi (by simp [h])]
  congr 1
  apply List.countP_congr
  intro j _
  by_cases e : j = i
  · subst e; rw [listed_eq]; simp
  · rw [listed_ne (fun h => e h.symm)]; simp [e]
theorem all_of_nil (hd : detB ops = true) {listed : Array Bool} (hs : listed.size = ops.size) (h : Region.ready .any ops listed = []) (j : Nat) : j < ops.size → listed.getD j true = true := by
  induction j using Nat.strongRecOn with
  | _ j ih =>
    intro hj
    cases hl : listed.getD j true
    · exfalso
      have ho : ops[j]? = some ops[j] := Array.getElem?_eq_getElem hj
      have hd' := det_at hd ho
      have : j ∈ Region.ready .any ops listed := mem_ready.2 ⟨hl, _, ho, fun e he hb => by
        have hb' := Array.all_eq_true'.1 hd'.back e he
        simp only [hb, Bool.not_true, Bool.false_or, decide_eq_true_eq] at hb'
        exact listed_out (by omega) (ih e.on hb' (by omega))⟩
      rw [h] at this
      cases this
    · rfl

/-- one operation ends in value v and a world of the class. -/
def Gv (F : Fence) (n : Nat) (P : Program) (C : World → Prop) (v : Value) : Result Next → Prop
  | .ok (.value u) w' => u = v ∧ C w'
  | .ok .skip w' => v = undef ∧ C w'
  | .ok (.enter f args) w' => (F.depth.isSome = true → 1 ≤ n) ∧ CallsIn F (n - 1) P f args w' (fun e w'' => e = .returned v ∧ C w'')
  | _ => False
theorem Gv.upon {C : World → Prop} {v : Value} {r : Result Next} (h : Gv F n P C v r) {o : Oper} {a : Act} {next : Act → World → Prop} {Q : Exit → Act → World → Prop} (hn : ∀ w', C w' → next (a.put o.dst v) w') : o.uponIn F n P a next Q r := by
  cases r with
  | ok x w' =>
    cases x <;> simp only [Gv] at h <;> simp only [Oper.uponIn]
    case value u => obtain ⟨rfl, hc⟩ := h; exact hn _ hc
    case skip => obtain ⟨rfl, hc⟩ := h; exact hn _ hc
    case enter f args => exact ⟨h.1, h.2.mono fun e w'' ⟨he, hc⟩ => by subst he; exact hn _ hc⟩
  | halt x w' => exact h.elim

def putAll : List Oper → List Value → Act → Act
  | o :: os, v :: vs, a => putAll os vs (a.put o.dst v)
  | _, _, a => a

/-- the frame in which all values stand. -/
structure Full (ops : Array Oper) (vs : Array Value) (a aF : Act) : Prop where
  defers : aF.defers = a.defers
  size : aF.tmps.size = a.tmps.size
  slot : ∀ s : Nat, a.tmps[s]? = aF.tmps[s]? ∨ ∃ (j : Nat) (oj : Oper), ops[j]? = some oj ∧ oj.dst = some s
  val : ∀ (i : Nat) (o : Oper) (v : Value) (s : Nat), ops[i]? = some o → vs[i]? = some v → o.dst = some s → s < aF.tmps.size → aF.tmps[s]? = some v

structure DInv (ops : Array Oper) (aF : Act) (listed : Array Bool) (a' : Act) : Prop where
  defers : a'.defers = aF.defers
  size : a'.tmps.size = aF.tmps.size
  slot : ∀ s : Nat, a'.tmps[s]? = aF.tmps[s]? ∨ ∃ (j : Nat) (oj : Oper), ops[j]? = some oj ∧ oj.dst = some s ∧ listed.getD j true = false

theorem DInv.step {vs : Array Value} {a aF a' : Act} {listed : Array Bool} (hf : Full ops vs a aF) (h : DInv ops aF listed a') {i : Nat} {o : Oper} {v : Value} (ho : ops[i]? = some o) (hv : vs[i]? = some v) : DInv ops aF (listed.setIfInBounds i true) (a'.put o.dst v) := by
  have keep : ∀ (s j : Nat) (oj : Oper), o.dst ≠ some s → ops[j]? = some oj → oj.dst = some s → listed.getD j true = false → (listed.setIfInBounds i true).getD j true = false := by
    intro s j oj hne hj hdj hl
    rw [listed_ne (fun e => hne (by subst e; rw [ho] at hj; injection hj with hj; rw [hj]; exact hdj))]
    exact hl
  cases hd : o.dst with
  | none =>
    refine ⟨h.defers, h.size, fun s => ?_⟩
    rcases h.slot s with e | ⟨j, oj, hj, hdj, hl⟩
    · exact .inl e
    · exact .inr ⟨j, oj, hj, hdj, keep s j oj (by rw [hd]; simp) hj hdj hl⟩
  | some d =>
    refine ⟨h.defers, by simp only [Act.put, Array.size_setIfInBounds]; exact h.size, fun s => ?_⟩
    by_cases e : d = s
    · subst e
      left
      by_cases hlt : d < aF.tmps.size
      · rw [hf.val i o v d ho hv hd hlt]
        simp only [Act.put, Array.getElem?_setIfInBounds_self]
        rw [if_pos (by rw [h.size]; exact hlt)]
      · have hlt' : aF.tmps.size ≤ d := Nat.le_of_not_lt hlt
        rw [Array.getElem?_eq_none (by simp only [Act.put, Array.size_setIfInBounds]; rw [h.size]; exact hlt'), Array.getElem?_eq_none hlt']
    · have e1 : (a'.put (some d) v).tmps[s]? = a'.tmps[s]? := by simp only [Act.put]; exact Array.getElem?_setIfInBounds_ne e
      rw [e1]
      rcases h.slot s with e2 | ⟨j, oj, hj, hdj, hl⟩
      · exact .inl e2
      · exact .inr ⟨j, oj, hj, hdj, keep s j oj (by rw [hd]; simpa using e) hj hdj hl⟩
theorem DInv.done {aF a' : Act} {listed : Array Bool} (h : DInv ops aF listed a') (hall : ∀ j, j < ops.size → listed.getD j true = true) : a' = aF := by
  obtain ⟨h1, h2, h3⟩ := h
  cases a'; cases aF
  simp only at h1 h2 h3
  subst h1
  congr
  apply Array.ext_getElem?
  intro s
  rcases h3 s with e | ⟨j, oj, hj, _, hl⟩
  · exact e
  · rw [hall j (Array.getElem?_eq_some_iff.1 hj).1] at hl; cases hl
theorem DInv.exec (hd : detB ops = true) {aF a' : Act} {listed : Array Bool} (h : DInv ops aF listed a') {i : Nat} {o : Oper} (ho : ops[i]? = some o) (hr : ∀ e ∈ o.after, Region.binds .any e = true → listed.getD e.on false = true) : execOp a'.eval o = execOp aF.eval o := by
  have hd' := det_at hd ho
  refine execOp_congr o (notDS_select hd'.plain) fun x hx => ?_
  cases x with
  | tmp s =>
    have hs := Array.all_eq_true'.1 hd'.sees _ hx
    simp only [Act.eval, Array.getD_eq_getD_getElem?]
    rcases h.slot s with e | ⟨j, oj, hj, hdj, hl⟩
    · rw [e]
    · exfalso
      have := List.all_eq_true.1 hs j (List.mem_range.2 (Array.getElem?_eq_some_iff.1 hj).1)
      simp only [hj, hdj, decide_true, Bool.not_true, Bool.false_or] at this
      obtain ⟨e, he, hb, rfl⟩ := bindB_true this
      rw [listed_in (hr e he hb)] at hl
      cases hl
  | _ => rfl

theorem any_det {l : Nat} {vs : Array Value} {a aF : Act} {C C2 : World → Prop} {Q : Exit → Act → World → Prop} (hfn : ∀ f, F.fn f) (hd : detB ops = true) (hsz : vs.size = ops.size) (h1 : 1 ≤ ops.size) (hf : Full ops vs a aF)
    (hv : ∀ (i : Nat) (o : Oper) (v : Value), i + 1 < ops.size → ops[i]? = some o → vs[i]? = some v → ∀ w', C w' → Gv F n P C v ((execOp aF.eval o).run P w'))
    (hlast : ∀ (o : Oper) (v : Value), ops[ops.size - 1]? = some o → vs[ops.size - 1]? = some v → ∀ w', C w' → Gv F n P C2 v ((execOp aF.eval o).run P w'))
    (hQ : ∀ w', C2 w' → Q .normal aF w') :
    ∀ (fuel : Nat) (listed : Array Bool) (a' : Act) (w' : World), listed.size = ops.size → DInv ops aF listed a' → cntU ops listed ≤ fuel →
      ((listed.getD (ops.size - 1) true = false ∧ C w') ∨ ((∀ j, j < ops.size → listed.getD j true = true) ∧ C2 w')) → wpAnyIn (F.inRound l) n P .any ops Q fuel listed a' w' := by
  intro fuel
  induction fuel with
  | zero =>
    intro listed a' w' hs hi hc hw
    have hall : ∀ j, j < ops.size → listed.getD j true = true := by
      intro j hj
      have := List.countP_eq_zero.1 (Nat.le_zero.1 hc) j (List.mem_range.2 hj)
      simpa using this
    rcases hw with ⟨h, _⟩ | ⟨_, h2⟩
    · rw [hall _ (by omega)] at h; cases h
    · refine ⟨?_, by rw [hi.done hall]; exact hQ _ h2⟩
      apply List.eq_nil_iff_forall_not_mem.2
      intro j hj
      obtain ⟨hl, o, ho, _⟩ := mem_ready.1 hj
      rw [hall j (Array.getElem?_eq_some_iff.1 ho).1] at hl; cases hl
  | succ fuel ih =>
    intro listed a' w' hs hi hc hw
    refine ⟨fun hnil => ?_, fun i hir => ?_⟩
    · have hall := all_of_nil hd hs hnil
      rcases hw with ⟨h, _⟩ | ⟨_, h2⟩
      · rw [hall _ (by omega)] at h; cases h
      · rw [hi.done (fun j hj => hall j hj)]; exact hQ _ h2
    · obtain ⟨hl, o, ho, hr⟩ := mem_ready.1 hir
      have hlt : i < ops.size := (Array.getElem?_eq_some_iff.1 ho).1
      have hd' := det_at hd ho
      obtain ⟨v, hvi⟩ : ∃ v, vs[i]? = some v := ⟨_, Array.getElem?_eq_getElem (by omega)⟩
      rcases hw with ⟨hm, hC⟩ | ⟨hall, _⟩
      · have hex := hi.exec hd ho hr
        have hcnt := cntU_drop (ops := ops) hlt hl
        unfold wpOpIn
        simp only [ho]
        rw [if_pos (by simp [Region.wanted, hd'.guard])]
        refine ⟨fun f _ => hfn f, ?_⟩
        rw [show (F.inRound l).round = some l from rfl, Oper.semAt_some l _ o (notDS_defer hd'.plain), hex]
        by_cases e : i + 1 = ops.size
        · have ei : i = ops.size - 1 := by omega
          have hg := hlast o v (by rw [← ei]; exact ho) (by rw [← ei]; exact hvi) w' hC
          refine Gv.upon (F := F.inRound l) hg fun w2 hC2 => ih _ _ _ (by simp [hs]) (hi.step hf ho hvi) (by omega) (.inr ⟨fun j hj => ?_, hC2⟩)
          by_cases ej : i = j
          · subst ej; exact listed_eq _
          · rw [listed_ne ej]
            have hb := hd'.last
            simp only [e, decide_true, Bool.not_true, Bool.false_or] at hb
            obtain ⟨ed, he, hbb, rfl⟩ := bindB_true (List.all_eq_true.1 hb j (List.mem_range.2 (by omega)))
            exact listed_in (hr ed he hbb)
        · have hg := hv i o v (by omega) ho hvi w' hC
          refine Gv.upon (F := F.inRound l) hg fun w2 hC2 => ih _ _ _ (by simp [hs]) (hi.step hf ho hvi) (by omega) (.inl ⟨?_, hC2⟩)
          rw [listed_ne (by omega)]; exact hm
      · rw [hall i hlt] at hl; cases hl
theorem putAll_defers (os : List Oper) (vs : List Value) (a : Act) : (putAll os vs a).defers = a.defers := by
  induction os generalizing vs a with
  | nil => rfl
  | cons o os ih =>
    cases vs with
    | nil => rfl
    | cons v vs => rw [putAll, ih]; cases o.dst <;> rfl
theorem putAll_size (os : List Oper) (vs : List Value) (a : Act) : (putAll os vs a).tmps.size = a.tmps.size := by
  induction os generalizing vs a with
  | nil => rfl
  | cons o os ih =>
    cases vs with
    | nil => rfl
    | cons v vs => rw [putAll, ih]; cases o.dst <;> simp [Act.put]
theorem putAll_other (os : List Oper) (vs : List Value) (a : Act) (s : Nat) (h : ∀ o ∈ os, o.dst ≠ some s) : (putAll os vs a).tmps[s]? = a.tmps[s]? := by
  induction os generalizing vs a with
  | nil => rfl
  | cons o os ih =>
    cases vs with
    | nil => rfl
    | cons v vs =>
      rw [putAll, ih _ _ (fun o' ho' => h o' (List.mem_cons_of_mem _ ho'))]
      have := h o (List.mem_cons_self)
      cases hd : o.dst with
      | none => rfl
      | some d => simp only [Act.put]; exact Array.getElem?_setIfInBounds_ne (fun e => this (by rw [hd, e]))
theorem putAll_val (os : List Oper) (vs : List Value) (a : Act) (i : Nat) (o : Oper) (v : Value) (s : Nat) (ho : os[i]? = some o) (hv : vs[i]? = some v) (hd : o.dst = some s) (hs : s < a.tmps.size)
    (hap : ∀ j oj, os[j]? = some oj → oj.dst = some s → j = i) : (putAll os vs a).tmps[s]? = some v := by
  induction os generalizing vs a i with
  | nil => simp at ho
  | cons o' os ih =>
    cases vs with
    | nil => simp at hv
    | cons v' vs =>
      cases i with
      | zero =>
        simp at ho hv
        subst ho hv
        rw [putAll, putAll_other]
        · rw [hd]; simp only [Act.put]; rw [Array.getElem?_setIfInBounds_self, if_pos hs]
        · intro o2 h2 hd2
          obtain ⟨j, hj⟩ := List.mem_iff_getElem?.1 h2
          have := hap (j + 1) o2 (by simpa using hj) hd2
          omega
      | succ i =>
        rw [putAll]
        refine ih vs _ i (by simpa using ho) (by simpa using hv) (by cases o'.dst <;> simpa [Act.put] using hs) ?_
        intro j oj hj hdj
        have := hap (j + 1) oj (by simpa using hj) hdj
        omega
theorem full_putAll (hd : detB ops = true) (vs : Array Value) (a : Act) : Full ops vs a (putAll ops.toList vs.toList a) := by
  refine ⟨putAll_defers _ _ _, putAll_size _ _ _, fun s => ?_, fun i o v s ho hv hds hs => ?_⟩
  · by_cases h : ∃ (j : Nat) (oj : Oper), ops[j]? = some oj ∧ oj.dst = some s
    · exact .inr h
    · left
      rw [putAll_other]
      intro o ho e
      obtain ⟨j, hj⟩ := List.mem_iff_getElem?.1 ho
      exact h ⟨j, o, by simpa using hj, e⟩
  · rw [putAll_size] at hs
    refine putAll_val _ _ _ i o v s (by simpa using ho) (by simpa using hv) hds hs ?_
    intro j oj hj hdj
    have ho2 : ops[j]? = some oj := by simpa using hj
    have h1 := List.all_eq_true.1 (det_at hd ho).apart j (List.mem_range.2 (Array.getElem?_eq_some_iff.1 ho2).1)
    simp only [ho2, hdj, hds, decide_true, Bool.not_true, Bool.or_false, Option.isNone_some, decide_eq_true_eq] at h1
    exact h1

theorem wpIn_region_det {l id : Nat} {vs : Array Value} {a : Act} {w : World} {Q : Exit → Act → World → Prop} (C C2 : World → Prop) (aF : Act) (hfn : ∀ f, F.fn f) (hm : P.follows .mixedOrders = true) (hd : detB ops = true) (hsz : vs.size = ops.size) (h1 : 1 ≤ ops.size) (haF : putAll ops.toList vs.toList a = aF)
    (hC : C w.drew)
    (hv : ∀ (i : Nat) (o : Oper) (v : Value), i + 1 < ops.size → ops[i]? = some o → vs[i]? = some v → ∀ w', C w' → Gv F n P C v ((execOp aF.eval o).run P w'))
    (hlast : ∀ (o : Oper) (v : Value), ops[ops.size - 1]? = some o → vs[ops.size - 1]? = some v → ∀ w', C w' → Gv F n P C2 v ((execOp aF.eval o).run P w'))
    (hQ : ∀ w', C2 w' → Q .normal aF w') : (Code.region id ops true).wpIn (F.inRound l) n P Q a w := by
  have hf := full_putAll hd vs a
  rw [haF] at hf
  refine wpIn_region_any hm (any_det hfn hd hsz h1 hf hv hlast hQ _ _ _ _ (by simp) ⟨hf.defers.symm, hf.size.symm, fun s => ?_⟩ ?_ (.inl ⟨?_, hC⟩))
  · rcases hf.slot s with e | ⟨j, oj, hj, hdj⟩
    · exact .inl e
    · refine .inr ⟨j, oj, hj, hdj, ?_⟩
      have := (Array.getElem?_eq_some_iff.1 hj).1
      simp [Array.getD_eq_getD_getElem?, this]
  · exact Nat.le_trans (List.countP_le_length) (by simp)
  · simp [Array.getD_eq_getD_getElem?, show ops.size - 1 < ops.size by omega]
def GvL (F : Fence) (n : Nat) (P : Program) (aF : Act) (C C2 : World → Prop) : List Oper → List Value → Prop
  | [o], [v] => ∀ w', C w' → Gv F n P C2 v ((execOp aF.eval o).run P w')
  | o :: o2 :: os, v :: v2 :: vs => (∀ w', C w' → Gv F n P C v ((execOp aF.eval o).run P w')) ∧ GvL F n P aF C C2 (o2 :: os) (v2 :: vs)
  | _, _ => False
theorem GvL.spec {aF : Act} {C C2 : World → Prop} : ∀ {os : List Oper} {vs : List Value}, GvL F n P aF C C2 os vs →
    (vs.length = os.length ∧ 1 ≤ os.length) ∧ (∀ (i : Nat) (o : Oper) (v : Value), i + 1 < os.length → os[i]? = some o → vs[i]? = some v → ∀ w', C w' → Gv F n P C v ((execOp aF.eval o).run P w')) ∧
    (∀ (o : Oper) (v : Value), os[os.length - 1]? = some o → vs[os.length - 1]? = some v → ∀ w', C w' → Gv F n P C2 v ((execOp aF.eval o).run P w'))
  | [o], [v], h => by
    refine ⟨⟨rfl, Nat.le_refl _⟩, fun i o' v' hi => by simp at hi, fun o' v' ho hv => ?_⟩
    simp at ho hv
    subst ho hv
    exact h
  | o :: o2 :: os, v :: v2 :: vs, h => by
    obtain ⟨h1, h2⟩ := h
    obtain ⟨⟨e1, e2⟩, h3, h4⟩ := GvL.spec h2
    refine ⟨⟨by simp at e1 ⊢; exact e1, by simp⟩, fun i o' v' hi ho hv => ?_, fun o' v' ho hv => ?_⟩
    · cases i with
      | zero => simp at ho hv; subst ho hv; exact h1
      | succ i => exact h3 i o' v' (by simp at hi ⊢; omega) (by simpa using ho) (by simpa using hv)
    · exact h4 o' v' (by simpa using ho) (by simpa using hv)
  | [], _, h => by simp [GvL] at h
  | [_], [], h => by simp [GvL] at h
  | [_], _ :: _ :: _, h => by simp [GvL] at h
  | _ :: _ :: _, [], h => by simp [GvL] at h
  | _ :: _ :: _, [_], h => by simp [GvL] at h
theorem wpIn_region_dets {l id : Nat} {os : List Oper} {vs : List Value} {a : Act} {w : World} {Q : Exit → Act → World → Prop} (C C2 : World → Prop) (aF : Act) (hfn : ∀ f, F.fn f) (hm : P.follows .mixedOrders = true) (hd : detB os.toArray = true) (haF : putAll os vs a = aF)
    (hC : C w.drew) (hv : GvL F n P aF C C2 os vs) (hQ : ∀ w', C2 w' → Q .normal aF w') : (Code.region id os.toArray true).wpIn (F.inRound l) n P Q a w := by
  obtain ⟨⟨e1, e2⟩, h3, h4⟩ := hv.spec
  exact wpIn_region_det (vs := vs.toArray) C C2 aF hfn hm hd (by simpa using e1) (by simpa using e2) (by simpa using haF) hC (by simpa using h3) (by simpa using h4) hQ
end Go.Proofs.YthjkgbcomjiejadGreatDoor
namespace Go.Proofs.YthjkgbcomjiejadGreatDoor
open Go.RowKit Go.Shelf
set_option linter.unusedVariables false
attribute [local go_sem] Oper.semAt_some

/-- the sizes from place m on, 0 ahead of it. -/
def szF (l : List Tk) (m : Nat) : List Int := (List.range l.length).map fun i => if m ≤ i then (match l[i]? with | some t => sizI l i t | none => 0) else 0
theorem szF_length (l : List Tk) (m : Nat) : (szF l m).length = l.length := by simp [szF]
theorem szF_all (l : List Tk) : szF l 0 = szs l := by
  simp only [szF, szs]
  apply List.map_congr_left
  intro i _
  rw [if_pos (Nat.zero_le _)]
  cases l[i]? <;> rfl
theorem szF_none (l : List Tk) : szF l l.length = List.replicate l.length 0 := by
  apply List.ext_getElem?
  intro i
  by_cases hi : i < l.length
  · simp only [szF, List.getElem?_map, List.getElem?_range hi, Option.map_some, List.getElem?_replicate, hi, if_true]
    rw [if_neg (by omega)]
  · rw [List.getElem?_eq_none (by rw [szF_length]; omega), List.getElem?_eq_none (by simp; omega)]
theorem szF_at {l : List Tk} {k : Nat} (hk : k < l.length) : (szF l (k + 1))[k]? = some 0 := by
  simp only [szF, List.getElem?_map, List.getElem?_range hk, Option.map_some]
  rw [if_neg (by omega)]
theorem szF_set {l : List Tk} {k : Nat} {t : Tk} (ht : l[k]? = some t) {x : Int} (hx : sizI l k t = x) : (szF l (k + 1)).set k x = szF l k := by
  have hk : k < l.length := (List.getElem?_eq_some_iff.1 ht).1
  apply List.ext_getElem?
  intro i
  by_cases hi : i < l.length
  · rw [List.getElem?_set]
    simp only [szF, List.length_map, List.length_range, List.getElem?_map, List.getElem?_range hi, Option.map_some]
    by_cases e : k = i
    · subst e; rw [if_pos rfl, if_pos hi, if_pos (Nat.le_refl _), ht, ← hx]
    · rw [if_neg e]
      by_cases h : k ≤ i
      · rw [if_pos (show k + 1 ≤ i by omega), if_pos h]
      · rw [if_neg (show ¬ k + 1 ≤ i by omega), if_neg h]
  · rw [List.getElem?_eq_none (by rw [List.length_set, szF_length]; omega), List.getElem?_eq_none (by rw [szF_length]; omega)]

theorem grown_late {w7 W W' : World} {G : Nat} {row : Option Nat} (h : w7.grownBy W (some G)) (hg : W.grownBy W' row) (hr : ∀ r, row = some r → w7.heap.size ≤ r) : w7.grownBy W' (some G) :=
  ⟨hg.os.trans h.os, hg.tape.trans h.tape, hg.output.trans h.output, Nat.le_trans h.size hg.size, fun k hk hne => (hg.block k (Nat.lt_of_lt_of_le hk h.size) (fun e => by have := hr k e.symm; omega)).trans (h.block k hk hne)⟩
theorem grown_same {w7 W W' : World} {G : Nat} (h : w7.grownBy W (some G)) (hg : W.grownBy W' (some G)) : w7.grownBy W' (some G) :=
  ⟨hg.os.trans h.os, hg.tape.trans h.tape, hg.output.trans h.output, Nat.le_trans h.size hg.size, fun k hk hne => (hg.block k (Nat.lt_of_lt_of_le hk h.size) hne).trans (h.block k hk hne)⟩

/-- what lies while the sizes are filled. -/
structure LayS (w : World) (s2 s3 : Nat) (A : Option Addr) (l : List Tk) (n c : Nat) (W : World) : Prop where
  below : Below w.heap.size w W
  lst : BlkL W w.heap.size 29 [.slice A n c]
  lev : BlkL W (w.heap.size + 1) 3 (nums (levs l) ++ [.int .i64 0])
  toks : TS W A l
  sums : BlkL W s2 3 (nums (sms l))
  o1 : w.heap.size + 1 < s2
  o2 : s2 < s3
  bsum : BlkL W s3 57 [.slice (some ⟨s2, 0, none⟩) (n + 1) (n + 1)]
  bsiz : BlkL W (s3 + 2) 57 [.slice (some ⟨s3 + 1, 0, none⟩) n n]
  blst : BlkL W (s3 + 3) 29 [.slice A n c]
  blev : BlkL W (s3 + 4) 57 [.slice (some ⟨w.heap.size + 1, 0, none⟩) n n]
  old : ∀ b, A.map (·.block) = some b → b < w.heap.size
theorem LayS.grown {w : World} {s2 s3 : Nat} {A : Option Addr} {l : List Tk} {n c : Nat} {W W' : World} {row : Option Nat} (h : LayS w s2 s3 A l n c W) (hg : W.grownBy W' row) (hr : ∀ r, row = some r → r = s3 + 1 ∨ s3 + 5 ≤ r) : LayS w s2 s3 A l n c W' := by
  obtain ⟨b0, b1, b2, b3, b4, o1, o2, b5, b6, b7, b8, ho⟩ := h
  refine ⟨⟨hg.os.trans b0.os, hg.tape.trans b0.tape, hg.output.trans b0.output, Nat.le_trans b0.size hg.size, fun k hk => (hg.block k (Nat.lt_of_lt_of_le hk b0.size) ?_).trans (b0.block k hk)⟩, b1.grown hg ?_, b2.grown hg ?_, b3.grown hg ?_, b4.grown hg ?_, o1, o2, b5.grown hg ?_, b6.grown hg ?_, b7.grown hg ?_, b8.grown hg ?_, ho⟩
  case refine_4 => intro b hb e; have := ho b hb; have := hr _ e.symm; omega
  all_goals (intro e; have := hr _ e.symm; omega)

set_option maxRecDepth 100000 in
set_option maxHeartbeats 2000000 in
theorem SizesOf_out (A : Option Addr) (l : List Tk) (n c : Nat) (w : World) (hn : l.length = n) (hm : n ≤ 2097152) (hts : TS w A l) (hf : Fits l) :
    Calls Tryz.prog 52 #[.slice A n c] w (IntsOut w (szsB l)) := by
  have HN := Lib.hid hn
  clear hn
  have hB0 := BlkL.new w 29 [.slice A n c]
  have hz1 : (w.alloc (.cells #[.slice A n c] 29)).heap.size = w.heap.size + 1 := by simp
  cases hS : strB l
  · have hlv : CallsIn Fence.wide 2 Tryz.prog 97 #[.slice A n c] (w.alloc (.cells #[.slice A n c] 29)) fun e w2 => e = .returned (.slice none 0 0) ∧ Hid (Below w.heap.size w w2) := by
      refine (callsIn_wide.2 (LevelsOf_any A l n c (w.alloc (.cells #[.slice A n c] 29)) HN.out hm (hts.alloc _) hf)).mono ?_
      rintro e w2 ⟨hb2, ⟨hS2, _⟩ | ⟨_, rfl⟩⟩
      · rw [hS] at hS2; cases hS2
      · exact ⟨rfl, Lib.hid (((Below.refl _ w).alloc (Nat.le_refl _) _).trans (hb2.mono (by simp)))⟩
    have HLV := Lib.hid hlv
    have HS := Lib.hid hS
    clear hS hlv hB0
    refine (callsIn_wide (n := 3)).1 ?_
    refine callsIn_of_wp_marks Tryz.func52 rfl trivial ?_ rfl
    simp only [Tryz.ntmps52, List.size_toArray, List.length_cons, List.length_nil, Nat.reduceAdd, Nat.reduceSub, Array.replicate_succ, Array.replicate_zero, List.push_toArray, List.append_toArray, List.nil_append, List.cons_append]
    gi_wp2_with (refine ⟨trivial, ?_⟩; gi_at_call 97; refine HLV.out.mono ?_; rintro e w2 ⟨rfl, hb2⟩)
    refine ⟨_, results_tmp rfl _ _ _, ?_⟩
    rw [szsB_no HS.out]
    exact ⟨hb2.out, none, 0, rfl, fun b hb => (by simp at hb), fun _ => rfl, .inl ⟨rfl, rfl⟩⟩
  · have hlv : CallsIn Fence.wide 2 Tryz.prog 97 #[.slice A n c] (w.alloc (.cells #[.slice A n c] 29)) fun e w2 => e = .returned (.slice (some ⟨w.heap.size + 1, 0, none⟩) n n) ∧ w2.cell? ⟨w.heap.size, 0, none⟩ = some (.slice A n c) ∧
        Hid (Below w.heap.size w w2 ∧ BlkL w2 w.heap.size 29 [.slice A n c] ∧ BlkL w2 (w.heap.size + 1) 3 (nums (levs l) ++ [.int .i64 0]) ∧ TS w2 A l) := by
      refine (callsIn_wide.2 (LevelsOf_any A l n c (w.alloc (.cells #[.slice A n c] 29)) HN.out hm (hts.alloc _) hf)).mono ?_
      rintro e w2 ⟨hb2, ⟨_, rfl, hk⟩ | ⟨hS2, _⟩⟩
      · rw [hz1] at hk
        have hb := hB0.below hb2 hB0.lt
        exact ⟨by rw [hz1, HN.out], (hb.cell 0).trans rfl, Lib.hid ⟨((Below.refl _ w).alloc (Nat.le_refl _) _).trans (hb2.mono (by simp)), hb, hk, (hts.alloc _).below hb2⟩⟩
      · rw [hS] at hS2; cases hS2
    have h4 := (strB_true hS).1
    have h4' : n ≤ 400 := by have := HN.out; omega
    have HLV := Lib.hid hlv
    have HS := Lib.hid hS
    clear hS hlv hB0 h4
    refine (callsIn_wide (n := 3)).1 ?_
    refine callsIn_of_wp_marks Tryz.func52 rfl trivial ?_ rfl
    simp only [Tryz.ntmps52, List.size_toArray, List.length_cons, List.length_nil, Nat.reduceAdd, Nat.reduceSub, Array.replicate_succ, Array.replicate_zero, List.push_toArray, List.append_toArray, List.nil_append, List.cons_append]
    by_cases hn0 : n = 0
    · subst hn0
      gi_wp2_with (refine ⟨trivial, ?_⟩; gi_at_call 97; refine HLV.out.mono ?_; rintro e w2 ⟨rfl, q1, hb2⟩)
      refine ⟨_, results_tmp rfl _ _ _, ?_⟩
      have hl0 : l = [] := List.eq_nil_of_length_eq_zero HN.out
      subst hl0
      rw [szsB_yes HS.out]
      exact ⟨hb2.out.1, none, 0, rfl, fun b hb => (by simp at hb), fun _ => rfl, .inl ⟨rfl, rfl⟩⟩
    · have hn1 : 0 < n := by omega
      clear hn0
      gi_wp2_with (refine ⟨trivial, ?_⟩; gi_at_call 97; refine HLV.out.mono ?_; rintro e w2 ⟨rfl, q1, hb2⟩; clear HLV)
      have hsm : CallsIn Fence.wide 2 Tryz.prog 98 #[.slice A n c] w2 fun e w3 => e = .returned (.slice (some ⟨w2.heap.size, 0, none⟩) (n + 1) (n + 1)) ∧ (w3.alloc (.cells #[.slice (some ⟨w2.heap.size, 0, none⟩) (n + 1) (n + 1)] 57)).cell? ⟨w.heap.size, 0, none⟩ = some (.slice A n c) ∧
          (((w3.alloc (.cells #[.slice (some ⟨w2.heap.size, 0, none⟩) (n + 1) (n + 1)] 57)).alloc (.cells (nums (List.replicate n 0)).toArray 3)).alloc (.cells #[.slice (some ⟨w3.heap.size + 1, 0, none⟩) n n] 57)).cell? ⟨w.heap.size, 0, none⟩ = some (.slice A n c) ∧
          Hid (Below w.heap.size w w3 ∧ BlkL w3 w.heap.size 29 [.slice A n c] ∧ BlkL w3 (w.heap.size + 1) 3 (nums (levs l) ++ [.int .i64 0]) ∧ TS w3 A l ∧ BlkL w3 w2.heap.size 3 (nums (sms l)) ∧ w.heap.size + 1 < w2.heap.size ∧ w2.heap.size < w3.heap.size) := by
        obtain ⟨a1, a2, a3, a4⟩ := hb2.out
        refine (callsIn_wide.2 (sumsAhead_any A l n c w2 HN.out HS.out a4 hf)).mono ?_
        rintro e w3 ⟨rfl, hk, hb⟩
        have hb1 := a2.below hb a2.lt
        exact ⟨rfl, ((hb1.alloc _).cell 0).trans rfl, ((((hb1.alloc _).alloc _).alloc _).cell 0).trans rfl, Lib.hid ⟨a1.trans (hb.mono a1.size), hb1, a3.below hb a3.lt, a4.below hb, hk, a3.lt, hk.lt⟩⟩
      have HSM := Lib.hid hsm
      clear hsm
      have hmk := fun W => mkInts n (by omega) W
      gi_wp2_with (refine ⟨trivial, ?_⟩; gi_at_call 98; refine HSM.out.mono ?_; rintro e w3 ⟨rfl, q2, q3, hb3⟩; clear HSM)
      have hA0 : ∀ b, A.map (·.block) = some b → b < w.heap.size := by
        obtain ⟨t, b, o, _, rfl, hbl, _⟩ := hts.at (k := 0) (by have := HN.out; omega)
        intro b' hb'; simp at hb'; omega
      have hst : CallsIn Fence.wide 2 Tryz.prog 99 #[.slice A n c, .slice (some ⟨w.heap.size + 1, 0, none⟩) n n] (((w3.alloc (.cells #[.slice (some ⟨w2.heap.size, 0, none⟩) (n + 1) (n + 1)] 57)).alloc (.cells (nums (List.replicate n 0)).toArray 3)).alloc (.cells #[.slice (some ⟨w3.heap.size + 1, 0, none⟩) n n] 57)) fun e w7 =>
          e = .returned (.func (.func 131) #[] #[.pointer (some ⟨w3.heap.size + 3, 0, none⟩), .pointer (some ⟨w3.heap.size + 4, 0, none⟩)]) ∧
          Hid (w7.heap.size = w3.heap.size + 5 ∧ LayS w w2.heap.size w3.heap.size A l n c w7 ∧ BlkL w7 (w3.heap.size + 1) 3 (nums (List.replicate n 0))) := by
        obtain ⟨a1, a2, a3, a4, a5, a6, a7⟩ := hb3.out
        refine (callsIn_wide.2 (stops_any _ _ _ _ _ _ _)).mono ?_
        rintro e w7 ⟨rfl, rfl⟩
        have e1 := BlkL.new w3 57 [.slice (some ⟨w2.heap.size, 0, none⟩) (n + 1) (n + 1)]
        have e2 := BlkL.new (w3.alloc (.cells #[.slice (some ⟨w2.heap.size, 0, none⟩) (n + 1) (n + 1)] 57)) 3 (nums (List.replicate n 0))
        have e3 := BlkL.new ((w3.alloc (.cells #[.slice (some ⟨w2.heap.size, 0, none⟩) (n + 1) (n + 1)] 57)).alloc (.cells (nums (List.replicate n 0)).toArray 3)) 57 [.slice (some ⟨w3.heap.size + 1, 0, none⟩) n n]
        have e4 := BlkL.new (((w3.alloc (.cells #[.slice (some ⟨w2.heap.size, 0, none⟩) (n + 1) (n + 1)] 57)).alloc (.cells (nums (List.replicate n 0)).toArray 3)).alloc (.cells #[.slice (some ⟨w3.heap.size + 1, 0, none⟩) n n] 57)) 29 [.slice A n c]
        have e5 := BlkL.new ((((w3.alloc (.cells #[.slice (some ⟨w2.heap.size, 0, none⟩) (n + 1) (n + 1)] 57)).alloc (.cells (nums (List.replicate n 0)).toArray 3)).alloc (.cells #[.slice (some ⟨w3.heap.size + 1, 0, none⟩) n n] 57)).alloc (.cells #[.slice A n c] 29)) 57 [.slice (some ⟨w.heap.size + 1, 0, none⟩) n n]
        simp only [World.size_alloc] at e1 e2 e3 e4 e5
        refine ⟨by simp, Lib.hid ⟨by simp, ⟨?_, ((((a2.alloc _).alloc _).alloc _).alloc _).alloc _, ((((a3.alloc _).alloc _).alloc _).alloc _).alloc _, ((((a4.alloc _).alloc _).alloc _).alloc _).alloc _, ((((a5.alloc _).alloc _).alloc _).alloc _).alloc _, a6, a7, (((e1.alloc _).alloc _).alloc _).alloc _, (e3.alloc _).alloc _, e4.alloc _, e5, hA0⟩, ((e2.alloc _).alloc _).alloc _⟩⟩
        have hs := a1.size
        exact ((((a1.alloc hs _).alloc (by simp; omega) _).alloc (by simp; omega) _).alloc (by simp; omega) _).alloc (by simp; omega) _
      have HST := Lib.hid hst
      clear hst
      gi_wp2_with (refine ⟨trivial, ?_⟩; gi_at_call 99; refine HST.out.mono ?_; rintro e w7 ⟨rfl, hb7⟩; clear HST)
      obtain ⟨hz7, hL7, hB7⟩ := hb7.out
      have hseq := stops_seq 2 (w3.heap.size + 1) A (some ⟨w.heap.size + 1, 0, none⟩) l c n (w3.heap.size + 3) (w3.heap.size + 4) (by decide) HS.out hf w7 (by omega) (by rw [HN.out]; exact hL7.blst) (by rw [HN.out]; exact hL7.blev) (by omega) (by omega) hL7.toks
        (fun b hb => by have := hL7.old b hb; have := hL7.o1; have := hL7.o2; omega) (IntRow.is (.inr ⟨_, _, rfl, hL7.lev⟩)) (fun b hb => by simp at hb; have := hL7.o1; have := hL7.o2; omega)
      rw [HN.out] at hseq
      rw [show List.replicate n (0 : Int) = szF l (n - 0) from by rw [Nat.sub_zero, ← HN.out, szF_none]] at hB7
      have HSEQ := Lib.hid hseq
      have HL7 := Lib.hid hL7
      have HB7 := Lib.hid hB7
      clear hb7 hL7 hB7 hseq hb3 hb2 q1 q2 q3 hmk
      refine wpIn_range_w rfl (by decide) (gf := 131) (lb := #[.pointer (some ⟨w3.heap.size + 3, 0, none⟩), .pointer (some ⟨w3.heap.size + 4, 0, none⟩)]) rfl trivial (enters_of Tryz.func131 (by kernel_rfl) rfl) (G := w3.heap.size + 1) (N := n) (by omega) HSEQ.out (fun _ => rfl)
        (fun i W => LayS w w2.heap.size w3.heap.size A l n c W ∧ BlkL W (w3.heap.size + 1) 3 (nums (szF l (n - i))))
        (fun s X Y row hs hg hr => ⟨hs.1.grown hg (fun r e => .inr (by have := hr r e; omega)), hs.2.grown hg (fun e => by have := hr _ e.symm; omega)⟩)
        ⟨HL7.out, HB7.out⟩
        (fun x => { tmps := #[.slice A n c, .pointer (some ⟨w.heap.size, 0, none⟩), .slice none 0 0, .slice (some ⟨w.heap.size + 1, 0, none⟩) n n, .pointer (some ⟨w3.heap.size, 0, none⟩), .pointer (some ⟨w3.heap.size + 1 + 1, 0, none⟩), .int .i64 ((l.length - 1 - x : Nat) : Int), .int .i64 (nx l (levI l (l.length - 1 - x)) (l.length - 1 - x + 1) : Int), .slice A n c, .slice (some ⟨w.heap.size + 1, 0, none⟩) n n, .slice (some ⟨w.heap.size + 1, 0, none⟩) n n, .int .i64 n, .bool false, .slice A n c, .slice (some ⟨w2.heap.size, 0, none⟩) (n + 1) (n + 1), .slice A n c, .int .i64 n, .slice (some ⟨w3.heap.size + 1, 0, none⟩) n n, .slice A n c, .slice (some ⟨w.heap.size + 1, 0, none⟩) n n, .func (.func 131) #[] #[.pointer (some ⟨w3.heap.size + 3, 0, none⟩), .pointer (some ⟨w3.heap.size + 4, 0, none⟩)], .int .i64 ((l.length - 1 - x : Nat) : Int), .int .i64 (nx l (levI l (l.length - 1 - x)) (l.length - 1 - x + 1) : Int), undef, undef, undef, undef, undef, undef, undef, undef, undef, undef, undef, undef, undef, undef, undef, undef, undef, undef, undef, undef, undef, undef, undef, undef, undef, undef, undef, undef, undef, undef], defers := [] }) ?assign ?body ?done
      case assign =>
        intro ll x W K hK
        simp only [stE]
        gi_wp2
        exact hK
      case body =>
        rintro ll x W ⟨hL, hB⟩ hx
        obtain ⟨k, hk⟩ : ∃ k, k = l.length - 1 - x := ⟨_, rfl⟩
        rw [← hk]
        have hlen := HN.out
        have hkl : k < l.length := by omega
        have hnx : n - x = k + 1 := by omega
        have hnx1 : n - (x + 1) = k := by omega
        rw [hnx] at hB
        rw [hnx1]
        have hstb := nx_bd (levI l k) (show k + 1 ≤ l.length by omega)
        have SIZ := Lib.hid (fun t (ht : l[k]? = some t) (h12 : t.k = 2 ∨ t.k = 1) => sizI_min HS.out ht h12)
        generalize hst : nx l (levI l k) (k + 1) = st at *
        obtain ⟨hst1, hst2⟩ := hstb
        obtain ⟨t, b, o, ht, rfl, hbl, _⟩ := hL.toks.at (k := k) hkl
        have hs := hf k t ht
        obtain ⟨hbl3, c0, c1, c2, c3⟩ := hL.toks.get ht
        have hok := (strB_true HS.out).2.1
        have b1 := smN_bd hok (show k ≤ l.length by omega)
        have b2 := smN_bd hok hst2
        obtain ⟨b10, b11⟩ := b1
        obtain ⟨b20, b21⟩ := b2
        have v0 := (hL.lst.cell 0).trans rfl
        have v1 := (hL.bsum.cell 0).trans rfl
        have v2 := (hL.bsiz.cell 0).trans rfl
        have v3 := (hL.sums.cell k).trans (nums_at (sms_at l (show k ≤ l.length by omega)))
        have v4 := (hL.sums.cell st).trans (nums_at (sms_at l hst2))
        have v5 := (hB.cell k).trans (nums_at (szF_at hkl))
        have v6 := hB.frozen k
        have HL := Lib.hid hL
        have HB := Lib.hid hB
        have HT := Lib.hid ht
        have hkn : k < n := by omega
        have hsn : st ≤ n := by omega
        clear hL hB ht hk hnx hnx1 hok hst hlen hst2 hkl
        have i1 : (k : Int) < n := by omega
        have i2 : (st : Int) < (n : Int) + 1 := by omega
        have i3 : (k : Int) < (n : Int) + 1 := by omega
        have hd0 : ∀ p : Addr, W.drew.cell? p = W.cell? p := fun _ => rfl
        have fin : ∀ (w1 : World) (y : Int), Below W.heap.size W w1 → sizI l k t = y → W.grownBy (w1.setCell ⟨w3.heap.size + 1, k, none⟩ (.int .i64 y)) (some (w3.heap.size + 1)) ∧ LayS w w2.heap.size w3.heap.size (some ⟨b, o, none⟩) l n c (w1.setCell ⟨w3.heap.size + 1, k, none⟩ (.int .i64 y)) ∧ BlkL (w1.setCell ⟨w3.heap.size + 1, k, none⟩ (.int .i64 y)) (w3.heap.size + 1) 3 (nums (szF l k)) := by
          intro w1 y hb1 hy
          have g1 := grown_of_below hb1
          have g2 := grown_set w1 ⟨w3.heap.size + 1, k, none⟩ (.int .i64 y)
          have g3 : W.grownBy (w1.setCell ⟨w3.heap.size + 1, k, none⟩ (.int .i64 y)) (some (w3.heap.size + 1)) :=
            ⟨g2.os.trans g1.os, g2.tape.trans g1.tape, g2.output.trans g1.output, Nat.le_trans g1.size g2.size, fun q hq hne => (g2.block q (Nat.lt_of_lt_of_le hq g1.size) hne).trans (g1.block q hq (by simp))⟩
          refine ⟨g3, HL.out.grown g3 (fun r e => by injection e with e; exact .inl e.symm), ?_⟩
          have h1 := (HB.out.grown g1 (by simp)).set k (.int .i64 y)
          rw [nums_set, szF_set HT.out hy] at h1
          exact h1
        have xw : IntKind.i64.wrap (smN l st - smN l k) = smN l st - smN l k := IntWalk.i64_in _ (by omega)
        by_cases h2 : t.k = 2
        · gi_wp2
          have hmin : sizI l k t = if smN l st - smN l k < 1000000 then smN l st - smN l k else 1000000 := by
            rw [SIZ.out t HT.out (.inl h2)]; split <;> omega
          have HF := Lib.hid (fin W.drew _ (Below.refl _ W).drew hmin)
          clear fin hmin
          refine wpIn_region_dets (F := Fence.wide) (vs := [.slice (some ⟨w3.heap.size + 1, 0, none⟩) n n, .int .i64 k, .slice (some ⟨w2.heap.size, 0, none⟩) (n + 1) (n + 1), .int .i64 st, .pointer (some ⟨w2.heap.size, st, none⟩), .int .i64 (smN l st), .slice (some ⟨w2.heap.size, 0, none⟩) (n + 1) (n + 1), .int .i64 k, .pointer (some ⟨w2.heap.size, k, none⟩), .int .i64 (smN l k), .int .i64 (smN l st - smN l k), .int .i64 (if smN l st - smN l k < 1000000 then smN l st - smN l k else 1000000), .pointer (some ⟨w3.heap.size + 1, k, none⟩), undef])
            (fun w' => w' = W.drew) (fun w' => w' = W.drew.setCell ⟨w3.heap.size + 1, k, none⟩ (.int .i64 (if smN l st - smN l k < 1000000 then smN l st - smN l k else 1000000))) _ (fun _ => trivial) (by kernel_rfl) (by kernel_rfl) rfl rfl ?_ ?_
          · simp only [putAll, Act.put, List.setIfInBounds_toArray, List.set_cons_succ, List.set_cons_zero]
            simp only [GvL]
            refine ⟨?_, ?_, ?_, ?_, ?_, ?_, ?_, ?_, ?_, ?_, ?_, ?_, ?_, ?_⟩
            all_goals (rintro w' rfl)
            all_goals go_simp
            all_goals first | exact ⟨rfl, rfl⟩ | (rw [xw]; exact ⟨rfl, rfl⟩)
          · rintro w' rfl
            simp only [putAll, Act.put, List.setIfInBounds_toArray, List.set_cons_succ, List.set_cons_zero]
            generalize W.drew.setCell ⟨w3.heap.size + 1, k, none⟩ (.int .i64 (if smN l st - smN l k < 1000000 then smN l st - smN l k else 1000000)) = w9 at *
            gi_wp2
            exact HF.out
        · by_cases h1 : t.k = 1
          · have h2' : (t.k == 2) = false := by simp [h2]
            have HSZ := Lib.hid (SIZ.out t HT.out (.inr h1))
            clear h2
            gi_wp2
            have hmin : sizI l k t = if smN l st - smN l k < 1000000 then smN l st - smN l k else 1000000 := by
              rw [HSZ.out]; split <;> omega
            have HF := Lib.hid (fin W.drew _ (Below.refl _ W).drew hmin)
            clear fin hmin
            refine wpIn_region_dets (F := Fence.wide) (vs := [.slice (some ⟨w3.heap.size + 1, 0, none⟩) n n, .int .i64 k, .slice (some ⟨w2.heap.size, 0, none⟩) (n + 1) (n + 1), .int .i64 st, .pointer (some ⟨w2.heap.size, st, none⟩), .int .i64 (smN l st), .slice (some ⟨w2.heap.size, 0, none⟩) (n + 1) (n + 1), .int .i64 k, .pointer (some ⟨w2.heap.size, k, none⟩), .int .i64 (smN l k), .int .i64 (smN l st - smN l k), .int .i64 (if smN l st - smN l k < 1000000 then smN l st - smN l k else 1000000), .pointer (some ⟨w3.heap.size + 1, k, none⟩), undef])
              (fun w' => w' = W.drew) (fun w' => w' = W.drew.setCell ⟨w3.heap.size + 1, k, none⟩ (.int .i64 (if smN l st - smN l k < 1000000 then smN l st - smN l k else 1000000))) _ (fun _ => trivial) (by kernel_rfl) (by kernel_rfl) rfl rfl ?_ ?_
            · simp only [putAll, Act.put, List.setIfInBounds_toArray, List.set_cons_succ, List.set_cons_zero]
              simp only [GvL]
              refine ⟨?_, ?_, ?_, ?_, ?_, ?_, ?_, ?_, ?_, ?_, ?_, ?_, ?_, ?_⟩
              all_goals (rintro w' rfl)
              all_goals go_simp
              all_goals first | exact ⟨rfl, rfl⟩ | (rw [xw]; exact ⟨rfl, rfl⟩)
            · rintro w' rfl
              simp only [putAll, Act.put, List.setIfInBounds_toArray, List.set_cons_succ, List.set_cons_zero]
              generalize W.drew.setCell ⟨w3.heap.size + 1, k, none⟩ (.int .i64 (if smN l st - smN l k < 1000000 then smN l st - smN l k else 1000000)) = w9 at *
              gi_wp2
              exact HF.out
          · have h2' : (t.k == 2) = false := by simp [h2]
            have h1' : (t.k == 1) = false := by simp [h1]
            have hsz : sizI l k t = widB t.k t.s t.d t.o := by unfold sizI; rw [if_neg (by simp [h1, h2])]; rfl
            clear h2 h1
            have l1 := HL.out.lst.lt
            have l2 := HL.out.bsiz.lt
            have l3 := HB.out.lt
            have HFIN := Lib.hid (fun w1 hb1 => fin w1 _ hb1 hsz)
            clear fin hsz SIZ
            gi_wp2
            refine wpIn_region_dets (F := Fence.wide) (vs := [.slice (some ⟨w3.heap.size + 1, 0, none⟩) n n, .int .i64 k, .slice (some ⟨b, o, none⟩) n c, .int .i64 k, .pointer (some ⟨b, o + k * 4, none⟩), .agg #[.int .i64 t.k, .string t.s, .int .i64 t.d, .int .i64 t.o], .int .i64 (widB t.k t.s t.d t.o), .pointer (some ⟨w3.heap.size + 1, k, none⟩), undef])
              (fun w' => Below W.heap.size W w') (fun w' => ∃ w1, Below W.heap.size W w1 ∧ w' = w1.setCell ⟨w3.heap.size + 1, k, none⟩ (.int .i64 (widB t.k t.s t.d t.o))) _ (fun _ => trivial) (by kernel_rfl) (by kernel_rfl) rfl (Below.refl _ W).drew ?_ ?_
            · simp only [putAll, Act.put, List.setIfInBounds_toArray, List.set_cons_succ, List.set_cons_zero]
              simp only [GvL]
              have lay : ∀ w', Below W.heap.size W w' → (w'.cell? ⟨w.heap.size, 0, none⟩ = some (.slice (some ⟨b, o, none⟩) n c) ∧ w'.cell? ⟨w3.heap.size + 1 + 1, 0, none⟩ = some (.slice (some ⟨w3.heap.size + 1, 0, none⟩) n n) ∧
                  w'.cell? ⟨b, o + k * 4, none⟩ = some (.int .i64 t.k) ∧ w'.cell? ⟨b, o + k * 4 + 1, none⟩ = some (.string t.s) ∧ w'.cell? ⟨b, o + k * 4 + 2, none⟩ = some (.int .i64 t.d) ∧ w'.cell? ⟨b, o + k * 4 + 3, none⟩ = some (.int .i64 t.o) ∧
                  w'.cell? ⟨w3.heap.size + 1, k, none⟩ = some (.int .i64 0) ∧ w'.frozen? ⟨w3.heap.size + 1, k, none⟩ = false) := fun w' hw =>
                ⟨(hw.cell (p := ⟨_, _, none⟩) l1).trans v0, (hw.cell (p := ⟨_, _, none⟩) l2).trans v2, (hw.cell (p := ⟨_, _, none⟩) hbl3).trans c0, (hw.cell (p := ⟨_, _, none⟩) hbl3).trans c1, (hw.cell (p := ⟨_, _, none⟩) hbl3).trans c2, (hw.cell (p := ⟨_, _, none⟩) hbl3).trans c3, (hw.cell (p := ⟨_, _, none⟩) l3).trans v5, (HB.out.below hw l3).frozen k⟩
              refine ⟨?_, ?_, ?_, ?_, ?_, ?_, ?_, ?_, ?_⟩
              all_goals (intro w' hw; obtain ⟨p1, p2, p3, p4, p5, p6, p7, p8⟩ := lay w' hw)
              all_goals (have HW := Lib.hid hw; clear hw)
              all_goals go_simp
              all_goals first
                | exact ⟨rfl, HW.out⟩
                | exact ⟨rfl, w', HW.out, rfl⟩
                | (refine ⟨fun h => (by cases h), (callsIn_wide.2 (WidthOf_any _ _ _ _ _ hs)).mono ?_⟩; rintro e w5 ⟨rfl, hb5⟩; exact ⟨rfl, HW.out.trans (hb5.mono HW.out.size)⟩)
            · rintro w' ⟨w1, hb1, rfl⟩
              simp only [putAll, Act.put, List.setIfInBounds_toArray, List.set_cons_succ, List.set_cons_zero]
              have HF := Lib.hid (HFIN.out w1 hb1)
              generalize w1.setCell ⟨w3.heap.size + 1, k, none⟩ (.int .i64 (widB t.k t.s t.d t.o)) = w9 at *
              gi_wp2
              exact HF.out
      case done =>
        rintro D W hD ⟨hL, hB⟩ hK
        rw [Nat.sub_self, szF_all] at hB
        have q := (hL.bsiz.cell 0).trans rfl
        have HL := Lib.hid hL
        have HB := Lib.hid hB
        clear hL hB
        gi_wp2
        refine ⟨by simp, .inl ⟨_, _, rfl, run_takeDeferred hK, ?_⟩⟩
        refine ⟨_, results_tmp rfl _ _ _, ?_⟩
        rw [szsB_yes HS.out]
        have hg := grownBy_putObj' W D (.deferred none)
        have hs3 := HL.out.o2
        have hs2 := HL.out.o1
        refine ⟨HL.out.below.trans (belowK_b (w := w) (Nat.le_refl _) W D _ _ (by omega) hK rfl rfl), some ⟨w3.heap.size + 1, 0, none⟩, n, ?_, (fun b hb => by simp at hb; omega), (fun h => by cases h), .inr ⟨_, [], rfl, ?_⟩⟩
        · rw [szs_length, HN.out]; rfl
        · rw [List.append_nil]
          exact HB.out.grown hg (fun e => by injection e with e; omega)
end Go.Proofs.YthjkgbcomjiejadGreatDoor
