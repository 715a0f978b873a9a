/-
  Plain mathematics: lexemes stand where they say, and what is told plainly of them is lexed into them again. It names no function of the program.
-/
import Derived.Test.YthjkgbcomjiejaaDoorLl36
import Derived.Test.YthjkgbcomjiejaaDoorLl38
namespace Go.Proofs.YthjkgbcomjiejaaDoor
open Go.RowKit
set_option linter.unusedVariables false

/-- what is a lexeme is one with more behind it, where the next byte ends it. -/
theorem lexO_next {b c : Nat → Nat} {n m z : Nat} (hn : 0 < n) (h : lexO b n = (none, z)) (hz : 0 < z) (hm : z < m) (hc : ∀ i, i < z → c i = b i) (hs0 : kdI (b 0) = 0 → stB (c z) = true) (hs2 : kdI (b 0) = 2 → c z = 10) : lexO c m = (none, z) := by
  have h00 : c 0 = b 0 := hc 0 hz
  by_cases h0 : kdI (b 0) = 0
  · rw [lexO_0 h0] at h
    split at h
    · cases h
    · injection h with _ e
      rw [lexO_0 (by rw [h00]; exact h0)]
      have hst := hs0 h0
      have hf : fst (evA c) m = z := by
        refine fst_at hm (by unfold evA; rw [hst]; rfl) fun k hk => ?_
        have := fst_before (p := evA b) (n := n) (k := k) (by omega)
        unfold evA at this ⊢
        rw [hc k hk]; exact this
      rw [hf, if_neg (by rw [hst]; simp)]
  · by_cases h1 : kdI (b 0) = 1
    · rw [lexO_1 h1] at h
      split at h
      · rename_i hlt
        split at h
        · rename_i hcl
          injection h with _ e
          have hcc : ∀ i, i < z → b i = c i := fun i hi => (hc i hi).symm
          have hf : fst (evS c) m = fst (evS b) n := by
            refine fst_at (by omega) ?_ fun k hk => ?_
            · rw [← (evS_congr hcc (fst (evS b) n) (by omega)).1]; exact fst_yes hlt
            · rw [← (evS_congr hcc k (by omega)).1]; exact fst_before hk
          rw [lexO_1 (by rw [h00]; exact h1), hf, if_pos (by omega), if_pos (by rw [← (evS_congr hcc (fst (evS b) n) (by omega)).2]; exact hcl), e]
        · cases h
      · cases h
    · by_cases h2 : kdI (b 0) = 2
      · rw [lexO_2 h2] at h
        split at h
        · cases h
        · rename_i hj
          injection h with _ e
          have hzL : z ≤ lnN b n := by rw [← e]; exact trm_le _ _
          have hl : lnN c m = z := by
            refine fst_at hm (by simp [hs2 h2]) fun k hk => ?_
            have := fst_before (p := fun i => decide (b i = 10)) (n := n) (k := k) (by show k < lnN b n; omega)
            simpa [hc k hk] using this
          have ht : trm c z = z := by
            obtain ⟨y, hy⟩ : ∃ y, z = y + 1 := ⟨z - 1, by omega⟩
            have hw := trm_last b (lnN b n) (by omega)
            rw [e] at hw
            subst hy
            simp only [trm]
            rw [hc y (by omega), if_neg (by rw [show y + 1 - 1 = y by omega] at hw; rw [hw]; simp)]
          rw [lexO_2 (by rw [h00]; exact h2), hl, ht, if_neg ?_]
          have hfb : ∀ k, k < z → bdB (c k) = false := by
            intro k hk
            have := fst_before (p := fun i => bdB (b i)) (n := lnN b n) (k := k) (by omega)
            rw [hc k hk]; exact this
          rw [fst_none (p := fun i => bdB (c i)) hfb]
          omega
      · rw [lexO_3 h0 h1 h2] at h
        injection h with _ e
        rw [lexO_3 (by rw [h00]; exact h0) (by rw [h00]; exact h1) (by rw [h00]; exact h2), e]
/-- a lexeme that is one by itself, and stands where it says. -/
structure LxSt (s : ByteArray) (x : Lx) : Prop where
  own : lexO (fun i => bt x.s i) x.s.size = (none, x.s.size)
  wt : wtB (bt x.s 0) = false
  place : ∃ a : Nat, x.a = a ∧ a + x.s.size ≤ s.size ∧ x.s = s.extract a (a + x.s.size)
theorem lxAt_st {s : ByteArray} {a cnt : Nat} (ha : a < s.size) (hw : wtB (bt s a) = false) (hr : rdO s a cnt = none) : LxSt s (lxAt s a) ∧ (lxAt s a).s.size = rdZ s a := by
  have hz := rdZ_pos ha hw hr
  have hL : lexO (fun i => bt s (a + i)) (s.size - a) = (none, rdZ s a) := by
    cases hO : lexO (fun i => bt s (a + i)) (s.size - a) with
    | mk o y =>
      cases o with
      | some j => rw [rd_bad hO] at hr; cases hr
      | none => rw [(rd_fine (cnt := cnt) hO).2]
  have hle := lexO_le (by omega) hL
  have hsz : (s.extract a (a + rdZ s a)).size = rdZ s a := by simp [ByteArray.size_extract]; omega
  have hbt : ∀ i, i < rdZ s a → bt (s.extract a (a + rdZ s a)) i = bt s (a + i) := fun i hi => bt_extract s a (a + rdZ s a) i (by omega) (by omega)
  refine ⟨⟨?_, ?_, a, rfl, ?_, ?_⟩, hsz⟩
  · show lexO (fun i => bt (s.extract a (a + rdZ s a)) i) (s.extract a (a + rdZ s a)).size = (none, (s.extract a (a + rdZ s a)).size)
    rw [hsz]
    exact lexO_own (by omega) hL (by omega) hbt
  · show wtB (bt (s.extract a (a + rdZ s a)) 0) = false
    rw [hbt 0 (by omega)]
    exact hw
  · show a + (s.extract a (a + rdZ s a)).size ≤ s.size
    omega
  · show s.extract a (a + rdZ s a) = s.extract a (a + (s.extract a (a + rdZ s a)).size)
    rw [hsz]
theorem lxG_st {s : ByteArray} (f : Nat) : ∀ (a : Nat) (out : List Lx), (∀ y : Lx, y ∈ out → LxSt s y ∧ y.a + (y.s.size : Int) ≤ (a : Int)) → out.Pairwise (fun (x y : Lx) => x.a + (x.s.size : Int) ≤ y.a) →
    (∀ y ∈ (lxG s f a out).1, LxSt s y) ∧ (lxG s f a out).1.Pairwise (fun (x y : Lx) => x.a + (x.s.size : Int) ≤ y.a) := by
  induction f with
  | zero => intro a out h1 h2; exact ⟨fun y hy => (h1 y hy).1, h2⟩
  | succ f ih =>
    intro a out h1 h2
    simp only [lxG]
    split
    · exact ⟨fun y hy => (h1 y hy).1, h2⟩
    · split
      · exact ih (a + 1) out (fun y hy => ⟨(h1 y hy).1, by have := (h1 y hy).2; omega⟩) h2
      · rename_i ha hw
        cases hr : rdO s a out.length with
        | some p => simp
        | none =>
          have hz := rdZ_pos (by omega) (by simpa using hw) hr
          obtain ⟨hg, hsz⟩ := lxAt_st (by omega) (by simpa using hw) hr
          refine ih _ _ (fun y hy => ?_) ?_
          · rcases List.mem_append.1 hy with h | h
            · exact ⟨(h1 y h).1, by have := (h1 y h).2; omega⟩
            · simp only [List.mem_singleton] at h
              subst h
              refine ⟨hg, ?_⟩
              rw [hsz]
              show ((a : Nat) : Int) + _ ≤ _
              omega
          · rw [List.pairwise_append]
            refine ⟨h2, by simp, fun x hx y hy => ?_⟩
            simp only [List.mem_singleton] at hy
            subst hy
            exact (h1 x hx).2
theorem lxA_st (s : ByteArray) : (∀ y ∈ (lxA s).1, LxSt s y) ∧ (lxA s).1.Pairwise (fun (x y : Lx) => x.a + (x.s.size : Int) ≤ y.a) := by
  unfold lxA
  split
  · simp
  · exact lxG_st _ _ _ (by simp) (by simp)
/-- where lexeme i stands in what is told plainly. -/
def plQ (l : List Lx) (i : Nat) (x : Lx) : Nat := (pxN l i).length + (gapL l i x.k).length
/-- the first i lexemes, where they stand there. -/
def mvN (l : List Lx) : Nat → List Lx
  | 0 => []
  | i + 1 => match l[i]? with | some x => mvN l i ++ [⟨x.k, x.s, (plQ l i x : Nat)⟩] | none => mvN l i
theorem mvN_succ {l : List Lx} {i : Nat} {x : Lx} (h : l[i]? = some x) : mvN l (i + 1) = mvN l i ++ [⟨x.k, x.s, (plQ l i x : Nat)⟩] := by simp only [mvN, h]
theorem mvN_len (l : List Lx) : ∀ i, i ≤ l.length → (mvN l i).length = i
  | 0, _ => rfl
  | i + 1, h => by rw [mvN_succ (List.getElem?_eq_getElem (show i < l.length by omega)), List.length_append, mvN_len l i (by omega)]; rfl
theorem mvN_map (l : List Lx) : ∀ i, i ≤ l.length → (mvN l i).map (fun x => (x.k, x.s)) = (l.take i).map (fun x => (x.k, x.s))
  | 0, _ => by simp [mvN]
  | i + 1, h => by
    have hx := List.getElem?_eq_getElem (show i < l.length by omega)
    rw [mvN_succ hx, List.map_append, mvN_map l i (by omega), List.take_add_one, hx, List.map_append]
    rfl
theorem pxN_pre (l : List Lx) (i : Nat) : ∀ j, i ≤ j → j ≤ l.length → ∃ r, pxN l j = pxN l i ++ r := by
  intro j
  induction j with
  | zero => intro h _; obtain rfl : i = 0 := by omega
            exact ⟨[], by simp⟩
  | succ j ih =>
    intro h hj
    by_cases e : i = j + 1
    · subst e; exact ⟨[], by simp⟩
    · obtain ⟨r, hr⟩ := ih (by omega) (by omega)
      rw [pxN_succ (List.getElem?_eq_getElem (show j < l.length by omega)), hr]
      exact ⟨_, by rw [List.append_assoc, List.append_assoc]⟩
theorem bt_list (p : ByteArray) (i : Nat) (c : UInt8) (h : p.data.toList[i]? = some c) : i < p.size ∧ bt p i = c.toNat := by
  have h1 : p.data.toList.length = p.size := (Lib.size_eq p).symm
  have h2 : i < p.data.toList.length := (List.getElem?_eq_some_iff.1 h).1
  refine ⟨by omega, ?_⟩
  rw [bt_at (by omega)]
  have h3 := (List.getElem?_eq_some_iff.1 h).2
  rw [← h3]
  rfl
theorem bt_get {s : ByteArray} {i : Nat} (h : i < s.size) : ∃ c : UInt8, s.data.toList[i]? = some c ∧ bt s i = c.toNat := by
  have h1 : s.data.toList.length = s.size := (Lib.size_eq s).symm
  have h2 : s.data.toList[i]? = some (s.data.toList[i]'(by omega)) := List.getElem?_eq_getElem (by omega)
  exact ⟨_, h2, (bt_list s i _ h2).2⟩
theorem sepL_wt {a b : Int} {c : UInt8} (h : sepL a b = [c]) : wtB (c.toNat : Int) = true ∧ (a = 2 → c.toNat = 10) := by
  unfold sepL at h
  by_cases h2 : a = 2
  · rw [if_pos h2] at h
    injection h with h _
    subst h
    exact ⟨rfl, fun _ => rfl⟩
  · rw [if_neg h2] at h
    split at h
    · cases h
    · injection h with h _
      subst h
      exact ⟨rfl, fun e => absurd e h2⟩
theorem sepL_nil {a b : Int} (h : sepL a b = []) : a ≠ 2 ∧ (a = 3 ∨ a = 5 ∨ b = 4) := by
  unfold sepL at h
  split at h
  · cases h
  · split at h
    · exact ⟨by assumption, by assumption⟩
    · cases h
/-- what is told plainly, lexed up to lexeme i. -/
theorem relex {s : ByteArray} (l : List Lx) (hg : ∀ y ∈ l, LxGd y) (hs : ∀ y ∈ l, LxSt s y) (h200 : l.length ≤ 200) : ∀ i, i ≤ l.length → LG (pxB l) 0 [] = LG (pxB l) (pxN l i).length (mvN l i) := by
  intro i
  induction i with
  | zero => intro _; rfl
  | succ i ih =>
    intro hi
    have hx := List.getElem?_eq_getElem (show i < l.length by omega)
    generalize l[i] = x at hx
    have hxm := List.mem_of_getElem? hx
    have hxg := hg x hxm
    have hxs := hs x hxm
    have hpos := hxg.pos
    have hsmall := hxg.small
    have hkind := hxg.kind
    obtain ⟨r, hr⟩ := pxN_pre l (i + 1) l.length hi (Nat.le_refl _)
    have hp : (pxB l).data.toList = pxN l (i + 1) ++ r := by
      show (pxN l l.length).toArray.toList = _
      rw [List.toList_toArray, hr]
    have hs1 : x.s.data.toList.length = x.s.size := (Lib.size_eq x.s).symm
    have hpsz : (pxB l).size = (pxN l (i + 1)).length + r.length := by
      rw [Lib.size_eq, hp, List.length_append]
    have hl1 : (pxN l (i + 1)).length = (pxN l i).length + (gapL l i x.k).length + x.s.size := by
      rw [pxN_succ hx, List.length_append, List.length_append, hs1]
    rw [ih (by omega)]
    -- the gap
    have hgap : LG (pxB l) (pxN l i).length (mvN l i) = LG (pxB l) (plQ l i x) (mvN l i) := by
      unfold plQ
      have hle := gapL_le l i x.k
      cases hgl : gapL l i x.k with
      | nil => rw [List.length_nil, Nat.add_zero]
      | cons c t =>
        rw [hgl] at hle
        obtain rfl : t = [] := by cases t with
          | nil => rfl
          | cons _ _ => simp at hle
        have hw : wtB (c.toNat : Int) = true := by
          unfold gapL at hgl
          split at hgl
          · cases hgl
          · exact (sepL_wt hgl).1
        have hat : (pxB l).data.toList[(pxN l i).length]? = some c := by
          rw [hp, pxN_succ hx, hgl, List.append_assoc, List.append_assoc, List.getElem?_append_right (Nat.le_refl _), Nat.sub_self]
          rfl
        obtain ⟨h1, h2⟩ := bt_list _ _ _ hat
        rw [LG_white h1 (by rw [h2]; exact hw)]
        rfl
    rw [hgap]
    have hQ : plQ l i x + x.s.size = (pxN l (i + 1)).length := by unfold plQ; omega
    have hbt : ∀ j, j < x.s.size → bt (pxB l) (plQ l i x + j) = bt x.s j := by
      intro j hj
      obtain ⟨c, h1, h2⟩ := bt_get hj
      rw [h2]
      refine (bt_list _ _ _ ?_).2
      rw [hp, pxN_succ hx]
      rw [List.getElem?_append_left (by unfold plQ; rw [List.length_append, List.length_append]; omega)]
      rw [List.getElem?_append_right (by unfold plQ; rw [List.length_append]; omega)]
      rw [List.length_append, show plQ l i x + j - ((pxN l i).length + (gapL l i x.k).length) = j by unfold plQ; omega]
      exact h1
    have hkd : kdI ((fun i => bt x.s i) 0 : Nat) = x.k := hkind.symm
    have hO : lexO (fun j => bt (pxB l) (plQ l i x + j)) ((pxB l).size - plQ l i x) = (none, x.s.size) := by
      by_cases hlast : r.length = 0
      · rw [show (pxB l).size - plQ l i x = x.s.size by omega]
        exact lexO_own (by omega) hxs.own (by omega) hbt
      · -- there is another lexeme
        have hi1 : i + 1 < l.length := by
          rcases Nat.lt_or_ge (i + 1) l.length with h | h
          · exact h
          · exfalso
            have e : l.length = i + 1 := by omega
            have h9 := congrArg List.length hr
            rw [List.length_append, e] at h9
            omega
        have hy := List.getElem?_eq_getElem hi1
        generalize l[i + 1] = y at hy
        have hyg := hg y (List.mem_of_getElem? hy)
        obtain ⟨r2, hr2⟩ := pxN_pre l (i + 2) l.length hi1 (Nat.le_refl _)
        have hp2 : (pxB l).data.toList = pxN l (i + 1) ++ (gapL l (i + 1) y.k ++ (y.s.data.toList ++ r2)) := by
          show (pxN l l.length).toArray.toList = _
          rw [List.toList_toArray, hr2, pxN_succ hy]
          simp
        have hgy : gapL l (i + 1) y.k = sepL x.k y.k := by
          unfold gapL
          rw [if_neg (by omega), Nat.add_sub_cancel, hx]
          rfl
        have hnext : ∃ c : Nat, bt (pxB l) (plQ l i x + x.s.size) = c ∧ (x.k = 0 → stB (c : Int) = true) ∧ (x.k = 2 → c = 10) := by
          rw [hQ]
          cases hsep : sepL x.k y.k with
          | cons c t =>
            have hle := sepL_le x.k y.k
            rw [hsep] at hle
            obtain rfl : t = [] := by cases t with
              | nil => rfl
              | cons _ _ => simp at hle
            obtain ⟨h1, h2⟩ := sepL_wt hsep
            refine ⟨c.toNat, (bt_list _ _ _ ?_).2, fun _ => wt_st h1, h2⟩
            rw [hp2, hgy, hsep, List.getElem?_append_right (Nat.le_refl _), Nat.sub_self]
            rfl
          | nil =>
            obtain ⟨h1, h2⟩ := sepL_nil hsep
            have hyp := hyg.pos
            obtain ⟨c, h3, h4⟩ := bt_get (show 0 < y.s.size by omega)
            have hyk : y.k = kdI (c.toNat : Int) := by rw [hyg.kind, h4]
            refine ⟨c.toNat, (bt_list _ _ _ ?_).2, fun e => ?_, fun e => absurd e h1⟩
            · rw [hp2, hgy, hsep, List.nil_append, List.getElem?_append_right (Nat.le_refl _), Nat.sub_self, List.getElem?_append_left (by have h5 : y.s.data.toList.length = y.s.size := (Lib.size_eq y.s).symm; omega)]
              exact h3
            · have h4 : y.k = 4 := by omega
              unfold stB
              rw [if_neg (by omega)]
        obtain ⟨c, hc, hc0, hc2⟩ := hnext
        refine lexO_next (by omega) hxs.own (by omega) (by omega) hbt (fun e => ?_) (fun e => ?_)
        · show stB ((bt (pxB l) (plQ l i x + x.s.size) : Nat) : Int) = true
          rw [hc]
          exact hc0 (by rw [← hkd]; exact e)
        · show bt (pxB l) (plQ l i x + x.s.size) = 10
          rw [hc]
          exact hc2 (by rw [← hkd]; exact e)
    obtain ⟨e1, e2⟩ := rd_fine (cnt := (mvN l i).length) hO
    rw [mvN_len l i (by omega), if_neg (by omega)] at e1
    have h0 : bt (pxB l) (plQ l i x) = bt x.s 0 := hbt 0 (by omega)
    rw [LG_ok (by omega) (by rw [h0]; exact hxs.wt) (by rw [mvN_len l i (by omega)]; exact e1), e2, hQ, mvN_succ hx]
    congr 1
    congr 1
    congr 1
    unfold lxAt
    rw [e2, h0, ← hkind]
    congr 1
    apply ByteArray.ext
    apply Array.ext'
    rw [Lib.extract_data, hp, pxN_succ hx]
    rw [show plQ l i x + x.s.size - plQ l i x = x.s.size by omega]
    rw [show pxN l i ++ gapL l i x.k ++ x.s.data.toList ++ r = (pxN l i ++ gapL l i x.k) ++ (x.s.data.toList ++ r) by simp]
    rw [show plQ l i x = (pxN l i ++ gapL l i x.k).length by unfold plQ; rw [List.length_append], List.drop_left, ← hs1, List.take_left]
theorem relex_all {s : ByteArray} {l : List Lx} (hg : ∀ y ∈ l, LxGd y) (hs : ∀ y ∈ l, LxSt s y) (h200 : l.length ≤ 200) (hp : (pxB l).size ≤ 2000) : lxA (pxB l) = (mvN l l.length, -1) := by
  unfold lxA
  rw [if_neg (by omega), relex l hg hs h200 l.length (Nat.le_refl _), LG_end]
  have : (pxB l).size = (pxN l l.length).toArray.size := rfl
  rw [this]
  simp
end Go.Proofs.YthjkgbcomjiejaaDoor
