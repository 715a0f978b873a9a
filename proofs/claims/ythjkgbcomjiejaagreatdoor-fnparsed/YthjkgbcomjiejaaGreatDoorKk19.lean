/-
  All lexemes of a text, and readLexemes of the program.
-/
import Derived.Test.YthjkgbcomjiejaaGreatDoorKk18
import Derived.Maps.AppendAt
import Derived.Lib.OthersKept
namespace Go.Proofs.YthjkgbcomjiejaaGreatDoor
open Go.RowKit
set_option linter.unusedVariables false

theorem rdZ_pos {s : ByteArray} {a cnt : Nat} (ha : a < s.size) (hw : wtB (bt s a) = false) (hO : rdO s a cnt = none) : 1 ≤ rdZ s a := by
  have hp : plO (fun i => bt s (a + i)) (s.size - a) = none := by
    unfold rdO at hO
    split at hO
    · cases hO
    · simpa using hO
  unfold plO at hp
  unfold rdZ szO
  cases hL : lexO (fun i => bt s (a + i)) (s.size - a) with
  | mk o z =>
    rw [hL] at hp
    cases o with
    | some j => simp at hp
    | none =>
      show 1 ≤ z
      have hn : 0 < s.size - a := by omega
      have hw0 : wtB ((fun i => bt s (a + i)) 0) = false := hw
      generalize (fun i => bt s (a + i)) = b at *
      generalize s.size - a = n at *
      by_cases h0 : kdI (b 0) = 0
      · rw [lexO_0 h0] at hL
        split at hL
        · cases hL
        · rename_i hc
          have e : z = fst (evA b) n := by injection hL with _ e; exact e.symm
          rcases Nat.eq_zero_or_pos z with hz | hz
          · exfalso
            have hz0 : fst (evA b) n = 0 := by omega
            rw [hz0] at hc
            have hs : stB (b 0) = false := by unfold stB; rw [if_pos (.inl h0)]; exact hw0
            exact hc ⟨hn, hs⟩
          · exact hz
      · by_cases h1 : kdI (b 0) = 1
        · rw [lexO_1 h1] at hL
          split at hL
          · split at hL
            · injection hL with _ e; omega
            · cases hL
          · cases hL
        · by_cases h2 : kdI (b 0) = 2
          · rw [lexO_2 h2] at hL
            split at hL
            · cases hL
            · injection hL with _ e
              rw [← e]
              refine trm_pos b ?_ hw0
              rcases Nat.eq_zero_or_pos (lnN b n) with hz | hz
              · exfalso
                have : b 0 = 10 := by
                  have hy := fst_yes (p := fun i => decide (b i = 10)) (n := n) (by have : lnN b n = fst (fun i => decide (b i = 10)) n := rfl; omega)
                  have e0 : fst (fun i => decide (b i = 10)) n = 0 := hz
                  rw [e0] at hy
                  simpa using hy
                rw [this] at h2
                revert h2
                decide
              · exact hz
          · rw [lexO_3 h0 h1 h2] at hL
            injection hL with _ e
            omega
/-- the lexeme at place a. -/
def lxAt (s : ByteArray) (a : Nat) : Lx := ⟨kdI (bt s a), s.extract a (a + rdZ s a), a⟩
def lxG (s : ByteArray) : Nat → Nat → List Lx → List Lx × Int
  | 0, _, out => (out, -1)
  | f + 1, a, out => if s.size ≤ a then (out, -1) else if wtB (bt s a) = true then lxG s f (a + 1) out else match rdO s a out.length with
    | some p => ([], (p : Int))
    | none => lxG s f (a + rdZ s a) (out ++ [lxAt s a])
theorem lxG_end (s : ByteArray) (f a : Nat) (out : List Lx) (h : s.size ≤ a) : lxG s f a out = (out, -1) := by
  cases f with
  | zero => rfl
  | succ f => simp only [lxG]; rw [if_pos h]
theorem lxG_fuel (s : ByteArray) (f : Nat) : ∀ (a : Nat) (out : List Lx), s.size - a ≤ f → lxG s f a out = lxG s (s.size - a) a out := by
  induction f using Nat.strongRecOn with
  | _ f ih =>
    intro a out hf
    by_cases ha : s.size ≤ a
    · rw [lxG_end s f a out ha, lxG_end s _ a out ha]
    · obtain ⟨g, rfl⟩ : ∃ g, f = g + 1 := ⟨f - 1, by omega⟩
      obtain ⟨n, hn⟩ : ∃ n, s.size - a = n + 1 := ⟨s.size - a - 1, by omega⟩
      rw [hn]
      simp only [lxG]
      rw [if_neg ha, if_neg ha]
      split
      · rw [ih g (by omega) (a + 1) out (by omega)]
        by_cases hgn : n = g
        · subst hgn; rw [ih n (by omega) (a + 1) out (by omega)]
        · rw [ih n (by omega) (a + 1) out (by omega)]
      · rename_i hw
        cases hr : rdO s a out.length with
        | some p => rfl
        | none =>
          have hz := rdZ_pos (by omega) (by simpa using hw) hr
          simp only
          rw [ih g (by omega) _ _ (by omega), ih n (by omega) _ _ (by omega)]
def LG (s : ByteArray) (a : Nat) (out : List Lx) : List Lx × Int := lxG s (s.size - a) a out
theorem LG_end {s : ByteArray} {a : Nat} {out : List Lx} (h : s.size ≤ a) : LG s a out = (out, -1) := lxG_end _ _ _ _ h
theorem LG_white {s : ByteArray} {a : Nat} {out : List Lx} (h : a < s.size) (hw : wtB (bt s a) = true) : LG s a out = LG s (a + 1) out := by
  obtain ⟨n, hn⟩ : ∃ n, s.size - a = n + 1 := ⟨s.size - a - 1, by omega⟩
  unfold LG
  rw [hn]
  simp only [lxG]
  rw [if_neg (by omega), if_pos hw, lxG_fuel s n (a + 1) out (by omega)]
theorem LG_bad {s : ByteArray} {a p : Nat} {out : List Lx} (h : a < s.size) (hw : wtB (bt s a) = false) (hr : rdO s a out.length = some p) : LG s a out = ([], (p : Int)) := by
  obtain ⟨n, hn⟩ : ∃ n, s.size - a = n + 1 := ⟨s.size - a - 1, by omega⟩
  unfold LG
  rw [hn]
  simp only [lxG]
  rw [if_neg (by omega), if_neg (by rw [hw]; simp), hr]
theorem LG_ok {s : ByteArray} {a : Nat} {out : List Lx} (h : a < s.size) (hw : wtB (bt s a) = false) (hr : rdO s a out.length = none) : LG s a out = LG s (a + rdZ s a) (out ++ [lxAt s a]) := by
  obtain ⟨n, hn⟩ : ∃ n, s.size - a = n + 1 := ⟨s.size - a - 1, by omega⟩
  have hz := rdZ_pos h hw hr
  unfold LG
  rw [hn]
  simp only [lxG]
  rw [if_neg (by omega), if_neg (by rw [hw]; simp), hr]
  simp only
  rw [lxG_fuel s n _ _ (by omega)]
/-- what LexText tells. -/
def lxA (s : ByteArray) : List Lx × Int := if 2000 < s.size then ([], 0) else LG s 0 []
theorem lexO_good {b : Nat → Nat} {n z : Nat} (hL : lexO b n = (none, z)) : ∀ i, i < z → bdB (b i) = false := by
  intro i hi
  by_cases h0 : kdI (b 0) = 0
  · rw [lexO_0 h0] at hL
    split at hL
    · cases hL
    · injection hL with _ e
      have := fst_before (p := evA b) (n := n) (k := i) (by omega)
      rw [evA] at this
      simp only [Bool.or_eq_false_iff] at this
      exact this.2
  · by_cases h1 : kdI (b 0) = 1
    · rw [lexO_1 h1] at hL
      split at hL
      · split at hL
        · rename_i hcl
          injection hL with _ e
          by_cases hie : i = fst (evS b) n
          · subst hie
            unfold clB at hcl
            simp at hcl
            simp [bdB, hcl.2]
          · have := fst_before (p := evS b) (n := n) (k := i) (by omega)
            rw [evS] at this
            simp only [Bool.or_eq_false_iff] at this
            exact this.1
        · cases hL
      · cases hL
    · by_cases h2 : kdI (b 0) = 2
      · rw [lexO_2 h2] at hL
        split at hL
        · cases hL
        · injection hL with _ e
          exact fst_before (p := fun i => bdB (b i)) (n := lnN b n) (k := i) (by omega)
      · rw [lexO_3 h0 h1 h2] at hL
        injection hL with _ e
        obtain rfl : i = 0 := by omega
        have := kd_cases (b 0)
        simp [bdB]
        omega
theorem rd_low {s : ByteArray} {a cnt : Nat} (hO : rdO s a cnt = none) : ∀ i, i < rdZ s a → bt s (a + i) < 128 := by
  have hp : plO (fun i => bt s (a + i)) (s.size - a) = none := by
    unfold rdO at hO
    split at hO
    · cases hO
    · simpa using hO
  intro i hi
  unfold plO at hp
  unfold rdZ szO at hi
  cases hL : lexO (fun i => bt s (a + i)) (s.size - a) with
  | mk o z =>
    rw [hL] at hp hi
    cases o with
    | some j => simp at hp
    | none =>
      have := lexO_good hL i hi
      simp [bdB] at this
      omega
def RlP (s : ByteArray) (w : World) (e : Ending) (w' : World) : Prop :=
  ((∃ out v, LG s 0 [] = (out, -1) ∧ out.length ≤ 200 ∧ e = .returned (.tuple #[v, .nilIface]) ∧ w'.ownsRow w.heap.size 51 3 v out.length (fl fx out)) ∨
   (∃ p : Nat, LG s 0 [] = ([], (p : Int)) ∧ e = .returned (.tuple #[.slice none 0 0, .iface 113 (.agg #[.int .i64 p])]))) ∧ Below w.heap.size w w'
theorem own_below {w w' : World} {B z n : Nat} {e : TypeId} {v : Value} {xs : List Value} (h : w.ownsRow B e z v n xs) (hb : Below w.heap.size w w') : w'.ownsRow B e z v n xs := by
  rcases h.2 with hn | ⟨g, cap, cur, hv, hbg, hg, rest⟩
  · exact ⟨h.1, .inl hn⟩
  · exact ⟨h.1, .inr ⟨g, cap, cur, hv, hbg, (hb.block g (Array.getElem?_eq_some_iff.1 hg).1).trans hg, rest⟩⟩
theorem own_iter {w : World} {B z n : Nat} {e : TypeId} {v : Value} {xs : List Value} {k : Nat} {s : ByteArray} {pos : Nat} (h : w.ownsRow B e z v n xs) (hk : w.heap[k]? = some (.stringIter s pos)) (pos' : Nat) : (w.iterAt k s pos').ownsRow B e z v n xs := by
  rcases h.2 with hn | ⟨g, cap, cur, hv, hbg, hg, rest⟩
  · exact ⟨h.1, .inl hn⟩
  · have hkg : g ≠ k := by
      intro e1
      rw [e1, hk] at hg
      cases hg
    exact ⟨h.1, .inr ⟨g, cap, cur, hv, hbg, (Lib.iterAt_other w k g s pos' hkg).trans hg, rest⟩⟩
theorem own_not_iter {w : World} {B z n : Nat} {e : TypeId} {v : Value} {xs : List Value} {k : Nat} {s : ByteArray} {pos : Nat} (h : w.ownsRow B e z v n xs) (hk : w.heap[k]? = some (.stringIter s pos)) : v.ownBlock ≠ some k := by
  rcases h.2 with ⟨rfl, _⟩ | ⟨g, cap, cur, rfl, _, hg, _⟩
  · simp [Value.ownBlock]
  · intro e1
    simp [Value.ownBlock] at e1
    subst e1
    rw [hk] at hg
    cases hg
theorem own_slice {w : World} {B z : Nat} {e : TypeId} {v : Value} {n : Nat} {xs : List Value} (h : w.ownsRow B e z v n xs) : ∃ A c, v = .slice A n c := by
  rcases h.2 with ⟨rfl, rfl⟩ | ⟨g, cap, cur, rfl, _⟩
  · exact ⟨none, 0, rfl⟩
  · exact ⟨_, _, rfl⟩
theorem fx_one (x : Lx) : ∀ u ∈ fl fx [x], u.oneCell' = true := by
  intro u hu
  simp [fl, fx] at hu
  rcases hu with rfl | rfl | rfl <;> rfl
theorem rd_cnt {s : ByteArray} {a cnt : Nat} (hO : rdO s a cnt = none) : cnt ≠ 200 := by
  intro h
  unfold rdO at hO
  rw [if_pos h] at hO
  cases hO
set_option maxHeartbeats 1000000 in
set_option maxRecDepth 100000 in
theorem readLexemes_any (s : ByteArray) (w : World) (hs : s.size ≤ 2000) :
    Calls Tryz.prog 81 #[.string s] w (RlP s w) := by
  have hdec : decide (2000 < (s.size : Int)) = false := by simp; omega
  obtain ⟨i0, hi0, hz0, hz1, hz2⟩ := info_parts infoLx
  go_enter Tryz.func81, Tryz.ntmps81
  go_wp2
  go_loopw [4, 5] (fun lv en wr => ∃ (out : List Lx) (e p : Nat), en = .int .i64 e ∧ wr.heap[w.heap.size]? = some (.stringIter s p) ∧ wr.ownsRow w.heap.size 51 3 lv out.length (fl fx out) ∧ p ≤ s.size ∧ e ≤ s.size ∧ (∀ k, p ≤ k → k < e → bt s k < 128) ∧ out.length ≤ 200 ∧ LG s 0 [] = LG s (max p e) out ∧ Below w.heap.size w wr) (fun _ _ wr => s.size - wr.iterPos w.heap.size)
  case atStart => exact ⟨[], 0, 0, rfl, World.iter_heap _ _ _, ⟨by simp [fl], .inl ⟨rfl, rfl⟩⟩, Nat.zero_le _, Nat.zero_le _, fun k _ hk => by omega, by simp, rfl, iter_below _ _ _⟩
  case round =>
    obtain ⟨out, e, p, rfl, hit, hown, hp, he, hlow, hout, hLG, hb⟩ := hrel
    have HIT := Lib.hid hit
    have HOW := Lib.hid hown
    have HLOW := Lib.hid hlow
    have HLG := Lib.hid hLG
    have HB := Lib.hid hb
    clear hown hlow hLG hb
    by_cases hlt : p < s.size
    · have hnx : ∀ ty, (Instr.next (.pointer (some ⟨w.heap.size, 0, none⟩)) true ty).run Tryz.prog wr = _ := fun ty => Lib.run_next_any_at wr w.heap.size s p ty hit hlt
      have HR := Lib.hid (runeOf hlt)
      have hle := decode_le s p
      clear hit
      have hpos : ∀ wd, (wr.iterAt w.heap.size s (p + wd)).iterPos w.heap.size = p + wd := fun wd => by
        unfold World.iterPos; rw [Lib.iterAt_heap wr w.heap.size s p (p + wd) HIT.out]
      have hwrp : wr.iterPos w.heap.size = p := by unfold World.iterPos; rw [HIT.out]
      by_cases hpe : p < e
      · -- within the last lexeme
        have hwd1 : (Utf8.decode s p).2 = 1 := (HR.out.low (HLOW.out p (Nat.le_refl _) hpe)).2
        rw [hwd1] at hnx
        have HN := Lib.hid (Lib.iterAt_heap wr w.heap.size s p (p + 1) HIT.out)
        have HO2 := Lib.hid (own_iter HOW.out HIT.out (p + 1))
        have HB2 := Lib.hid (Lib.below_iterAt HB.out (Nat.le_refl _) s (p + 1))
        have hps := hpos 1
        clear hpos HR hwd1
        generalize (Utf8.decode s p).1 = r at *
        generalize wr.iterAt w.heap.size s (p + 1) = w2 at *
        go_wp2
        go_roundw
        case rel => exact ⟨out, e, p + 1, rfl, HN.out, HO2.out, by omega, he, fun k h1 h2 => HLOW.out k (by omega) h2, hout, by rw [HLG.out, show max p e = e by omega, show max (p + 1) e = e by omega], HB2.out⟩
        case measure => rw [hps, hwrp]; omega
      · obtain ⟨Av, cv, rfl⟩ := own_slice HOW.out
        have HRN := Lib.hid (show (wtB ((Utf8.decode s p).1 : Int) = true → wtB (bt s p) = true ∧ (Utf8.decode s p).2 = 1) ∧ (wtB ((Utf8.decode s p).1 : Int) = false → wtB (bt s p) = false) by
          by_cases h128 : bt s p < 128
          · obtain ⟨e1, e2⟩ := HR.out.low h128
            rw [e1]
            exact ⟨fun h => ⟨h, e2⟩, fun h => h⟩
          · have h1 := HR.out.high (by omega)
            refine ⟨fun h => ?_, fun _ => ?_⟩
            · simp [wtB] at h; omega
            · simp [wtB]; omega)
        have HW1 := Lib.hid (show bt s p < 128 → (Utf8.decode s p).2 = 1 from fun h => (HR.out.low h).2)
        have HN := Lib.hid (Lib.iterAt_heap wr w.heap.size s p (p + (Utf8.decode s p).2) HIT.out)
        have HO2 := Lib.hid (own_iter HOW.out HIT.out (p + (Utf8.decode s p).2))
        have HB2 := Lib.hid (Lib.below_iterAt HB.out (Nat.le_refl _) s (p + (Utf8.decode s p).2))
        have hps := hpos (Utf8.decode s p).2
        have hwd := HR.out.pos
        clear hpos HR
        generalize (Utf8.decode s p).1 = r at *
        generalize (Utf8.decode s p).2 = wd at *
        generalize wr.iterAt w.heap.size s (p + wd) = w2 at *
        have hw64 : IntKind.i64.wrap (r : Int) = r := IntWalk.i64_in _ (by omega)
        go_wp2_with fail
        refine (IsWhite_any _ _).mono ?_
        rintro e' w2' ⟨rfl, rfl⟩
        cases hwt : wtB (r : Int)
        · have hww := HRN.out.2 hwt
          have HWW := Lib.hid hww
          clear hww hwt hw64
          go_wp2_with fail
          refine (readLexeme_any s p out.length w2 (by omega) hlt (by omega)).mono ?_
          rintro e' w3 ⟨hcase, hb3⟩
          rcases hcase with ⟨q, hq, rfl⟩ | ⟨hq, hz40, hzle, rfl⟩
          · have HE := Lib.hid (show LG s 0 [] = ([], (q : Int)) by rw [HLG.out, show max p e = p by omega]; exact LG_bad hlt HWW.out hq)
            have HB3 := Lib.hid (HB2.out.trans (hb3.mono HB2.out.size))
            clear hb3 hq
            go_wp2
            go_ret2
            exact ⟨.inr ⟨q, HE.out, rfl⟩, HB3.out.alloc (by have := HB3.out.size; omega) _⟩
          · have HE := Lib.hid (show LG s 0 [] = LG s (p + rdZ s p) (out ++ [lxAt s p]) by rw [HLG.out, show max p e = p by omega]; exact LG_ok hlt HWW.out hq)
            have hz1' := rdZ_pos hlt HWW.out hq
            have HLO := Lib.hid (rd_low hq)
            have hcnt := rd_cnt hq
            have hwd1 := HW1.out (by have := HLO.out 0 (by omega); rwa [Nat.add_zero] at this)
            have HZ := Lib.hid (show (s.extract p (p + rdZ s p)).size = rdZ s p by simp [ByteArray.size_extract]; omega)
            have HIT3 := Lib.hid ((hb3.block w.heap.size (Array.getElem?_eq_some_iff.1 HN.out).1).trans HN.out)
            have HO3 := Lib.hid (own_below HO2.out hb3)
            have HB3 := Lib.hid (HB2.out.trans (hb3.mono HB2.out.size))
            have hsz3 := HB3.out.size
            clear hb3 hq hnx
            obtain ⟨tx, htx⟩ : ∃ tx, s.extract p (p + rdZ s p) = tx := ⟨_, rfl⟩
            have HXE := Lib.hid (show fl fx [lxAt s p] = [.int .i64 (kdI (bt s p)), .string tx, .int .i64 p] by simp [fl, fx, lxAt, htx])
            have hZt : tx.size = rdZ s p := by rw [← htx]; exact HZ.out
            rw [htx]
            clear HZ htx
            have hX4 := BlkL.new w3 51 [.int .i64 (kdI (bt s p)), .string tx, .int .i64 p]
            have hX5 := hX4.alloc (.cells #[.int .i64 (kdI (bt s p)), .string tx, .int .i64 p] 51)
            have hY5 := BlkL.new (w3.alloc (.cells #[.int .i64 (kdI (bt s p)), .string tx, .int .i64 p] 51)) 51 [.int .i64 (kdI (bt s p)), .string tx, .int .i64 p]
            have hB35 := ((Below.refl w3.heap.size w3).alloc (Nat.le_refl _) (.cells #[.int .i64 (kdI (bt s p)), .string tx, .int .i64 p] 51)).alloc (by simp) (.cells #[.int .i64 (kdI (bt s p)), .string tx, .int .i64 p] 51)
            have HIT5 := Lib.hid ((hB35.block w.heap.size (Array.getElem?_eq_some_iff.1 HIT3.out).1).trans HIT3.out)
            have HO5 := Lib.hid (own_below HO3.out hB35)
            have HB5 := Lib.hid (HB3.out.trans (hB35.mono hsz3))
            have HX5 := Lib.hid hX5
            have hz4 : (w3.alloc (.cells #[.int .i64 (kdI (bt s p)), .string tx, .int .i64 p] 51)).heap.size = w3.heap.size + 1 := by simp
            rw [hz4] at hY5
            have HY5 := Lib.hid hY5
            have hz5 : w.heap.size ≤ ((w3.alloc (.cells #[.int .i64 (kdI (bt s p)), .string tx, .int .i64 p] 51)).alloc (.cells #[.int .i64 (kdI (bt s p)), .string tx, .int .i64 p] 51)).heap.size := HB5.out.size
            have hnX : (Value.slice Av out.length cv).ownBlock ≠ some w3.heap.size := fun e' => by have := (HO3.out.lt _ e').2; omega
            have hnI := own_not_iter HO5.out HIT5.out
            clear hX4 hX5 hY5 hB35
            go_wp2_with (at_builtin; refine wpList_append_own_at _ rfl _ _ 47 rfl w.heap.size 51 i0 (.agg #[.int .i64 0, .string ByteArray.empty, .int .i64 0]) 3 32 Tryz.underlying47 hi0 hz0 hz1 hz2 rfl (by decide) _ _ _ rfl HO5.out ⟨w3.heap.size + 1, 0, none⟩ 1 1 [.int .i64 (kdI (bt s p)), .string tx, .int .i64 p] rfl rfl (fun j u hj => by rw [Addr.add_lit, Nat.zero_add]; exact (HY5.out.cell j).trans hj) (by rw [← HXE.out]; exact fx_one _) (by simp only [maxLen]; omega) (by omega) hz5 ?_)
            intro v' w6 hown6 hgr6 _ _
            rw [← HXE.out, ← fl_append] at hown6
            obtain ⟨A6, c6, rfl⟩ := own_slice hown6
            have HO6 := Lib.hid hown6
            have hX6 := HX5.out.grown hgr6 (fun e' => hnX e'.symm)
            have HIT6 := Lib.hid ((hgr6.block w.heap.size (Array.getElem?_eq_some_iff.1 HIT5.out).1 (fun e' => hnI e'.symm)).trans HIT5.out)
            have HB6 := Lib.hid (HB5.out.grown hgr6 hz5 (fun g hg => (HO5.out.lt g hg).1))
            have y1 : w6.cell? ⟨w3.heap.size, 1, none⟩ = some (.string tx) := (hX6.cell 1).trans rfl
            clear hown6 hgr6 hX6 HO5 HIT5 HB5 HX5 HY5 HO3 HIT3 HB3 hnI hnX
            have hps6 : w6.iterPos w.heap.size = p + wd := by unfold World.iterPos; rw [HIT6.out]
            go_wp2
            go_roundw
            case rel =>
              refine ⟨out ++ [lxAt s p], p + rdZ s p, p + 1, by simp, by rw [← hwd1]; exact HIT6.out, by simpa using HO6.out, by omega, hzle, fun k hk1 hk => ?_, by simp; omega, by rw [HE.out, show max (p + 1) (p + rdZ s p) = p + rdZ s p by omega], HB6.out⟩
              have := HLO.out (k - p) (by omega)
              rwa [show p + (k - p) = k by omega] at this
            case measure => rw [hps6, hwrp]; omega
        · obtain ⟨h1, h2⟩ := HRN.out.1 hwt
          have HE := Lib.hid (show LG s 0 [] = LG s (max (p + 1) e) out by rw [HLG.out, show max p e = p by omega, show max (p + 1) e = p + 1 by omega]; exact LG_white hlt h1)
          subst h2
          clear h1 hwt hw64
          go_wp2
          go_roundw
          case rel => exact ⟨out, e, p + 1, rfl, HN.out, HO2.out, by omega, he, fun k h1 h2 => HLOW.out k (by omega) h2, hout, HE.out, HB2.out⟩
          case measure => rw [hps, hwrp]; omega
    · have hnx : ∀ ty, (Instr.next (.pointer (some ⟨w.heap.size, 0, none⟩)) true ty).run Tryz.prog wr = _ := fun ty => Lib.run_next_end_at wr w.heap.size s p ty hit hlt
      have HE := Lib.hid (show LG s 0 [] = (out, -1) by rw [HLG.out]; exact LG_end (by omega))
      clear hit
      go_wp2
      go_ret2
      exact ⟨.inl ⟨out, _, HE.out, hout, rfl, HOW.out⟩, HB.out⟩
end Go.Proofs.YthjkgbcomjiejaaGreatDoor
