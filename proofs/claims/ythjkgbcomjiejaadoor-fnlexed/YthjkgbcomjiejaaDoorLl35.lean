/-
  LexText of the model.
-/
import Derived.Test.YthjkgbcomjiejaaDoorLl25
import Derived.Test.YthjkgbcomjiejaaDoorLl26
import Derived.Test.YthjkgbcomjiejaaDoorLl27
import Derived.Test.YthjkgbcomjiejaaDoorLl34
namespace Go.Proofs.YthjkgbcomjiejaaDoor
open Go.RowKit
set_option linter.unusedVariables false

theorem l06End_any (s : ByteArray) (a : Nat) (w : World) (hs : s.size ≤ 1048576) (ha : a < s.size) (hw : wtB (bt s a) = false) :
    Calls Tryd.prog 17 #[.string s, .int .i64 a] w (EndP s a w) := by
  cases hb : bdB (bt s a)
  · rcases kd_cases (bt s a) with ⟨hk, _⟩ | ⟨hk, _⟩ | ⟨hk, _⟩ | ⟨hk, _⟩ | ⟨hk, _⟩ | ⟨hk, _⟩
    · exact end_one s a w hs ha hw (by omega)
    · exact end_one s a w hs ha hw (by omega)
    · exact end_one s a w hs ha hw (by omega)
    · exact end_note s a w hs ha hw hb hk
    · exact end_string s a w hs ha hw hb hk
    · exact end_atom s a w hs ha hw hb hk
  · exact end_bad s a w hs ha hw hb
theorem rd_bad {s : ByteArray} {a cnt j x : Nat} (h : lexO (fun i => bt s (a + i)) (s.size - a) = (some j, x)) : rdO s a cnt = some (if cnt = 200 ∨ 40 < j then a else a + j) := by
  unfold rdO plO
  rw [h]
  by_cases hc : cnt = 200
  · rw [if_pos hc, if_pos (.inl hc)]
  · rw [if_neg hc]
    simp only
    by_cases hj : 40 < j
    · rw [if_pos hj, if_pos (.inr hj)]; rfl
    · rw [if_neg hj, if_neg (by omega)]; rfl
theorem rd_fine {s : ByteArray} {a cnt y : Nat} (h : lexO (fun i => bt s (a + i)) (s.size - a) = (none, y)) : rdO s a cnt = (if cnt = 200 ∨ 40 < y then some a else none) ∧ rdZ s a = y := by
  refine ⟨?_, by unfold rdZ szO; rw [h]⟩
  unfold rdO plO
  rw [h]
  by_cases hc : cnt = 200
  · rw [if_pos hc, if_pos (.inl hc)]
  · rw [if_neg hc]
    simp only
    by_cases hj : 40 < y
    · rw [if_pos hj, if_pos (.inr hj)]; rfl
    · rw [if_neg hj, if_neg (by omega)]; rfl
theorem lexO_lt {b : Nat → Nat} {n j x : Nat} (hn : 0 < n) (h : lexO b n = (some j, x)) : j < n := by
  by_cases h0 : kdI (b 0) = 0
  · rw [lexO_0 h0] at h
    split at h
    · rename_i hc; injection h with h _; injection h with h; omega
    · cases h
  · by_cases h1 : kdI (b 0) = 1
    · rw [lexO_1 h1] at h
      split at h
      · split at h
        · cases h
        · injection h with h _; injection h with h; omega
      · injection h with h _; injection h with h; omega
    · by_cases h2 : kdI (b 0) = 2
      · rw [lexO_2 h2] at h
        split at h
        · rename_i hc
          injection h with h _; injection h with h
          have h3 := trm_le b (lnN b n)
          have h4 : lnN b n ≤ n := fst_le _ _
          omega
        · cases h
      · rw [lexO_3 h0 h1 h2] at h; cases h
theorem lexO_le {b : Nat → Nat} {n y : Nat} (hn : 0 < n) (h : lexO b n = (none, y)) : y ≤ n := by
  by_cases h0 : kdI (b 0) = 0
  · rw [lexO_0 h0] at h
    have hle := fst_le (evA b) n
    split at h
    · cases h
    · injection h with _ h; omega
  · by_cases h1 : kdI (b 0) = 1
    · rw [lexO_1 h1] at h
      split at h
      · split at h
        · injection h with _ h; omega
        · cases h
      · cases h
    · by_cases h2 : kdI (b 0) = 2
      · rw [lexO_2 h2] at h
        split at h
        · cases h
        · injection h with _ h
          have h3 := trm_le b (lnN b n)
          have h4 : lnN b n ≤ n := fst_le _ _
          omega
      · rw [lexO_3 h0 h1 h2] at h
        injection h with _ h; omega
/-- what LexText hands back: a row of its own, and a place. -/
def LxOut (w : World) (r : List Lx × Int) (e : Ending) (w' : World) : Prop :=
  ∃ v, e = .returned (.tuple #[v, .int .i64 r.2]) ∧ w'.ownsRow w.heap.size 32 3 v r.1.length (fl fx r.1) ∧ Below w.heap.size w w'
theorem own_empty (w : World) : (w.alloc (.cells #[] 32)).ownsRow w.heap.size 32 3 (.slice (some ⟨w.heap.size, 0, none⟩) 0 0) ([] : List Lx).length (fl fx []) := by
  refine ⟨rfl, .inr ⟨w.heap.size, 0, #[], rfl, Nat.le_refl _, ?_, ?_⟩⟩
  · exact BlkL.new w 32 []
  · simp [fl]
theorem own_nil (w : World) (B : Nat) (e : TypeId) : w.ownsRow B e 3 (.slice none 0 0) 0 (fl fx []) := ⟨rfl, .inl ⟨rfl, rfl⟩⟩
set_option maxHeartbeats 1000000 in
set_option maxRecDepth 100000 in
theorem sLexText_any (s : ByteArray) (w : World) (hs : s.size ≤ 1048576) :
    Calls Tryd.prog 6 #[.string s] w (LxOut w (lxA s)) := by
  obtain ⟨i0, hi0, hz0, hz1, hz2⟩ := info_parts infoLx
  by_cases h2000 : 2000 < s.size
  · have HA := Lib.hid (show lxA s = ([], 0) by rw [lxA, if_pos h2000])
    go_enter Tryd.func6, Tryd.ntmps6
    go_wp2
    go_ret2
    rw [HA.out]
    exact ⟨_, rfl, own_nil _ _ _, Below.refl _ _⟩
  · have HA := Lib.hid (show lxA s = LG s 0 [] by rw [lxA, if_neg h2000])
    have hdec : decide (2000 < (s.size : Int)) = false := by simp; omega
    go_enter Tryd.func6, Tryd.ntmps6
    go_wp2
    go_loopw [4, 5] (fun lv av wr => ∃ (out : List Lx) (p : Nat), av = .int .i64 p ∧ wr.ownsRow w.heap.size 32 3 lv out.length (fl fx out) ∧ p ≤ s.size ∧ out.length ≤ 200 ∧ LG s 0 [] = LG s p out ∧ Below w.heap.size w wr) (fun _ av _ => s.size - (intOf av).toNat)
    case atStart => exact ⟨[], 0, rfl, own_empty w, Nat.zero_le _, by simp, rfl, (Below.refl _ _).alloc (Nat.le_refl _) _⟩
    case round =>
      obtain ⟨out, p, rfl, hown, hp, hout, hLG, hb⟩ := hrel
      have HOW := Lib.hid hown
      have HLG := Lib.hid hLG
      have HB := Lib.hid hb
      have hsz := hb.size
      clear hLG hb
      obtain ⟨Av, cv, rfl⟩ := own_slice hown
      clear hown
      by_cases hlt : p < s.size
      · have hbp := bt_at hlt
        have hlp := bt_lt s p
        have HBP := Lib.hid hbp
        have hl2 : s[p].toNat < 256 := by omega
        clear hbp
        go_wp2_with fail
        refine (sIsWhite_any _ _).mono ?_
        rintro e w' ⟨rfl, rfl⟩
        rw [← HBP.out]
        cases hwt : wtB (bt s p)
        · have HWT := Lib.hid hwt
          go_wp2_with fail
          refine (l06End_any s p wr (by omega) hlt hwt).mono ?_
          rintro e w' ⟨z, kk, d, rfl, rfl, hm⟩
          clear hwt
          cases hL : lexO (fun i => bt s (p + i)) (s.size - p) with
          | mk o y =>
            rw [hL] at hm
            cases o with
            | some j =>
              have hd : d = ((p + j : Nat) : Int) := hm
              have hr := rd_bad (cnt := out.length) hL
              have HE := Lib.hid (show LG s 0 [] = ([], ((if out.length = 200 ∨ 40 < j then p else p + j : Nat) : Int)) by rw [HLG.out]; exact LG_bad hlt HWT.out hr)
              have hd0 : ¬ d < 0 := by omega
              have hd0' := decide_eq_true (show 0 ≤ d by omega)
              have hdj : d - (p : Int) = (j : Int) := by omega
              have HD := Lib.hid hd
              have hjb : j < s.size - p := lexO_lt (by omega) hL
              clear hr hm hL
              by_cases h200 : out.length = 200
              · have b200 : ((out.length : Int) == 200) = true := by simp; omega
                have HE2 := Lib.hid (show LG s 0 [] = ([], (p : Int)) by rw [HE.out, if_pos (.inl h200)])
                clear h200 hd hdj
                go_wp2
                go_ret2
                rw [HA.out, HE2.out]
                exact ⟨_, rfl, own_nil _ _ _, HB.out⟩
              · have b200 : ((out.length : Int) == 200) = false := by simp; omega
                by_cases h40 : 40 < j
                · have g40 : (40 : Int) < d - (p : Int) := by omega
                  have HE2 := Lib.hid (show LG s 0 [] = ([], (p : Int)) by rw [HE.out, if_pos (.inr h40)])
                  clear h200 hd
                  go_wp2
                  go_ret2
                  rw [HA.out, HE2.out]
                  exact ⟨_, rfl, own_nil _ _ _, HB.out⟩
                · have g40 : ¬ (40 : Int) < d - (p : Int) := by omega
                  have HE2 := Lib.hid (show LG s 0 [] = ([], d) by rw [HE.out, if_neg (by omega), HD.out])
                  clear h200 hd
                  go_wp2
                  go_ret2
                  rw [HA.out, HE2.out]
                  exact ⟨_, rfl, own_nil _ _ _, HB.out⟩
            | none =>
              obtain ⟨rfl, hz, rfl⟩ : d = -1 ∧ z = ((p + y : Nat) : Int) ∧ kk = kdI (bt s p) := hm
              obtain ⟨hr, hzz⟩ := rd_fine (cnt := out.length) hL
              have hyn : y ≤ s.size - p := lexO_le (by omega) hL
              have hzp : z - (p : Int) = (y : Int) := by omega
              have HZ := Lib.hid hz
              have HRZ := Lib.hid hzz
              clear hL
              by_cases h200 : out.length = 200
              · have b200 : ((out.length : Int) == 200) = true := by simp; omega
                have HE2 := Lib.hid (show LG s 0 [] = ([], (p : Int)) by rw [HLG.out]; exact LG_bad hlt HWT.out (by rw [hr, if_pos (.inl h200)]))
                clear h200 hr hz hzz
                go_wp2
                go_ret2
                rw [HA.out, HE2.out]
                exact ⟨_, rfl, own_nil _ _ _, HB.out⟩
              · have b200 : ((out.length : Int) == 200) = false := by simp; omega
                by_cases h40 : 40 < y
                · have g40 : (40 : Int) < z - (p : Int) := by omega
                  have HE2 := Lib.hid (show LG s 0 [] = ([], (p : Int)) by rw [HLG.out]; exact LG_bad hlt HWT.out (by rw [hr, if_pos (.inr h40)]))
                  clear h200 hr hz hzz
                  go_wp2
                  go_ret2
                  rw [HA.out, HE2.out]
                  exact ⟨_, rfl, own_nil _ _ _, HB.out⟩
                · have g40 : ¬ (40 : Int) < z - (p : Int) := by omega
                  have hrn : rdO s p out.length = none := by rw [hr, if_neg (by omega)]
                  have HE2 := Lib.hid (show LG s 0 [] = LG s (p + y) (out ++ [lxAt s p]) by rw [HLG.out, LG_ok hlt HWT.out hrn, hzz])
                  obtain ⟨tx, htx⟩ : ∃ tx, s.extract p (p + y) = tx := ⟨_, rfl⟩
                  have HXE := Lib.hid (show fl fx [lxAt s p] = [.int .i64 (kdI (bt s p)), .string tx, .int .i64 p] by simp [fl, fx, lxAt, hzz, htx])
                  have HTX := Lib.hid htx
                  have hy1 : 1 ≤ y := by rw [← hzz]; exact rdZ_pos hlt HWT.out hrn
                  subst hz
                  have hY5 := BlkL.new wr 32 [.int .i64 (kdI (bt s p)), .string tx, .int .i64 p]
                  have hB35 := (Below.refl wr.heap.size wr).alloc (Nat.le_refl _) (.cells #[.int .i64 (kdI (bt s p)), .string tx, .int .i64 p] 32)
                  have HO5 := Lib.hid (own_below HOW.out hB35)
                  have HB5 := Lib.hid (HB.out.trans (hB35.mono hsz))
                  have HY5 := Lib.hid hY5
                  have hz5 : w.heap.size ≤ (wr.alloc (.cells #[.int .i64 (kdI (bt s p)), .string tx, .int .i64 p] 32)).heap.size := HB5.out.size
                  have hol : out.length < 200 := by omega
                  clear hr hzz h200 hrn htx hY5 hB35 hzp g40
                  have g40 : ¬ (40 : Int) < ((p + y : Nat) : Int) - (p : Int) := by omega
                  have gsl : ((p : Int) ≤ ((p + y : Nat) : Int)) ∧ ((p + y : Nat) : Int) ≤ (s.size : Int) := by omega
                  go_wp2_with (first | (at_builtin; rw [HTX.out]; refine wpList_append_own_at _ rfl _ _ 25 rfl w.heap.size 32 i0 (.agg #[.int .i64 0, .string ByteArray.empty, .int .i64 0]) 3 32 Tryd.underlying25 hi0 hz0 hz1 hz2 rfl (by decide) _ _ _ rfl HO5.out ⟨wr.heap.size, 0, none⟩ 1 1 [.int .i64 (kdI (bt s p)), .string tx, .int .i64 p] rfl rfl (fun j u hj => by rw [Addr.add_lit, Nat.zero_add]; exact (HY5.out.cell j).trans hj) (by rw [← HXE.out]; exact fx_one _) (by simp only [maxLen]; omega) (by omega) hz5 ?_))
                  intro v' w6 hown6 hgr6 _ _
                  rw [← HXE.out, ← fl_append] at hown6
                  obtain ⟨A6, c6, rfl⟩ := own_slice hown6
                  have HO6 := Lib.hid hown6
                  have HB6 := Lib.hid (HB5.out.grown hgr6 hz5 (fun g hg => (HO5.out.lt g hg).1))
                  clear hown6 hgr6 HO5 HB5 HY5
                  go_wp2
                  go_roundw
                  case rel => exact ⟨out ++ [lxAt s p], p + y, by simp, by simpa using HO6.out, by omega, by simp; omega, HE2.out, HB6.out⟩
                  case measure => simp [intOf]; omega
        · have HE := Lib.hid (show LG s 0 [] = LG s (p + 1) out by rw [HLG.out]; exact LG_white hlt hwt)
          clear hwt
          go_wp2
          go_roundw
          case rel => exact ⟨out, p + 1, by go_num, HOW.out, by omega, hout, HE.out, HB.out⟩
          case measure => simp [intOf]; omega
      · have HE := Lib.hid (show LG s 0 [] = (out, -1) by rw [HLG.out]; exact LG_end (by omega))
        go_wp2
        go_ret2
        rw [HA.out, HE.out]
        exact ⟨_, rfl, HOW.out, HB.out⟩
end Go.Proofs.YthjkgbcomjiejaaDoor
