/-
  The answer of LexText in memory of its own: marked, and read again.
-/
import Derived.Test.YtegjgbgnpkncbacGreatDoorKk19
import Derived.Test.YtegjgbgnpkncbacGreatDoorKk20
import Derived.Test.YtegjgbgnpkncbacGreatDoorKk14
import Derived.Test.YtegjgbgnpkncbacGreatDoorKk18
import Derived.Test.YtegjgbgnpkncbacGreatDoorKk03
namespace Go.Proofs.YtegjgbgnpkncbacGreatDoor
open Go.RowKit
set_option linter.unusedVariables false

theorem l06End_any (s : ByteArray) (a : Nat) (w : World) (hs : s.size ≤ 1048576) (ha : a < s.size) (hw : wtB (bt s a) = false) :
    Calls Tryz.prog 30 #[.string s, .int .i64 a] w (EndP s a w) := by
  cases hb : bdB (bt s a)
  · rcases kd_cases (bt s a) with ⟨hk, _⟩ | ⟨hk, _⟩ | ⟨hk, _⟩ | ⟨hk, _⟩ | ⟨hk, _⟩ | ⟨hk, _⟩
    · exact end_one s a w hs ha hw (by omega)
    · exact end_one s a w hs ha hw (by omega)
    · exact end_one s a w hs ha hw (by omega)
    · exact end_note s a w hs ha hw hb hk
    · exact end_string s a w hs ha hw hb hk
    · exact end_atom s a w hs ha hw hb hk
  · exact end_bad s a w hs ha hw hb
theorem rd_bad {s : ByteArray} {a cnt j x : Nat} (h : lexO (fun i => bt s (a + i)) (s.size - a) = (some j, x)) : rdO s a cnt = some (if cnt = 200 ∨ 40 < j then a else a + j) := by
  unfold rdO plO
  rw [h]
  by_cases hc : cnt = 200
  · rw [if_pos hc, if_pos (.inl hc)]
  · rw [if_neg hc]
    simp only
    by_cases hj : 40 < j
    · rw [if_pos hj, if_pos (.inr hj)]; rfl
    · rw [if_neg hj, if_neg (by omega)]; rfl
theorem rd_fine {s : ByteArray} {a cnt y : Nat} (h : lexO (fun i => bt s (a + i)) (s.size - a) = (none, y)) : rdO s a cnt = (if cnt = 200 ∨ 40 < y then some a else none) ∧ rdZ s a = y := by
  refine ⟨?_, by unfold rdZ szO; rw [h]⟩
  unfold rdO plO
  rw [h]
  by_cases hc : cnt = 200
  · rw [if_pos hc, if_pos (.inl hc)]
  · rw [if_neg hc]
    simp only
    by_cases hj : 40 < y
    · rw [if_pos hj, if_pos (.inr hj)]; rfl
    · rw [if_neg hj, if_neg (by omega)]; rfl
theorem lexO_lt {b : Nat → Nat} {n j x : Nat} (hn : 0 < n) (h : lexO b n = (some j, x)) : j < n := by
  by_cases h0 : kdI (b 0) = 0
  · rw [lexO_0 h0] at h
    split at h
    · rename_i hc; injection h with h _; injection h with h; omega
    · cases h
  · by_cases h1 : kdI (b 0) = 1
    · rw [lexO_1 h1] at h
      split at h
      · split at h
        · cases h
        · injection h with h _; injection h with h; omega
      · injection h with h _; injection h with h; omega
    · by_cases h2 : kdI (b 0) = 2
      · rw [lexO_2 h2] at h
        split at h
        · rename_i hc
          injection h with h _; injection h with h
          have h3 := trm_le b (lnN b n)
          have h4 : lnN b n ≤ n := fst_le _ _
          omega
        · cases h
      · rw [lexO_3 h0 h1 h2] at h; cases h
theorem lexO_le {b : Nat → Nat} {n y : Nat} (hn : 0 < n) (h : lexO b n = (none, y)) : y ≤ n := by
  by_cases h0 : kdI (b 0) = 0
  · rw [lexO_0 h0] at h
    have hle := fst_le (evA b) n
    split at h
    · cases h
    · injection h with _ h; omega
  · by_cases h1 : kdI (b 0) = 1
    · rw [lexO_1 h1] at h
      split at h
      · split at h
        · injection h with _ h; omega
        · cases h
      · cases h
    · by_cases h2 : kdI (b 0) = 2
      · rw [lexO_2 h2] at h
        split at h
        · cases h
        · injection h with _ h
          have h3 := trm_le b (lnN b n)
          have h4 : lnN b n ≤ n := fst_le _ _
          omega
      · rw [lexO_3 h0 h1 h2] at h
        injection h with _ h; omega
/-- what LexText hands back: a row of its own, and a place. -/
def LxOut (w : World) (r : List Lx × Int) (e : Ending) (w' : World) : Prop :=
  ∃ v, e = .returned (.tuple #[v, .int .i64 r.2]) ∧ w'.ownsRow w.heap.size 36 3 v r.1.length (fl fx r.1) ∧ Below w.heap.size w w'
theorem own_empty (w : World) : (w.alloc (.cells #[] 36)).ownsRow w.heap.size 36 3 (.slice (some ⟨w.heap.size, 0, none⟩) 0 0) ([] : List Lx).length (fl fx []) := by
  refine ⟨rfl, .inr ⟨w.heap.size, 0, #[], rfl, Nat.le_refl _, ?_, ?_⟩⟩
  · exact BlkL.new w 36 []
  · simp [fl]
theorem own_nil (w : World) (B : Nat) (e : TypeId) : w.ownsRow B e 3 (.slice none 0 0) 0 (fl fx []) := ⟨rfl, .inl ⟨rfl, rfl⟩⟩
set_option maxHeartbeats 1000000 in
set_option maxRecDepth 100000 in
theorem sLexText_any (s : ByteArray) (w : World) (hs : s.size ≤ 1048576) :
    Calls Tryz.prog 15 #[.string s] w (LxOut w (lxA s)) := by
  obtain ⟨i0, hi0, hz0, hz1, hz2⟩ := info_parts infoLx
  by_cases h2000 : 2000 < s.size
  · have HA := Lib.hid (show lxA s = ([], 0) by rw [lxA, if_pos h2000])
    go_enter Tryz.func15, Tryz.ntmps15
    go_wp2
    go_ret2
    rw [HA.out]
    exact ⟨_, rfl, own_nil _ _ _, Below.refl _ _⟩
  · have HA := Lib.hid (show lxA s = LG s 0 [] by rw [lxA, if_neg h2000])
    have hdec : decide (2000 < (s.size : Int)) = false := by simp; omega
    go_enter Tryz.func15, Tryz.ntmps15
    go_wp2
    go_loopw [4, 5] (fun lv av wr => ∃ (out : List Lx) (p : Nat), av = .int .i64 p ∧ wr.ownsRow w.heap.size 36 3 lv out.length (fl fx out) ∧ p ≤ s.size ∧ out.length ≤ 200 ∧ LG s 0 [] = LG s p out ∧ Below w.heap.size w wr) (fun _ av _ => s.size - (intOf av).toNat)
    case atStart => exact ⟨[], 0, rfl, own_empty w, Nat.zero_le _, by simp, rfl, (Below.refl _ _).alloc (Nat.le_refl _) _⟩
    case round =>
      obtain ⟨out, p, rfl, hown, hp, hout, hLG, hb⟩ := hrel
      have HOW := Lib.hid hown
      have HLG := Lib.hid hLG
      have HB := Lib.hid hb
      have hsz := hb.size
      clear hLG hb
      obtain ⟨Av, cv, rfl⟩ := own_slice hown
      clear hown
      by_cases hlt : p < s.size
      · have hbp := bt_at hlt
        have hlp := bt_lt s p
        have HBP := Lib.hid hbp
        have hl2 : s[p].toNat < 256 := by omega
        clear hbp
        go_wp2_with fail
        refine (sIsWhite_any _ _).mono ?_
        rintro e w' ⟨rfl, rfl⟩
        rw [← HBP.out]
        cases hwt : wtB (bt s p)
        · have HWT := Lib.hid hwt
          go_wp2_with fail
          refine (l06End_any s p wr (by omega) hlt hwt).mono ?_
          rintro e w' ⟨z, kk, d, rfl, rfl, hm⟩
          clear hwt
          cases hL : lexO (fun i => bt s (p + i)) (s.size - p) with
          | mk o y =>
            rw [hL] at hm
            cases o with
            | some j =>
              have hd : d = ((p + j : Nat) : Int) := hm
              have hr := rd_bad (cnt := out.length) hL
              have HE := Lib.hid (show LG s 0 [] = ([], ((if out.length = 200 ∨ 40 < j then p else p + j : Nat) : Int)) by rw [HLG.out]; exact LG_bad hlt HWT.out hr)
              have hd0 : ¬ d < 0 := by omega
              have hd0' := decide_eq_true (show 0 ≤ d by omega)
              have hdj : d - (p : Int) = (j : Int) := by omega
              have HD := Lib.hid hd
              have hjb : j < s.size - p := lexO_lt (by omega) hL
              clear hr hm hL
              by_cases h200 : out.length = 200
              · have b200 : ((out.length : Int) == 200) = true := by simp; omega
                have HE2 := Lib.hid (show LG s 0 [] = ([], (p : Int)) by rw [HE.out, if_pos (.inl h200)])
                clear h200 hd hdj
                go_wp2
                go_ret2
                rw [HA.out, HE2.out]
                exact ⟨_, rfl, own_nil _ _ _, HB.out⟩
              · have b200 : ((out.length : Int) == 200) = false := by simp; omega
                by_cases h40 : 40 < j
                · have g40 : (40 : Int) < d - (p : Int) := by omega
                  have HE2 := Lib.hid (show LG s 0 [] = ([], (p : Int)) by rw [HE.out, if_pos (.inr h40)])
                  clear h200 hd
                  go_wp2
                  go_ret2
                  rw [HA.out, HE2.out]
                  exact ⟨_, rfl, own_nil _ _ _, HB.out⟩
                · have g40 : ¬ (40 : Int) < d - (p : Int) := by omega
                  have HE2 := Lib.hid (show LG s 0 [] = ([], d) by rw [HE.out, if_neg (by omega), HD.out])
                  clear h200 hd
                  go_wp2
                  go_ret2
                  rw [HA.out, HE2.out]
                  exact ⟨_, rfl, own_nil _ _ _, HB.out⟩
            | none =>
              obtain ⟨rfl, hz, rfl⟩ : d = -1 ∧ z = ((p + y : Nat) : Int) ∧ kk = kdI (bt s p) := hm
              obtain ⟨hr, hzz⟩ := rd_fine (cnt := out.length) hL
              have hyn : y ≤ s.size - p := lexO_le (by omega) hL
              have hzp : z - (p : Int) = (y : Int) := by omega
              have HZ := Lib.hid hz
              have HRZ := Lib.hid hzz
              clear hL
              by_cases h200 : out.length = 200
              · have b200 : ((out.length : Int) == 200) = true := by simp; omega
                have HE2 := Lib.hid (show LG s 0 [] = ([], (p : Int)) by rw [HLG.out]; exact LG_bad hlt HWT.out (by rw [hr, if_pos (.inl h200)]))
                clear h200 hr hz hzz
                go_wp2
                go_ret2
                rw [HA.out, HE2.out]
                exact ⟨_, rfl, own_nil _ _ _, HB.out⟩
              · have b200 : ((out.length : Int) == 200) = false := by simp; omega
                by_cases h40 : 40 < y
                · have g40 : (40 : Int) < z - (p : Int) := by omega
                  have HE2 := Lib.hid (show LG s 0 [] = ([], (p : Int)) by rw [HLG.out]; exact LG_bad hlt HWT.out (by rw [hr, if_pos (.inr h40)]))
                  clear h200 hr hz hzz
                  go_wp2
                  go_ret2
                  rw [HA.out, HE2.out]
                  exact ⟨_, rfl, own_nil _ _ _, HB.out⟩
                · have g40 : ¬ (40 : Int) < z - (p : Int) := by omega
                  have hrn : rdO s p out.length = none := by rw [hr, if_neg (by omega)]
                  have HE2 := Lib.hid (show LG s 0 [] = LG s (p + y) (out ++ [lxAt s p]) by rw [HLG.out, LG_ok hlt HWT.out hrn, hzz])
                  obtain ⟨tx, htx⟩ : ∃ tx, s.extract p (p + y) = tx := ⟨_, rfl⟩
                  have HXE := Lib.hid (show fl fx [lxAt s p] = [.int .i64 (kdI (bt s p)), .string tx, .int .i64 p] by simp [fl, fx, lxAt, hzz, htx])
                  have HTX := Lib.hid htx
                  have hy1 : 1 ≤ y := by rw [← hzz]; exact rdZ_pos hlt HWT.out hrn
                  subst hz
                  have hY5 := BlkL.new wr 36 [.int .i64 (kdI (bt s p)), .string tx, .int .i64 p]
                  have hB35 := (Below.refl wr.heap.size wr).alloc (Nat.le_refl _) (.cells #[.int .i64 (kdI (bt s p)), .string tx, .int .i64 p] 36)
                  have HO5 := Lib.hid (own_below HOW.out hB35)
                  have HB5 := Lib.hid (HB.out.trans (hB35.mono hsz))
                  have HY5 := Lib.hid hY5
                  have hz5 : w.heap.size ≤ (wr.alloc (.cells #[.int .i64 (kdI (bt s p)), .string tx, .int .i64 p] 36)).heap.size := HB5.out.size
                  have hol : out.length < 200 := by omega
                  clear hr hzz h200 hrn htx hY5 hB35 hzp g40
                  have g40 : ¬ (40 : Int) < ((p + y : Nat) : Int) - (p : Int) := by omega
                  have gsl : ((p : Int) ≤ ((p + y : Nat) : Int)) ∧ ((p + y : Nat) : Int) ≤ (s.size : Int) := by omega
                  go_wp2_with (first | (at_builtin; rw [HTX.out]; refine wpList_append_own_at _ rfl _ _ 31 rfl w.heap.size 36 i0 (.agg #[.int .i64 0, .string ByteArray.empty, .int .i64 0]) 3 32 Tryz.underlying31 hi0 hz0 hz1 hz2 rfl (by decide) _ _ _ rfl HO5.out ⟨wr.heap.size, 0, none⟩ 1 1 [.int .i64 (kdI (bt s p)), .string tx, .int .i64 p] rfl rfl (fun j u hj => by rw [Addr.add_lit, Nat.zero_add]; exact (HY5.out.cell j).trans hj) (by rw [← HXE.out]; exact fx_one _) (by simp only [maxLen]; omega) (by omega) hz5 ?_))
                  intro v' w6 hown6 hgr6 _ _
                  rw [← HXE.out, ← fl_append] at hown6
                  obtain ⟨A6, c6, rfl⟩ := own_slice hown6
                  have HO6 := Lib.hid hown6
                  have HB6 := Lib.hid (HB5.out.grown hgr6 hz5 (fun g hg => (HO5.out.lt g hg).1))
                  clear hown6 hgr6 HO5 HB5 HY5
                  go_wp2
                  go_roundw
                  case rel => exact ⟨out ++ [lxAt s p], p + y, by simp, by simpa using HO6.out, by omega, by simp; omega, HE2.out, HB6.out⟩
                  case measure => simp [intOf]; omega
        · have HE := Lib.hid (show LG s 0 [] = LG s (p + 1) out by rw [HLG.out]; exact LG_white hlt hwt)
          clear hwt
          go_wp2
          go_roundw
          case rel => exact ⟨out, p + 1, by go_num, HOW.out, by omega, hout, HE.out, HB.out⟩
          case measure => simp [intOf]; omega
      · have HE := Lib.hid (show LG s 0 [] = (out, -1) by rw [HLG.out]; exact LG_end (by omega))
        go_wp2
        go_ret2
        rw [HA.out, HE.out]
        exact ⟨_, rfl, HOW.out, HB.out⟩
end Go.Proofs.YtegjgbgnpkncbacGreatDoor
namespace Go.Proofs.YtegjgbgnpkncbacGreatDoor
open Go.RowKit
set_option linter.unusedVariables false

theorem ErrV.belowB {w w' : World} {B : Nat} (h : ErrV w) (hb : Below B w w') (hB : 0 < B) : ErrV w' := by
  unfold ErrV at *
  rw [hb.cell (p := ⟨0, 0, none⟩) hB]
  exact h
theorem ErrV.pos {w : World} (h : ErrV w) : 0 < w.heap.size := World.block_lt_of_cell? _ _ h
theorem ErrV.below {w w' : World} (h : ErrV w) (hb : Below w.heap.size w w') : ErrV w' := h.belowB hb h.pos
theorem ErrV.grown {w w' : World} {row : Option Nat} (h : ErrV w) (hg : w.grownBy w' row) (hne : some 0 ≠ row) : ErrV w' := (World.cell?_of_block (hg.block 0 h.pos hne)).trans h
/-- What readLexemes hands back, in plain words. -/
def RlA (s : ByteArray) (w : World) (e : Ending) (w' : World) : Prop :=
  ((∃ out v, lxA s = (out, -1) ∧ out.length ≤ 200 ∧ e = .returned (.tuple #[v, .nilIface]) ∧ w'.ownsRow w.heap.size 36 3 v out.length (fl fx out)) ∨
   (∃ p : Nat, lxA s = ([], (p : Int)) ∧ e = .returned (.tuple #[.slice none 0 0, .iface 76 (.agg #[.int .i64 p])]))) ∧ Below w.heap.size w w'
theorem readLexemes_all (s : ByteArray) (w : World) :
    Calls Tryz.prog 48 #[.string s] w (RlA s w) := by
  by_cases hs : s.size ≤ 2000
  · refine (readLexemes_any s w hs).mono ?_
    rintro e w' ⟨hc, hb⟩
    have hA : lxA s = LG s 0 [] := by rw [lxA, if_neg (by omega)]
    refine ⟨?_, hb⟩
    rcases hc with ⟨out, v, h1, h2, h3, h4⟩ | ⟨p, h1, h2⟩
    · exact .inl ⟨out, v, hA.trans h1, h2, h3, h4⟩
    · exact .inr ⟨p, hA.trans h1, h2⟩
  · have hA := Lib.hid (show lxA s = ([], 0) by rw [lxA, if_pos (by omega)])
    have hdec : decide (2000 < (s.size : Int)) = true := by simp; omega
    clear hs
    go_enter Tryz.func48, Tryz.ntmps48
    go_wp2
    go_ret2
    exact ⟨.inr ⟨0, hA.out, rfl⟩, Below.refl _ _⟩
set_option maxHeartbeats 1000000 in
theorem LexText_any (s : ByteArray) (w : World) (hg : ErrV w) :
    Calls Tryz.prog 31 #[.string s] w (LxOut w (lxA s)) := by
  have hp0 := hg.pos
  have HG := Lib.hid hg
  clear hg
  go_enter Tryz.func31, Tryz.ntmps31
  go_wp2_with fail
  refine (readLexemes_all s w).mono ?_
  rintro e w1 ⟨hcase, hb1⟩
  have HB1 := Lib.hid hb1
  have hsz1 := hb1.size
  clear hb1
  rcases hcase with ⟨out, v, hA, hl, rfl, hown⟩ | ⟨p, hA, rfl⟩
  · have HA := Lib.hid hA
    have HO := Lib.hid hown
    obtain ⟨A1, c1, rfl⟩ := own_slice hown
    clear hA hown
    go_wp2_with fail
    refine (as_nil _ _).mono ?_
    rintro e w' ⟨rfl, rfl⟩
    go_wp2
    go_ret2
    rw [HA.out]
    exact ⟨_, rfl, own_below HO.out ((Below.refl _ _).alloc (Nat.le_refl _) _), HB1.out.alloc hsz1 _⟩
  · have HA := Lib.hid hA
    clear hA
    go_wp2_with fail
    have hb2 := HB1.out.alloc hsz1 (.cells #[.int .i64 0] 76)
    refine (as_hit p w1.heap.size (.int .i64 0) _ (HG.out.belowB hb2 hp0) (by simp) (by simp)).mono ?_
    rintro e w' ⟨rfl, hw'⟩
    have hb' : Below w.heap.size w w' := by
      rw [hw']
      refine Below.setCell ?_ (by dsimp only; omega) _
      exact (((hb2.alloc (by simp; omega) _).alloc (by simp; omega) _).alloc (by simp; omega) _).alloc (by simp; omega) _
    have hc' : w'.cell? ⟨w1.heap.size, 0, none⟩ = some (.int .i64 p) := by
      rw [hw']
      refine World.cell?_setCell_same _ _ _ (u := .int .i64 0) ?_
      rw [World.cell?_alloc_lt _ _ ⟨w1.heap.size, 0, none⟩ (by simp; omega), World.cell?_alloc_lt _ _ ⟨w1.heap.size, 0, none⟩ (by simp; omega), World.cell?_alloc_lt _ _ ⟨w1.heap.size, 0, none⟩ (by simp; omega), World.cell?_alloc_lt _ _ ⟨w1.heap.size, 0, none⟩ (by simp)]
      simp
    clear hw' hb2
    have HB := Lib.hid hb'
    clear hb'
    go_wp2
    go_region_with (fail)
    go_wp2
    go_ret2
    rw [HA.out]
    exact ⟨_, rfl, own_nil _ _ _, HB.out.drew⟩
end Go.Proofs.YtegjgbgnpkncbacGreatDoor
namespace Go.Proofs.YtegjgbgnpkncbacGreatDoor
open Go.RowKit
set_option linter.unusedVariables false

/-- a row of one's own, from B on, wherever its spare places are. -/
def OR {α : Type} (f : α → List Value) (ty : TypeId) (w : World) (B : Nat) (v : Value) (l : List α) : Prop :=
  ((∃ A c, v = .slice A 0 c) ∧ l = []) ∨ ∃ g c rest, v = .slice (some ⟨g, 0, none⟩) l.length c ∧ B ≤ g ∧ BlkL w g ty (fl f l ++ rest)
section
variable {α : Type} {f : α → List Value} {z : Nat} {ty : TypeId} {w w' : World} {B : Nat} {v : Value} {l : List α}
theorem OR.form (h : OR f ty w B v l) : ∃ A c, v = .slice A l.length c := by
  rcases h with ⟨⟨A, c, rfl⟩, rfl⟩ | ⟨g, c, rest, rfl, _, _⟩
  · exact ⟨A, c, rfl⟩
  · exact ⟨_, c, rfl⟩
theorem OR.below (h : OR f ty w B v l) (hb : Below w.heap.size w w') : OR f ty w' B v l := by
  rcases h with h | ⟨g, c, rest, rfl, hB, hk⟩
  · exact .inl h
  · exact .inr ⟨g, c, rest, rfl, hB, hk.below hb hk.lt⟩
theorem OR.lowB (h : OR f ty w B v l) {C : Nat} (hc : C ≤ B) : OR f ty w C v l := by
  rcases h with h | ⟨g, c, rest, rfl, hB, hk⟩
  · exact .inl h
  · exact .inr ⟨g, c, rest, rfl, Nat.le_trans hc hB, hk⟩
theorem OR.keep (h : OR f ty w B v l) {row : Option Nat} (hg : w.grownBy w' row) (hne : ∀ g, v.ownBlock = some g → some g ≠ row) : OR f ty w' B v l := by
  rcases h with h | ⟨g, c, rest, rfl, hB, hk⟩
  · exact .inl h
  · exact .inr ⟨g, c, rest, rfl, hB, hk.grown hg (hne g rfl)⟩
theorem OR.rs (hf : ∀ t, (f t).length = z) {A : Option Addr} {n c : Nat} (h : OR f ty w B (.slice A n c) l) : RS f z w A l := by
  rcases h with ⟨_, rfl⟩ | ⟨g, c', rest, hv, hB, hk⟩
  · exact RS.nil _ _
  · injection hv with hA _ _
    subst hA
    exact RS.of_blkR hf hk
theorem OR.of_own (hf : ∀ t, (f t).length = z) {n : Nat} (hn : l.length = n) (h : w.ownsRow B ty z v n (fl f l)) : OR f ty w B v l := by
  rcases h.2 with ⟨rfl, h0⟩ | ⟨g, cap, cur, rfl, hB, hh, h1, h2⟩
  · refine .inl ⟨⟨_, _, rfl⟩, List.eq_nil_of_length_eq_zero (by omega)⟩
  · refine .inr ⟨g, cap, cur.toList.drop (n * z), by rw [hn], hB, ?_⟩
    unfold BlkL
    rw [← h2.2.2, List.take_append_drop]
    simpa using hh
theorem OR.of_blk {g : Nat} (hB : B ≤ g) {n c : Nat} (hn : l.length = n) (h : BlkL w g ty (fl f l)) : OR f ty w B (.slice (some ⟨g, 0, none⟩) n c) l :=
  .inr ⟨g, c, [], by rw [hn], hB, by simpa using h⟩
end
theorem OR.mk {α : Type} {f : α → List Value} {g : Nat} {ty : TypeId} {l l' : List α} {w : World} {B c : Nat} {rest : List Value} (hB : B ≤ g) (hl : l'.length = l.length) (h : BlkL w g ty (fl f l' ++ rest)) : OR f ty w B (.slice (some ⟨g, 0, none⟩) l.length c) l' :=
  .inr ⟨g, c, rest, by rw [hl], hB, h⟩
end Go.Proofs.YtegjgbgnpkncbacGreatDoor
namespace Go.Proofs.YtegjgbgnpkncbacGreatDoor
open Go.RowKit
set_option linter.unusedVariables false

theorem lxG_len (s : ByteArray) (f : Nat) : ∀ (a : Nat) (out : List Lx), out.length ≤ 200 → (lxG s f a out).1.length ≤ 200 := by
  induction f with
  | zero => intro a out h; exact h
  | succ f ih =>
    intro a out h
    simp only [lxG]
    split
    · exact h
    · split
      · exact ih _ _ h
      · split
        · simp
        · rename_i hr
          have := rd_cnt hr
          exact ih _ _ (by simp; omega)
theorem lxA_len (s : ByteArray) : (lxA s).1.length ≤ 200 := by
  unfold lxA
  split
  · simp
  · exact lxG_len s _ _ _ (by simp)
end Go.Proofs.YtegjgbgnpkncbacGreatDoor
