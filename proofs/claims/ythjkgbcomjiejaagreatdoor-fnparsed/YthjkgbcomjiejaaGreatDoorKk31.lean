/-
  The model's places of children, and how many of them are no notes.
-/
import Derived.Test.YthjkgbcomjiejaaGreatDoorKk30
namespace Go.Proofs.YthjkgbcomjiejaaGreatDoor
open Go.RowKit
set_option linter.unusedVariables false

theorem infoI : (Tryz.prog.info? 3).map (fun i => (i.zero, i.size, i.bytes)) = some (some (.int .i64 0), 1, 8) := by kernel_rfl
/-- places as whole numbers. -/
def plc (ks : List Nat) : List Value := ks.map (fun (j : Nat) => Value.int .i64 (j : Int))
theorem plc_len (ks : List Nat) : (plc ks).length = ks.length := by simp [plc]
theorem plc_one (j : Nat) : ∀ u ∈ [Value.int .i64 (j : Int)], u.oneCell' = true := by
  intro u hu
  simp at hu
  subst hu
  rfl
theorem own_lit0 (w : World) (e : TypeId) : (w.alloc (.cells #[] e)).ownsRow w.heap.size e 1 (.slice (some ⟨w.heap.size, 0, none⟩) 0 0) 0 [] := by
  refine ⟨rfl, .inr ⟨w.heap.size, 0, #[], rfl, Nat.le_refl _, BlkL.new w e [], Nat.le_refl _, by unfold maxLen; omega, rfl, rfl⟩⟩
/-- a row of places of a call's own. -/
def PcOut (w : World) (ks : List Nat) (e : Ending) (w' : World) : Prop := ∃ v, e = .returned v ∧ w'.ownsRow w.heap.size 3 1 v ks.length (plc ks) ∧ Below w.heap.size w w'
theorem own_cells {w : World} {B n : Nat} {e : TypeId} {A : Option Addr} {c : Nat} {xs : List Value} (h : w.ownsRow B e 1 (.slice A n c) n xs) {j : Nat} (hj : j < n) : ∃ g, A = some ⟨g, 0, none⟩ ∧ g < w.heap.size ∧ w.cell? ⟨g, j, none⟩ = xs[j]? := by
  rcases h.2 with ⟨_, h0⟩ | ⟨g, cap, cur, e', hb, hg, _⟩
  · omega
  · injection e' with e1 _ e3
    subst e1 e3
    refine ⟨g, rfl, ?_, h.cellAt j (by omega)⟩
    rcases Nat.lt_or_ge g w.heap.size with hlt | hge
    · exact hlt
    · rw [Array.getElem?_eq_none hge] at hg; cases hg
set_option maxHeartbeats 4000000 in
set_option maxRecDepth 100000 in
theorem l07Kids_0 (A : Option Addr) (l : List Nd) (n c : Nat) (i : Nat) (w : World) (hn : l.length = n) (hm : n ≤ 2097152) (hl : NS w A l) (hup : UpTo l l.length) (hi : i = 0) :
    Calls Tryz.prog 31 #[.slice A n c, .int .i64 ((i : Int) - 1)] w (PcOut w (kidsN l i n)) := by
  obtain ⟨i0, hi0, hz0, hz1, hz2⟩ := info_parts infoI
  have HN := Lib.hid hn
  have HL := Lib.hid hl
  have HUP := Lib.hid hup
  clear hn hl hup
  subst hi
  have HE := Lib.hid (dep_zero l)
  have hDb : -1 ≤ dep l 0 ∧ dep l 0 ≤ 12 := by rw [dep_zero]; omega
  have hin : 0 ≤ n := Nat.zero_le _
  rw [show (((0 : Nat) : Int) - 1) = -1 from rfl]
  go_enter Tryz.func31, Tryz.ntmps31
  go_wp2
  have hDb' : -1 ≤ (-1 : Int) ∧ (-1 : Int) ≤ 12 := by have := HE.out; omega
  go_loopw [5, 7] (fun v iv wr => ∃ a : Nat, 0 ≤ a ∧ a ≤ n ∧ iv = .int .i64 a ∧ wr.ownsRow w.heap.size 3 1 v (kidsN l 0 a).length (plc (kidsN l 0 a)) ∧ (∀ m, 0 < m → m ≤ a → dep l 0 < dep l m) ∧ Below w.heap.size w wr) (fun _ iv _ => n - (intOf iv).toNat)
  case atStart => exact ⟨0, Nat.le_refl _, hin, by first | rfl | (congr 1; omega), by rw [kidsN_low]; exact own_lit0 w 3, fun m h1 h2 => by omega, (Below.refl _ _).alloc (Nat.le_refl _) _⟩
  case round =>
    obtain ⟨a, hia, han, rfl, hown, hbt, hb⟩ := hrel
    have HO := Lib.hid hown
    have HBT := Lib.hid hbt
    have HB := Lib.hid hb
    have hsz := hb.size
    obtain ⟨Av, cv, hAv⟩ := own_slice hown
    subst hAv
    have hkl := kidsN_len l 0 a
    clear hown hbt hb
    by_cases hlt : a < n
    · obtain ⟨y, b', o', hy, hA, hbl'', _⟩ := HL.out.all (k := a) (by have := HN.out; omega)
      subst hA
      obtain ⟨hbl', d0, _, _⟩ := NS.get (HL.out.below HB.out) hy
      have hdy := dep_succ hy
      have HY := Lib.hid hdy
      obtain ⟨Y, hYd⟩ : ∃ Y, y.d = Y := ⟨_, rfl⟩
      rw [hYd] at d0 hdy
      have HYY := Lib.hid hdy
      clear hy hdy
      by_cases hgt : -1 < Y
      · have HB2 := Lib.hid (show ∀ m, 0 < m → m ≤ a + 1 → dep l 0 < dep l m by
          intro m h1 h2
          by_cases e : m = a + 1
          · subst e; rw [HE.out, HYY.out]; exact hgt
          · exact HBT.out m h1 (by omega))
        have HK := Lib.hid (kids_walk HUP.out hia (by have := HN.out; omega) HBT.out (by rw [HE.out, HYY.out]; exact hgt))
        have hgtb : decide (-1 < Y) = true := by simpa using hgt
        clear hgt
        by_cases heq : Y = -1 + 1
        · have hk1 := HK.out
          rw [if_pos (by rw [HE.out, HYY.out]; exact heq)] at hk1
          have HK1 := Lib.hid hk1
          have heqb : (Y == -1 + 1) = true := by simpa using heq
          clear hk1 heq
          have hS := BlkL.new wr 3 [.int .i64 (a : Int)]
          have hb3 := (Below.refl wr.heap.size wr).alloc (Nat.le_refl _) (.cells #[.int .i64 (a : Int)] 3)
          have HO3 := Lib.hid (own_below HO.out hb3)
          have HB3 := Lib.hid (HB.out.trans (hb3.mono hsz))
          have HS := Lib.hid hS
          have hz3 : w.heap.size ≤ (wr.alloc (.cells #[.int .i64 (a : Int)] 3)).heap.size := HB3.out.size
          clear hS hb3
          go_wp2_with (at_builtin; refine wpList_append_own_at _ rfl _ _ 37 rfl w.heap.size 3 i0 (.int .i64 0) 1 8 Tryz.underlying37 hi0 hz0 hz1 hz2 rfl (by decide) _ _ _ rfl HO3.out ⟨wr.heap.size, 0, none⟩ 1 1 [.int .i64 (a : Int)] rfl rfl (fun j u hj => by rw [Addr.add_lit, Nat.zero_add]; exact (HS.out.cell j).trans hj) (plc_one _) (by simp only [maxLen]; omega) (by omega) hz3 ?_)
          intro v' w5 hown5 hgr5 _ _
          have HB5 := Lib.hid (HB3.out.grown hgr5 hz3 (fun g hg => (HO3.out.lt g hg).1))
          obtain ⟨A5, c5, rfl⟩ := own_slice hown5
          have HO5 := Lib.hid hown5
          clear hown5 hgr5 HO3 HB3 HS
          go_wp2
          go_roundw
          case rel => exact ⟨a + 1, by omega, by omega, by go_num, by rw [HK1.out, plc, List.map_append]; simpa [plc] using HO5.out, HB2.out, HB5.out⟩
          case measure => simp [intOf]; omega
        · have hk1 := HK.out
          rw [if_neg (by rw [HE.out, HYY.out]; exact heq), List.append_nil] at hk1
          have HK1 := Lib.hid hk1
          have heqb : (Y == -1 + 1) = false := by simpa using heq
          clear hk1 heq
          go_wp2
          go_roundw
          case rel => exact ⟨a + 1, by omega, by omega, by go_num, by rw [HK1.out]; exact HO.out, HB2.out, HB.out⟩
          case measure => simp [intOf]; omega
      · have HK := Lib.hid (kids_end HUP.out hia (by have := HN.out; omega) (show dep l (a + 1) ≤ dep l 0 by rw [HE.out, HYY.out]; omega))
        have hgtb : decide (-1 < Y) = false := by simpa using hgt
        clear hgt
        go_wp2
        go_ret
        refine ⟨_, rfl, ?_, HB.out⟩
        have hk := HK.out
        rw [HN.out] at hk
        rw [hk]
        exact HO.out
    · obtain rfl : a = n := by omega
      go_wp2
      go_ret
      exact ⟨_, rfl, HO.out, HB.out⟩
set_option maxHeartbeats 4000000 in
set_option maxRecDepth 100000 in
theorem l07Kids_1 (A : Option Addr) (l : List Nd) (n c : Nat) (i : Nat) (w : World) (hn : l.length = n) (hm : n ≤ 2097152) (hl : NS w A l) (hup : UpTo l l.length) (hi : 0 < i) (hin : i ≤ n) :
    Calls Tryz.prog 31 #[.slice A n c, .int .i64 ((i : Int) - 1)] w (PcOut w (kidsN l i n)) := by
  obtain ⟨i0, hi0, hz0, hz1, hz2⟩ := info_parts infoI
  have HN := Lib.hid hn
  have HL := Lib.hid hl
  have HUP := Lib.hid hup
  clear hn hl hup
  obtain ⟨j, rfl⟩ : ∃ j, i = j + 1 := ⟨i - 1, by omega⟩
  have hie : (((j + 1 : Nat) : Int) - 1) = (j : Int) := by omega
  rw [hie]
  obtain ⟨x, b, o, hx, rfl, hbl, c0, c1, c2⟩ := HL.out.all (k := j) (by have := HN.out; omega)
  have hDb := HUP.out.dep (i := j + 1) (by have := HN.out; omega)
  have hE := dep_succ hx
  obtain ⟨D, hD⟩ : ∃ D, x.d = D := ⟨_, rfl⟩
  rw [hD] at hE c0
  have HE := Lib.hid hE
  clear hx c1 c2 hie hD hE
  go_enter Tryz.func31, Tryz.ntmps31
  go_wp2
  clear c0
  have hDb' : -1 ≤ (D : Int) ∧ (D : Int) ≤ 12 := by have := HE.out; omega
  go_loopw [5, 7] (fun v iv wr => ∃ a : Nat, (j + 1) ≤ a ∧ a ≤ n ∧ iv = .int .i64 a ∧ wr.ownsRow w.heap.size 3 1 v (kidsN l (j + 1) a).length (plc (kidsN l (j + 1) a)) ∧ (∀ m, (j + 1) < m → m ≤ a → dep l (j + 1) < dep l m) ∧ Below w.heap.size w wr) (fun _ iv _ => n - (intOf iv).toNat)
  case atStart => exact ⟨(j + 1), Nat.le_refl _, hin, by first | rfl | (congr 1; omega), by rw [kidsN_low]; exact own_lit0 w 3, fun m h1 h2 => by omega, (Below.refl _ _).alloc (Nat.le_refl _) _⟩
  case round =>
    obtain ⟨a, hia, han, rfl, hown, hbt, hb⟩ := hrel
    have HO := Lib.hid hown
    have HBT := Lib.hid hbt
    have HB := Lib.hid hb
    have hsz := hb.size
    obtain ⟨Av, cv, hAv⟩ := own_slice hown
    subst hAv
    have hkl := kidsN_len l (j + 1) a
    clear hown hbt hb
    by_cases hlt : a < n
    · obtain ⟨y, b', o', hy, hA, hbl'', _⟩ := HL.out.all (k := a) (by have := HN.out; omega)
      injection hA with hA
      injection hA with e1 e2 _
      subst e1 e2
      obtain ⟨hbl', d0, _, _⟩ := NS.get (HL.out.below HB.out) hy
      have hdy := dep_succ hy
      have HY := Lib.hid hdy
      obtain ⟨Y, hYd⟩ : ∃ Y, y.d = Y := ⟨_, rfl⟩
      rw [hYd] at d0 hdy
      have HYY := Lib.hid hdy
      clear hy hdy
      by_cases hgt : D < Y
      · have HB2 := Lib.hid (show ∀ m, (j + 1) < m → m ≤ a + 1 → dep l (j + 1) < dep l m by
          intro m h1 h2
          by_cases e : m = a + 1
          · subst e; rw [HE.out, HYY.out]; exact hgt
          · exact HBT.out m h1 (by omega))
        have HK := Lib.hid (kids_walk HUP.out hia (by have := HN.out; omega) HBT.out (by rw [HE.out, HYY.out]; exact hgt))
        have hgtb : decide (D < Y) = true := by simpa using hgt
        clear hgt
        by_cases heq : Y = D + 1
        · have hk1 := HK.out
          rw [if_pos (by rw [HE.out, HYY.out]; exact heq)] at hk1
          have HK1 := Lib.hid hk1
          have heqb : (Y == D + 1) = true := by simpa using heq
          clear hk1 heq
          have hS := BlkL.new wr 3 [.int .i64 (a : Int)]
          have hb3 := (Below.refl wr.heap.size wr).alloc (Nat.le_refl _) (.cells #[.int .i64 (a : Int)] 3)
          have HO3 := Lib.hid (own_below HO.out hb3)
          have HB3 := Lib.hid (HB.out.trans (hb3.mono hsz))
          have HS := Lib.hid hS
          have hz3 : w.heap.size ≤ (wr.alloc (.cells #[.int .i64 (a : Int)] 3)).heap.size := HB3.out.size
          clear hS hb3
          go_wp2_with (at_builtin; refine wpList_append_own_at _ rfl _ _ 37 rfl w.heap.size 3 i0 (.int .i64 0) 1 8 Tryz.underlying37 hi0 hz0 hz1 hz2 rfl (by decide) _ _ _ rfl HO3.out ⟨wr.heap.size, 0, none⟩ 1 1 [.int .i64 (a : Int)] rfl rfl (fun j u hj => by rw [Addr.add_lit, Nat.zero_add]; exact (HS.out.cell j).trans hj) (plc_one _) (by simp only [maxLen]; omega) (by omega) hz3 ?_)
          intro v' w5 hown5 hgr5 _ _
          have HB5 := Lib.hid (HB3.out.grown hgr5 hz3 (fun g hg => (HO3.out.lt g hg).1))
          obtain ⟨A5, c5, rfl⟩ := own_slice hown5
          have HO5 := Lib.hid hown5
          clear hown5 hgr5 HO3 HB3 HS
          go_wp2
          go_roundw
          case rel => exact ⟨a + 1, by omega, by omega, by go_num, by rw [HK1.out, plc, List.map_append]; simpa [plc] using HO5.out, HB2.out, HB5.out⟩
          case measure => simp [intOf]; omega
        · have hk1 := HK.out
          rw [if_neg (by rw [HE.out, HYY.out]; exact heq), List.append_nil] at hk1
          have HK1 := Lib.hid hk1
          have heqb : (Y == D + 1) = false := by simpa using heq
          clear hk1 heq
          go_wp2
          go_roundw
          case rel => exact ⟨a + 1, by omega, by omega, by go_num, by rw [HK1.out]; exact HO.out, HB2.out, HB.out⟩
          case measure => simp [intOf]; omega
      · have HK := Lib.hid (kids_end HUP.out hia (by have := HN.out; omega) (show dep l (a + 1) ≤ dep l (j + 1) by rw [HE.out, HYY.out]; omega))
        have hgtb : decide (D < Y) = false := by simpa using hgt
        clear hgt
        go_wp2
        go_ret
        refine ⟨_, rfl, ?_, HB.out⟩
        have hk := HK.out
        rw [HN.out] at hk
        rw [hk]
        exact HO.out
    · obtain rfl : a = n := by omega
      go_wp2
      go_ret
      exact ⟨_, rfl, HO.out, HB.out⟩
theorem l07Kids_any (A : Option Addr) (l : List Nd) (n c : Nat) (i : Nat) (w : World) (hn : l.length = n) (hm : n ≤ 2097152) (hl : NS w A l) (hup : UpTo l l.length) (hin : i ≤ n) :
    Calls Tryz.prog 31 #[.slice A n c, .int .i64 ((i : Int) - 1)] w (PcOut w (kidsN l i n)) := by
  by_cases h : i = 0
  · exact l07Kids_0 A l n c i w hn hm hl hup h
  · exact l07Kids_1 A l n c i w hn hm hl hup (by omega) hin
set_option maxHeartbeats 4000000 in
set_option maxRecDepth 100000 in
theorem l07Plain_any (A : Option Addr) (l : List Nd) (n c : Nat) (A2 : Option Addr) (ks : List Nat) (B m c2 : Nat) (w : World) (hn : l.length = n) (hm : n ≤ 2097152) (hl : NS w A l) (hks : ∀ x ∈ ks, x < n) (hmk : ks.length ≤ 2097152) (hm2 : ks.length = m) (ho : w.ownsRow B 3 1 (.slice A2 m c2) m (plc ks)) :
    Calls Tryz.prog 30 #[.slice A n c, .slice A2 m c2] w fun e w' => e = .returned (.int .i64 (plainN l ks)) ∧ w = w' := by
  have HN := Lib.hid hn
  have HL := Lib.hid hl
  have HK := Lib.hid hks
  have HO := Lib.hid ho
  have HM := Lib.hid hm2
  have hm3 : m ≤ 2097152 := by omega
  clear hn hl hks ho hm2
  go_enter Tryz.func30, Tryz.ntmps30
  go_wp2
  go_loopw [5, 6] (fun nv iv wr => ∃ j : Nat, j ≤ m ∧ iv = .int .i64 j ∧ nv = .int .i64 (plainN l (ks.take j)) ∧ wr = w) (fun _ iv _ => m - (intOf iv).toNat)
  case atStart => exact ⟨0, Nat.zero_le _, rfl, rfl, rfl⟩
  case round =>
    obtain ⟨j, hj, rfl, rfl, rfl⟩ := hrel
    by_cases hjl : j < m
    · have hx := List.getElem?_eq_getElem (show j < ks.length by have := HM.out; omega)
      obtain ⟨x, hx'⟩ : ∃ x, ks[j]'(by have := HM.out; omega) = x := ⟨_, rfl⟩
      rw [hx'] at hx
      obtain ⟨g, rfl, hgl, cg⟩ := own_cells HO.out hjl
      have cg' : wr.cell? ⟨g, j, none⟩ = some (.int .i64 (x : Int)) := by rw [cg]; simp [plc, hx]
      have hxn := HK.out x (List.mem_of_getElem? hx)
      obtain ⟨y, b, o, hy, rfl, hbl, c0, c1, c2'⟩ := HL.out.all (k := x) (by have := HN.out; omega)
      have hky := knd_succ hy
      have HST := Lib.hid (plainN_step (l := l) hx)
      have hpl := plainN_le l (ks.take j)
      have hpl2 : plainN l (ks.take j) ≤ 2097152 := by simp at hpl; omega
      clear cg hx hx' hy c0 c2' hpl
      rw [hky] at HST
      by_cases h2 : y.k = 2
      · have HE := Lib.hid (show plainN l (ks.take (j + 1)) = plainN l (ks.take j) by rw [HST.out, if_pos h2]; rfl)
        rw [h2] at c1
        go_wp2
        go_roundw
        case rel => exact ⟨j + 1, by omega, by go_num, by rw [HE.out], trivial⟩
        case measure => simp [intOf]; omega
      · have HE := Lib.hid (show plainN l (ks.take (j + 1)) = plainN l (ks.take j) + 1 by rw [HST.out, if_neg h2])
        have b1 : (y.k == 2) = false := by simpa using h2
        have b2 : (y.k != 2) = true := by simpa using h2
        clear h2
        go_wp2
        go_roundw
        case rel => exact ⟨j + 1, by omega, by go_num, by rw [HE.out]; go_num, trivial⟩
        case measure => simp [intOf]; omega
    · have e : ks.take j = ks := List.take_of_length_le (by have := HM.out; omega)
      rw [e]
      go_wp2
      go_ret
      exact ⟨rfl, rfl⟩
end Go.Proofs.YthjkgbcomjiejaaGreatDoor
