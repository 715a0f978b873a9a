/-
  The program's printer over a whole stream: putAll, printed.
-/
import Derived.Test.YthjkgbcomjiejabGreatDoorFf34
import Derived.Test.YthjkgbcomjiejabGreatDoorFf42
namespace Go.Proofs.YthjkgbcomjiejabGreatDoor
open Go.RowKit
set_option linter.unusedVariables false

theorem Pr.Bd.sm {s : Pr} {k : Nat} (h : s.Bd k) (hk : k ≤ 400) (hn : s.ms ≠ []) (hl : s.ms.length ≤ 13) : s.Sm :=
  ⟨by have := h.ln; omega, by have := h.reach; omega, by have := h.reach; omega, hn, by omega, by have := h.ms _ (s.top_mem hn); omega, h.kind _ (s.top_mem hn), by have := h.out; omega⟩
theorem run_sm (W : Int) {l : List Tk} (hS : strB l = true) {k : Nat} (hk : k ≤ l.length) : (run W l k).1.Sm := by
  have h4 := (strB_true hS).1
  have h := run_ms (W := W) hS hk
  exact (run_ok W hS k hk).1.sm (by omega) h.1 h.2

theorem TS.low {w w' : World} {B : Nat} {A : Option Addr} {l : List Tk} (h : TS w A l) (hl : ∀ b, A.map (·.block) = some b → b < B) (hb : Below B w w') : TS w' A l :=
  h.keep hb.size fun b j e _ => hb.cell (p := ⟨b, j, none⟩) (hl b e)
theorem chg_blk {w w' : World} {B g : Nat} {xs : List Value} (h : Chg B w w') (hg : BlkL w g 3 xs) : BlkL w' g 3 xs := (h.int g _ _ hg).trans hg
/-- what putAll leaves: the places that broke, in a row of its own, and the printer. -/
def AllPost (B p : Nat) (W : Int) (w : World) (l : List Tk) (n : Nat) (e : Ending) (w' : World) : Prop :=
  ∃ v, e = .returned v ∧ Below B w w' ∧ w'.ownsRow B 3 1 v (run W l n).2.length (nums (run W l n).2) ∧ ∃ vW vM, PA w' B p W (run W l n).1 vW vM

set_option maxHeartbeats 1000000 in
set_option maxRecDepth 100000 in
theorem putAll_blk {w : World} {rest : List Value} {B p g n c cs sl : Nat} {W : Int} {l : List Tk} {A : Option Addr} {vW vM : Value} (h : PA w B p W Pr.start vW vM) (hB : B ≤ w.heap.size) (hS : strB l = true) (hn : n ≤ l.length) (hW0 : 0 ≤ W) (hW1 : W ≤ 1000)
    (hts : TS w A l) (hlow : ∀ b, A.map (·.block) = some b → b < B) (hg : BlkL w g 3 (nums (szs l) ++ rest)) (hgB : B ≤ g) (hsl : sl = l.length) :
    Calls Tryz.prog 28 #[.pointer (some ⟨p, 0, none⟩), .slice A n c, .slice (some ⟨g, 0, none⟩) sl cs] w (fun e w' => AllPost B p W w l n e w' ∧ BlkL w' g 3 (nums (szs l) ++ rest)) := by
  obtain ⟨i0, hi, hz0, hz1, hz2⟩ := info_parts infoInt
  obtain ⟨h4, hok, _⟩ := strB_true hS
  have H := Lib.hid h
  have HS := Lib.hid hS
  have HT := Lib.hid hts
  have HG := Lib.hid hg
  have HOK := Lib.hid hok
  have HSL := Lib.hid hsl
  clear h hS hts hg hok hsl
  go_enter Tryz.func28, Tryz.ntmps28
  go_wp2
  go_loopw [7, 12] (fun v i wr => ∃ k : Nat, k ≤ n ∧ i = .int .i64 k ∧ wr.ownsRow B 3 1 v (run W l k).2.length (nums (run W l k).2) ∧ v.ownBlock ≠ some g ∧ (∃ vW vM, PA wr B p W (run W l k).1 vW vM) ∧ BlkL wr g 3 (nums (szs l) ++ rest) ∧ Below B w wr) (fun _ i _ => n - (intOf i).toNat)
  case atStart => exact ⟨0, Nat.zero_le _, rfl, World.ownsRow_nil _ _ _ _, by simp [Value.ownBlock], ⟨vW, vM, H.out⟩, HG.out, Below.refl _ _⟩
  case round =>
    obtain ⟨k, hk, rfl, hown, hne, ⟨vW1, vM1, hpa⟩, hbg, hbw⟩ := hrel
    have HO := Lib.hid hown
    have HNE := Lib.hid hne
    have HPA := Lib.hid hpa
    have HBG := Lib.hid hbg
    have HBW := Lib.hid hbw
    have hzw := hbw.size
    have hgl := hbg.lt
    by_cases hlt : k < n
    · obtain ⟨t, ht⟩ : ∃ t, l[k]? = some t := ⟨_, List.getElem?_eq_getElem (by omega)⟩
      obtain ⟨b, o, rfl, hbl, c0, c1, c2, c3⟩ := (HT.out.low hlow hbw) k t ht
      have g0 : wr.cell? ⟨g, k, none⟩ = some (.int .i64 (sizI l k t)) := (hbg.cell k).trans ((List.getElem?_append_left (by simp [nums, szs_length]; omega)).trans (nums_at (szs_at ht)))
      have htok := (okN_at HOK.out (show k < l.length by omega) ht).1
      have hkl : k < sl := by have := HSL.out; omega
      have HR := Lib.hid (run_succ (W := W) ht)
      have HPUT := Lib.hid (show ∀ V, Bw wr V → Calls Tryz.prog 49 #[.pointer (some ⟨p, 0, none⟩), .agg #[.int .i64 t.k, .string t.s, .int .i64 t.d, .int .i64 t.o], .int .i64 (sizI l k t)] V (PPost B p W V (.bool ((run W l k).1.put W t (sizI l k t)).2) ((run W l k).1.put W t (sizI l k t)).1) from
        fun V hV => put_any (PM.below HPA.out hV) (run_sm W HS.out (by omega)) (Nat.le_trans (Nat.le_trans hB hzw) hV.size) hW0 hW1 htok)
      have hrl : (run W l k).2.length ≤ k := (run_ok W HS.out k (by omega)).2.2.2
      have HTT := Lib.hid ht
      clear hown hne hpa hbg hbw ht
      cases hput : ((run W l k).1.put W t (sizI l k t)).2
      · go_wp2_with fail
        rw [hput] at HPUT
        go_region_with (first | ((with_reducible refine (HPUT.out _ ?_).mono ?_); exact Bw.a1 _ _; rintro e w2 ⟨rfl, hc2, vW2, vM2, hp2⟩; have HC2 := Lib.hid ((Chg.of_below (Bw.a1 wr _)).trans hc2); have HP2 := Lib.hid hp2; clear hc2 hp2))
        all_goals
          go_wp2
          go_roundw
          case rel =>
            refine ⟨k + 1, by omega, by go_num, ?_, HNE.out, ⟨vW2, vM2, ?_⟩, chg_blk HC2.out HBG.out, HBW.out.trans (HC2.out.below (by omega))⟩
            · rw [HR.out, hput]
              simpa using HC2.out.row HO.out
            · rw [HR.out]; exact HP2.out
          case measure => simp [intOf] <;> omega
      · rw [hput] at HPUT
        go_wp2_with fail
        go_region_with (first | ((with_reducible refine (HPUT.out _ ?_).mono ?_); exact Bw.a1 _ _; rintro e w2 ⟨rfl, hc2, vW2, vM2, hp2⟩; have HC2 := Lib.hid ((Chg.of_below (Bw.a1 wr _)).trans hc2); have HP2 := Lib.hid hp2; clear hc2 hp2))
        all_goals
          have HO2 := Lib.hid (HC2.out.row HO.out)
          have hz3 := HC2.out.size
          go_wp2_with (at_builtin; refine wpList_append_own_at _ rfl _ _ 48 rfl B 3 i0 (.int .i64 0) 1 8 Tryz.underlying48 hi hz0 hz1 hz2 rfl (by decide) _ _ _ rfl (HO2.out.alloc _) ⟨w2.heap.size, 0, none⟩ 1 1 [.int .i64 k] rfl rfl (cell_one_new _ _ _) (by simp [Value.oneCell']) (by simp only [maxLen]; omega) (by omega) (by simp; omega) ?_)
          intro v' w3 hown3 hgrow3 _ hat3
          have HO3 := Lib.hid hown3
          have HP3 := Lib.hid (PM.row_int (PM.alloc HP2.out _) (HO2.out.alloc _) hgrow3)
          have HB3 := Lib.hid (show Below B w w3 from (HBW.out.trans ((HC2.out.alloc _).below (by omega))).grown hgrow3 (by simp; omega) (fun q hq => (HO2.out.lt q hq).1))
          have HG3 := Lib.hid (show BlkL w3 g 3 (nums (szs l) ++ rest) from (BlkL.alloc (chg_blk HC2.out HBG.out) _).grown hgrow3 (fun e => HNE.out e.symm))
          have HN3 := Lib.hid (show v'.ownBlock ≠ some g from by
            rcases hat3 with h | h
            · rw [h]; exact HNE.out
            · rw [h]; simp; omega)
          clear hown3 hgrow3 hat3
          go_wp2
          go_roundw
          case rel =>
            refine ⟨k + 1, by omega, by go_num, ?_, HN3.out, ⟨vW2, vM2, ?_⟩, HG3.out, HB3.out⟩
            · rw [HR.out, hput]
              have := HO3.out
              simpa [nums] using this
            · rw [HR.out]; exact HP3.out
          case measure => simp [intOf] <;> omega
    · have hkn : k = n := by omega
      subst hkn
      go_wp2
      go_ret
      exact ⟨⟨_, rfl, HBW.out, HO.out, vW1, vM1, HPA.out⟩, HBG.out⟩

set_option maxHeartbeats 400000 in
set_option maxRecDepth 100000 in
theorem putAll_nil {w : World} {B p c : Nat} {W : Int} {l : List Tk} {A : Option Addr} {vW vM vS : Value} (h : PA w B p W Pr.start vW vM) :
    Calls Tryz.prog 28 #[.pointer (some ⟨p, 0, none⟩), .slice A 0 c, vS] w (AllPost B p W w l 0) := by
  have H := Lib.hid h
  clear h
  go_enter Tryz.func28, Tryz.ntmps28
  go_wp2
  refine wp_loop_rounds 1 ?_
  rw [rounds_succ]
  go_wp2
  go_ret
  exact ⟨_, rfl, Below.refl _ _, World.ownsRow_nil _ _ _ _, vW, vM, H.out⟩
theorem putAll_out {w : World} {B p n c cs : Nat} {W : Int} {l : List Tk} {A A2 : Option Addr} {vW vM : Value} (h : PA w B p W Pr.start vW vM) (hB : B ≤ w.heap.size) (hS : strB l = true) (hn : n ≤ l.length) (hW0 : 0 ≤ W) (hW1 : W ≤ 1000)
    (hts : TS w A l) (hlow : ∀ b, A.map (·.block) = some b → b < B) (hg : IntRow w A2 (szsB l)) (hgB : ∀ b, A2.map (·.block) = some b → B ≤ b) :
    Calls Tryz.prog 28 #[.pointer (some ⟨p, 0, none⟩), .slice A n c, .slice A2 (szsB l).length cs] w (AllPost B p W w l n) := by
  rw [szsB_yes hS] at hg ⊢
  rcases hg with ⟨rfl, h0⟩ | ⟨g, rest, rfl, hb⟩
  · have : l.length = 0 := by rw [← szs_length, h0]; rfl
    have hn0 : n = 0 := by omega
    subst hn0
    exact putAll_nil h
  · exact (putAll_blk h hB hS hn hW0 hW1 hts hlow hb (hgB g rfl) (szs_length l)).mono fun _ _ h => h.1
theorem putAll_row {w : World} {B p n c cs : Nat} {W : Int} {l : List Tk} {A A2 : Option Addr} {vW vM : Value} (h : PA w B p W Pr.start vW vM) (hB : B ≤ w.heap.size) (hS : strB l = true) (hn : n ≤ l.length) (hW0 : 0 ≤ W) (hW1 : W ≤ 1000)
    (hts : TS w A l) (hlow : ∀ b, A.map (·.block) = some b → b < B) (hg : IntRow w A2 (szsB l)) (hgB : ∀ b, A2.map (·.block) = some b → B ≤ b) :
    Calls Tryz.prog 28 #[.pointer (some ⟨p, 0, none⟩), .slice A n c, .slice A2 (szsB l).length cs] w (fun e w' => AllPost B p W w l n e w' ∧ IntRow w' A2 (szsB l)) := by
  rw [szsB_yes hS] at hg ⊢
  rcases hg with ⟨rfl, h0⟩ | ⟨g, rest, rfl, hb⟩
  · have : l.length = 0 := by rw [← szs_length, h0]; rfl
    have hn0 : n = 0 := by omega
    subst hn0
    exact (putAll_nil h).mono fun _ _ h => ⟨h, .inl ⟨rfl, h0⟩⟩
  · exact (putAll_blk h hB hS hn hW0 hW1 hts hlow hb (hgB g rfl) (szs_length l)).mono fun _ _ h => ⟨h.1, .inr ⟨g, rest, rfl, h.2⟩⟩
end Go.Proofs.YthjkgbcomjiejabGreatDoor
