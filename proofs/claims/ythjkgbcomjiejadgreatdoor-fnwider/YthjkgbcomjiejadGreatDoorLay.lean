/-
  Layout, BreaksOf, LinesIn, MarksAt of the program.
-/
import Derived.Test.YthjkgbcomjiejadGreatDoorPut
import Derived.Test.YthjkgbcomjiejadGreatDoorSizs
import Derived.Test.YthjkgbcomjiejadGreatDoorStrm
namespace Go.Proofs.YthjkgbcomjiejadGreatDoor
open Go.RowKit
set_option linter.unusedVariables false

theorem Pr.Bd.sm {s : Pr} {k : Nat} (h : s.Bd k) (hk : k ≤ 400) (hn : s.ms ≠ []) (hl : s.ms.length ≤ 13) : s.Sm :=
  ⟨by have := h.ln; omega, by have := h.reach; omega, by have := h.reach; omega, hn, by omega, by have := h.ms _ (s.top_mem hn); omega, h.kind _ (s.top_mem hn), by have := h.out; omega⟩
theorem run_sm (W : Int) {l : List Tk} (hS : strB l = true) {k : Nat} (hk : k ≤ l.length) : (run W l k).1.Sm := by
  have h4 := (strB_true hS).1
  have h := run_ms (W := W) hS hk
  exact (run_ok W hS k hk).1.sm (by omega) h.1 h.2

theorem TS.low {w w' : World} {B : Nat} {A : Option Addr} {l : List Tk} (h : TS w A l) (hl : ∀ b, A.map (·.block) = some b → b < B) (hb : Below B w w') : TS w' A l :=
  h.keep hb.size fun b j e _ => hb.cell (p := ⟨b, j, none⟩) (hl b e)
theorem chg_blk {w w' : World} {B g : Nat} {xs : List Value} (h : Chg B w w') (hg : BlkL w g 3 xs) : BlkL w' g 3 xs := (h.int g _ _ hg).trans hg
/-- what putAll leaves: the places that broke, in a row of its own, and the printer. -/
def AllPost (B p : Nat) (W : Int) (w : World) (l : List Tk) (n : Nat) (e : Ending) (w' : World) : Prop :=
  ∃ v, e = .returned v ∧ Below B w w' ∧ w'.ownsRow B 3 1 v (run W l n).2.length (nums (run W l n).2) ∧ ∃ vW vM, PA w' B p W (run W l n).1 vW vM

set_option maxHeartbeats 1000000 in
set_option maxRecDepth 100000 in
theorem putAll_blk {w : World} {rest : List Value} {B p g n c cs sl : Nat} {W : Int} {l : List Tk} {A : Option Addr} {vW vM : Value} (h : PA w B p W Pr.start vW vM) (hB : B ≤ w.heap.size) (hS : strB l = true) (hn : n ≤ l.length) (hW0 : 0 ≤ W) (hW1 : W ≤ 1000)
    (hts : TS w A l) (hlow : ∀ b, A.map (·.block) = some b → b < B) (hg : BlkL w g 3 (nums (szs l) ++ rest)) (hgB : B ≤ g) (hsl : sl = l.length) :
    Calls Tryz.prog 56 #[.pointer (some ⟨p, 0, none⟩), .slice A n c, .slice (some ⟨g, 0, none⟩) sl cs] w (fun e w' => AllPost B p W w l n e w' ∧ BlkL w' g 3 (nums (szs l) ++ rest)) := by
  obtain ⟨i0, hi, hz0, hz1, hz2⟩ := info_parts infoInt
  obtain ⟨h4, hok, _⟩ := strB_true hS
  have H := Lib.hid h
  have HS := Lib.hid hS
  have HT := Lib.hid hts
  have HG := Lib.hid hg
  have HOK := Lib.hid hok
  have HSL := Lib.hid hsl
  clear h hS hts hg hok hsl
  go_enter Tryz.func56, Tryz.ntmps56
  go_wp2
  go_loopw [7, 12] (fun v i wr => ∃ k : Nat, k ≤ n ∧ i = .int .i64 k ∧ wr.ownsRow B 3 1 v (run W l k).2.length (nums (run W l k).2) ∧ v.ownBlock ≠ some g ∧ (∃ vW vM, PA wr B p W (run W l k).1 vW vM) ∧ BlkL wr g 3 (nums (szs l) ++ rest) ∧ Below B w wr) (fun _ i _ => n - (intOf i).toNat)
  case atStart => exact ⟨0, Nat.zero_le _, rfl, World.ownsRow_nil _ _ _ _, by simp [Value.ownBlock], ⟨vW, vM, H.out⟩, HG.out, Below.refl _ _⟩
  case round =>
    obtain ⟨k, hk, rfl, hown, hne, ⟨vW1, vM1, hpa⟩, hbg, hbw⟩ := hrel
    have HO := Lib.hid hown
    have HNE := Lib.hid hne
    have HPA := Lib.hid hpa
    have HBG := Lib.hid hbg
    have HBW := Lib.hid hbw
    have hzw := hbw.size
    have hgl := hbg.lt
    by_cases hlt : k < n
    · obtain ⟨t, ht⟩ : ∃ t, l[k]? = some t := ⟨_, List.getElem?_eq_getElem (by omega)⟩
      obtain ⟨b, o, rfl, hbl, c0, c1, c2, c3⟩ := (HT.out.low hlow hbw) k t ht
      have g0 : wr.cell? ⟨g, k, none⟩ = some (.int .i64 (sizI l k t)) := (hbg.cell k).trans ((List.getElem?_append_left (by simp [nums, szs_length]; omega)).trans (nums_at (szs_at ht)))
      have htok := (okN_at HOK.out (show k < l.length by omega) ht).1
      have hkl : k < sl := by have := HSL.out; omega
      have HR := Lib.hid (run_succ (W := W) ht)
      have HPUT := Lib.hid (show ∀ V, Bw wr V → Calls Tryz.prog 105 #[.pointer (some ⟨p, 0, none⟩), .agg #[.int .i64 t.k, .string t.s, .int .i64 t.d, .int .i64 t.o], .int .i64 (sizI l k t)] V (PPost B p W V (.bool ((run W l k).1.put W t (sizI l k t)).2) ((run W l k).1.put W t (sizI l k t)).1) from
        fun V hV => put_any (PM.below HPA.out hV) (run_sm W HS.out (by omega)) (Nat.le_trans (Nat.le_trans hB hzw) hV.size) hW0 hW1 htok)
      have hrl : (run W l k).2.length ≤ k := (run_ok W HS.out k (by omega)).2.2.2
      have HTT := Lib.hid ht
      clear hown hne hpa hbg hbw ht
      cases hput : ((run W l k).1.put W t (sizI l k t)).2
      · go_wp2_with fail
        rw [hput] at HPUT
        go_region_with (first | ((with_reducible refine (HPUT.out _ ?_).mono ?_); exact Bw.a1 _ _; rintro e w2 ⟨rfl, hc2, vW2, vM2, hp2⟩; have HC2 := Lib.hid ((Chg.of_below (Bw.a1 wr _)).trans hc2); have HP2 := Lib.hid hp2; clear hc2 hp2))
        all_goals
          go_wp2
          go_roundw
          case rel =>
            refine ⟨k + 1, by omega, by go_num, ?_, HNE.out, ⟨vW2, vM2, ?_⟩, chg_blk HC2.out HBG.out, HBW.out.trans (HC2.out.below (by omega))⟩
            · rw [HR.out, hput]
              simpa using HC2.out.row HO.out
            · rw [HR.out]; exact HP2.out
          case measure => simp [intOf] <;> omega
      · rw [hput] at HPUT
        go_wp2_with fail
        go_region_with (first | ((with_reducible refine (HPUT.out _ ?_).mono ?_); exact Bw.a1 _ _; rintro e w2 ⟨rfl, hc2, vW2, vM2, hp2⟩; have HC2 := Lib.hid ((Chg.of_below (Bw.a1 wr _)).trans hc2); have HP2 := Lib.hid hp2; clear hc2 hp2))
        all_goals
          have HO2 := Lib.hid (HC2.out.row HO.out)
          have hz3 := HC2.out.size
          go_wp2_with (at_builtin; refine wpList_append_own_at _ rfl _ _ 57 rfl B 3 i0 (.int .i64 0) 1 8 Tryz.underlying57 hi hz0 hz1 hz2 rfl (by decide) _ _ _ rfl (HO2.out.alloc _) ⟨w2.heap.size, 0, none⟩ 1 1 [.int .i64 k] rfl rfl (cell_one_new _ _ _) (by simp [Value.oneCell']) (by simp only [maxLen]; omega) (by omega) (by simp; omega) ?_)
          intro v' w3 hown3 hgrow3 _ hat3
          have HO3 := Lib.hid hown3
          have HP3 := Lib.hid (PM.row_int (PM.alloc HP2.out _) (HO2.out.alloc _) hgrow3)
          have HB3 := Lib.hid (show Below B w w3 from (HBW.out.trans ((HC2.out.alloc _).below (by omega))).grown hgrow3 (by simp; omega) (fun q hq => (HO2.out.lt q hq).1))
          have HG3 := Lib.hid (show BlkL w3 g 3 (nums (szs l) ++ rest) from (BlkL.alloc (chg_blk HC2.out HBG.out) _).grown hgrow3 (fun e => HNE.out e.symm))
          have HN3 := Lib.hid (show v'.ownBlock ≠ some g from by
            rcases hat3 with h | h
            · rw [h]; exact HNE.out
            · rw [h]; simp; omega)
          clear hown3 hgrow3 hat3
          go_wp2
          go_roundw
          case rel =>
            refine ⟨k + 1, by omega, by go_num, ?_, HN3.out, ⟨vW2, vM2, ?_⟩, HG3.out, HB3.out⟩
            · rw [HR.out, hput]
              have := HO3.out
              simpa [nums] using this
            · rw [HR.out]; exact HP3.out
          case measure => simp [intOf] <;> omega
    · have hkn : k = n := by omega
      subst hkn
      go_wp2
      go_ret
      exact ⟨⟨_, rfl, HBW.out, HO.out, vW1, vM1, HPA.out⟩, HBG.out⟩

set_option maxHeartbeats 400000 in
set_option maxRecDepth 100000 in
theorem putAll_nil {w : World} {B p c : Nat} {W : Int} {l : List Tk} {A : Option Addr} {vW vM vS : Value} (h : PA w B p W Pr.start vW vM) :
    Calls Tryz.prog 56 #[.pointer (some ⟨p, 0, none⟩), .slice A 0 c, vS] w (AllPost B p W w l 0) := by
  have H := Lib.hid h
  clear h
  go_enter Tryz.func56, Tryz.ntmps56
  go_wp2
  refine wp_loop_rounds 1 ?_
  rw [rounds_succ]
  go_wp2
  go_ret
  exact ⟨_, rfl, Below.refl _ _, World.ownsRow_nil _ _ _ _, vW, vM, H.out⟩
theorem putAll_out {w : World} {B p n c cs : Nat} {W : Int} {l : List Tk} {A A2 : Option Addr} {vW vM : Value} (h : PA w B p W Pr.start vW vM) (hB : B ≤ w.heap.size) (hS : strB l = true) (hn : n ≤ l.length) (hW0 : 0 ≤ W) (hW1 : W ≤ 1000)
    (hts : TS w A l) (hlow : ∀ b, A.map (·.block) = some b → b < B) (hg : IntRow w A2 (szsB l)) (hgB : ∀ b, A2.map (·.block) = some b → B ≤ b) :
    Calls Tryz.prog 56 #[.pointer (some ⟨p, 0, none⟩), .slice A n c, .slice A2 (szsB l).length cs] w (AllPost B p W w l n) := by
  rw [szsB_yes hS] at hg ⊢
  rcases hg with ⟨rfl, h0⟩ | ⟨g, rest, rfl, hb⟩
  · have : l.length = 0 := by rw [← szs_length, h0]; rfl
    have hn0 : n = 0 := by omega
    subst hn0
    exact putAll_nil h
  · exact (putAll_blk h hB hS hn hW0 hW1 hts hlow hb (hgB g rfl) (szs_length l)).mono fun _ _ h => h.1
theorem putAll_row {w : World} {B p n c cs : Nat} {W : Int} {l : List Tk} {A A2 : Option Addr} {vW vM : Value} (h : PA w B p W Pr.start vW vM) (hB : B ≤ w.heap.size) (hS : strB l = true) (hn : n ≤ l.length) (hW0 : 0 ≤ W) (hW1 : W ≤ 1000)
    (hts : TS w A l) (hlow : ∀ b, A.map (·.block) = some b → b < B) (hg : IntRow w A2 (szsB l)) (hgB : ∀ b, A2.map (·.block) = some b → B ≤ b) :
    Calls Tryz.prog 56 #[.pointer (some ⟨p, 0, none⟩), .slice A n c, .slice A2 (szsB l).length cs] w (fun e w' => AllPost B p W w l n e w' ∧ IntRow w' A2 (szsB l)) := by
  rw [szsB_yes hS] at hg ⊢
  rcases hg with ⟨rfl, h0⟩ | ⟨g, rest, rfl, hb⟩
  · have : l.length = 0 := by rw [← szs_length, h0]; rfl
    have hn0 : n = 0 := by omega
    subst hn0
    exact (putAll_nil h).mono fun _ _ h => ⟨h, .inl ⟨rfl, h0⟩⟩
  · exact (putAll_blk h hB hS hn hW0 hW1 hts hlow hb (hgB g rfl) (szs_length l)).mono fun _ _ h => ⟨h.1, .inr ⟨g, rest, rfl, h.2⟩⟩
end Go.Proofs.YthjkgbcomjiejadGreatDoor
namespace Go.Proofs.YthjkgbcomjiejadGreatDoor
open Go.RowKit
set_option linter.unusedVariables false

def NewPost (W : Int) (w : World) (e : Ending) (w' : World) : Prop :=
  ∃ p vM, e = .returned (.pointer (some ⟨p, 0, none⟩)) ∧ Below w.heap.size w w' ∧ PA w' w.heap.size p W Pr.start (.slice none 0 0) vM
set_option maxHeartbeats 1000000 in
set_option maxRecDepth 100000 in
theorem newPrinter_any (W : Int) (w : World) : Calls Tryz.prog 55 #[.int .i64 W] w (NewPost W w) := by
  go_enter Tryz.func55, Tryz.ntmps55
  go_wp2
  have h1 := BlkL.new w 144 [.int .i64 2, .int .i64 0]
  have h2 := BlkL.new (w.alloc (.cells #[.int .i64 2, .int .i64 0] 144)) 100 [.complex .f64 0 0, .int .i64 0, .slice none 0 0, .int .i64 W, .slice (some ⟨w.heap.size, 0, none⟩) 1 1]
  rw [World.size_alloc] at h2
  have h3 := World.ownsRow_lit (base := w.heap.size) (e := 144) (size := 2) w #[.int .i64 2, .int .i64 0] 1 (Nat.le_refl _) (by simp only [maxLen]; omega) rfl
  go_ret
  refine ⟨w.heap.size + 1, .slice (some ⟨w.heap.size, 0, none⟩) 1 1, rfl, ((Below.refl _ _).alloc (Nat.le_refl _) _).alloc (by simp) _, ?_⟩
  exact ⟨by omega, h2, World.ownsRow_nil _ _ _ _, h3.alloc _, by decide, by decide, by decide, by decide, by decide⟩

theorem PM.mono {w : World} {B B' p : Nat} {tp tm : TypeId} {cs : List Value} {vW vM : Value} {out : List UInt8} {ms : List (Nat × Nat)} (h : PM w B p tp tm cs vW vM out ms) (hB : B' ≤ B) : PM w B' p tp tm cs vW vM out ms :=
  ⟨Nat.le_trans hB h.base, h.blk, Joins.ownsRow_le h.own hB, Joins.ownsRow_le h.mks hB, h.n1, h.n2, h.n3, h.n4, h.n5⟩
def clampN (k : Int) (m : Nat) : Nat := (min (max k 0) m).toNat
/-- a width, and a stream. -/
def okB (W : Int) (l : List Tk) : Bool := inB W 1 200 && strB l
theorem okB_true {W : Int} {l : List Tk} (h : okB W l = true) : 1 ≤ W ∧ W ≤ 200 ∧ strB l = true := by
  unfold okB at h
  rw [Bool.and_eq_true] at h
  have := inB_true.1 h.1
  exact ⟨this.1, this.2, h.2⟩
def PrdPost (W : Int) (w : World) (l : List Tk) (n : Nat) (e : Ending) (w' : World) : Prop :=
  Below w.heap.size w w' ∧ ((okB W l = true ∧ ∃ p v vW vM, e = .returned (.tuple #[.pointer (some ⟨p, 0, none⟩), v, .bool true]) ∧ w'.ownsRow w.heap.size 3 1 v (run W l n).2.length (nums (run W l n).2) ∧ PA w' w.heap.size p W (run W l n).1 vW vM) ∨
    (okB W l = false ∧ e = .returned (.tuple #[.pointer none, .slice none 0 0, .bool false])))

set_option maxHeartbeats 1000000 in
set_option maxRecDepth 100000 in
theorem printed_any (W : Int) (A : Option Addr) (l : List Tk) (m n c : Nat) (w : World) (hm : l.length = m) (hmb : m ≤ 2097152) (hn : n ≤ m) (hmc : m ≤ c) (hts : TS w A l) (hlow : ∀ b, A.map (·.block) = some b → b < w.heap.size) (hf : Fits l) :
    Calls Tryz.prog 59 #[.int .i64 W, .slice A m c, .int .i64 n] w (PrdPost W w l n) := by
  have HM := Lib.hid hm
  have HT := Lib.hid hts
  have HF := Lib.hid hf
  clear hm hts hf
  cases hw : inB W 1 200
  · have HO := Lib.hid (show okB W l = false from by simp [okB, hw])
    go_enter Tryz.func59, Tryz.ntmps59
    go_wp2_with fail
    refine (within_any W 1 200 w).mono ?_
    rintro e w1 ⟨rfl, rfl⟩
    rw [hw]
    go_wp2
    refine bodyPost_ret (v := .tuple #[.pointer none, .slice none 0 0, .bool false]) (by simp [results, Tryz.results59, go_sem]) rfl ?_
    exact ⟨Below.refl _ _, .inr ⟨HO.out, rfl⟩⟩
  · cases hS : strB l
    · have HO := Lib.hid (show okB W l = false from by simp [okB, hS])
      have HSS := Lib.hid hS
      clear hS
      go_enter Tryz.func59, Tryz.ntmps59
      go_wp2_with fail
      refine (within_any W 1 200 w).mono ?_
      rintro e w1 ⟨rfl, rfl⟩
      rw [hw]
      go_wp2_with fail
      refine (StreamOk_any _ l _ _ _ HM.out hmb HT.out HF.out).mono ?_
      rintro e w1 ⟨rfl, hb1⟩
      rw [HSS.out]
      have HB1 := Lib.hid hb1
      clear hb1
      go_wp2
      refine bodyPost_ret (v := .tuple #[.pointer none, .slice none 0 0, .bool false]) (by simp [results, Tryz.results59, go_sem]) rfl ?_
      exact ⟨HB1.out, .inr ⟨HO.out, rfl⟩⟩
    · have HO := Lib.hid (show okB W l = true from by simp [okB, hS, hw])
      have hWb := inB_true.1 hw
      have HSS := Lib.hid hS
      clear hS
      go_enter Tryz.func59, Tryz.ntmps59
      go_wp2_with fail
      refine (within_any W 1 200 w).mono ?_
      rintro e w1 ⟨rfl, rfl⟩
      rw [hw]
      go_wp2_with fail
      refine (StreamOk_any _ l _ _ _ HM.out hmb HT.out HF.out).mono ?_
      rintro e w1 ⟨rfl, hb1⟩
      rw [HSS.out]
      have HB1 := Lib.hid hb1
      have HT1 := Lib.hid (HT.out.below hb1)
      have hz1 := hb1.size
      clear hb1
      go_wp2_with fail
      refine (newPrinter_any W w1).mono ?_
      rintro e w2 ⟨p, vM, rfl, hb2, hpa⟩
      have HB2 := Lib.hid hb2
      have HP2 := Lib.hid hpa
      have HT2 := Lib.hid (HT1.out.below hb2)
      have hz2 := hb2.size
      clear hb2 hpa
      have HSZ := Lib.hid (show ∀ V, Bw w2 V → Calls Tryz.prog 52 #[.slice A m c] V (IntsOut V (szsB l)) from
        fun V hV => SizesOf_out A l m c V HM.out hmb (HT2.out.below hV) HF.out)
      have HPT := Lib.hid (show ∀ (V : World) (A2 : Option Addr) (c2 : Nat), Bw w2 V → (∀ b, A2.map (·.block) = some b → w2.heap.size ≤ b) → IntRow V A2 (szsB l) → Calls Tryz.prog 56 #[.pointer (some ⟨p, 0, none⟩), .slice A n c, .slice A2 (szsB l).length c2] V (AllPost w1.heap.size p W V l n) from
        fun V A2 c2 hV h1 h2 => putAll_out (PM.below HP2.out hV) (Nat.le_trans hz2 hV.size) HSS.out (by rw [HM.out]; exact hn) (by omega) (by omega) (HT2.out.below hV) (fun b hb => Nat.lt_of_lt_of_le (hlow b hb) hz1) h2 (fun b hb => Nat.le_trans hz2 (h1 b hb)))
      go_wp2_with fail
      go_region_with (first
        | ((with_reducible refine (HSZ.out _ ?_).mono ?_); exact Bw.start _; rintro e w3 ⟨hb3, A2, c2, rfl, hlo, hnn, hrow⟩; have HB3 := Lib.hid (show Bw w2 w3 from Bw.keep w2 _ _ (Bw.start w2) hb3); have HL3 := Lib.hid (show ∀ b, A2.map (·.block) = some b → w2.heap.size ≤ b from hlo); have HR3 := Lib.hid hrow; clear hb3 hlo hnn hrow)
        | ((with_reducible refine (HPT.out _ _ _ ?_ ?_ ?_).mono ?_); exact HB3.out; exact HL3.out; exact HR3.out; rintro e w4 ⟨v4, rfl, hb4, ho4, vW4, vM4, hp4⟩; have HB4 := Lib.hid (show Below w.heap.size w w4 from HB1.out.trans ((HB2.out.trans ((Below.mono HB3.out hz2).trans hb4)).mono hz1)); have HO4 := Lib.hid ho4; have HP4 := Lib.hid hp4; clear hb4 ho4 hp4))
      all_goals
        go_wp2
        refine bodyPost_ret (v := .tuple #[.pointer (some ⟨p, 0, none⟩), v4, .bool true]) (by simp [results, Tryz.results59, go_sem]) rfl ?_
        exact ⟨HB4.out, .inl ⟨HO.out, p, v4, vW4, vM4, rfl, Joins.ownsRow_le HO4.out hz1, PM.mono HP4.out hz1⟩⟩
end Go.Proofs.YthjkgbcomjiejadGreatDoor
namespace Go.Proofs.YthjkgbcomjiejadGreatDoor
open Go.RowKit
set_option linter.unusedVariables false

theorem conv_own {w : World} {B : Nat} {v : Value} {out : List UInt8} (h : w.ownsRow B 5 1 v out.length (Lib.byteCells out)) : (convert 22 9 v).run Tryz.prog w = .ok (.string ⟨out.toArray⟩) w := by
  rcases Joins.ownsRow_forms h with ⟨rfl, h0⟩ | ⟨g, cap, rfl⟩
  · have : out = [] := List.eq_nil_of_length_eq_zero h0
    subst this
    exact run_convert_bytes_nil w 22 5 Tryz.underlying22 Tryz.underlying5 0 0 9 Tryz.underlying9
  · refine run_convert_bytes_back w 22 9 5 ⟨g, 0, none⟩ cap out Tryz.underlying22 Tryz.underlying5 Tryz.underlying9 fun j hj => ?_
    refine h.cells (g := g) rfl j _ ?_
    simp [Lib.byteCells, List.getElem?_eq_getElem hj]
def layB (W : Int) (l : List Tk) : ByteArray := if okB W l = true then ⟨(run W l l.length).1.out.toArray⟩ else ByteArray.empty
set_option maxHeartbeats 1000000 in
set_option maxRecDepth 100000 in
theorem Layout_any (W : Int) (A : Option Addr) (l : List Tk) (m c : Nat) (w : World) (hm : l.length = m) (hmb : m ≤ 2097152) (hmc : m ≤ c) (hts : TS w A l) (hlow : ∀ b, A.map (·.block) = some b → b < w.heap.size) (hf : Fits l) :
    Calls Tryz.prog 22 #[.int .i64 W, .slice A m c] w fun e w' => e = .returned (.tuple #[.string (layB W l), .bool (okB W l)]) ∧ Below w.heap.size w w' := by
  have HM := Lib.hid hm
  have HT := Lib.hid hts
  have HF := Lib.hid hf
  have HL := Lib.hid hlow
  clear hm hts hf hlow
  go_enter Tryz.func22, Tryz.ntmps22
  go_wp2_with fail
  refine (printed_any W A l m m c _ HM.out hmb (Nat.le_refl _) hmc HT.out HL.out HF.out).mono ?_
  rintro e w1 ⟨hb1, ⟨hok, p, v, vW, vM, rfl, hrow, hpa⟩ | ⟨hok, rfl⟩⟩
  · have HB1 := Lib.hid hb1
    have HOK := Lib.hid hok
    have HPA := Lib.hid hpa
    obtain ⟨c0, c1, c2, c3, c4, hp⟩ := hpa.cells
    have hcv := conv_own hpa.own
    have e := HM.out
    subst e
    have HV := Lib.hid (show layB W l = ⟨(run W l l.length).1.out.toArray⟩ from by simp [layB, hok])
    clear hb1 hok hpa hrow
    go_wp2
    go_ret2
    rw [HV.out, HOK.out]
    exact ⟨rfl, HB1.out⟩
  · have HB1 := Lib.hid hb1
    have HOK := Lib.hid hok
    clear hb1 hok
    go_wp2
    go_ret2
    exact ⟨by rw [show layB W l = ByteArray.empty from by simp [layB, HOK.out], HOK.out]; rfl, HB1.out⟩

set_option maxHeartbeats 400000 in
theorem line_any (w : World) (p n m : Nat) (hn : n ≤ 1000000) (h : w.cell? ⟨p, 0, none⟩ = some (.complex .f64 (fN n) (fN m))) :
    Calls Tryz.prog 63 #[.pointer (some ⟨p, 0, none⟩)] w fun e w' => e = .returned (.int .i64 n) ∧ w' = w := by
  have hc := conv_fN (n := n) (by omega)
  go_enter Tryz.func63, Tryz.ntmps63
  go_wp2
  go_ret
  exact ⟨rfl, rfl⟩
def linB (W : Int) (l : List Tk) : Int := if okB W l = true then (run W l l.length).1.ln else -1
set_option maxHeartbeats 1000000 in
set_option maxRecDepth 100000 in
theorem LinesIn_any (W : Int) (A : Option Addr) (l : List Tk) (m c : Nat) (w : World) (hm : l.length = m) (hmb : m ≤ 2097152) (hmc : m ≤ c) (hts : TS w A l) (hlow : ∀ b, A.map (·.block) = some b → b < w.heap.size) (hf : Fits l) :
    Calls Tryz.prog 25 #[.int .i64 W, .slice A m c] w fun e w' => e = .returned (.int .i64 (linB W l)) ∧ Below w.heap.size w w' := by
  have HM := Lib.hid hm
  have HT := Lib.hid hts
  have HF := Lib.hid hf
  have HL := Lib.hid hlow
  clear hm hts hf hlow
  go_enter Tryz.func25, Tryz.ntmps25
  go_wp2_with fail
  refine (printed_any W A l m m c _ HM.out hmb (Nat.le_refl _) hmc HT.out HL.out HF.out).mono ?_
  rintro e w1 ⟨hb1, ⟨hok, p, v, vW, vM, rfl, hrow, hpa⟩ | ⟨hok, rfl⟩⟩
  · have HB1 := Lib.hid hb1
    have e := HM.out
    subst e
    have HV := Lib.hid (show linB W l = (run W l l.length).1.ln from by simp [linB, hok])
    obtain ⟨c0, c1, c2, c3, c4, hp⟩ := hpa.cells
    have hln := (run_sm W (okB_true hok).2.2 (Nat.le_refl l.length)).ln
    clear hb1 hok hpa hrow
    go_wp2_with fail
    refine (line_any _ p _ _ (by omega) c0).mono ?_
    rintro e w2 ⟨rfl, rfl⟩
    go_wp2
    go_ret
    rw [HV.out]
    exact ⟨rfl, HB1.out⟩
  · have HB1 := Lib.hid hb1
    have HV := Lib.hid (show linB W l = -1 from by simp [linB, hok])
    clear hb1 hok
    go_wp2
    go_ret
    rw [HV.out]
    exact ⟨rfl, HB1.out⟩

def brkL (W : Int) (l : List Tk) : List Int := if okB W l = true then (run W l l.length).2 else []
theorem brkL_le (W : Int) (l : List Tk) : (brkL W l).length ≤ 400 := by
  unfold brkL
  split
  · rename_i h
    have hS := (okB_true h).2.2
    have h4 := (strB_true hS).1
    have := (run_ok W hS l.length (Nat.le_refl _)).2.2.2
    omega
  · simp
theorem ints_of_own {w w' : World} {v : Value} {xs : List Int} (hb : Below w.heap.size w w') (h : w'.ownsRow w.heap.size 3 1 v xs.length (nums xs)) : IntsOut w xs (.returned v) w' := by
  obtain ⟨A, c, rfl, hlo⟩ := own_slice1 h
  obtain ⟨h1, h2, h3⟩ := row_of_own h
  exact ⟨hb, A, c, rfl, h2, h3, h1⟩
end Go.Proofs.YthjkgbcomjiejadGreatDoor
