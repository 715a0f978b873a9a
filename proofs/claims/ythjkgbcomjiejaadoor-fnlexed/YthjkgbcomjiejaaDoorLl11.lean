/-
  The draws: texts in brackets.
-/
import Derived.Test.YthjkgbcomjiejaaDoorLl09
import Derived.Test.YthjkgbcomjiejaaDoorLl10
namespace Go.Proofs.YthjkgbcomjiejaaDoor
open Go.RowKit
set_option linter.unusedVariables false

/-- a text of at most N bytes. -/
def TxS (N : Nat) (v : Value) : Prop := ∃ s : ByteArray, v = .string s ∧ s.size ≤ N
/-- how long a text of that depth may be. -/
def bT : Nat → Nat
  | 0 => 11
  | d + 1 => 2 + 4 * (bT d + 17)
theorem bT_ge : ∀ d, 11 ≤ bT d
  | 0 => Nat.le_refl _
  | d + 1 => by have := bT_ge d; show 11 ≤ 2 + 4 * (bT d + 17); omega
theorem bT_le : ∀ d, d ≤ 3 → bT d ≤ 2174
  | 0, _ => by decide
  | 1, _ => by decide
  | 2, _ => by decide
  | 3, _ => by decide
  | d + 4, h => by omega
theorem pickT_at (xs : List ByteArray) (m : Nat) {w0 W : World} {p n c : Nat} {A : Option Addr} (hm : n ≤ 1048576) (hb : BS w0 A n) (hne : ∀ b, A.map (·.block) = some b → b ≠ p) (hc : Cur W p A n c) (hg : w0.grownBy W (some p)) (hxs : xs.length = m) (hm1 : 1 ≤ m) (hm2 : m ≤ 256) :
    Calls Tryd.prog 46 #[.pointer (some ⟨p, 0, none⟩), .slice (some ⟨W.heap.size, 0, none⟩) m m] (W.alloc (.cells (xs.map Value.string).toArray 9)) fun e w' => ∃ s, s ∈ xs ∧ e = .returned (.string s) ∧ Cur w' p A n c ∧ w0.grownBy w' (some p) := by
  have hp := hc.lt
  have hN := BlkL.new W 9 (xs.map Value.string)
  refine (l01PickText_any xs _ m m p A n c _ hm hxs hm1 hm2 ((hb.grown hne hg).alloc _) hne (hc.alloc _) (fun i s hs => ⟨_, rfl, hN.lt, (hN.cell i).trans (by simp [hs])⟩) (fun b hb => by simp at hb; omega)).mono ?_
  rintro e w' ⟨⟨v, ⟨x, rfl, hx⟩, rfl⟩, hc', hg'⟩
  exact ⟨x, hx, rfl, hc', gB_tr (gB_alloc hg _) hg'⟩
/-- the state of a draw: the cursor, and all older memory but its block. -/
structure Ds (w : World) (p : Nat) (A : Option Addr) (n c : Nat) (V : World) : Prop where
  cur : Cur V p A n c
  grown : w.grownBy V (some p)
theorem Ds.alloc {w V : World} {p : Nat} {A : Option Addr} {n c : Nat} (h : Ds w p A n c V) (o : Obj) : Ds w p A n c (V.alloc o) := ⟨h.cur.alloc o, gB_alloc h.grown o⟩
theorem Ds.drew {w V : World} {p : Nat} {A : Option Addr} {n c : Nat} (h : Ds w p A n c V) : Ds w p A n c V.drew := by
  obtain ⟨i, x, hi, hb⟩ := h.cur
  exact ⟨⟨i, x, hi, hb.drew⟩, gB_drew h.grown⟩
theorem Ds.go {w V V' : World} {p : Nat} {A : Option Addr} {n c : Nat} (h : Ds w p A n c V) (hc : Cur V' p A n c) (hg : V.grownBy V' (some p)) : Ds w p A n c V' := ⟨hc, gB_tr h.grown hg⟩
set_option maxHeartbeats 4000000 in
set_option maxRecDepth 100000 in
theorem l06DrawTree_any (p : Nat) (A : Option Addr) (n c : Nat) (hm : n ≤ 1048576) (hne : ∀ b, A.map (·.block) = some b → b ≠ p) : ∀ (d : Nat), d ≤ 3 → ∀ (D : Int), D = d → ∀ (w : World), BS w A n → Cur w p A n c →
    Calls Tryd.prog 45 #[.pointer (some ⟨p, 0, none⟩), .int .i64 D] w (Drawn w p A n c (TxS (bT d))) := by
  intro d
  induction d with
  | zero =>
    intro hd D hD w hb hc
    obtain rfl : D = 0 := by simpa using hD
    have HB := Lib.hid hb
    have HNE := Lib.hid hne
    have HC := Lib.hid hc
    clear hb hc hD
    go_enter Tryd.func45, Tryd.ntmps45
    go_wp2_with fail
    refine (l01Below_any 6 p A n c w hm (by decide) (by decide) HB.out HNE.out HC.out).mono ?_
    rintro e w1 ⟨⟨v, ⟨x, rfl, hx⟩, rfl⟩, hc1, hg1⟩
    have hx' : x = 0 ∨ x = 1 ∨ x = 2 ∨ x = 3 ∨ x = 4 ∨ x = 5 := by omega
    have HC1 := Lib.hid hc1
    have HG1 := Lib.hid hg1
    clear hx hc1 hg1
    rcases hx' with rfl | rfl | rfl | rfl | rfl | rfl
    · have hpk := pickT_at [⟨#[97]⟩, ⟨#[98, 99]⟩, ⟨#[100, 101, 102]⟩, ⟨#[49]⟩, ⟨#[45, 52, 50]⟩, ⟨#[58, 107, 101, 121]⟩, ⟨#[108, 111, 110, 103, 45, 110, 97, 109, 101]⟩, ⟨#[120, 46, 121, 47, 122]⟩] 8 hm HB.out HNE.out HC1.out HG1.out rfl (by decide) (by decide)
      simp only [List.map_cons, List.map_nil] at hpk
      have HPK := Lib.hid hpk
      clear hpk
      go_wp2_with fail
      refine HPK.out.mono ?_
      clear HPK
      rintro e w2 ⟨s, hs, rfl, hc2, hg2⟩
      have hs11 : s.size ≤ 11 := by
        simp only [List.mem_cons, List.not_mem_nil, or_false] at hs
        rcases hs with rfl | rfl | rfl | rfl | rfl | rfl | rfl | rfl <;> decide
      have HC2 := Lib.hid hc2
      have HG2 := Lib.hid hg2
      clear hs hc2 hg2
      go_wp2_with fail
      go_ret
      exact ⟨⟨_, ⟨s, rfl, Nat.le_trans hs11 (bT_ge _)⟩, rfl⟩, HC2.out, HG2.out⟩
    · have hpk := pickT_at [⟨#[97]⟩, ⟨#[98, 99]⟩, ⟨#[100, 101, 102]⟩, ⟨#[49]⟩, ⟨#[45, 52, 50]⟩, ⟨#[58, 107, 101, 121]⟩, ⟨#[108, 111, 110, 103, 45, 110, 97, 109, 101]⟩, ⟨#[120, 46, 121, 47, 122]⟩] 8 hm HB.out HNE.out HC1.out HG1.out rfl (by decide) (by decide)
      simp only [List.map_cons, List.map_nil] at hpk
      have HPK := Lib.hid hpk
      clear hpk
      go_wp2_with fail
      refine HPK.out.mono ?_
      clear HPK
      rintro e w2 ⟨s, hs, rfl, hc2, hg2⟩
      have hs11 : s.size ≤ 11 := by
        simp only [List.mem_cons, List.not_mem_nil, or_false] at hs
        rcases hs with rfl | rfl | rfl | rfl | rfl | rfl | rfl | rfl <;> decide
      have HC2 := Lib.hid hc2
      have HG2 := Lib.hid hg2
      clear hs hc2 hg2
      go_wp2_with fail
      go_ret
      exact ⟨⟨_, ⟨s, rfl, Nat.le_trans hs11 (bT_ge _)⟩, rfl⟩, HC2.out, HG2.out⟩
    · have hpk := pickT_at [⟨#[34, 34]⟩, ⟨#[34, 115, 34]⟩, ⟨#[34, 116, 119, 111, 32, 119, 111, 114, 100, 115, 34]⟩, ⟨#[34, 113, 92, 34, 113, 34]⟩, ⟨#[39, 97]⟩, ⟨#[39, 40, 98, 32, 99, 41]⟩] 6 hm HB.out HNE.out HC1.out HG1.out rfl (by decide) (by decide)
      simp only [List.map_cons, List.map_nil] at hpk
      have HPK := Lib.hid hpk
      clear hpk
      go_wp2_with fail
      refine HPK.out.mono ?_
      clear HPK
      rintro e w2 ⟨s, hs, rfl, hc2, hg2⟩
      have hs11 : s.size ≤ 11 := by
        simp only [List.mem_cons, List.not_mem_nil, or_false] at hs
        rcases hs with rfl | rfl | rfl | rfl | rfl | rfl <;> decide
      have HC2 := Lib.hid hc2
      have HG2 := Lib.hid hg2
      clear hs hc2 hg2
      go_wp2_with fail
      go_ret
      exact ⟨⟨_, ⟨s, rfl, Nat.le_trans hs11 (bT_ge _)⟩, rfl⟩, HC2.out, HG2.out⟩
    all_goals
      go_wp2_with fail
      go_ret
      exact ⟨⟨_, ⟨_, rfl, by decide⟩, rfl⟩, HC1.out, HG1.out⟩
  | succ d ih =>
    intro hd D hD w hb hc
    have hp := hc.lt
    have HB := Lib.hid hb
    have HNE := Lib.hid hne
    have HC := Lib.hid hc
    have hD1 : (D == 0) = false := by simp; omega
    have hD3 : 1 ≤ D ∧ D ≤ 3 := by omega
    have HDD := Lib.hid (show D - 1 = (d : Int) by omega)
    clear hb hc hD
    go_enter Tryd.func45, Tryd.ntmps45
    go_wp2_with fail
    refine (l01Below_any 6 p A n c w hm (by decide) (by decide) HB.out HNE.out HC.out).mono ?_
    rintro e w1 ⟨⟨v, ⟨x, rfl, hx⟩, rfl⟩, hc1, hg1⟩
    have hx' : x = 0 ∨ x = 1 ∨ x = 2 ∨ x = 3 ∨ x = 4 ∨ x = 5 := by omega
    have HC1 := Lib.hid hc1
    have HG1 := Lib.hid hg1
    clear hx hc1 hg1
    rcases hx' with rfl | rfl | rfl | rfl | rfl | rfl
    · have hpk := pickT_at [⟨#[97]⟩, ⟨#[98, 99]⟩, ⟨#[100, 101, 102]⟩, ⟨#[49]⟩, ⟨#[45, 52, 50]⟩, ⟨#[58, 107, 101, 121]⟩, ⟨#[108, 111, 110, 103, 45, 110, 97, 109, 101]⟩, ⟨#[120, 46, 121, 47, 122]⟩] 8 hm HB.out HNE.out HC1.out HG1.out rfl (by decide) (by decide)
      simp only [List.map_cons, List.map_nil] at hpk
      have HPK := Lib.hid hpk
      clear hpk
      go_wp2_with fail
      refine HPK.out.mono ?_
      clear HPK
      rintro e w2 ⟨s, hs, rfl, hc2, hg2⟩
      have hs11 : s.size ≤ 11 := by
        simp only [List.mem_cons, List.not_mem_nil, or_false] at hs
        rcases hs with rfl | rfl | rfl | rfl | rfl | rfl | rfl | rfl <;> decide
      have HC2 := Lib.hid hc2
      have HG2 := Lib.hid hg2
      clear hs hc2 hg2
      go_wp2_with fail
      go_ret
      exact ⟨⟨_, ⟨s, rfl, Nat.le_trans hs11 (bT_ge _)⟩, rfl⟩, HC2.out, HG2.out⟩
    · have hpk := pickT_at [⟨#[97]⟩, ⟨#[98, 99]⟩, ⟨#[100, 101, 102]⟩, ⟨#[49]⟩, ⟨#[45, 52, 50]⟩, ⟨#[58, 107, 101, 121]⟩, ⟨#[108, 111, 110, 103, 45, 110, 97, 109, 101]⟩, ⟨#[120, 46, 121, 47, 122]⟩] 8 hm HB.out HNE.out HC1.out HG1.out rfl (by decide) (by decide)
      simp only [List.map_cons, List.map_nil] at hpk
      have HPK := Lib.hid hpk
      clear hpk
      go_wp2_with fail
      refine HPK.out.mono ?_
      clear HPK
      rintro e w2 ⟨s, hs, rfl, hc2, hg2⟩
      have hs11 : s.size ≤ 11 := by
        simp only [List.mem_cons, List.not_mem_nil, or_false] at hs
        rcases hs with rfl | rfl | rfl | rfl | rfl | rfl | rfl | rfl <;> decide
      have HC2 := Lib.hid hc2
      have HG2 := Lib.hid hg2
      clear hs hc2 hg2
      go_wp2_with fail
      go_ret
      exact ⟨⟨_, ⟨s, rfl, Nat.le_trans hs11 (bT_ge _)⟩, rfl⟩, HC2.out, HG2.out⟩
    · have hpk := pickT_at [⟨#[34, 34]⟩, ⟨#[34, 115, 34]⟩, ⟨#[34, 116, 119, 111, 32, 119, 111, 114, 100, 115, 34]⟩, ⟨#[34, 113, 92, 34, 113, 34]⟩, ⟨#[39, 97]⟩, ⟨#[39, 40, 98, 32, 99, 41]⟩] 6 hm HB.out HNE.out HC1.out HG1.out rfl (by decide) (by decide)
      simp only [List.map_cons, List.map_nil] at hpk
      have HPK := Lib.hid hpk
      clear hpk
      go_wp2_with fail
      refine HPK.out.mono ?_
      clear HPK
      rintro e w2 ⟨s, hs, rfl, hc2, hg2⟩
      have hs11 : s.size ≤ 11 := by
        simp only [List.mem_cons, List.not_mem_nil, or_false] at hs
        rcases hs with rfl | rfl | rfl | rfl | rfl | rfl <;> decide
      have HC2 := Lib.hid hc2
      have HG2 := Lib.hid hg2
      clear hs hc2 hg2
      go_wp2_with fail
      go_ret
      exact ⟨⟨_, ⟨s, rfl, Nat.le_trans hs11 (bT_ge _)⟩, rfl⟩, HC2.out, HG2.out⟩
    all_goals
      have hpk := pickT_at [⟨#[40]⟩, ⟨#[40]⟩, ⟨#[91]⟩, ⟨#[123]⟩] 4 hm HB.out HNE.out HC1.out HG1.out rfl (by decide) (by decide)
      simp only [List.map_cons, List.map_nil] at hpk
      have HPK := Lib.hid hpk
      clear hpk
      go_wp2_with fail
      refine HPK.out.mono ?_
      clear HPK
      rintro e w2 ⟨s, hs, rfl, hc2, hg2⟩
      have HC2 := Lib.hid hc2
      have HG2 := Lib.hid hg2
      clear hc2 hg2 HC1 HG1
      simp only [List.mem_cons, List.not_mem_nil, or_false] at hs
      rcases hs with rfl | rfl | rfl | rfl
      all_goals
        go_wp2_with fail
        refine (l01Below_any 5 p A n c w2 hm (by decide) (by decide) (HB.out.grown HNE.out HG2.out) HNE.out HC2.out).mono ?_
        rintro e w3 ⟨⟨v, ⟨k0, rfl, hk0⟩, rfl⟩, hc3, hg3⟩
        have HC3 := Lib.hid hc3
        have HG3 := Lib.hid (gB_tr HG2.out hg3)
        clear hc3 hg3 HC2 HG2
        go_wp2_with fail
        go_loopw [7, 8] (fun ov kv wr => ∃ (s : ByteArray) (k : Nat), ov = .string s ∧ kv = .int .i64 k ∧ k ≤ 4 ∧ s.size + k * (bT d + 17) ≤ 1 + 4 * (bT d + 17) ∧ Cur wr p A n c ∧ w.grownBy wr (some p)) (fun _ kv _ => (intOf kv).toNat)
        case atStart => exact ⟨_, k0, rfl, rfl, by omega, Nat.add_le_add (by decide) (Nat.mul_le_mul_right _ (by omega)), HC3.out, HG3.out⟩
        case round =>
          obtain ⟨s, k, rfl, rfl, hk, hsz, hcr, hgr⟩ := hrel
          have HCR := Lib.hid hcr
          have HGR := Lib.hid hgr
          have hb3 := bT_le d (by omega)
          have HBT := Lib.hid hb3
          have hs1e4 : s.size ≤ 100000 := by
            have h1 := Nat.mul_le_mul_left 4 (show bT d + 17 ≤ 2191 by omega)
            omega
          clear hcr hgr HC3 HG3 hk0
          by_cases hk1 : 0 < k
          · have HS1 := Lib.hid (show s.size + (bT d + 17) + (k - 1) * (bT d + 17) ≤ 1 + 4 * (bT d + 17) by
              have h1 : k * (bT d + 17) = (k - 1) * (bT d + 17) + (bT d + 17) := by
                rw [← Nat.succ_mul, Nat.succ_eq_add_one, Nat.sub_add_cancel hk1]
              omega)
            have HF := Lib.hid (show ∀ V, Ds w p A n c V → Calls Tryd.prog 45 #[.pointer (some ⟨p, 0, none⟩), .int .i64 (D - 1)] V (Drawn V p A n c (TxS (bT d))) from
              fun V hV => ih (by omega) (D - 1) HDD.out V (HB.out.grown HNE.out hV.grown) hV.cur)
            have HDS := Lib.hid (show Ds w p A n c wr from ⟨HCR.out, HGR.out⟩)
            clear hsz hb3
            go_wp2_with fail
            refine (HF.out _ HDS.out).mono ?_
            rintro e w4 ⟨⟨v, ⟨x, rfl, hx⟩, rfl⟩, hc4, hg4⟩
            have HC4 := Lib.hid hc4
            have HG4 := Lib.hid (gB_tr HGR.out hg4)
            have hxe4 : x.size ≤ 2174 := Nat.le_trans hx HBT.out
            clear hc4 hg4 HF HDS HCR HGR
            have hpk := pickT_at [⟨#[32]⟩, ⟨#[32]⟩, ⟨#[32, 32]⟩, ⟨#[10]⟩, ⟨#[44, 32]⟩] 5 hm HB.out HNE.out HC4.out HG4.out rfl (by decide) (by decide)
            simp only [List.map_cons, List.map_nil] at hpk
            have HPK := Lib.hid hpk
            clear hpk
            go_wp2_with fail
            refine HPK.out.mono ?_
            clear HPK
            rintro e w5 ⟨y, hy, rfl, hc5, hg5⟩
            have hy2 : y.size ≤ 2 := by
              simp only [List.mem_cons, List.not_mem_nil, or_false] at hy
              rcases hy with rfl | rfl | rfl | rfl | rfl <;> decide
            have HC5 := Lib.hid hc5
            have HG5 := Lib.hid hg5
            clear hc5 hg5 hy HC4 HG4
            go_wp2_with fail
            refine (l01Once_any 12 p A n c w5 hm (by decide) (by decide) (HB.out.grown HNE.out HG5.out) HNE.out HC5.out).mono ?_
            rintro e w6 ⟨⟨v, ⟨q, rfl⟩, rfl⟩, hc6, hg6⟩
            have HC6 := Lib.hid hc6
            have HG6 := Lib.hid (gB_tr HG5.out hg6)
            have HX := Lib.hid hx
            clear hc6 hg6 HC5 HG5 hx
            cases q
            · go_wp2_with fail
              go_roundw
              case rel =>
                refine ⟨_, k - 1, rfl, by go_num, by omega, ?_, HC6.out, HG6.out⟩
                have h1 := HS1.out
                have h2 := HX.out
                rw [ByteArray.size_append, ByteArray.size_append]
                omega
              case measure => simp [intOf]; omega
            · have hpk := pickT_at [⟨#[59, 32, 110, 111, 116, 101, 10]⟩, ⟨#[59, 10]⟩, ⟨#[59, 59, 32, 109, 111, 114, 101, 32, 119, 111, 114, 100, 115, 32, 10]⟩] 3 hm HB.out HNE.out HC6.out HG6.out rfl (by decide) (by decide)
              simp only [List.map_cons, List.map_nil] at hpk
              have HPK := Lib.hid hpk
              clear hpk
              go_wp2_with fail
              refine HPK.out.mono ?_
              clear HPK
              rintro e w7 ⟨u, hu, rfl, hc7, hg7⟩
              have hu2 : u.size ≤ 15 := by
                simp only [List.mem_cons, List.not_mem_nil, or_false] at hu
                rcases hu with rfl | rfl | rfl <;> decide
              have HC7 := Lib.hid hc7
              have HG7 := Lib.hid hg7
              clear hc7 hg7 hu HC6 HG6
              go_wp2_with fail
              go_roundw
              case rel =>
                refine ⟨_, k - 1, rfl, by go_num, by omega, ?_, HC7.out, HG7.out⟩
                have h1 := HS1.out
                have h2 := HX.out
                rw [ByteArray.size_append, ByteArray.size_append, ByteArray.size_append]
                omega
              case measure => simp [intOf]; omega
          · obtain rfl : k = 0 := by omega
            have HS0 := Lib.hid hsz
            clear hsz hb3
            go_wp2_with fail
            go_ret
            refine ⟨⟨_, ⟨_, rfl, ?_⟩, rfl⟩, HCR.out, HGR.out⟩
            rw [ByteArray.size_append]
            have := HS0.out
            show s.size + 1 ≤ 2 + 4 * (bT d + 17)
            omega
end Go.Proofs.YthjkgbcomjiejaaDoor
