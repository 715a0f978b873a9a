/-
  JoinStreams on both sides.
-/
import Derived.Test.YtlkiajjkcheoaaaCat
import Derived.Test.YtlkiajjkcheoaaaMark
import Derived.Maps.AppendAt
namespace Go.Proofs.Ytlkiajjkcheoaaa
open Go.RowKit
set_option linter.unusedVariables false

/-- what a call hands back: tokens of its own and true, or nothing and false. -/
def TokOut (w : World) (b : Bool) (L : List Tk) (e : Ending) (w' : World) : Prop :=
  Below w.heap.size w w' ∧ ((b = true ∧ ∃ g, e = .returned (.tuple #[.slice (some ⟨g, 0, none⟩) L.length L.length, .bool true]) ∧ w.heap.size ≤ g ∧ BlkL w' g 33 (flat L)) ∨
    (b = false ∧ e = .returned (.tuple #[.slice none 0 0, .bool false])))
def STokOut (w : World) (b : Bool) (L : List Tk) (e : Ending) (w' : World) : Prop :=
  Below w.heap.size w w' ∧ ((b = true ∧ ∃ A c, e = .returned (.tuple #[.slice A L.length c, .bool true]) ∧ (∀ g, A.map (·.block) = some g → w.heap.size ≤ g ∧ g < w'.heap.size) ∧ TS w' A L) ∨
    (b = false ∧ e = .returned (.tuple #[.slice none 0 0, .bool false])))
def jnB (la lb L : List Tk) : Bool := strB la && (strB lb && strB L)
theorem Fits.app {la lb : List Tk} (ha : Fits la) (hb : Fits lb) : Fits (la ++ lb) := by
  intro i t ht
  rw [List.getElem?_append] at ht
  split at ht
  · exact ha _ _ ht
  · exact hb _ _ ht

theorem PS.two {w : World} {A B : Option Addr} {la lb : List Tk} {n m c d : Nat} {t : TypeId} (hn : la.length = n) (hm : lb.length = m) (ha : TS w A la) (hb : TS w B lb) :
    PS (w.alloc (.cells #[.slice A n c, .slice B m d] t)) w.heap.size [⟨A, c, la⟩, ⟨B, d, lb⟩] := by
  subst hn hm
  have hN := BlkL.new w t [.slice A la.length c, .slice B lb.length d]
  refine ⟨hN.lt, fun i x hx => ?_⟩
  match i, hx with
  | 0, hx => simp at hx; subst hx; exact ⟨(hN.cell 0).trans rfl, ha.alloc _⟩
  | 1, hx => simp at hx; subst hx; exact ⟨(hN.cell 1).trans rfl, hb.alloc _⟩
  | i + 2, hx => simp at hx

set_option maxHeartbeats 1000000 in
set_option maxRecDepth 100000 in
theorem JoinStreams_any (A B : Option Addr) (la lb : List Tk) (n m c d : Nat) (w : World) (hn : la.length = n) (hm : lb.length = m) (hnm : n + m ≤ 2097152) (ha : TS w A la) (hb : TS w B lb) (fa : Fits la) (fb : Fits lb) (L : List Tk) (hL : la ++ lb = L) :
    Calls Try.prog 40 #[.slice A n c, .slice B m d] w (TokOut w (jnB la lb L) L) := by
  have HL := Lib.hid hL
  clear hL
  have HN := Lib.hid hn
  have HM := Lib.hid hm
  clear hn hm
  cases hA : strB la
  · have HJ := Lib.hid (show jnB la lb L = false from by simp [jnB, hA])
    have HA := Lib.hid hA
    clear hA
    go_enter Try.func40, Try.ntmps40
    go_wp2_with fail
    refine (StreamOk_any _ la _ _ _ HN.out (by omega) ha fa).mono ?_
    rintro e w1 ⟨rfl, hb1⟩
    rw [HA.out]
    have HB1 := Lib.hid hb1
    clear hb1
    go_wp2
    go_ret2
    exact ⟨HB1.out, .inr ⟨HJ.out, rfl⟩⟩
  · have HA := Lib.hid hA
    cases hB : strB lb
    · have HJ := Lib.hid (show jnB la lb L = false from by simp [jnB, hB])
      have HBB := Lib.hid hB
      clear hA hB
      go_enter Try.func40, Try.ntmps40
      go_wp2_with fail
      refine (StreamOk_any _ la _ _ _ HN.out (by omega) ha fa).mono ?_
      rintro e w1 ⟨rfl, hb1⟩
      rw [HA.out]
      have HB1 := Lib.hid hb1
      have hb' := hb.below hb1
      clear hb1
      go_wp2_with fail
      refine (StreamOk_any _ lb _ _ _ HM.out (by omega) hb' fb).mono ?_
      rintro e w2 ⟨rfl, hb2⟩
      rw [HBB.out]
      have HB2 := Lib.hid (HB1.out.trans (hb2.mono HB1.out.size))
      clear hb2
      go_wp2
      go_ret2
      exact ⟨HB2.out, .inr ⟨HJ.out, rfl⟩⟩
    · have HJ := Lib.hid (show jnB la lb L = strB L from by simp [jnB, hA, hB])
      have HBB := Lib.hid hB
      clear hA hB
      go_enter Try.func40, Try.ntmps40
      go_wp2_with fail
      refine (StreamOk_any _ la _ _ _ HN.out (by omega) ha fa).mono ?_
      rintro e w1 ⟨rfl, hb1⟩
      rw [HA.out]
      have HB1 := Lib.hid hb1
      have ha' := ha.below hb1
      have hb' := hb.below hb1
      clear hb1
      go_wp2_with fail
      refine (StreamOk_any _ lb _ _ _ HM.out (by omega) hb' fb).mono ?_
      rintro e w2 ⟨rfl, hb2⟩
      rw [HBB.out]
      have HB2 := Lib.hid (HB1.out.trans (hb2.mono HB1.out.size))
      have ha2 := ha'.below hb2
      have hb2' := hb'.below hb2
      clear hb2
      go_wp2_with fail
      refine (streamOf_any w2.heap.size [⟨A, c, la⟩, ⟨B, d, lb⟩] 2 2 (n + m) L _ rfl (by omega) (by rw [← HL.out]; simp [catTo]) (by rw [← HL.out, List.length_append, HN.out, HM.out]) hnm (PS.two HN.out HM.out ha2 hb2') (HL.out ▸ fa.app fb)).mono ?_
      rintro e w3 ⟨hb3, ⟨hS, rfl, hk3⟩ | ⟨hS, rfl⟩⟩
      · have HB3 := Lib.hid ((HB2.out.alloc HB2.out.size _).trans (hb3.mono (Nat.le_trans HB2.out.size (by simp))))
        rw [World.size_alloc] at hk3
        have HK3 := Lib.hid hk3
        have HS := Lib.hid hS
        clear hb3 hk3 hS
        go_wp2
        go_ret2
        exact ⟨HB3.out, .inl ⟨by rw [HJ.out, HS.out], _, rfl, Nat.le_trans HB2.out.size (by simp), HK3.out⟩⟩
      · have HB3 := Lib.hid ((HB2.out.alloc HB2.out.size _).trans (hb3.mono (Nat.le_trans HB2.out.size (by simp))))
        have HS := Lib.hid hS
        clear hb3 hS
        go_wp2
        go_ret2
        exact ⟨HB3.out, .inr ⟨by rw [HJ.out, HS.out], rfl⟩⟩

theorem cell_four_new (w : World) (x0 x1 x2 x3 : Value) (t : TypeId) : ∀ j u, [x0, x1, x2, x3][j]? = some u → (w.alloc (.cells #[x0, x1, x2, x3] t)).cell? ((⟨w.heap.size, 0, none⟩ : Addr).add j) = some u := by
  intro j u hj
  have hN := BlkL.new w t [x0, x1, x2, x3]
  have ha : (⟨w.heap.size, 0, none⟩ : Addr).add j = ⟨w.heap.size, j, none⟩ := by unfold Addr.add; by_cases h0 : j = 0 <;> simp [h0]
  rw [ha]
  exact (hN.cell j).trans hj
theorem flat_one (t : Tk) : flat [t] = [.int .i64 t.k, .string t.s, .int .i64 t.d, .int .i64 t.o] := rfl
theorem toks_of_own {w : World} {base : Nat} {v : Value} {n : Nat} {l : List Tk} (h : w.ownsRow base 33 4 v n (flat l)) : l.length = n ∧ ∃ A c, v = .slice A n c ∧ (∀ b, A.map (·.block) = some b → base ≤ b ∧ b < w.heap.size) ∧ TS w A l := by
  have hlt := h.lt
  have hlen : l.length = n := by have := h.1; rw [flat_length] at this; omega
  refine ⟨hlen, ?_⟩
  have hall := h.2
  rcases hall with ⟨rfl, rfl⟩ | ⟨g, cap, cur, rfl, hg, hh, _⟩
  · have : l = [] := List.eq_nil_of_length_eq_zero hlen
    subst this
    exact ⟨none, 0, rfl, fun b hb => by simp at hb, TS.nil _ _⟩
  · refine ⟨_, cap, rfl, fun b hb => by simp at hb; subst hb; exact hlt g rfl, ?_⟩
    intro i t ht
    have f := flat_at ht
    have hi : i < n := by have := (List.getElem?_eq_some_iff.1 ht).1; omega
    refine ⟨g, 0, rfl, (hlt g rfl).2, ?_⟩
    unfold TkC
    simp only [Nat.zero_add]
    rw [h.cellAt _ (by omega), h.cellAt _ (by omega), h.cellAt _ (by omega), h.cellAt _ (by omega)]
    exact f
theorem ownsRow_keep4 {w w' : World} {B : Nat} {e : TypeId} {v : Value} {n : Nat} {xs : List Value} (h : w.ownsRow B e 4 v n xs) (hb : Below w.heap.size w w') : w'.ownsRow B e 4 v n xs :=
  h.kept (World.grownBy.mk hb.os hb.tape hb.output hb.size (fun i hi _ => hb.block i hi) : w.grownBy w' none) (by cases v.ownBlock <;> simp)
theorem app_below {w w2 w3 : World} {o : Obj} {e : TypeId} {v : Value} {n : Nat} {xs : List Value} (hB : Below w.heap.size w w2) (hown : w2.ownsRow w.heap.size e 4 v n xs) (hg : (w2.alloc o).grownBy w3 v.ownBlock) : Below w.heap.size w w3 :=
  (hB.alloc hB.size o).grown hg (Nat.le_trans hB.size (by simp)) (fun k hk => (hown.lt k hk).1)

def CopyPost (w : World) (l : List Tk) (e : Ending) (w' : World) : Prop := ∃ v, e = .returned v ∧ w'.ownsRow w.heap.size 33 4 v l.length (flat l) ∧ Below w.heap.size w w'

set_option maxHeartbeats 1000000 in
set_option maxRecDepth 100000 in
theorem sCopy_any (A : Option Addr) (l : List Tk) (n c : Nat) (w : World) (hn : l.length = n) (hm : n ≤ 2097152) (ha : TS w A l) :
    Calls Try.prog 66 #[.slice A n c] w (CopyPost w l) := by
  have HN := Lib.hid hn
  clear hn
  have hmk : ∀ w : World, (Instr.buildSlice 24 0 #[]).run Try.prog w = .ok (.slice (some ⟨w.heap.size, 0, none⟩) 0 0) (w.alloc (.cells #[] 33)) := fun _ => by kernel_rfl
  obtain ⟨i0, hi, hz0, hz1, hz2⟩ := info_parts infoTok
  go_enter Try.func66, Try.ntmps66
  go_wp2
  go_loopw [3, 4] (fun v i wr => ∃ k : Nat, k ≤ n ∧ i = .int .i64 k ∧ wr.ownsRow w.heap.size 33 4 v k (flat (l.take k)) ∧ Below w.heap.size w wr) (fun _ i _ => n - (intOf i).toNat)
  case atStart => exact ⟨0, Nat.zero_le _, rfl, by simpa [flat] using World.ownsRow_lit (base := w.heap.size) (e := 33) (size := 4) w #[] 0 (Nat.le_refl _) (Nat.zero_le _) rfl, (Below.refl _ _).alloc (Nat.le_refl _) _⟩
  case round =>
    obtain ⟨k, hk, rfl, hown, hbw⟩ := hrel
    clear hmk
    have HO := Lib.hid hown
    have HB := Lib.hid hbw
    have hz := hbw.size
    by_cases hkl : k < n
    · obtain ⟨t, b, o, ht, rfl, hbl, _⟩ := ha.at (k := k) (by have := HN.out; omega)
      obtain ⟨hbl', c0, c1, c2, c3⟩ := (ha.below hbw).get ht
      have HT := Lib.hid (show flat (l.take k) ++ [Value.int .i64 t.k, .string t.s, .int .i64 t.d, .int .i64 t.o] = flat (l.take (k + 1)) from by rw [List.take_add_one, ht, flat_append]; rfl)
      clear ht hown hbw
      go_wp2_with (at_builtin; refine wpList_append_own _ rfl _ _ 24 rfl w.heap.size 33 i0 (.agg #[.int .i64 0, .string ByteArray.empty, .int .i64 0, .int .i64 0]) 4 40 Try.underlying24 hi hz0 hz1 hz2 rfl (by decide) _ _ _ rfl (HO.out.alloc _) ⟨wr.heap.size, 0, none⟩ 1 1 [.int .i64 t.k, .string t.s, .int .i64 t.d, .int .i64 t.o] rfl rfl (cell_four_new _ _ _ _ _ _) (by simp [Value.oneCell']) (by simp only [maxLen]; omega) (by omega) (by simp; omega) ?_; intro v' w3 hown3 hgrow3 _; have HB3 := Lib.hid (app_below HB.out HO.out hgrow3); have HO3 := Lib.hid hown3; clear hown3 hgrow3)
      go_roundw
      case rel => exact ⟨k + 1, by omega, by go_num, HT.out ▸ HO3.out, HB3.out⟩
      case measure => simp [intOf] <;> omega
    · have hkn : k = n := by omega
      have HKN := Lib.hid hkn
      clear hkn hown hbw
      go_wp2
      go_ret
      have e1 := HKN.out
      have e2 := HN.out
      subst e1 e2
      have h := HO.out
      rw [List.take_of_length_le (Nat.le_refl _)] at h
      exact ⟨_, rfl, h, HB.out⟩

set_option maxHeartbeats 2000000 in
set_option maxRecDepth 100000 in
theorem sJoinStreams_any (A B : Option Addr) (la lb : List Tk) (n m c d : Nat) (w : World) (hn : la.length = n) (hm : lb.length = m) (hnm : n + m ≤ 2097152) (ha : TS w A la) (hb : TS w B lb) (fa : Fits la) (fb : Fits lb) (L : List Tk) (hL : la ++ lb = L) :
    Calls Try.prog 39 #[.slice A n c, .slice B m d] w (STokOut w (jnB la lb L) L) := by
  have HL := Lib.hid hL
  have HN := Lib.hid hn
  have HM := Lib.hid hm
  clear hn hm hL
  obtain ⟨i0, hi, hz0, hz1, hz2⟩ := info_parts infoTok
  go_enter Try.func39, Try.ntmps39
  go_wp2_with fail
  refine (sCopy_any _ la _ _ _ HN.out (by omega) ha).mono ?_
  rintro e w1 ⟨v1, rfl, hown1, hb1⟩
  rw [HN.out] at hown1
  have HO1 := Lib.hid hown1
  have HB1 := Lib.hid hb1
  clear hown1 hb1
  go_wp2
  go_loopw [6, 7] (fun v i wr => ∃ k : Nat, k ≤ m ∧ i = .int .i64 k ∧ wr.ownsRow w.heap.size 33 4 v (n + k) (flat (la ++ lb.take k)) ∧ Below w.heap.size w wr) (fun _ i _ => m - (intOf i).toNat)
  case atStart => exact ⟨0, Nat.zero_le _, rfl, by simpa using HO1.out, HB1.out⟩
  case round =>
    obtain ⟨k, hk, rfl, hown, hbw⟩ := hrel
    have HO := Lib.hid hown
    have HB := Lib.hid hbw
    have hz := hbw.size
    by_cases hkl : k < m
    · obtain ⟨t, b, o, ht, rfl, hbl, _⟩ := hb.at (k := k) (by have := HM.out; omega)
      obtain ⟨hbl', c0, c1, c2, c3⟩ := (hb.below hbw).get ht
      have HT := Lib.hid (show flat (la ++ lb.take k) ++ [Value.int .i64 t.k, .string t.s, .int .i64 t.d, .int .i64 t.o] = flat (la ++ lb.take (k + 1)) from by rw [List.take_add_one, ht, ← List.append_assoc, flat_append (la ++ lb.take k)]; rfl)
      clear ht hown hbw
      go_wp2_with (at_builtin; refine wpList_append_own _ rfl _ _ 24 rfl w.heap.size 33 i0 (.agg #[.int .i64 0, .string ByteArray.empty, .int .i64 0, .int .i64 0]) 4 40 Try.underlying24 hi hz0 hz1 hz2 rfl (by decide) _ _ _ rfl (HO.out.alloc _) ⟨wr.heap.size, 0, none⟩ 1 1 [.int .i64 t.k, .string t.s, .int .i64 t.d, .int .i64 t.o] rfl rfl (cell_four_new _ _ _ _ _ _) (by simp [Value.oneCell']) (by simp only [maxLen]; omega) (by omega) (by simp; omega) ?_; intro v' w3 hown3 hgrow3 _; have HB3 := Lib.hid (app_below HB.out HO.out hgrow3); have HO3 := Lib.hid hown3; clear hown3 hgrow3)
      go_roundw
      case rel => exact ⟨k + 1, by omega, by go_num, HT.out ▸ HO3.out, HB3.out⟩
      case measure => simp [intOf] <;> omega
    · have hown' : wr.ownsRow w.heap.size 33 4 u6 (n + m) (flat L) := by
        have hkn : k = m := by omega
        have h := hown
        rw [hkn, List.take_of_length_le (by have := HM.out; omega), HL.out] at h
        exact h
      obtain ⟨hLl, A1, c1, rfl, hlo, hts1⟩ := toks_of_own hown'
      have HLL := Lib.hid hLl
      have HLO := Lib.hid hlo
      have ha1 := ha.below hbw
      have hb1 := hb.below hbw
      have fL : Fits L := HL.out ▸ fa.app fb
      clear hown hown' hbw HO hLl hlo
      go_wp2_with fail
      refine (sStreamOk_any _ la _ _ _ HN.out (by omega) ha1 fa).mono ?_
      rintro e w2 ⟨rfl, hb2⟩
      have HB2 := Lib.hid (HB.out.trans (hb2.mono HB.out.size))
      have hbb := hb1.below hb2
      have ht2 := hts1.below hb2
      have hz2' := hb2.size
      clear hb2
      cases hA : strB la
      · have HJ := Lib.hid (show jnB la lb L = false from by simp [jnB, hA])
        clear hA
        go_wp2
        go_ret2
        exact ⟨HB2.out, .inr ⟨HJ.out, rfl⟩⟩
      · have HA := Lib.hid hA
        clear hA
        go_wp2_with fail
        refine (sStreamOk_any _ lb _ _ _ HM.out (by omega) hbb fb).mono ?_
        rintro e w3 ⟨rfl, hb3⟩
        have HB3 := Lib.hid (HB2.out.trans (hb3.mono HB2.out.size))
        have ht3 := ht2.below hb3
        have hz3 := hb3.size
        clear hb3
        cases hB : strB lb
        · have HJ := Lib.hid (show jnB la lb L = false from by simp [jnB, hB])
          clear hB
          go_wp2
          go_ret2
          exact ⟨HB3.out, .inr ⟨HJ.out, rfl⟩⟩
        · have HBB := Lib.hid hB
          clear hB
          go_wp2_with fail
          refine (sStreamOk_any _ L _ _ _ HLL.out (by omega) ht3 fL).mono ?_
          rintro e w4 ⟨rfl, hb4⟩
          have HB4 := Lib.hid (HB3.out.trans (hb4.mono HB3.out.size))
          have ht4 := ht3.below hb4
          have hz4 := hb4.size
          clear hb4
          cases hS : strB L
          · have HJ := Lib.hid (show jnB la lb L = false from by simp [jnB, hS])
            clear hS
            go_wp2
            go_ret2
            exact ⟨HB4.out, .inr ⟨HJ.out, rfl⟩⟩
          · have HJ := Lib.hid (show jnB la lb L = true from by simp [jnB, hS, HA.out, HBB.out])
            clear hS
            go_wp2
            go_ret2
            refine ⟨HB4.out, .inl ⟨HJ.out, A1, c1, ?_, fun g hg => ?_, ht4⟩⟩
            · rw [HLL.out]; rfl
            · have := HLO.out g hg; omega

/-- tokens of a call's own: nil and none, or one block. -/
def TokRow (w : World) (A : Option Addr) (l : List Tk) : Prop := (A = none ∧ l = []) ∨ ∃ g, A = some ⟨g, 0, none⟩ ∧ BlkL w g 33 (flat l)
theorem TokRow.ts {w : World} {A : Option Addr} {l : List Tk} (h : TokRow w A l) : TS w A l := by
  rcases h with ⟨rfl, rfl⟩ | ⟨g, rfl, hk⟩
  · exact TS.nil _ _
  · exact TS.of_blk hk
theorem TokRow.below {w w' : World} {A : Option Addr} {l : List Tk} (h : TokRow w A l) (hb : Below w.heap.size w w') : TokRow w' A l := by
  rcases h with ⟨rfl, rfl⟩ | ⟨g, rfl, hk⟩
  · exact .inl ⟨rfl, rfl⟩
  · exact .inr ⟨g, rfl, hk.below hb hk.lt⟩
theorem TokRow.grown {w w' : World} {A : Option Addr} {l : List Tk} {row : Option Nat} (h : TokRow w A l) (hg : w.grownBy w' row) (hne : ∀ b, A.map (·.block) = some b → some b ≠ row) : TokRow w' A l := by
  rcases h with ⟨rfl, rfl⟩ | ⟨g, rfl, hk⟩
  · exact .inl ⟨rfl, rfl⟩
  · exact .inr ⟨g, rfl, hk.grown hg (hne g rfl)⟩
def ifB (b : Bool) (L : List Tk) : List Tk := if b = true then L else []
theorem ifB_le (b : Bool) (L : List Tk) : (ifB b L).length ≤ L.length := by cases b <;> simp [ifB]

def ToksOut (w : World) (b : Bool) (R : List Tk) (e : Ending) (w' : World) : Prop :=
  Below w.heap.size w w' ∧ ∃ A c, e = .returned (.tuple #[.slice A R.length c, .bool b]) ∧ (∀ g, A.map (·.block) = some g → w.heap.size ≤ g) ∧ (A = none → c = 0) ∧ TokRow w' A R
def SToksOut (w : World) (b : Bool) (R : List Tk) (e : Ending) (w' : World) : Prop :=
  Below w.heap.size w w' ∧ ∃ A c, e = .returned (.tuple #[.slice A R.length c, .bool b]) ∧ (∀ g, A.map (·.block) = some g → g < w'.heap.size) ∧ TS w' A R
theorem TokOut.out {w : World} {b : Bool} {L : List Tk} {e : Ending} {w' : World} (h : TokOut w b L e w') : ToksOut w b (ifB b L) e w' := by
  obtain ⟨hb, ⟨rfl, g, rfl, hg, hk⟩ | ⟨rfl, rfl⟩⟩ := h
  · exact ⟨hb, _, _, rfl, fun x hx => by simp at hx; omega, fun h => (by cases h), .inr ⟨g, rfl, hk⟩⟩
  · exact ⟨hb, none, 0, rfl, fun x hx => by simp at hx, fun _ => rfl, .inl ⟨rfl, rfl⟩⟩
theorem STokOut.out {w : World} {b : Bool} {L : List Tk} {e : Ending} {w' : World} (h : STokOut w b L e w') : SToksOut w b (ifB b L) e w' := by
  obtain ⟨hb, ⟨rfl, A, c, rfl, hg, hk⟩ | ⟨rfl, rfl⟩⟩ := h
  · exact ⟨hb, _, _, rfl, fun x hx => (hg x hx).2, hk⟩
  · exact ⟨hb, none, 0, rfl, fun x hx => by simp at hx, TS.nil _ _⟩

set_option maxHeartbeats 400000 in
theorem markTokenS_nil (x : Int) (w : World) :
    Calls Try.prog 33 #[.slice none 0 0, .int .i64 x] w fun e w' => e = .returned (.int .i64 x) ∧ w = w' := by
  go_enter Try.func33, Try.ntmps33
  go_wp2
  refine wp_loop_rounds 1 ?_
  rw [rounds_succ]
  go_wp2
  go_ret
  exact ⟨rfl, rfl⟩
def MarkTPost (w : World) (A : Option Addr) (l : List Tk) (x : Int) (e : Ending) (w' : World) : Prop :=
  e = .returned (.int .i64 (x + 4 * l.length)) ∧ TokRow w' A (mkTo l x l.length) ∧ w.grownBy w' (A.map (·.block))
theorem markTokenS_any (A : Option Addr) (l : List Tk) (c : Nat) (x : Int) (w : World) (hm : l.length ≤ 2097152) (hx0 : 0 ≤ x) (hx1 : x ≤ 900000000) (hc : A = none → c = 0) (h : TokRow w A l) :
    Calls Try.prog 33 #[.slice A l.length c, .int .i64 x] w (MarkTPost w A l x) := by
  rcases h with ⟨rfl, rfl⟩ | ⟨g, rfl, hk⟩
  · rw [hc rfl]
    refine (markTokenS_nil x w).mono ?_
    rintro e w' ⟨rfl, rfl⟩
    exact ⟨by simp, .inl ⟨rfl, rfl⟩, World.grownBy.refl _ _⟩
  · refine (markTokenS_blk g l _ c x w rfl hm hx0 hx1 hk).mono ?_
    rintro e w' ⟨rfl, h1, h2⟩
    exact ⟨rfl, .inr ⟨g, rfl, h1⟩, h2⟩
end Go.Proofs.Ytlkiajjkcheoaaa
