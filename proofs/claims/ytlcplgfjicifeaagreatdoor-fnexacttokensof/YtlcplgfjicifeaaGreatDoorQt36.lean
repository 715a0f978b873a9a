/-
  TokensOf of the program.
-/
import Derived.Test.YtlcplgfjicifeaaGreatDoorQt27
import Derived.Test.YtlcplgfjicifeaaGreatDoorQt34
import Derived.Test.YtlcplgfjicifeaaGreatDoorQt35
import Derived.Lib.SliceRun
import Derived.Test.YtlcplgfjicifeaaGreatDoorQt32
import Derived.Test.YtlcplgfjicifeaaGreatDoorQt33
namespace Go.Proofs.YtlcplgfjicifeaaGreatDoor
open Go.RowKit
set_option linter.unusedVariables false

theorem bulk_bd {m : Nat} : ∀ {l : List Lx}, (∀ y ∈ l, y.s.size ≤ m) → bulk (txs l) ≤ l.length + l.length * m := by
  intro l h
  have key : ∀ (l : List Lx), (∀ y ∈ l, y.s.size ≤ m) → ((txs l).map fun (t : Tk) => t.s.size).sum ≤ l.length * m := by
    intro l
    induction l with
    | nil => intro _; simp [txs]
    | cons y l ih =>
      intro h
      have h1 := h y (List.mem_cons_self ..)
      have h2 := ih fun z hz => h z (List.mem_cons_of_mem _ hz)
      simp only [txs, tkx, List.map_cons, List.sum_cons, List.length_cons, Nat.succ_mul] at h2 ⊢
      omega
  have := key l h
  unfold bulk bulkN
  rw [List.take_length, txs_length]
  omega
theorem TrOk.bulk_le {l : List Nd} (h : TrOk l) : bulk (txs (lexK l 0 l.length)) ≤ 1048576 ∧ (lexK l 0 l.length).length ≤ 402 := by
  have h1 := h.upTo.lexK_le (i := 0) (a := l.length) (Nat.zero_le _) (Nat.le_refl _)
  have h2 := bulk_bd (h.upTo.lexK_size (i := 0) (a := l.length) (Nat.le_refl _))
  have h3 := h.len
  have h4 : (lexK l 0 l.length).length ≤ 402 := by omega
  have h5 : (lexK l 0 l.length).length * 2000 ≤ 402 * 2000 := Nat.mul_le_mul_right _ h4
  exact ⟨by omega, h4⟩
/-- what PrintTree tells. -/
noncomputable def prT (l : List Nd) : ByteArray := if treB l then pxB (lexK l 0 l.length) else ByteArray.empty
theorem prT_no {l : List Nd} (h : treB l = false) : prT l = ByteArray.empty := by unfold prT; rw [h]; rfl
theorem prT_yes {l : List Nd} (h : TrOk l) : prT l = pxB (lexK l 0 l.length) := by unfold prT; rw [treB_yes h]; rfl

theorem brs_nil (W : World) (a : Option Addr) (n c n' c' : Nat) : (binOp .eql 84 (.slice a n c) (.slice none n' c')).run Tryz.prog W = .ok (.bool a.isNone) W := Lib.run_eql_slice_nil W _ _ a n c n' c' Tryz.underlying84
set_option maxHeartbeats 2000000 in
set_option maxRecDepth 100000 in
theorem PrintTree_any (A : Option Addr) (l : List Nd) (n c : Nat) (w : World) (hn : l.length = n) (hm : n ≤ 2097152) (hl : NS w A l) (hg : ErrV w) :
    Calls Tryz.prog 32 #[.slice A n c] w fun e w' => e = .returned (.string (prT l)) ∧ Below w.heap.size w w' := by
  subst hn
  have q22 := brs_nil
  go_enter Tryz.func32, Tryz.ntmps32
  go_wp2_with fail
  refine (planted_any A l _ c w rfl hm hl hg).mono ?_
  rintro e w1 ⟨hb, h | ⟨ht, g, c1, ps, vs, rfl, hfo, hgl, hc⟩⟩
  · obtain ⟨h0, rfl⟩ := h
    have HI := Lib.hid (prT_no h0)
    have HB1 := Lib.hid hb
    clear h0 hb hl hg
    go_wp2
    go_ret
    rw [HI.out]
    exact ⟨rfl, HB1.out⟩
  · have HI := Lib.hid (prT_yes ht)
    have HT := Lib.hid ht
    have HB1 := Lib.hid hb
    have HF := Lib.hid hfo
    have c0 := hc 0 (Nat.zero_le _)
    unfold ptr at c0
    obtain ⟨A9, c9, hv, _⟩ := hfo.kid (Nat.zero_le _)
    have hcell := hfo.cells (Nat.zero_le _)
    have HV := Lib.hid hv
    rw [hv] at hcell
    obtain ⟨_, _, _, _, _, d5, dl⟩ := hcell
    have hcall := lexemesOf_any hfo rfl ht.len ht.upTo l.length 0 (Nat.zero_le _) (by omega) w1 (Below.refl _ _)
    rw [hv] at hcall
    have HCALL := Lib.hid hcall
    clear hb ht hfo hc hl hg hv hcall
    go_wp2_with fail
    refine HCALL.out.mono ?_
    rintro e w2 ⟨v2, rfl, ho2, hb2⟩
    have HM2 := Lib.hid (show _ from (OR.of_own fx_len rfl ho2))
    obtain ⟨A2, c2, rfl⟩ := own_slice ho2
    have HX2 := Lib.hid (show XS w2 A2 (lexK l 0 l.length) from HM2.out.rs fx_len)
    have HB2 := Lib.hid (HB1.out.trans (hb2.mono HB1.out.size))
    have hbk := HT.out.bulk_le
    clear ho2 hb2 HM2 c0 d5
    go_wp2_with fail
    refine (PlainLex_any A2 (lexK l 0 l.length) _ c2 w2 rfl (by omega) HX2.out hbk.1).mono ?_
    rintro e w3 ⟨rfl, hb3⟩
    have HB3 := Lib.hid (HB2.out.trans (hb3.mono HB2.out.size))
    clear hb3
    go_wp2
    go_ret
    rw [HI.out]
    exact ⟨rfl, HB3.out⟩
end Go.Proofs.YtlcplgfjicifeaaGreatDoor
namespace Go.Proofs.YtlcplgfjicifeaaGreatDoor
open Go.RowKit
set_option linter.unusedVariables false

theorem kidT_mem {s : Sy} {l : List Nd} {g : Nat → List Tk} {k : Int} {tot : Nat} {t : Tk} : ∀ (ks : List Nat) (n p : Nat), t ∈ kidT s l g k tot ks n p → t.s.size = 0 ∨ ∃ c ∈ ks, t ∈ g (c + 1)
  | [], n, p, h => by simp [kidT] at h
  | x :: ks, n, p, h => by
    simp only [kidT, List.mem_append] at h
    rcases h with h | h | h
    · exact .inr ⟨x, List.mem_cons_self .., h⟩
    · refine .inl ?_
      unfold ptL at h
      split at h
      · simp at h; rw [h]; rfl
      · split at h
        · simp at h
        · simp at h; rw [h]; rfl
    · rcases kidT_mem ks (n + 1) _ h with h | ⟨c, hc, h⟩
      · exact .inl h
      · exact .inr ⟨c, List.mem_cons_of_mem _ hc, h⟩
theorem node_size {l : List Nd} (hup : UpTo l l.length) {i : Nat} (h1 : 1 ≤ i) (h2 : i ≤ l.length) (hk : knd l i ≤ 2) : (nAt l i).s.size ≤ 2000 := by
  obtain ⟨i', rfl⟩ : ∃ i', i = i' + 1 := ⟨i - 1, by omega⟩
  obtain ⟨⟨x, hx, hn⟩, _⟩ := hup i' (by omega)
  rw [knd_succ hx] at hk
  rw [nAt_succ hx]
  unfold nodB at hn
  simp only [Bool.and_eq_true] at hn
  have h3 := hn.2.2
  rw [if_neg (by omega)] at h3
  apply Classical.byContradiction
  intro h4
  have : (lxA x.s).1 = [] := by unfold lxA; rw [if_pos (by omega)]
  rw [this] at h3
  cases h3
theorem tkF_size {l : List Nd} (hup : UpTo l l.length) (s : Sy) : ∀ (f i : Nat), 1 ≤ i → i ≤ l.length → ∀ t ∈ tkF s l f i, t.s.size ≤ 2000 := by
  intro f
  induction f with
  | zero => intro i _ _ y hy; simp [tkF] at hy
  | succ f ih =>
    intro i h1 h2 t ht
    simp only [tkF] at ht
    split at ht
    · rename_i hk
      simp only [List.mem_cons, List.not_mem_nil, or_false] at ht
      rw [ht]
      exact node_size hup h1 h2 hk
    · split at ht
      · rcases List.mem_cons.1 ht with ht | ht
        · rw [ht]; show (2 : Nat) - 1 ≤ 2000; decide
        · obtain ⟨c, hc, ht⟩ := List.mem_flatMap.1 ht
          have := kidsN_mem hc
          exact ih (c + 1) (by omega) (by omega) t ht
      · rcases List.mem_cons.1 ht with ht | ht
        · rw [ht]; show 0 ≤ 2000; decide
        · rcases List.mem_cons.1 ht with ht | ht
          · rw [ht]; show (opS (knd l i)).size ≤ 2000; unfold opS; split; decide; split <;> decide
          · rcases List.mem_append.1 ht with ht | ht
            · rcases kidT_mem _ _ _ ht with h | ⟨c, hc, h⟩
              · omega
              · have := kidsN_mem hc
                exact ih (c + 1) (by omega) (by omega) t h
            · simp only [List.mem_cons, List.not_mem_nil, or_false] at ht
              rcases ht with ht | ht
              · rw [ht]; show (clS (knd l i)).size ≤ 2000; unfold clS; split; decide; split <;> decide
              · rw [ht]; show 0 ≤ 2000; decide
theorem toT_size {l : List Nd} (hup : UpTo l l.length) (s : Sy) : ∀ (m : Nat), ∀ t ∈ toT s l m, t.s.size ≤ 2000 := by
  intro m
  induction m with
  | zero => intro t ht; simp [toT] at ht
  | succ m ih =>
    intro t ht
    simp only [toT, List.mem_append] at ht
    rcases ht with ht | ht | ht
    · exact ih t ht
    · split at ht
      · simp at ht
      · have := (List.mem_replicate.1 ht).2
        rw [this]; show 0 ≤ 2000; decide
    · split at ht
      · rename_i c hc
        have := kidsN_mem (List.mem_of_getElem? hc)
        exact tkF_size hup s _ (c + 1) (by omega) (by omega) t ht
      · simp at ht
theorem toT_fits {l : List Nd} (hup : UpTo l l.length) (s : Sy) (m : Nat) : Fits (toT s l m) := by
  intro i t ht
  have := toT_size hup s m t (List.mem_of_getElem? ht)
  unfold maxLen
  omega
theorem ts_own {w : World} {B n c : Nat} {A : Option Addr} {l : List Tk} (h : w.ownsRow B 48 4 (.slice A n c) n (fl ft l)) : TS w A l := by
  have hl : l.length = n := by
    have := h.1
    rw [fl_flat, flat_length] at this
    omega
  rcases OR.of_own ft_len hl h with ⟨⟨c1, c2, he⟩, rfl⟩ | ⟨g, cap, rest, he, _, hk⟩
  · exact TS.nil _ _
  · injection he with e1 _ _
    rw [e1]
    intro i u hu
    have f := flat_at hu
    rw [fl_flat] at hk
    refine ⟨g, 0, rfl, hk.lt, ?_⟩
    have hlt := (List.getElem?_eq_some_iff.1 hu).1
    have hfl := flat_length l
    unfold TkC
    simp only [Nat.zero_add]
    rw [hk.cell, hk.cell, hk.cell, hk.cell]
    rw [List.getElem?_append_left (by omega), List.getElem?_append_left (by omega), List.getElem?_append_left (by omega), List.getElem?_append_left (by omega)]
    exact f
/-- how many nodes hang on the root. -/
def topN (l : List Nd) : Nat := (kidsN l 0 l.length).length
noncomputable def tkB (s : Sy) (l : List Nd) : Bool := treB l && (s.ok && strB (toT s l (topN l)))
noncomputable def tkA (s : Sy) (l : List Nd) : List Tk := if tkB s l then toT s l (topN l) else []
/-- tokens of a call's own, and a yes or no. -/
def TkOut (w : World) (b : Bool) (R : List Tk) (e : Ending) (w' : World) : Prop :=
  Below w.heap.size w w' ∧ ∃ v, e = .returned (.tuple #[v, .bool b]) ∧ w'.ownsRow w.heap.size 48 4 v R.length (fl ft R)
theorem own_nil' (w : World) (B : Nat) : w.ownsRow B 48 4 (.slice none 0 0) 0 (fl ft []) := ⟨rfl, .inl ⟨rfl, rfl⟩⟩
theorem TkOut.no (w w' : World) (h : Below w.heap.size w w') : TkOut w false [] (.returned (.tuple #[.slice none 0 0, .bool false])) w' := ⟨h, _, rfl, own_nil' _ _⟩
set_option maxHeartbeats 4000000 in
set_option maxRecDepth 100000 in
theorem TokensOf_any (s : Sy) (A : Option Addr) (l : List Nd) (n c : Nat) (w : World) (hn : l.length = n) (hm : n ≤ 2097152) (hl : NS w A l) (hg : ErrV w) :
    Calls Tryz.prog 17 #[s.val, .slice A n c] w (TkOut w (tkB s l) (tkA s l)) := by
  subst hn
  obtain ⟨i0, hi0, hz0, hz1, hz2⟩ := info_parts infoTk
  have q22 := brs_nil
  have HSO := Lib.hid (StyleOk_any s)
  have hbS := (Below.refl w.heap.size w).alloc (Nat.le_refl _) (.cells #[.int .i64 s.r, .int .i64 s.q, .int .i64 s.c, .int .i64 s.h, .int .i64 s.g] 29)
  have HP := Lib.hid (planted_any A l _ c (w.alloc (.cells #[.int .i64 s.r, .int .i64 s.q, .int .i64 s.c, .int .i64 s.h, .int .i64 s.g] 29)) rfl hm (hl.below hbS) (hg.below hbS))
  have HBS := Lib.hid hbS
  have hsy := SyAt.new w s 29
  clear hl hg hbS
  unfold Sy.val at HSO ⊢
  go_enter Tryz.func17, Tryz.ntmps17
  go_wp2_with fail
  refine HP.out.mono ?_
  have hlt : w.heap.size < (w.alloc (.cells #[.int .i64 s.r, .int .i64 s.q, .int .i64 s.c, .int .i64 s.h, .int .i64 s.g] 29)).heap.size := by simp
  clear HP
  generalize (w.alloc (.cells #[.int .i64 s.r, .int .i64 s.q, .int .i64 s.c, .int .i64 s.h, .int .i64 s.g] 29)) = W1 at *
  rintro e w1 ⟨hb, h | ⟨ht, g, c1, ps, vs, rfl, hfo, hgl, hc⟩⟩
  · obtain ⟨h0, rfl⟩ := h
    have HB1 := Lib.hid (HBS.out.trans (hb.mono HBS.out.size))
    have HTB := Lib.hid (show tkB s l = false by unfold tkB; rw [h0]; rfl)
    clear h0 hb hsy
    go_wp2
    go_ret2
    unfold tkA
    rw [HTB.out]
    exact TkOut.no _ _ HB1.out
  · have HT := Lib.hid ht
    have HB1 := Lib.hid hb
    have HF := Lib.hid hfo
    have HC := Lib.hid hc
    have hsy1 := hsy.below hb
    have HSY := Lib.hid hsy1
    obtain ⟨c0, c1', c2, c3, c4, c5⟩ := hsy1
    clear hb hfo hc hsy ht
    go_wp2_with fail
    refine (HSO.out w1).mono ?_
    rintro e w2 ⟨rfl, hb2⟩
    have HB2 := Lib.hid (HB1.out.trans (hb2.mono HB1.out.size))
    have HB2' := Lib.hid hb2
    have hg2 : g < w2.heap.size := Nat.lt_of_lt_of_le hgl hb2.size
    have hc0 := (hb2.cell (p := ⟨g, 0, none⟩) hgl).trans (HC.out 0 (Nat.zero_le _))
    have hsy2 := SyAt.belowB HSY.out hb2 (Nat.lt_of_lt_of_le hlt HB1.out.size)
    have hf2 := HF.out.below hb2
    have HF2 := Lib.hid hf2
    have HSY2 := Lib.hid hsy2
    obtain ⟨A9, c9, hv, hkid⟩ := hf2.kid (Nat.zero_le _)
    obtain ⟨_, _, _, _, _, d5, dl⟩ := hf2.cells (Nat.zero_le _)
    rw [hv] at d5
    unfold ptr at hc0
    have HKD := Lib.hid hkid
    clear hb2 HC hf2 hsy2 hkid c0 c1' c2 c3 c4 c5 hv
    cases hok : s.ok
    · have HTB := Lib.hid (show tkB s l = false by unfold tkB; rw [hok]; simp)
      clear hok
      go_wp2
      go_ret2
      unfold tkA
      rw [HTB.out]
      exact TkOut.no _ _ (HBS.out.trans (HB2.out.mono HBS.out.size))
    · have HOK := Lib.hid hok
      clear hok
      go_wp2
      have HUP := Lib.hid HT.out.upTo
      have hl200 := HT.out.len
      have hg01 := (Sy.ok_iff.1 HOK.out).2.2.2.2
      have hkl := kidsN_len l 0 l.length
      have HB2W := Lib.hid HB2'.out
      go_loopw [7, 26] (fun tv iv wr => ∃ j : Nat, j ≤ (kidsN l 0 l.length).length ∧ iv = .int .i64 j ∧ wr.ownsRow w2.heap.size 48 4 tv (toT s l j).length (fl ft (toT s l j)) ∧ Below w2.heap.size w2 wr) (fun _ iv _ => (kidsN l 0 l.length).length - (intOf iv).toNat)
      case atStart => exact ⟨0, Nat.zero_le _, rfl, own_nil' _ _, Below.refl _ _⟩
      case round =>
        obtain ⟨j, hj, rfl, hown, hb⟩ := hrel
        have HO := Lib.hid hown
        have HB := Lib.hid hb
        obtain ⟨Av, cv, hAv⟩ := own_slice hown
        subst hAv
        have hbl := HUP.out.toT_le s hg01.2 j hj
        clear hown hb
        by_cases hjl : j < (kidsN l 0 l.length).length
        · obtain ⟨a, ha⟩ : ∃ a, (kidsN l 0 l.length)[j]? = some a := ⟨_, List.getElem?_eq_getElem hjl⟩
          obtain ⟨han, hpar, _⟩ := kidsN_mem (List.mem_of_getElem? ha)
          have HCALL := Lib.hid (tokensOfNode_any HF.out rfl hl200 HUP.out s HOK.out l.length (a + 1) (by omega) (by omega) (by omega))
          obtain ⟨g, hgA, hgl, hgc⟩ := HKD.out j a ha
          have cg : wr.cell? ⟨g, j, none⟩ = some (.pointer (some ⟨ps (a + 1), 0, none⟩)) := (HB.out.cell (p := ⟨g, j, none⟩) hgl).trans hgc
          have HST := Lib.hid (toT_succ (s := s) ha)
          have htl := HUP.out.tkP_le s (i := a + 1) (by omega) (by omega)
          have hsyr := SyAt.below HSY2.out HB.out
          have HSYR := Lib.hid hsyr
          obtain ⟨c0, c1', c2, c3, c4, c5⟩ := hsyr
          subst hgA
          clear hgc ha
          unfold Sy.val at HCALL
          by_cases hj0 : j = 0
          · subst hj0
            rw [if_pos rfl, List.nil_append] at HST
            go_wp2_with fail
            refine (HCALL.out wr (HB2W.out.trans (HB.out.mono HB2W.out.size))).mono ?_
            rintro e w5 ⟨v5, rfl, ho5, hb5⟩
            have hwz5 : w2.heap.size ≤ wr.heap.size := HB.out.size
            have HO5 := Lib.hid (own_below HO.out hb5)
            have HB5 := Lib.hid (HB.out.trans (hb5.mono hwz5))
            have HR5 := Lib.hid ho5
            obtain ⟨A5, c5', rfl⟩ := own_slice ho5
            have hz5 : w2.heap.size ≤ w5.heap.size := HB5.out.size
            clear ho5 hb5
            go_wp2_with (at_builtin; refine wpList_append_row _ rfl _ _ 26 rfl w2.heap.size 48 i0 (.agg #[.int .i64 0, .string ByteArray.empty, .int .i64 0, .int .i64 0]) 4 40 Tryz.underlying26 hi0 hz0 hz1 hz2 rfl (by decide) _ _ _ rfl HO5.out _ _ _ _ rfl HR5.out (ft_all _) (by simp only [maxLen]; omega) (by omega) hz5 ?_)
            intro v' w6 how6 hgr6
            rw [← fl_append, ← HST.out] at how6
            have HB6 := Lib.hid (HB5.out.grown hgr6 hz5 (fun g hg => (HO5.out.lt g hg).1))
            have HO6 := Lib.hid (show w6.ownsRow w2.heap.size 48 4 v' (toT s l (0 + 1)).length (fl ft (toT s l (0 + 1))) from own_n (by rw [HST.out, List.length_append]) how6)
            clear how6 hgr6 HO5 HR5
            go_wp2
            go_roundw
            case rel => exact ⟨0 + 1, by omega, by go_num, HO6.out, HB6.out⟩
            case measure => simp [intOf]; omega
          · rw [if_neg hj0] at HST
            have g0 : decide ((0 : Int) < (j : Int)) = true := decide_eq_true (by omega)
            have HLB := Lib.hid (linesBetween_any s.g hg01.1 hg01.2 wr)
            go_wp2_with fail
            refine HLB.out.mono ?_
            rintro e w3 ⟨v3, rfl, ho3, hb3⟩
            have hwz1 : w2.heap.size ≤ wr.heap.size := HB.out.size
            have HO3 := Lib.hid (own_below HO.out hb3)
            have HB3 := Lib.hid (HB.out.trans (hb3.mono hwz1))
            have HR3 := Lib.hid ho3
            obtain ⟨A3, c3', rfl⟩ := own_slice ho3
            have hz3 : w2.heap.size ≤ w3.heap.size := HB3.out.size
            have hrl : (List.replicate (s.g.toNat + 1) tL).length ≤ 2 := by rw [List.length_replicate]; omega
            obtain ⟨R, hR⟩ : ∃ R, List.replicate (s.g.toNat + 1) tL = R := ⟨_, rfl⟩
            rw [hR] at hrl HR3 HST ⊢
            clear ho3 hb3 c0 c1' c2 c3 c4 c5 hR
            go_wp2_with (at_builtin; refine wpList_append_row _ rfl _ _ 26 rfl w2.heap.size 48 i0 (.agg #[.int .i64 0, .string ByteArray.empty, .int .i64 0, .int .i64 0]) 4 40 Tryz.underlying26 hi0 hz0 hz1 hz2 rfl (by decide) _ _ _ rfl HO3.out _ _ _ _ rfl HR3.out (ft_all _) (by simp only [maxLen]; omega) (by omega) hz3 ?_)
            intro v' w4 how4 hgr4
            rw [← fl_append] at how4
            have HB4 := Lib.hid (HB3.out.grown hgr4 hz3 (fun g hg => (HO3.out.lt g hg).1))
            obtain ⟨A4, c4', rfl⟩ := own_slice how4
            have HO4 := Lib.hid how4
            clear how4 hgr4 HO3 HR3
            have hsyr4 := SyAt.below HSY2.out HB4.out
            obtain ⟨c0, c1', c2, c3, c4, c5⟩ := hsyr4
            go_wp2_with fail
            refine (HCALL.out w4 (HB2W.out.trans (HB4.out.mono HB2W.out.size))).mono ?_
            rintro e w5 ⟨v5, rfl, ho5, hb5⟩
            have hwz5 : w2.heap.size ≤ w4.heap.size := HB4.out.size
            have HO5 := Lib.hid (own_below HO4.out hb5)
            have HB5 := Lib.hid (HB4.out.trans (hb5.mono hwz5))
            have HR5 := Lib.hid ho5
            obtain ⟨A5, c5', rfl⟩ := own_slice ho5
            have hz5 : w2.heap.size ≤ w5.heap.size := HB5.out.size
            clear ho5 hb5
            go_wp2_with (at_builtin; refine wpList_append_row _ rfl _ _ 26 rfl w2.heap.size 48 i0 (.agg #[.int .i64 0, .string ByteArray.empty, .int .i64 0, .int .i64 0]) 4 40 Tryz.underlying26 hi0 hz0 hz1 hz2 rfl (by decide) _ _ _ rfl HO5.out _ _ _ _ rfl HR5.out (ft_all _) (by simp only [maxLen]; omega) (by omega) hz5 ?_)
            intro v' w6 how6 hgr6
            rw [← fl_append, List.append_assoc, ← HST.out] at how6
            have HB6 := Lib.hid (HB5.out.grown hgr6 hz5 (fun g hg => (HO5.out.lt g hg).1))
            have HO6 := Lib.hid (show w6.ownsRow w2.heap.size 48 4 v' (toT s l (j + 1)).length (fl ft (toT s l (j + 1))) from own_n (by rw [HST.out]; simp only [List.length_append]; omega) how6)
            clear how6 hgr6 HO5 HR5
            go_wp2
            go_roundw
            case rel => exact ⟨j + 1, by omega, by go_num, HO6.out, HB6.out⟩
            case measure => simp [intOf]; omega
        · have hjj : j = (kidsN l 0 l.length).length := by omega
          subst hjj
          have HFT := Lib.hid (toT_fits HUP.out s (kidsN l 0 l.length).length)
          have HTS := Lib.hid (ts_own HO.out)
          go_wp2_with fail
          refine (StreamOk_any Av (toT s l (kidsN l 0 l.length).length) _ cv wr rfl (by omega) HTS.out HFT.out).mono ?_
          rintro e w5 ⟨rfl, hb5⟩
          have HTB := Lib.hid (show tkB s l = strB (toT s l (kidsN l 0 l.length).length) by unfold tkB topN; rw [treB_yes HT.out, HOK.out]; simp)
          have HB5 := Lib.hid ((HBS.out.trans (HB2.out.mono HBS.out.size)).trans ((HB.out.trans (hb5.mono HB.out.size)).mono (HBS.out.trans (HB2.out.mono HBS.out.size)).size))
          have HO5 := Lib.hid (own_low (own_below HO.out hb5) (HBS.out.trans (HB2.out.mono HBS.out.size)).size)
          clear hb5
          cases hsb : strB (toT s l (kidsN l 0 l.length).length)
          · rw [hsb] at HTB
            go_wp2
            go_ret2
            unfold tkA
            rw [HTB.out]
            exact TkOut.no _ _ HB5.out
          · rw [hsb] at HTB
            go_wp2
            go_ret2
            unfold tkA
            rw [HTB.out, if_pos rfl]
            exact ⟨HB5.out, _, rfl, HO5.out⟩
end Go.Proofs.YtlcplgfjicifeaaGreatDoor
