/-
  The givers of tokens of the blocks, as the program has them.
-/
import Derived.Test.YtlcplgfjicifeaaGreatDoorQt30
namespace Go.Proofs.YtlcplgfjicifeaaGreatDoor
open Go.RowKit
set_option linter.unusedVariables false

theorem off_sq (s : Sy) (V : World) (x y : Int) (m p : Nat) : Calls Tryz.prog 185 #[.int .i64 x, .int .i64 y] V (fun e w' => e = .returned (.int .i64 (offB s 4 m p)) ∧ V = w') := by
  go_enter Tryz.func185, Tryz.ntmps185
  go_wp2
  go_ret
  simp [offB]
theorem off_cu (s : Sy) (V : World) (x y : Int) (m p : Nat) (hy : y = p) : Calls Tryz.prog 186 #[.int .i64 x, .int .i64 y] V (fun e w' => e = .returned (.int .i64 (offB s 5 m p)) ∧ V = w') := by
  subst hy
  go_enter Tryz.func186, Tryz.ntmps186
  go_wp2
  go_ret
  simp [offB]
theorem off_ro (s : Sy) (V : World) (x y h : Int) (q m p : Nat) (hx : x = m) (hq : V.cell? ⟨q, 0, none⟩ = some (.int .i64 h)) (he : offB s 3 m p = if (m : Int) ≤ h then 2 else 0) : Calls Tryz.prog 184 #[.int .i64 x, .int .i64 y, .pointer (some ⟨q, 0, none⟩)] V (fun e w' => e = .returned (.int .i64 (offB s 3 m p)) ∧ V = w') := by
  rw [he]
  subst hx
  clear he
  go_enter Tryz.func184, Tryz.ntmps184
  by_cases hle : (m : Int) ≤ h
  · rw [if_pos hle]
    go_wp2
    go_ret
    exact ⟨rfl, rfl⟩
  · rw [if_neg hle]
    go_wp2
    go_ret
    exact ⟨rfl, rfl⟩
set_option maxHeartbeats 1000000 in
theorem tokensOfSquare_any {w0 : World} {B : Nat} {l : List Nd} {n : Nat} {ps : Nat → Nat} {vs : Nat → Value} (hfo : Fo w0 B l n ps vs) (hlen : l.length = n) (hn200 : n ≤ 200) (hup : UpTo l l.length) (s : Sy) (hs : s.ok = true)
    (i : Nat) (h1i : 1 ≤ i) (hi : i ≤ n) (hk : knd l i = 4) (w : World) (hw : Below w0.heap.size w0 w)
    (IH : ∀ a, a < n → par l a = i → ∀ V, Below w0.heap.size w0 V → Calls Tryz.prog 71 #[s.val, .pointer (some ⟨ps (a + 1), 0, none⟩)] V (TkO V (tkP s l (a + 1)))) :
    Calls Tryz.prog 140 #[s.val, .pointer (some ⟨ps i, 0, none⟩)] w (TkO w (tkP s l i)) := by
  have HB := Lib.hid (tokensOfBlock_sq hfo hlen hn200 hup s hs i h1i hi hk (s.q) (by simp [Sy.of]) (w.alloc (.cells #[.int .i64 s.r, .int .i64 s.q, .int .i64 s.c, .int .i64 s.h, .int .i64 s.g] 29)) (hw.trans (((Below.refl w.heap.size w).alloc (Nat.le_refl _) _).mono hw.size)) (fun V _ x y m p hx hy hm hp => off_sq s V x y m p) IH)
  clear hfo hup hw IH hs hk
  unfold Sy.val at HB ⊢
  go_enter Tryz.func140, Tryz.ntmps140
  go_wp2_with fail
  refine HB.out.mono ?_
  rintro e w3 ⟨v3, rfl, ho3, hb3⟩
  go_wp2
  go_ret
  exact tkO_lift ((Below.refl w.heap.size w).alloc (Nat.le_refl _) _) ⟨_, rfl, ho3, hb3⟩
set_option maxHeartbeats 1000000 in
theorem tokensOfCurly_any {w0 : World} {B : Nat} {l : List Nd} {n : Nat} {ps : Nat → Nat} {vs : Nat → Value} (hfo : Fo w0 B l n ps vs) (hlen : l.length = n) (hn200 : n ≤ 200) (hup : UpTo l l.length) (s : Sy) (hs : s.ok = true)
    (i : Nat) (h1i : 1 ≤ i) (hi : i ≤ n) (hk : knd l i = 5) (w : World) (hw : Below w0.heap.size w0 w)
    (IH : ∀ a, a < n → par l a = i → ∀ V, Below w0.heap.size w0 V → Calls Tryz.prog 71 #[s.val, .pointer (some ⟨ps (a + 1), 0, none⟩)] V (TkO V (tkP s l (a + 1)))) :
    Calls Tryz.prog 141 #[s.val, .pointer (some ⟨ps i, 0, none⟩)] w (TkO w (tkP s l i)) := by
  have HB := Lib.hid (tokensOfBlock_cu hfo hlen hn200 hup s hs i h1i hi hk (s.c) (by simp [Sy.of]) (w.alloc (.cells #[.int .i64 s.r, .int .i64 s.q, .int .i64 s.c, .int .i64 s.h, .int .i64 s.g] 29)) (hw.trans (((Below.refl w.heap.size w).alloc (Nat.le_refl _) _).mono hw.size)) (fun V _ x y m p hx hy hm hp => off_cu s V x y m p hy) IH)
  clear hfo hup hw IH hs hk
  unfold Sy.val at HB ⊢
  go_enter Tryz.func141, Tryz.ntmps141
  go_wp2_with fail
  refine HB.out.mono ?_
  rintro e w3 ⟨v3, rfl, ho3, hb3⟩
  go_wp2
  go_ret
  exact tkO_lift ((Below.refl w.heap.size w).alloc (Nat.le_refl _) _) ⟨_, rfl, ho3, hb3⟩
set_option maxHeartbeats 1000000 in
theorem tokensOfRound_any {w0 : World} {B : Nat} {l : List Nd} {n : Nat} {ps : Nat → Nat} {vs : Nat → Value} (hfo : Fo w0 B l n ps vs) (hlen : l.length = n) (hn200 : n ≤ 200) (hup : UpTo l l.length) (s : Sy) (hs : s.ok = true)
    (i : Nat) (h1i : 1 ≤ i) (hi : i ≤ n) (hk : knd l i = 3) (w : World) (hw : Below w0.heap.size w0 w)
    (IH : ∀ a, a < n → par l a = i → ∀ V, Below w0.heap.size w0 V → Calls Tryz.prog 71 #[s.val, .pointer (some ⟨ps (a + 1), 0, none⟩)] V (TkO V (tkP s l (a + 1)))) :
    Calls Tryz.prog 139 #[s.val, .pointer (some ⟨ps i, 0, none⟩)] w (TkO w (tkP s l i)) := by
  have HOK := Lib.hid (Sy.ok_iff.1 hs)
  have HBL := Lib.hid (fun (V : World) (hV : Below w0.heap.size w0 V) (h : Int) (q : Nat) (hqb : q < V.heap.size) (hq : V.cell? ⟨q, 0, none⟩ = some (.int .i64 h)) (he : ∀ m p : Nat, 1 ≤ m → offB s 3 m p = if (m : Int) ≤ h then 2 else 0) =>
    tokensOfBlock_ro hfo hlen hn200 hup s hs q i h1i hi hk (s.r) (by simp [Sy.of]) V hV (fun V' hb x y m p hx hy hm hp => off_ro s V' x y h q m p hx ((hb.cell (p := ⟨q, 0, none⟩) hqb).trans hq) (he m p hm.1)) IH)
  have HW := Lib.hid hw
  clear hfo hup hw IH hs hk
  unfold Sy.val at HBL ⊢
  have hr01 : 0 ≤ s.r ∧ s.r ≤ 3 := by have := HOK.out; omega
  go_enter Tryz.func139, Tryz.ntmps139
  go_wp2_with fail
  refine (tightBit_any s.r hr01.1 hr01.2 _).mono ?_
  rintro e w1 ⟨rfl, rfl⟩
  by_cases hr : s.r % 2 = 1
  · rw [hr]
    go_wp2_with fail
    have hV := ((Below.refl w.heap.size w).alloc (Nat.le_refl _) (.cells #[.int .i64 s.r, .int .i64 s.q, .int .i64 s.c, .int .i64 s.h, .int .i64 s.g] 29)).alloc (by simp) (.cells #[.int .i64 0] 3)
    have hk := BlkL.new (w.alloc (.cells #[.int .i64 s.r, .int .i64 s.q, .int .i64 s.c, .int .i64 s.h, .int .i64 s.g] 29)) 3 [.int .i64 0]
    rw [show (w.alloc (.cells #[.int .i64 s.r, .int .i64 s.q, .int .i64 s.c, .int .i64 s.h, .int .i64 s.g] 29)).heap.size = w.heap.size + 1 by simp] at hk
    have hkc := (hk.cell 0).trans rfl
    refine (HBL.out _ (HW.out.trans (hV.mono HW.out.size)) 0 (w.heap.size + 1) (by simp) hkc (fun m p hm => ?_)).mono ?_
    · simp [offB, hr]
      try omega
    rintro e w3 ⟨v3, rfl, ho3, hb3⟩
    go_wp2
    go_ret
    exact tkO_lift hV ⟨_, rfl, ho3, hb3⟩
  · have hr0 : s.r % 2 = 0 := by omega
    rw [hr0]
    go_wp2_with fail
    have hV := ((Below.refl w.heap.size w).alloc (Nat.le_refl _) (.cells #[.int .i64 s.r, .int .i64 s.q, .int .i64 s.c, .int .i64 s.h, .int .i64 s.g] 29)).alloc (by simp) (.cells #[.int .i64 s.h] 3)
    have hk := BlkL.new (w.alloc (.cells #[.int .i64 s.r, .int .i64 s.q, .int .i64 s.c, .int .i64 s.h, .int .i64 s.g] 29)) 3 [.int .i64 s.h]
    rw [show (w.alloc (.cells #[.int .i64 s.r, .int .i64 s.q, .int .i64 s.c, .int .i64 s.h, .int .i64 s.g] 29)).heap.size = w.heap.size + 1 by simp] at hk
    have hkc := (hk.cell 0).trans rfl
    refine (HBL.out _ (HW.out.trans (hV.mono HW.out.size)) s.h (w.heap.size + 1) (by simp) hkc (fun m p hm => ?_)).mono ?_
    · simp [offB, hr0]
      try omega
    rintro e w3 ⟨v3, rfl, ho3, hb3⟩
    go_wp2
    go_ret
    exact tkO_lift hV ⟨_, rfl, ho3, hb3⟩
set_option maxHeartbeats 4000000 in
set_option maxRecDepth 100000 in
theorem tokensOfQuote_any {w0 : World} {B : Nat} {l : List Nd} {n : Nat} {ps : Nat → Nat} {vs : Nat → Value} (hfo : Fo w0 B l n ps vs) (hlen : l.length = n) (hn200 : n ≤ 200) (hup : UpTo l l.length) (s : Sy) (hs : s.ok = true)
    (i : Nat) (h1i : 1 ≤ i) (hi : i ≤ n) (hk : knd l i = 6) (w : World) (hw : Below w0.heap.size w0 w)
    (IH : ∀ a, a < n → par l a = i → ∀ V, Below w0.heap.size w0 V → Calls Tryz.prog 71 #[s.val, .pointer (some ⟨ps (a + 1), 0, none⟩)] V (TkO V (tkP s l (a + 1)))) :
    Calls Tryz.prog 142 #[s.val, .pointer (some ⟨ps i, 0, none⟩)] w (TkO w (tkP s l i)) := by
  obtain ⟨i0, hi0, hz0, hz1, hz2⟩ := info_parts infoTk
  have HFO := Lib.hid hfo
  have HUP := Lib.hid hup
  have HW := Lib.hid hw
  have HIH := Lib.hid IH
  have HPX := Lib.hid (tkP_quote (s := s) (l := l) (i := i) (by omega) hk)
  rw [hlen] at HPX
  have hf1 := hfo.below hw
  obtain ⟨_, _, _, _, _, d5, dl⟩ := hf1.cells (show i ≤ n by omega)
  obtain ⟨A9, c9, hv, hkid⟩ := hfo.kid hi
  rw [hv] at d5
  have HKD := Lib.hid hkid
  have hkl := kidsN_len l i n
  clear hfo hup hw IH hs hf1 hv hk hkid
  unfold Sy.val at HIH ⊢
  go_enter Tryz.func142, Tryz.ntmps142
  go_wp2_with fail
  refine (marksOf_any _ _).mono ?_
  rintro e w' ⟨rfl, rfl⟩
  rw [show mkS 6 = ⟨#[39]⟩ from rfl]
  go_wp2_with fail
  refine (textToken_any _ _).mono ?_
  rintro e w1 ⟨rfl, rfl⟩
  have hbB := ((Below.refl w.heap.size w).alloc (Nat.le_refl _) (.cells #[.int .i64 s.r, .int .i64 s.q, .int .i64 s.c, .int .i64 s.h, .int .i64 s.g] 29)).alloc (by simp) (.cells #[.int .i64 0, .string ⟨#[39]⟩, .int .i64 0, .int .i64 0] 48)
  have hsy := (SyAt.new w s 29).below ((Below.refl _ _).alloc (Nat.le_refl _) (.cells #[.int .i64 0, .string ⟨#[39]⟩, .int .i64 0, .int .i64 0] 48))
  have hsz : w.heap.size < ((w.alloc (.cells #[.int .i64 s.r, .int .i64 s.q, .int .i64 s.c, .int .i64 s.h, .int .i64 s.g] 29)).alloc (.cells #[.int .i64 0, .string ⟨#[39]⟩, .int .i64 0, .int .i64 0] 48)).heap.size := by simp; omega
  have d5' := (hbB.cell (p := ⟨ps i, 5, none⟩) dl).trans d5
  have HBB := Lib.hid hbB
  clear hbB d5
  generalize ((w.alloc (.cells #[.int .i64 s.r, .int .i64 s.q, .int .i64 s.c, .int .i64 s.h, .int .i64 s.g] 29)).alloc (.cells #[.int .i64 0, .string ⟨#[39]⟩, .int .i64 0, .int .i64 0] 48)) = W1 at *
  have hl : (W1.alloc (.cells #[.int .i64 0, .string ⟨#[39]⟩, .int .i64 0, .int .i64 0] 48)).ownsRow W1.heap.size 48 4 (.slice (some ⟨W1.heap.size, 0, none⟩) 1 1) 1 (fl ft [tT ⟨#[39]⟩]) := own_lit W1 48 4 1 (fl ft [tT ⟨#[39]⟩]) rfl (by unfold maxLen; omega)
  have hbC := (Below.refl W1.heap.size W1).alloc (Nat.le_refl _) (.cells #[.int .i64 0, .string ⟨#[39]⟩, .int .i64 0, .int .i64 0] 48)
  have HZ2 := Lib.hid hbC.size
  have HRW := Lib.hid hl
  have hsy2 := hsy.below hbC
  have d5'' := (hbC.cell (p := ⟨ps i, 5, none⟩) (show ps i < W1.heap.size by omega)).trans d5'
  have HSY := Lib.hid hsy2
  have HB12 := Lib.hid hbC
  clear hl hbC hsy hsy2 d5'
  go_wp2_with fail
  change Code.wp _ _ _ _ (W1.alloc (.cells #[.int .i64 0, .string ⟨#[39]⟩, .int .i64 0, .int .i64 0] 48))
  generalize (W1.alloc (.cells #[.int .i64 0, .string ⟨#[39]⟩, .int .i64 0, .int .i64 0] 48)) = W2 at *
  go_wp2
  obtain ⟨hd, hhd⟩ : ∃ hd, [tT ⟨#[39]⟩] = hd := ⟨_, rfl⟩
  have HHD := Lib.hid hhd
  rw [hhd] at HRW
  clear hhd
  go_loopw [5, 16] (fun tv iv wr => ∃ j : Nat, j ≤ (kidsN l i n).length ∧ iv = .int .i64 j ∧ wr.ownsRow W1.heap.size 48 4 tv (1 + (quT s l i j).length) (fl ft (hd ++ quT s l i j)) ∧ Below W1.heap.size W2 wr) (fun _ iv _ => (kidsN l i n).length - (intOf iv).toNat)
  case atStart => exact ⟨0, Nat.zero_le _, rfl, by rw [show quT s l i 0 = [] from rfl, List.append_nil]; exact HRW.out, Below.refl _ _⟩
  case round =>
    obtain ⟨j, hj, rfl, hown, hb⟩ := hrel
    have HO := Lib.hid hown
    have HB := Lib.hid hb
    obtain ⟨Av, cv, hAv⟩ := own_slice hown
    subst hAv
    have hbl := HUP.out.quT_le s (i := i) (by omega) j
    clear hown hb
    by_cases hjl : j < (kidsN l i n).length
    · obtain ⟨a, ha⟩ : ∃ a, (kidsN l i n)[j]? = some a := ⟨_, List.getElem?_eq_getElem hjl⟩
      obtain ⟨han, hpar, _⟩ := kidsN_mem (List.mem_of_getElem? ha)
      have HBR := Lib.hid (HW.out.trans ((HBB.out.trans ((HB12.out.trans HB.out).mono HBB.out.size)).mono HW.out.size))
      have HCALL := Lib.hid (HIH.out a han hpar)
      obtain ⟨g, hgA, hgl, hgc⟩ := HKD.out j a ha
      have cg : wr.cell? ⟨g, j, none⟩ = some (.pointer (some ⟨ps (a + 1), 0, none⟩)) := (HBR.out.cell (p := ⟨g, j, none⟩) hgl).trans hgc
      have HST := Lib.hid (quT_succ (s := s) (by rw [hlen]; exact ha))
      have htl := HUP.out.tkP_le s (i := a + 1) (by omega) (by omega)
      obtain ⟨c0, c1, c2, c3, c4, c5⟩ := HSY.out.belowB HB.out hsz
      have hwz1 : W1.heap.size ≤ wr.heap.size := Nat.le_trans HZ2.out HB.out.size
      subst hgA
      clear hgc ha
      go_wp2_with fail
      refine (HCALL.out wr HBR.out).mono ?_
      rintro e w3 ⟨v3, rfl, ho3, hb3⟩
      have HO3 := Lib.hid (own_below HO.out hb3)
      have HB3 := Lib.hid (HB.out.trans (hb3.mono hwz1))
      have HR3 := Lib.hid ho3
      obtain ⟨A3, c3', rfl⟩ := own_slice ho3
      have hz3 : W1.heap.size ≤ w3.heap.size := Nat.le_trans HZ2.out HB3.out.size
      have hll3 : 1 + (quT s l i j).length ≤ 10000 := by omega
      clear ho3 hb3 cg c0 c1 c2 c3 c4 c5
      go_wp2_with (at_builtin; refine wpList_append_row _ rfl _ _ 26 rfl W1.heap.size 48 i0 (.agg #[.int .i64 0, .string ByteArray.empty, .int .i64 0, .int .i64 0]) 4 40 Tryz.underlying26 hi0 hz0 hz1 hz2 rfl (by decide) _ _ _ rfl HO3.out _ _ _ _ rfl HR3.out (ft_all _) (by simp only [maxLen]; omega) (by omega) hz3 ?_)
      intro v' w4 how4 hgr4
      rw [← fl_append, List.append_assoc, ← HST.out] at how4
      have HB4 := Lib.hid (HB3.out.grown hgr4 hz3 (fun g hg => (HO3.out.lt g hg).1))
      have HO4 := Lib.hid (show w4.ownsRow W1.heap.size 48 4 v' (1 + (quT s l i (j + 1)).length) (fl ft (hd ++ quT s l i (j + 1))) from own_n (by rw [HST.out, List.length_append]; omega) how4)
      clear how4 hgr4 HO3 HR3
      go_wp2
      go_roundw
      case rel => exact ⟨j + 1, by omega, by go_num, HO4.out, HB4.out⟩
      case measure => simp [intOf]; omega
    · have hjj : j = (kidsN l i n).length := by omega
      subst hjj
      go_wp2
      go_ret
      refine tkO_lift HBB.out (V := W1) ⟨_, rfl, ?_, HB12.out.trans HB.out⟩
      rw [HPX.out]
      have := HO.out
      rw [← HHD.out] at this
      refine own_n ?_ this
      simp only [List.length_cons]
      omega
end Go.Proofs.YtlcplgfjicifeaaGreatDoor
