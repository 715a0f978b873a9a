/-
  PrintTree of the program.
-/
import Derived.Test.YtegjgbgnpkncbacGreatDoorKkLpb
import Derived.Test.YtegjgbgnpkncbacGreatDoorKkLxp
import Derived.Test.YtegjgbgnpkncbacGreatDoorKk25
import Derived.Lib.SliceRun
namespace Go.Proofs.YtegjgbgnpkncbacGreatDoor
open Go.RowKit
set_option linter.unusedVariables false

theorem bulk_bd {m : Nat} : ∀ {l : List Lx}, (∀ y ∈ l, y.s.size ≤ m) → bulk (txs l) ≤ l.length + l.length * m := by
  intro l h
  have key : ∀ (l : List Lx), (∀ y ∈ l, y.s.size ≤ m) → ((txs l).map fun (t : Tk) => t.s.size).sum ≤ l.length * m := by
    intro l
    induction l with
    | nil => intro _; simp [txs]
    | cons y l ih =>
      intro h
      have h1 := h y (List.mem_cons_self ..)
      have h2 := ih fun z hz => h z (List.mem_cons_of_mem _ hz)
      simp only [txs, tkx, List.map_cons, List.sum_cons, List.length_cons, Nat.succ_mul] at h2 ⊢
      omega
  have := key l h
  unfold bulk bulkN
  rw [List.take_length, txs_length]
  omega
theorem TrOk.bulk_le {l : List Nd} (h : TrOk l) : bulk (txs (lexK l 0 l.length)) ≤ 1048576 ∧ (lexK l 0 l.length).length ≤ 402 := by
  have h1 := h.upTo.lexK_le (i := 0) (a := l.length) (Nat.zero_le _) (Nat.le_refl _)
  have h2 := bulk_bd (h.upTo.lexK_size (i := 0) (a := l.length) (Nat.le_refl _))
  have h3 := h.len
  have h4 : (lexK l 0 l.length).length ≤ 402 := by omega
  have h5 : (lexK l 0 l.length).length * 2000 ≤ 402 * 2000 := Nat.mul_le_mul_right _ h4
  exact ⟨by omega, h4⟩
/-- what PrintTree tells. -/
noncomputable def prT (l : List Nd) : ByteArray := if treB l then pxB (lexK l 0 l.length) else ByteArray.empty
theorem prT_no {l : List Nd} (h : treB l = false) : prT l = ByteArray.empty := by unfold prT; rw [h]; rfl
theorem prT_yes {l : List Nd} (h : TrOk l) : prT l = pxB (lexK l 0 l.length) := by unfold prT; rw [treB_yes h]; rfl

theorem brs_nil (W : World) (a : Option Addr) (n c n' c' : Nat) : (binOp .eql 64 (.slice a n c) (.slice none n' c')).run Tryz.prog W = .ok (.bool a.isNone) W := Lib.run_eql_slice_nil W _ _ a n c n' c' Tryz.underlying64
set_option maxHeartbeats 2000000 in
set_option maxRecDepth 100000 in
theorem PrintTree_any (A : Option Addr) (l : List Nd) (n c : Nat) (w : World) (hn : l.length = n) (hm : n ≤ 2097152) (hl : NS w A l) (hg : ErrV w) :
    Calls Tryz.prog 28 #[.slice A n c] w fun e w' => e = .returned (.string (prT l)) ∧ Below w.heap.size w w' := by
  subst hn
  have q22 := brs_nil
  go_enter Tryz.func28, Tryz.ntmps28
  go_wp2_with fail
  refine (planted_any A l _ c w rfl hm hl hg).mono ?_
  rintro e w1 ⟨hb, h | ⟨ht, g, c1, ps, vs, rfl, hfo, hgl, hc⟩⟩
  · obtain ⟨h0, rfl⟩ := h
    have HI := Lib.hid (prT_no h0)
    have HB1 := Lib.hid hb
    clear h0 hb hl hg
    go_wp2
    go_ret
    rw [HI.out]
    exact ⟨rfl, HB1.out⟩
  · have HI := Lib.hid (prT_yes ht)
    have HT := Lib.hid ht
    have HB1 := Lib.hid hb
    have HF := Lib.hid hfo
    have c0 := hc 0 (Nat.zero_le _)
    unfold ptr at c0
    obtain ⟨A9, c9, hv, _⟩ := hfo.kid (Nat.zero_le _)
    have hcell := hfo.cells (Nat.zero_le _)
    have HV := Lib.hid hv
    rw [hv] at hcell
    obtain ⟨_, _, _, _, _, d5, dl⟩ := hcell
    have hcall := lexemesOf_any hfo rfl ht.len ht.upTo l.length 0 (Nat.zero_le _) (by omega) w1 (Below.refl _ _)
    rw [hv] at hcall
    have HCALL := Lib.hid hcall
    clear hb ht hfo hc hl hg hv hcall
    go_wp2_with fail
    refine HCALL.out.mono ?_
    rintro e w2 ⟨v2, rfl, ho2, hb2⟩
    have HM2 := Lib.hid (show _ from (OR.of_own fx_len rfl ho2))
    obtain ⟨A2, c2, rfl⟩ := own_slice ho2
    have HX2 := Lib.hid (show XS w2 A2 (lexK l 0 l.length) from HM2.out.rs fx_len)
    have HB2 := Lib.hid (HB1.out.trans (hb2.mono HB1.out.size))
    have hbk := HT.out.bulk_le
    clear ho2 hb2 HM2 c0 d5
    go_wp2_with fail
    refine (PlainLex_any A2 (lexK l 0 l.length) _ c2 w2 rfl (by omega) HX2.out hbk.1).mono ?_
    rintro e w3 ⟨rfl, hb3⟩
    have HB3 := Lib.hid (HB2.out.trans (hb3.mono HB2.out.size))
    clear hb3
    go_wp2
    go_ret
    rw [HI.out]
    exact ⟨rfl, HB3.out⟩
end Go.Proofs.YtegjgbgnpkncbacGreatDoor
