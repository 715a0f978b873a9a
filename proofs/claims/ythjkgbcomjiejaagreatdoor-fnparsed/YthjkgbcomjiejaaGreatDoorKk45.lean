/-
  parsed: the whole run over the lexemes.
-/
import Derived.Test.YthjkgbcomjiejaaGreatDoorKk44
namespace Go.Proofs.YthjkgbcomjiejaaGreatDoor
open Go.RowKit
set_option linter.unusedVariables false

/-- what the parser comes to: the nodes, or the first fault. -/
def prsZ (s : ByteArray) : Except (Int × Int) (List Nd) :=
  if (lxA s).2 = -1 then
    match runZ (lxA s).1 pz0 with
    | .error e => .error e
    | .ok z => endZ z
  else .error (1, (lxA s).2)
theorem prsA_eq (s : ByteArray) : prsA s = match prsZ s with | .ok l => (l, 0, -1) | .error e => ([], e.1, e.2) := by
  unfold prsA prsZ
  split
  · cases runZ (lxA s).1 pz0 with
    | error e => rfl
    | ok z =>
      simp only
      cases endZ z <;> rfl
  · rfl
theorem stepZ_q {z z' : Pz} {x : Lx} (hs : stepZ z x = .ok z') (h : ∀ a ∈ z.q, 0 ≤ a ∧ a < 2000) (hx : 0 ≤ x.a ∧ x.a < 2000) : ∀ a ∈ z'.q, 0 ≤ a ∧ a < 2000 := by
  have more : ∀ a ∈ z.q ++ [x.a], 0 ≤ a ∧ a < 2000 := by
    intro a ha
    rcases List.mem_append.1 ha with ha | ha
    · exact h a ha
    · rw [List.mem_singleton.1 ha]; exact hx
  unfold stepZ at hs
  split at hs
  · split at hs
    · split at hs
      · injection hs with hs; subst hs; exact h
      · cases hs
    · cases hs
  · split at hs
    · cases hs
    · split at hs
      · cases hs
      · injection hs with hs; subst hs; exact more
def ParP (s : ByteArray) (w : World) (e : Ending) (w' : World) : Prop :=
  (∀ l, prsZ s = .ok l → ∃ v, e = .returned v ∧ w'.ownsRow w.heap.size 31 3 v l.length (fl fn l)) ∧ (∀ c a, prsZ s = .error (c, a) → e = .panicked [{ v := fltV c a, recovered := false }]) ∧ Below w.heap.size w w'
theorem ParP.bad {s : ByteArray} {w w' : World} {c a : Int} (h : prsZ s = .error (c, a)) (hb : Below w.heap.size w w') : ParP s w (.panicked [{ v := fltV c a, recovered := false }]) w' := by
  refine ⟨(fun z' h2 => by rw [h] at h2; cases h2), fun c2 a2 h2 => ?_, hb⟩
  rw [h] at h2
  injection h2 with h2
  injection h2 with e1 e2
  subst e1 e2
  rfl
theorem xs_of_own {w : World} {B n c : Nat} {A : Option Addr} {l : List Lx} (h : w.ownsRow B 51 3 (.slice A n c) n (fl fx l)) (hl : l.length = n) : XS w A l := by
  rcases OR.of_own fx_len hl h with ⟨⟨c1, c2, he⟩, rfl⟩ | ⟨g, cap, rest, he, _, hk⟩
  · exact RS.nil _ _
  · injection he with e1 _ _
    rw [e1]
    exact RS.of_blkR fx_len hk
set_option maxHeartbeats 4000000 in
set_option maxRecDepth 100000 in
theorem parsed_any (s : ByteArray) (w : World) (hg : ErrV w) :
    Calls Tryz.prog 34 #[.string s] w (ParP s w) := by
  have HG := Lib.hid hg
  have hmm := @run_makeMap Tryz.prog
  clear hg
  go_enter Tryz.func34, Tryz.ntmps34
  go_wp2_with fail
  refine (LexText_any s _ HG.out).mono ?_
  rintro e w1 ⟨v, rfl, hown, hb1⟩
  have HB1 := Lib.hid hb1
  have HXG := Lib.hid (lxA_good s)
  have HX2 := Lib.hid (lxA_len s)
  rcases lxA_bad s with hbad | ⟨hbad, hnil⟩
  · have HBD := Lib.hid hbad
    have HZ := Lib.hid (show prsZ s = match runZ (lxA s).1 pz0 with | .error e => .error e | .ok z => endZ z by unfold prsZ; rw [if_pos hbad])
    rw [hbad]
    obtain ⟨xs, hxs⟩ : ∃ xs, (lxA s).1 = xs := ⟨_, rfl⟩
    rw [hxs] at hown HXG HX2 HZ
    obtain ⟨Av, cv, rfl⟩ := own_slice hown
    have HO := Lib.hid hown
    clear hbad hxs hown hb1
    go_wp2_with fail
    refine (newRoot_any _).mono ?_
    rintro e w2 ⟨rfl, hroot, hb2⟩
    have HR := Lib.hid hroot
    have HB2 := Lib.hid (HB1.out.trans (hb2.mono HB1.out.size))
    have HB21 := Lib.hid hb2
    clear hroot hb2
    unfold ptr
    go_wp2_with fail
    have hz21 : w1.heap.size < w2.heap.size := HR.out.lt
    have hb3 := ((Below.refl w2.heap.size w2).alloc (Nat.le_refl _) (.map #[] 0)).alloc (by simp) (.cells #[.slice none 0 0, .pointer (some ⟨w1.heap.size, 0, none⟩), .map (some w2.heap.size)] 86)
    have hblk := BlkL.new (w2.alloc (.map #[] 0)) 86 [.slice none 0 0, .pointer (some ⟨w1.heap.size, 0, none⟩), .map (some w2.heap.size)]
    rw [show (w2.alloc (.map #[] 0)).heap.size = w2.heap.size + 1 by simp] at hblk
    have hmap : World.ownsMap (H := Unit) ((w2.alloc (.map #[] 0)).alloc (.cells #[.slice none 0 0, .pointer (some ⟨w1.heap.size, 0, none⟩), .map (some w2.heap.size)] 86)) Tryz.prog 3 (plainElem Tryz.prog 4) w2.heap.size 0 (.map []) := (World.ownsMap_made w2 Tryz.prog 3 (plainElem Tryz.prog 4)).alloc _
    have hpz : PzM ((w2.alloc (.map #[] 0)).alloc (.cells #[.slice none 0 0, .pointer (some ⟨w1.heap.size, 0, none⟩), .map (some w2.heap.size)] 86)) w1.heap.size pz0 (w2.heap.size + 1) w2.heap.size (.slice none 0 0) (fun _ => w1.heap.size) (fun _ => .slice none 0 0) (.map []) :=
      ⟨hblk, by omega, ⟨rfl, .inl ⟨rfl, rfl⟩⟩, Fq.root (HR.out.below hb3 HR.out.lt) (Nat.le_refl _) rfl, hmap, by omega, fun a => by rw [opq_nil rfl]; simp [Maps.has]⟩
    have HPZ := Lib.hid hpz
    have HB3 := Lib.hid ((show Below w1.heap.size w1 w2 from HB21.out).trans (hb3.mono (Nat.le_of_lt hz21)))
    clear hb3 hblk hmap hpz
    change Code.wp _ _ _ _ ((w2.alloc (.map #[] 0)).alloc (.cells #[.slice none 0 0, .pointer (some ⟨w1.heap.size, 0, none⟩), .map (some w2.heap.size)] 86))
    have hsz3 : w1.heap.size ≤ ((w2.alloc (.map #[] 0)).alloc (.cells #[.slice none 0 0, .pointer (some ⟨w1.heap.size, 0, none⟩), .map (some w2.heap.size)] 86)).heap.size := HB3.out.size
    generalize ((w2.alloc (.map #[] 0)).alloc (.cells #[.slice none 0 0, .pointer (some ⟨w1.heap.size, 0, none⟩), .map (some w2.heap.size)] 86)) = w3 at *
    obtain ⟨R, hR⟩ : ∃ R, runZ xs pz0 = R := ⟨_, rfl⟩
    rw [hR] at HZ
    have HRR := Lib.hid hR
    have HXS := Lib.hid (xs_of_own HO.out rfl)
    clear hR hmm
    go_loopw [23] (fun iv wr => ∃ (j : Nat) (z : Pz) (vL : Value) (ps : Nat → Nat) (vs : Nat → Value) (D : DU), j ≤ xs.length ∧ iv = .int .i64 j ∧ PzM wr w1.heap.size z (w2.heap.size + 1) w2.heap.size vL ps vs D ∧ PzOk z ∧ QOk z (xs.drop j) ∧ runZ (xs.drop j) z = R ∧ z.l.length ≤ j ∧ (∀ a ∈ z.q, 0 ≤ a ∧ a < 2000) ∧ Below w1.heap.size w1 wr) (fun iv _ => xs.length - (intOf iv).toNat)
    case atStart => exact ⟨0, pz0, _, _, _, _, Nat.zero_le _, rfl, HPZ.out, PzOk.zero, ⟨by simp [pz0], by simp [pz0], HXG.out.2⟩, HRR.out, Nat.zero_le _, by simp [pz0], HB3.out⟩
    case round =>
      obtain ⟨j, z, vL, ps, vs, D, hj, rfl, hpz, hok, hq, hrun, hzl, hq0, hb⟩ := hrel
      have HP := Lib.hid hpz
      have HOK := Lib.hid hok
      have HQ := Lib.hid hq
      have HRN := Lib.hid hrun
      have HQ0 := Lib.hid hq0
      have HB := Lib.hid hb
      have hxl := HX2.out
      clear hpz hok hq hrun hq0 hb HPZ HB3 HR HRR
      by_cases hjl : j < xs.length
      · obtain ⟨x, b, o, hx, rfl, hbl, d0, d1, d2⟩ := (HXS.out.below HB.out).all hjl
        have hdrop : xs.drop j = x :: xs.drop (j + 1) := by
          rw [List.drop_eq_getElem_cons hjl]
          congr 1
          rw [List.getElem?_eq_getElem hjl] at hx
          exact Option.some.inj hx
        have hgd := HXG.out.1 x (List.mem_of_getElem? hx)
        rw [hdrop] at HQ HRN
        have HD := Lib.hid hgd
        have HA := Lib.hid (fun V (hV : PzM V w1.heap.size z (w2.heap.size + 1) w2.heap.size vL ps vs D) (hVB : w1.heap.size ≤ V.heap.size) (h4 : x.k ≠ 4) => add_any hV HOK.out x HD.out h4 hVB (by omega) HQ.out.1)
        have HS := Lib.hid (fun V (hV : PzM V w1.heap.size z (w2.heap.size + 1) w2.heap.size vL ps vs D) (hVB : w1.heap.size ≤ V.heap.size) (h4 : x.k = 4) => shut_any hV HOK.out x HD.out h4 hVB (by omega) HQ.out.1 HQ0.out)
        unfold ptr at HA HS
        have hbX := (Below.refl wr.heap.size wr).alloc (Nat.le_refl _) (.cells #[.int .i64 x.k, .string x.s, .int .i64 x.a] 51)
        have HPX := Lib.hid (HP.out.below hbX)
        have HBX := Lib.hid (HB.out.trans (hbX.mono HB.out.size))
        have hszX : w1.heap.size ≤ (wr.alloc (.cells #[.int .i64 x.k, .string x.s, .int .i64 x.a] 51)).heap.size := HBX.out.size
        clear hx hdrop hgd hbX
        by_cases h4 : x.k = 4
        · have H4 := Lib.hid h4
          have h4b : (x.k == 4) = true := by simp [h4]
          clear h4
          go_wp2_with fail
          refine (HS.out _ HPX.out hszX H4.out).mono ?_
          rintro e w5 ⟨hokc, hbadc, hb5⟩
          have hr := HRN.out
          have hBB := HBX.out.trans hb5
          cases hst : stepZ z x with
          | error ca =>
            obtain ⟨c, a⟩ := ca
            obtain rfl := hbadc c a hst
            rw [runZ_bad hst] at hr
            have HF := Lib.hid (ParP.bad (show prsZ s = .error (c, a) by rw [HZ.out, ← hr]) (HB1.out.trans (hBB.mono HB1.out.size)))
            clear hokc hbadc hb5 hBB hr hst
            go_wp2_with fail
            exact ⟨rfl, HF.out⟩
          | ok z' =>
            obtain ⟨rfl, vL', ps', vs', D', hp'⟩ := hokc z' hst
            rw [runZ_cons hst] at hr
            have hfin : ∃ (j' : Nat) (z : Pz) (vL : Value) (ps : Nat → Nat) (vs : Nat → Value) (D : DU), j' ≤ xs.length ∧ (Value.int .i64 ((j : Int) + 1)) = .int .i64 j' ∧ PzM w5 w1.heap.size z (w2.heap.size + 1) w2.heap.size vL ps vs D ∧ PzOk z ∧ QOk z (xs.drop j') ∧ runZ (xs.drop j') z = R ∧ z.l.length ≤ j' ∧ (∀ a ∈ z.q, 0 ≤ a ∧ a < 2000) ∧ Below w1.heap.size w1 w5 := by
              refine ⟨j + 1, z', vL', ps', vs', D', hjl, by simp, hp', stepZ_ok HOK.out HD.out hst, HQ.out.step hst, hr, ?_, ?_, hBB⟩
              · have := stepZ_len hst
                omega
              · exact stepZ_q hst HQ0.out ⟨HD.out.a0, HD.out.a1⟩
            have HFN := Lib.hid hfin
            clear hokc hbadc hb5 hBB hr hst hp' hfin HA HS HPX HBX HQ HRN HD HQ0 HOK
            go_wp2_with fail
            go_roundw
            · exact HFN.out
            · simp only [intOf]
              omega
        · have H4 := Lib.hid h4
          have h4b : (x.k == 4) = false := by simp [h4]
          clear h4
          go_wp2_with fail
          refine (HA.out _ HPX.out hszX H4.out).mono ?_
          rintro e w5 ⟨hokc, hbadc, hb5⟩
          have hr := HRN.out
          have hBB := HBX.out.trans hb5
          cases hst : stepZ z x with
          | error ca =>
            obtain ⟨c, a⟩ := ca
            obtain rfl := hbadc c a hst
            rw [runZ_bad hst] at hr
            have HF := Lib.hid (ParP.bad (show prsZ s = .error (c, a) by rw [HZ.out, ← hr]) (HB1.out.trans (hBB.mono HB1.out.size)))
            clear hokc hbadc hb5 hBB hr hst
            go_wp2_with fail
            exact ⟨rfl, HF.out⟩
          | ok z' =>
            obtain ⟨rfl, vL', ps', vs', D', hp'⟩ := hokc z' hst
            rw [runZ_cons hst] at hr
            have hfin : ∃ (j' : Nat) (z : Pz) (vL : Value) (ps : Nat → Nat) (vs : Nat → Value) (D : DU), j' ≤ xs.length ∧ (Value.int .i64 ((j : Int) + 1)) = .int .i64 j' ∧ PzM w5 w1.heap.size z (w2.heap.size + 1) w2.heap.size vL ps vs D ∧ PzOk z ∧ QOk z (xs.drop j') ∧ runZ (xs.drop j') z = R ∧ z.l.length ≤ j' ∧ (∀ a ∈ z.q, 0 ≤ a ∧ a < 2000) ∧ Below w1.heap.size w1 w5 := by
              refine ⟨j + 1, z', vL', ps', vs', D', hjl, by simp, hp', stepZ_ok HOK.out HD.out hst, HQ.out.step hst, hr, ?_, ?_, hBB⟩
              · have := stepZ_len hst
                omega
              · exact stepZ_q hst HQ0.out ⟨HD.out.a0, HD.out.a1⟩
            have HFN := Lib.hid hfin
            clear hokc hbadc hb5 hBB hr hst hp' hfin HA HS HPX HBX HQ HRN HD HQ0 HOK
            go_wp2_with fail
            go_roundw
            · exact HFN.out
            · simp only [intOf]
              omega
      · have hje : j = xs.length := by omega
        subst hje
        have HE := Lib.hid (end_any HP.out HOK.out (by omega) HQ.out.1)
        have hr := HRN.out
        rw [List.drop_length] at hr
        simp only [runZ] at hr
        subst hr
        have hz2 := HZ.out
        simp only at hz2
        have HZ2 := Lib.hid hz2
        clear hz2 HZ
        unfold ptr at HE
        go_wp2_with fail
        refine HE.out.mono ?_
        rintro e w5 ⟨hokc, hbadc, hb5⟩
        by_cases ht : z.t = 0
        · obtain rfl := hokc ht
          have HFF := Lib.hid (show prsZ s = .ok z.l by rw [HZ2.out]; unfold endZ; rw [if_pos ht])
          have HPP := Lib.hid (HP.out.below hb5)
          have HBB := Lib.hid (HB.out.trans (hb5.mono HB.out.size))
          have hcell := HPP.out.cells.1
          clear hokc hbadc hb5 ht
          go_wp2_with fail
          have HR2 := Lib.hid (Joins.ownsRow_le HPP.out.row HB1.out.size)
          refine bodyPost_ret (v := vL) (by simp [results, Tryz.results34, go_sem]) rfl ⟨(fun l hl => by rw [HFF.out] at hl; injection hl with hl; subst hl; exact ⟨vL, rfl, HR2.out⟩), (fun c a h => by rw [HFF.out] at h; cases h), HB1.out.trans (HBB.out.mono HB1.out.size)⟩
        · obtain ⟨⟨c, a⟩, hea⟩ : ∃ ca, endZ z = .error ca := ⟨_, by unfold endZ; rw [if_neg ht]⟩
          obtain rfl := hbadc c a hea
          have HF := Lib.hid (ParP.bad (show prsZ s = .error (c, a) by rw [HZ2.out, hea]) (HB1.out.trans ((HB.out.trans (hb5.mono HB.out.size)).mono HB1.out.size)))
          clear hokc hbadc hb5 ht hea
          go_wp2_with fail
          exact ⟨rfl, HF.out⟩
  · have hne : ((lxA s).2 == -1) = false := by
      cases e : (lxA s).2 == -1
      · rfl
      · have : (lxA s).2 = -1 := by simpa using e
        omega
    have HZ := Lib.hid (show prsZ s = .error (1, (lxA s).2) by unfold prsZ; rw [if_neg (by omega)])
    obtain ⟨Av, cv, rfl⟩ := own_slice hown
    obtain ⟨bad, hbd⟩ : ∃ b, (lxA s).2 = b := ⟨_, rfl⟩
    rw [hbd] at hne HZ ⊢
    clear hbad hnil hbd hown hb1
    go_wp2_with fail
    exact ⟨rfl, ParP.bad HZ.out HB1.out⟩
end Go.Proofs.YthjkgbcomjiejaaGreatDoor
