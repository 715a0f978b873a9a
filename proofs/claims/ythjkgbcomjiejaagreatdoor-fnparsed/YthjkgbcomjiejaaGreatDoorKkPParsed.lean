/-
  The law FnParsed returns true at every argument: of any drawn text the tree, the code and the place are the model's, and what is handed back fine is a tree.
  Conditions: none beyond the row's own; whatever the argument. The card ties the listed variables to the program's text.
-/
import Derived.Test.YthjkgbcomjiejaaGreatDoorKk01
import Derived.Lib.Hide
import Derived.Below
import Derived.Test.YthjkgbcomjiejaaGreatDoorKk09
import Derived.Test.YthjkgbcomjiejaaGreatDoorKk52
import Derived.Test.YthjkgbcomjiejaaGreatDoorKk10
import Derived.Test.YthjkgbcomjiejaaGreatDoorKk54
import Derived.Test.YthjkgbcomjiejaaGreatDoorTie
import Derived.Test.YthjkgbcomjiejaaGreatDoorCards
import Derived.ChangeVars
import Derived.ChangeSlices
import Derived.LaidLaws
import Derived.LaidHandle
import Derived.SevenTiedAt
namespace Go.Proofs.YthjkgbcomjiejaaGreatDoor
open Go.RowKit
set_option linter.unusedVariables false

/-- the nine names. -/
def cdS : List ByteArray := [⟨#[102, 105, 110, 101]⟩, ⟨#[108, 101, 120]⟩, ⟨#[115, 104, 117, 116]⟩, ⟨#[111, 112, 101, 110]⟩, ⟨#[113, 117, 111, 116, 101]⟩, ⟨#[111, 100, 100]⟩, ⟨#[100, 101, 101, 112]⟩, ⟨#[119, 105, 100, 116, 104]⟩, ⟨#[98, 105, 103]⟩]
def cdN (c : Int) : ByteArray := if 0 ≤ c ∧ c ≤ 8 then cdS.getD c.toNat ByteArray.empty else ByteArray.empty
theorem cdN_no {c : Int} (h : ¬ (0 ≤ c ∧ c ≤ 8)) : cdN c = ByteArray.empty := if_neg h
set_option maxHeartbeats 2000000 in
set_option maxRecDepth 100000 in
theorem CodeName_any (c : Int) (w : World) :
    Calls Tryz.prog 9 #[.int .i64 c] w fun e w' => e = .returned (.string (cdN c)) ∧ Below w.heap.size w w' := by
  by_cases hc : 0 ≤ c ∧ c ≤ 8
  · obtain h | h | h | h | h | h | h | h | h : c = 0 ∨ c = 1 ∨ c = 2 ∨ c = 3 ∨ c = 4 ∨ c = 5 ∨ c = 6 ∨ c = 7 ∨ c = 8 := by omega
    all_goals
      subst h
      clear hc
      go_enter Tryz.func9, Tryz.ntmps9
      go_wp2_with fail
      go_enter Tryz.func35, Tryz.ntmps35
      go_wp2
      go_ret
      exact ⟨rfl, (Below.refl _ _).alloc (Nat.le_refl _) _⟩
  · have HC := Lib.hid (cdN_no hc)
    by_cases h0 : 0 ≤ c
    · have h0b : decide (0 ≤ c) = true := by simp [h0]
      have h8b : decide (c ≤ 8) = false := by simp; omega
      clear hc h0
      go_enter Tryz.func9, Tryz.ntmps9
      go_wp2_with fail
      go_enter Tryz.func35, Tryz.ntmps35
      go_wp2
      go_ret
      rw [HC.out]
      exact ⟨rfl, (Below.refl _ _).alloc (Nat.le_refl _) _⟩
    · have h0b : decide (0 ≤ c) = false := by simp; omega
      clear hc h0
      go_enter Tryz.func9, Tryz.ntmps9
      go_wp2_with fail
      go_enter Tryz.func35, Tryz.ntmps35
      go_wp2
      go_ret
      rw [HC.out]
      exact ⟨rfl, (Below.refl _ _).alloc (Nat.le_refl _) _⟩
set_option maxHeartbeats 2000000 in
set_option maxRecDepth 100000 in
theorem sCodeName_any (c : Int) (w : World) :
    Calls Tryz.prog 10 #[.int .i64 c] w fun e w' => e = .returned (.string (cdN c)) ∧ Below w.heap.size w w' := by
  by_cases hc : 0 ≤ c ∧ c ≤ 8
  · obtain h | h | h | h | h | h | h | h | h : c = 0 ∨ c = 1 ∨ c = 2 ∨ c = 3 ∨ c = 4 ∨ c = 5 ∨ c = 6 ∨ c = 7 ∨ c = 8 := by omega
    all_goals
      subst h
      clear hc
      go_enter Tryz.func10, Tryz.ntmps10
      go_wp2_with fail
      go_enter Tryz.func36, Tryz.ntmps36
      go_wp2
      go_ret
      exact ⟨rfl, (Below.refl _ _).alloc (Nat.le_refl _) _⟩
  · have HC := Lib.hid (cdN_no hc)
    by_cases h0 : 0 ≤ c
    · have h0b : decide (0 ≤ c) = true := by simp [h0]
      have h8b : decide (c ≤ 8) = false := by simp; omega
      clear hc h0
      go_enter Tryz.func10, Tryz.ntmps10
      go_wp2_with fail
      go_enter Tryz.func36, Tryz.ntmps36
      go_wp2
      go_ret
      rw [HC.out]
      exact ⟨rfl, (Below.refl _ _).alloc (Nat.le_refl _) _⟩
    · have h0b : decide (0 ≤ c) = false := by simp; omega
      clear hc h0
      go_enter Tryz.func10, Tryz.ntmps10
      go_wp2_with fail
      go_enter Tryz.func36, Tryz.ntmps36
      go_wp2
      go_ret
      rw [HC.out]
      exact ⟨rfl, (Below.refl _ _).alloc (Nat.le_refl _) _⟩
end Go.Proofs.YthjkgbcomjiejaaGreatDoor
namespace Go.Proofs.YthjkgbcomjiejaaGreatDoor
open Go.RowKit
set_option linter.unusedVariables false

theorem smtB_self {l : List Nd} (h : TrOk l) : smtB l l = true := by
  unfold smtB
  rw [treB_yes h, lsB_yes rfl]
  rfl
theorem nodB_size {x : Nd} (h : nodB x = true) : x.s.size ≤ 2000 := by
  unfold nodB at h
  simp only [Bool.and_eq_true] at h
  have h3 := h.2.2
  split at h3
  · have h4 : x.s.toList = [] := by simpa using h3
    rw [ByteArray.toList_eq] at h4
    have h5 : x.s.size = x.s.data.toList.length := Lib.size_eq x.s
    rw [h5, h4]
    simp
  · apply Classical.byContradiction
    intro h4
    have h5 : (lxA x.s).1 = [] := by unfold lxA; rw [if_pos (by omega)]
    rw [h5] at h3
    cases h3
theorem prsA_sizes (s : ByteArray) : ∀ (i : Nat) (x : Nd), (prsA s).1[i]? = some x → x.s.size ≤ 1048576 := fun i x hx => Nat.le_trans (nodB_size ((prsA_tree s).node i x hx)) (by decide)
set_option maxHeartbeats 1000000 in
theorem bigT_any (A : Option Addr) (n c : Nat) (w : World) (hn : n ≤ maxLen) : Calls Tryz.prog 5 #[.slice A n c] w fun e w' => e = .returned (.bool (decide ((1048576 : Int) < n))) ∧ w = w' := by
  unfold maxLen at hn
  go_enter Tryz.func5, Tryz.ntmps5
  go_wp2
  go_ret
  exact ⟨rfl, rfl⟩
namespace fnParsed
set_option maxHeartbeats 4000000 in
set_option maxRecDepth 100000 in
theorem law (A : Option Addr) (n c : Nat) (w : World) (hn : n ≤ maxLen) (hbs : BS w A n) (hlo : ∀ b, A.map (·.block) = some b → b < w.heap.size) (hg : ErrV w) :
    Calls Tryz.prog 3 #[.slice A n c] w fun e w' => e = .returned (.bool true) ∧ Below w.heap.size w w' := by
  have HBS := Lib.hid hbs
  have HLO := Lib.hid hlo
  have HG := Lib.hid hg
  clear hbs hlo hg
  go_enter Tryz.func3, Tryz.ntmps3
  go_wp2_with fail
  refine (bigT_any A n c w hn).mono ?_
  rintro e w0 ⟨rfl, rfl⟩
  by_cases hbig : (1048576 : Int) < n
  · rw [decide_eq_true hbig]
    go_wp2
    go_ret
    exact ⟨rfl, Below.refl _ _⟩
  · rw [decide_eq_false hbig]
    go_wp2_with fail
    refine (DrawParseTree_any A n c w (by omega) HBS.out HLO.out).mono ?_
    rintro e w1 ⟨s, rfl, hs, hb1⟩
    have HB1 := Lib.hid hb1
    have HTR := Lib.hid (prsA_tree s)
    have hlen : (prsA s).1.length ≤ 200 := (prsA_tree s).len
    have HSZ := Lib.hid (prsA_sizes s)
    obtain ⟨l, hl⟩ : ∃ l, (prsA s).1 = l := ⟨_, rfl⟩
    obtain ⟨k, hk⟩ : ∃ k, (prsA s).2.1 = k := ⟨_, rfl⟩
    obtain ⟨a, ha⟩ : ∃ a, (prsA s).2.2 = a := ⟨_, rfl⟩
    rw [hl] at hlen HTR HSZ
    have HL := Lib.hid hl
    have HK := Lib.hid hk
    have HA := Lib.hid ha
    clear hbig hb1 hn HBS HLO hl hk ha
    have hcc : (k == k) = true := by simp
    have haa : (a == a) = true := by simp
    have hll : ((l.length : Int) == (l.length : Int)) = true := by simp
    go_wp2_with fail
    refine (sParseTree_any s w1 (by omega)).mono ?_
    intro e w2 h2
    obtain ⟨hb2, A0, c0, rfl, hlo0, hr0⟩ := ptp_out h2 HL.out HK.out HA.out
    have HB2 := Lib.hid (HB1.out.trans (hb2.mono HB1.out.size))
    have HX2 := Lib.hid hr0.is
    clear h2 hr0 hb2 hlo0 HB1
    go_wp2_with fail
    refine (ParseTree_any s w2 (HG.out.below HB2.out)).mono ?_
    intro e w3 h3
    obtain ⟨hb3, A1, c1, rfl, hlo1, hr1⟩ := ptp_out h3 HL.out HK.out HA.out
    have HB3 := Lib.hid (HB2.out.trans (hb3.mono HB2.out.size))
    have HX3 := Lib.hid (HX2.out.below hb3)
    have HY3 := Lib.hid hr1.is
    clear h3 hr1 hb3 hlo1 HB2 HX2 HL HK HA
    go_wp2_with fail
    refine (CodeName_any k w3).mono ?_
    rintro e w4 ⟨rfl, hb4⟩
    have HB4 := Lib.hid (HB3.out.trans (hb4.mono HB3.out.size))
    have HX4 := Lib.hid (HX3.out.below hb4)
    have HY4 := Lib.hid (HY3.out.below hb4)
    clear hb4 HB3 HX3 HY3
    go_wp2_with fail
    refine (sCodeName_any k w4).mono ?_
    rintro e w5 ⟨rfl, hb5⟩
    have HB5 := Lib.hid (HB4.out.trans (hb5.mono HB4.out.size))
    have HX5 := Lib.hid (HX4.out.below hb5)
    have HY5 := Lib.hid (HY4.out.below hb5)
    clear hb5 HB4 HX4 HY4
    generalize cdN k = y at *
    have hyy : (y.toList == y.toList) = true := by simp
    by_cases hk0 : k = 0
    · subst hk0
      go_wp2_with fail
      go_loopw [10] (fun iv wr => ∃ i : Nat, i ≤ l.length ∧ iv = .int .i64 i ∧ Below w5.heap.size w5 wr) (fun iv _ => l.length - (intOf iv).toNat)
      case atStart => exact ⟨0, Nat.zero_le _, rfl, Below.refl _ _⟩
      case round =>
        obtain ⟨i, hi, rfl, hb⟩ := hrel
        have HB := Lib.hid hb
        by_cases hil : i < l.length
        · obtain ⟨x, b, o, hx, rfl, hbl, c0, c1, c2⟩ := (HY5.out.below hb).all (k := i) hil
          obtain ⟨y2, b', o', hy, rfl, hbl', d0, d1, d2⟩ := (HX5.out.below hb).all (k := i) hil
          obtain rfl : x = y2 := by rw [hx] at hy; injection hy
          have hxs := HSZ.out i x hx
          have HN1 := Lib.hid (fun w => NodeLine_any x hxs w)
          have HN2 := Lib.hid (fun w => sNodeLine_any x hxs w)
          have r0 := Bw.rd c0
          have r1 := Bw.rd c1
          have r2 := Bw.rd c2
          have s0 := Bw.rd d0
          have s1 := Bw.rd d1
          have s2 := Bw.rd d2
          have hne : Nonempty (Cl (Bw wr)) := ⟨⟨_, Bw.start wr⟩⟩
          have hnn : ((nlB x).toList == (nlB x).toList) = true := by simp
          clear hb hx hy c0 c1 c2 d0 d1 d2
          go_wp2_with fail
          refine wp_region_chain [true, true, true, true, false, true, true, true, true, false, false] (fun w' => ∃ y : Cl (Bw wr), w' = y.W) (by kernel_rfl) (by kernel_rfl) ⟨⟨_, Bw.start wr⟩, rfl⟩ ?_
          simp only [Chain.pickM, List.map_cons, List.map_nil, Bool.not_true, Bool.not_false]
          repeat (go_big_quiet_step (fail))
          refine wpQuiet_nil ?_
          refine chain_step (fun K hK => ?_)
          unfold Chain.mov
          go_simp
          simp only [Chain.movUpon]
          refine (HN1.out _).mono ?_
          rintro e w6 ⟨rfl, hb6⟩
          have hk6 : Bw wr w6 := Bw.keep wr _ _ (Bw.start wr) hb6
          refine ⟨_, rfl, hK _ _ ⟨⟨⟨_, hk6⟩, rfl⟩, ?_⟩⟩
          clear hK K hb6
          refine chain_step (fun K hK => ?_)
          unfold Chain.mov
          go_simp
          simp only [Chain.movUpon]
          refine (HN2.out _).mono ?_
          rintro e w7 ⟨rfl, hb7⟩
          have hk7 : Bw wr w7 := Bw.keep wr _ _ hk6 hb7
          refine ⟨_, rfl, hK _ _ ⟨⟨⟨_, hk7⟩, rfl⟩, ?_⟩⟩
          clear hK K hb7 hk6
          have HB7 := Lib.hid (HB.out.trans (Below.mono hk7 HB.out.size))
          clear hk7 r0 r1 r2 s0 s1 s2 hne
          unfold Chain.chainW
          go_wp2_with fail
          go_roundw
          case rel => exact ⟨i + 1, by omega, by go_num, HB7.out⟩
          case measure => simp [intOf]; omega
        · obtain rfl : i = l.length := by omega
          have HYE := Lib.hid (HY5.out.below hb)
          have HXE := Lib.hid (HX5.out.below hb)
          have HBE := Lib.hid (HB5.out.trans (hb.mono HB5.out.size))
          have hT := treB_yes HTR.out
          have hS := smtB_self HTR.out
          clear hb
          go_wp2_with fail
          refine (TreeOk_any A1 l _ c1 wr rfl (by omega) HYE.out (HG.out.below HBE.out)).mono ?_
          rintro e w6 ⟨rfl, hb6⟩
          rw [hT]
          have HB6 := Lib.hid (HBE.out.trans (hb6.mono HBE.out.size))
          have HX6 := Lib.hid (HXE.out.below hb6)
          have HY6 := Lib.hid (HYE.out.below hb6)
          clear hb6
          go_wp2_with fail
          refine (SameTree_any A1 A0 l l _ c1 _ c0 w6 rfl rfl (by omega) (by omega) HY6.out HX6.out (HG.out.below HB6.out)).mono ?_
          rintro e w7 ⟨rfl, hb7⟩
          rw [hS]
          have HB7 := Lib.hid (HB6.out.trans (hb7.mono HB6.out.size))
          clear hb7
          go_wp2_with fail
          go_ret
          exact ⟨rfl, HB7.out⟩
    · have hkb : (k == 0) = false := by simp [hk0]
      go_wp2
      go_ret
      exact ⟨rfl, HB5.out⟩
end fnParsed
end Go.Proofs.YthjkgbcomjiejaaGreatDoor
namespace Go.Proofs.YthjkgbcomjiejaaGreatDoor.fnParsed
open Go.ChangeShapes Go.WideShapes Go.ChangeAt Go.RowKit Go.Joins
set_option linter.unusedVariables false

theorem cellsByte : Tryz.prog.cellsOf 5 = 1 := by kernel_rfl
set_option maxRecDepth 100000 in
theorem open_bytes {H : Type} {enc : TypeId × Value → H} {W : World} {r : Reach} {base : Nat} {v : Value} {d : DataW H} {p : List MemPlace}
    (hv : Value.okWide Tryz.prog W r base 22 v) (h : DataW.Trod enc Tryz.prog W 0 (fun _ => true) true 22 v d p) :
    ∃ (A : Option Addr) (n c : Nat), v = .slice A n c ∧ n ≤ maxLen ∧ BS W A n ∧ ∀ b, A.map (·.block) = some b → b < W.heap.size := by
  obtain ⟨A, n, c, rfl⟩ := okWide_slice Tryz.underlying22 hv
  have hlt : ∀ b, A.map (·.block) = some b → b < W.heap.size := by
    intro b hb
    cases A with
    | none => simp at hb
    | some a =>
      simp only [Option.map_some, Option.some.injEq] at hb
      subst hb
      simp only [Value.okWide, Tryz.underlying22, Cell.okWide, Cell.ok] at hv
      obtain ⟨_, _, _, _, row, cells, hsh, _⟩ := hv
      unfold World.shape? at hsh
      cases hh : W.heap[a.block]? with
      | none => rw [hh] at hsh; simp at hsh
      | some o => exact (Array.getElem?_eq_some_iff.1 hh).1
  obtain ⟨fuel, hf⟩ := h
  rcases open_ints Tryz.underlying22 Tryz.underlying5 cellsByte hf with ⟨hcs, _⟩ | ⟨a, len, cap, zs, hcs, _, hl, hm, hzl, _, hcell, hwf⟩
  · have e : Value.slice A n c = .slice none 0 0 := by simpa [Value.cells] using hcs
    injection e with e1 e2 e3
    subst e1 e2 e3
    exact ⟨none, 0, 0, rfl, Nat.zero_le _, fun i hi => absurd hi (Nat.not_lt_zero _), hlt⟩
  · have e : Value.slice A n c = .slice (some a) len cap := by simpa [Value.cells] using hcs
    injection e with e1 e2 e3
    subst e1 e2 e3
    have hz : zs.length = c := by simpa using hzl
    refine ⟨some a, n, c, rfl, Nat.le_trans hl hm, fun i hi => ?_, hlt⟩
    have hc0 := hcell i (by omega)
    have hc1 := hcell 0 (by omega)
    obtain ⟨ha, hb⟩ := cell_addr hc1
    have ha' : a = ⟨a.block, a.off, none⟩ := by simpa [Addr.add] using ha
    have hb' : a.block < W.heap.size := by simpa [Addr.add] using hb
    have hw := hwf (zs.getD i 0) (by
      rw [List.getD_eq_getElem?_getD, List.getElem?_eq_getElem (by omega)]
      exact List.getElem_mem _)
    generalize zs.getD i 0 = z at *
    have hw' : IntKind.u8.min ≤ z ∧ z ≤ IntKind.u8.max := by simpa [Lit.wf] using hw
    rw [show IntKind.u8.min = 0 from rfl, show IntKind.u8.max = 255 from rfl] at hw'
    rw [ha', add_plain] at hc0
    exact ⟨a.block, a.off, _, by rw [← ha'], hb', hc0, by omega, by omega⟩

/-! the row -/
def leaf : DataW Unit → Value
  | .lit (.int k n) => .int k n
  | _ => undef
/-- the cells of a table of numbers, or of rows of numbers. -/
def cellsIn : DataW Unit → List Value
  | .agg l => l.flatMap fun x => match x with | .agg m => m.map leaf | d => [leaf d]
  | _ => []
theorem rtypeRow : (Tryz.prog.cutTypes.find? (·.1 == "internal/reflectlite.rtype")).map (·.2) = some 148 := by kernel_rfl
theorem errorRow : ((List.range Tryz.prog.types.size).filter fun t => Tryz.prog.rowNamed t [101, 114, 114, 111, 114]) = [97] := by kernel_rfl
theorem errorHandle : typeHandle Tryz.prog 97 = .pointer (some ⟨4, 97, none⟩) := by kernel_rfl
theorem errV_of_laid {W : World} (h : laidMetH Tryz.prog Rows.fnParsedRow.laid W) : ErrV W := by
  have h' : laidMet Tryz.prog [("unicode/utf8.acceptRanges", Rows.laid_unicode_utf8_acceptRanges), ("unicode/utf8.first", Rows.laid_unicode_utf8_first)] W ∧ handlesMet Tryz.prog [("errors.errorType", Rows.laid_errors_errorType)] W := h
  obtain ⟨name, u, ty, e1, e2, e3, e4, e5⟩ := h'.2 _ (List.mem_singleton.2 rfl)
  have en : name = [101, 114, 114, 111, 114] := (Option.some.inj e1).symm
  subst en
  obtain rfl := Option.some.inj (rtypeRow.symm.trans e2)
  have hm : ty ∈ (List.range Tryz.prog.types.size).filter fun t => Tryz.prog.rowNamed t [101, 114, 114, 111, 114] := List.mem_filter.2 ⟨List.mem_range.2 e3, e4⟩
  rw [errorRow] at hm
  obtain rfl := List.mem_singleton.1 hm
  rw [errorHandle] at e5
  have h0 := World.var?_cell errVar e5 0
  unfold ErrV
  simpa using h0

/-- a world in which the listed variables read as listed. -/
def lay (g : Nat) (cs : List Value) (w : World) : World :=
  { w with heap := w.heap.modify g fun
      | .cells _ t frozen => .cells cs.toArray t frozen
      | o => o }
noncomputable def laidWorld (os : Os) : World :=
  lay 0 [.iface 148 (.agg #[.pointer (some ⟨4, 97, none⟩)])] (lay 2 (cellsIn Rows.laid_unicode_utf8_first) (lay 3 (cellsIn Rows.laid_unicode_utf8_acceptRanges) (World.holding Tryz.prog os ⟨#[], #[], []⟩)))
set_option maxRecDepth 100000 in
theorem laidWorld_data (os : Os) : laidMet Tryz.prog [("unicode/utf8.acceptRanges", Rows.laid_unicode_utf8_acceptRanges), ("unicode/utf8.first", Rows.laid_unicode_utf8_first)] ((laidWorld os).forCall (fun _ _ => 0) ⟨#[], #[.slice none 0 0], []⟩).memory :=
  laidMet_of_run' 8 (by kernel_rfl) (by kernel_rfl)
theorem laidWorld_met (os : Os) : laidMetH Tryz.prog Rows.fnParsedRow.laid ((laidWorld os).forCall (fun _ _ => 0) ⟨#[], #[.slice none 0 0], []⟩).memory :=
  laidMetH_of_parts (laidWorld_data os) (by kernel_rfl)

set_option maxRecDepth 100000 in
theorem lifted (os : Os) (started : os.Started) (H : Type) (enc : TypeId × Value → H) :
    ReturnsInHanded {} Tryz.checked os 3 .any (fun w args => (Rows.fnParsedSpec.pre enc Tryz.prog Tryz.f3 Rows.fnParsedRow.domain false w args ∧ laidMetH Tryz.prog Rows.fnParsedRow.laid w) ∧ sizedMet enc Tryz.prog Tryz.f3 (OpenSpec.ofChange Rows.fnParsedSpec) false w args)
      (Rows.fnParsedSpec.post enc Tryz.prog Tryz.f3 false true false false) := by
  refine returnsInHanded_of_change_and (C := Tryz.checked) (X := fun w _ => laidMetH Tryz.prog Rows.fnParsedRow.laid w) (fun _ _ _ hh h => h.of_heap hh) own started (by kernel_rfl) Tryz.func3
    (ChangeSpec.witness_at (enc := enc) (C := Tryz.checked) (os := os) (X := fun w _ => laidMetH Tryz.prog Rows.fnParsedRow.laid w) false (laidWorld os) #[.slice none 0 0] 8 rfl (by kernel_rfl) (by kernel_rfl) (by kernel_rfl) (by kernel_rfl) (by kernel_rfl) (laidWorld_met os)) ?_
  intro W base args ds gs before hval0 hW _ _ hL _
  have hval : ∀ (j : Nat) t v, Tryz.f3.params[j]? = some t → args[j]? = some v → Value.okWide Tryz.prog W .any base t v := hval0
  have hW' := hW
  obtain ⟨p, q, hA0, hV, rfl, _, _⟩ := hW
  have hA : DataW.TrodAll enc Tryz.prog W 0 (fun _ => true) true Tryz.f3.params.toList args.toList ds p := hA0
  rw [Tryz.params3] at hA hval
  obtain ⟨v0, vs0, d0, ds0, p0, q0, hargs0, rfl, rfl, h0, r0⟩ := trodAll_cons hA
  obtain ⟨rfl, rfl, rfl⟩ := trodAll_nil r0
  obtain rfl : args = #[v0] := by cases args; simp_all
  obtain ⟨rfl, rfl⟩ := trodVars_none hV
  have y0 := h0
  have lt0 : ∀ x ∈ p0, x.block < W.heap.size := by obtain ⟨m, hm⟩ := y0; exact DataW.trod_lt m _ _ _ hm
  obtain ⟨A, n, c, rfl, hn, hbs, hlo⟩ := open_bytes (hval 0 22 v0 rfl rfl) h0
  clear hA0 hval0
  refine (law A n c W hn hbs hlo (errV_of_laid hL)).mono fun e W' ⟨he, bel⟩ => ?_
  subst he
  exact ⟨_, rfl, _, _, _, [], _, [], hW', trodAll_mk1 (shut_bool Tryz.underlying4 _), (trodAll_cons_mk (Below.trod laidOut (by kernel_rfl) (of_decide_eq_true (by kernel_rfl)) y0 bel lt0) trodAll_mk0), rfl, bel.frame _, (fun h => by cases h)⟩

theorem over : Rows.fnParsedRow.holds Tryz.pinned (OpenSpec.ofChange Rows.fnParsedSpec) :=
  OpenClaim.holds_of_wide 3 Tryz.f3 rfl rfl rfl rfl rfl rfl rfl ⟨rfl, rfl, rfl, rfl, rfl⟩ rfl rfl rfl rfl rfl (by kernel_rfl) Tryz.func3 (by kernel_rfl)
    (of_decide_eq_true (by kernel_rfl)) (by unfold Func.isWrapper; first | (rw [if_pos (by decide +kernel)]; kernel_rfl) | (rw [if_neg (by decide +kernel)]; exact ⟨rfl, rfl⟩))
    (fun os started H enc _ => lifted os started H enc)

theorem proved : Rows.FnParsedCardSaid :=
  Claim7.holds_tied_plain_at .later [] [.data, .handle, .pinned] true Rows.fnParsedCard.stood.harness true
    over (fun _ h => by cases h) (by kernel_rfl) (fun _ h => by cases h) fnParsed_row_tie rfl ⟨rfl, rfl⟩ (by kernel_rfl) rfl
    (fun f fn hf hfn => by
      obtain rfl : f = 3 := Option.some.inj ((show Tryz.prog.funcNamed "loop.example/g00829/laws.FnParsed" = some 3 by kernel_rfl).symm.trans hf) |>.symm
      obtain rfl : fn = Tryz.f3 := (Option.some.inj (Tryz.func3.symm.trans hfn)).symm
      exact ⟨by kernel_rfl, fun j t ht => by
        rw [Tryz.params3] at ht
        have h3 : t = 22 := by
          rcases j with _ | j
          · simpa using ht.symm
          · simp at ht
        subst h3
        exact (show Tryz.prog.wantsStandIn 22 = false by kernel_rfl)⟩)
    (by kernel_rfl)
#print axioms proved
end Go.Proofs.YthjkgbcomjiejaaGreatDoor.fnParsed
