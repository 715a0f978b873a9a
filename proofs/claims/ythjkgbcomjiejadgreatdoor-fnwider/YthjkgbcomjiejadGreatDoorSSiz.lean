/-
  The model's sizes: l02Size, SizeAt and SizesOf of the model.
-/
import Derived.Test.YthjkgbcomjiejadGreatDoorMat
import Derived.Test.YthjkgbcomjiejadGreatDoorInts
import Derived.Test.YthjkgbcomjiejadGreatDoorSizm
import Derived.Test.YthjkgbcomjiejadGreatDoorCls
import Derived.Deep.RegionHeld3
import Derived.Deep.RegionWith
import Derived.Maps.AppendAt
namespace Go.Proofs.YthjkgbcomjiejadGreatDoor
open Go.RowKit
set_option linter.unusedVariables false

/-- what the region of a look at place i keeps. -/
def SzS (w0 : World) (b p g i k : Nat) (t : Tk) (x y : Int) (w : World) : Prop :=
  w.cell? ⟨b, p, none⟩ = some (.int .i64 t.k) ∧ w.cell? ⟨b, p + 1, none⟩ = some (.string t.s) ∧ w.cell? ⟨b, p + 2, none⟩ = some (.int .i64 t.d) ∧ w.cell? ⟨b, p + 3, none⟩ = some (.int .i64 t.o) ∧
  w.cell? ⟨g, i, none⟩ = some (.int .i64 x) ∧ w.cell? ⟨g, k, none⟩ = some (.int .i64 y) ∧ Below w0.heap.size w0 w
theorem SzS.go {w0 w w' : World} {b p g i k : Nat} {t : Tk} {x y : Int} (hb : b < w.heap.size) (hg : g < w.heap.size) (h : SzS w0 b p g i k t x y w) (hw : Below w.heap.size w w') : SzS w0 b p g i k t x y w' := by
  obtain ⟨h0, h1, h2, h3, h4, h5, h8⟩ := h
  exact ⟨(hw.cell (p := ⟨b, _, none⟩) hb).trans h0, (hw.cell (p := ⟨b, _, none⟩) hb).trans h1, (hw.cell (p := ⟨b, _, none⟩) hb).trans h2, (hw.cell (p := ⟨b, _, none⟩) hb).trans h3, (hw.cell (p := ⟨g, _, none⟩) hg).trans h4, (hw.cell (p := ⟨g, _, none⟩) hg).trans h5, h8.trans (hw.mono h8.size)⟩

theorem SzS.lt {w0 w : World} {b p g i k : Nat} {t : Tk} {x y : Int} {q : Nat} (hq : q < w0.heap.size) (h : SzS w0 b p g i k t x y w) : q < w.heap.size := Nat.lt_of_lt_of_le hq h.2.2.2.2.2.2.size

set_option maxHeartbeats 400000 in
set_option maxRecDepth 100000 in
theorem sSize_any (A A1 : Option Addr) (l : List Tk) (c c1 k : Nat) (t : Tk) (w : World) (hS : strB l = true) (ht : l[k]? = some t) (hts : TS w A l) (hIS : IS w A1 (levs l)) (hf : Fits l) :
    Calls Tryz.prog 175 #[.slice A l.length c, .slice A1 l.length c1, .int .i64 k] w fun e w' => e = .returned (.int .i64 (sizI l k t)) ∧ Below w.heap.size w w' := by
  have hkl : k < l.length := (List.getElem?_eq_some_iff.1 ht).1
  obtain ⟨h4, hok, _⟩ := strB_true hS
  obtain ⟨b, o, rfl, hbl, c0, c1', c2, c3⟩ := hts k t ht
  obtain ⟨g, rfl, hgl, d0⟩ := hIS k _ (levs_at l hkl)
  have hs := hf k t ht
  have hwid := t.wid_bd (okN_at hok hkl ht).1
  obtain ⟨hw0, hw1⟩ := hwid
  have HT := Lib.hid ht
  have HOK := Lib.hid hok
  clear ht hok hS
  by_cases hk : t.k = 2 ∨ t.k = 1
  · have HV := Lib.hid (show sizI l k t = goS l (levI l k) (l.length - (k + 1)) (k + 1) t.wid from if_pos hk)
    have hkk : ((t.k != 2) = false) ∨ ((t.k != 2) = true ∧ (t.k != 1) = false) := by
      rcases hk with h | h <;> simp [h]
    clear hk
    rcases hkk with h2 | ⟨h2, h1⟩
    all_goals
      go_enter Tryz.func175, Tryz.ntmps175
      go_wp2_with fail
      refine (sWidthOf_any _ _ _ _ _ hs).mono ?_
      rintro e w1 ⟨rfl, hb1⟩
      rw [show widB t.k t.s t.d t.o = t.wid from rfl]
      have HB1 := Lib.hid hb1
      clear hb1 c0 c1' c2 c3 d0
      go_wp2
      go_loopw [7, 8] (fun sm iv wr => ∃ (i : Nat) (s : Int), k < i ∧ i ≤ l.length ∧ iv = .int .i64 i ∧ sm = .int .i64 s ∧ 0 ≤ s ∧ s ≤ 40 * (i : Int) ∧ goS l (levI l k) (l.length - (k + 1)) (k + 1) t.wid = goS l (levI l k) (l.length - i) i s ∧ Below w.heap.size w wr) (fun _ iv _ => l.length - (intOf iv).toNat)
      case atStart => exact ⟨k + 1, t.wid, by omega, by omega, by go_num, rfl, hw0, by omega, rfl, HB1.out⟩
      case round =>
        obtain ⟨i, s, hki, hil, rfl, rfl, hs0, hs1, hgo, hbw⟩ := hrel
        have HG := Lib.hid hgo
        have HB := Lib.hid hbw
        have ht2 := hts.below hbw
        have hI2 := hIS.below hbw
        clear hgo hbw
        by_cases hlt : i < l.length
        · obtain ⟨u, hu⟩ : ∃ u, l[i]? = some u := ⟨_, List.getElem?_eq_getElem hlt⟩
          obtain ⟨hbl', e0, e1, e2, e3⟩ := ht2.get hu
          obtain ⟨hgl', d0⟩ := hI2.get (levs_at l hlt)
          obtain ⟨_, d1⟩ := hI2.get (levs_at l hkl)
          have hsu := hf i u hu
          have hwu := u.wid_bd (okN_at HOK.out hlt hu).1
          have BA := Lib.hid (brkAt_eq (L := levI l k) hu)
          have HU := Lib.hid hu
          clear hu
          obtain ⟨SS, hSS⟩ : ∃ SS, SzS w b (o + i * 4) g i k u (levI l i) (levI l k) = SS := ⟨_, rfl⟩
          have f0 : ∀ x : Cl SS, x.W.cell? ⟨b, o + i * 4, none⟩ = some (.int .i64 u.k) := fun x => (hSS ▸ x.ok : SzS w b (o + i * 4) g i k u (levI l i) (levI l k) x.W).1
          have f1 : ∀ x : Cl SS, x.W.cell? ⟨b, o + i * 4 + 1, none⟩ = some (.string u.s) := fun x => (hSS ▸ x.ok : SzS w b (o + i * 4) g i k u (levI l i) (levI l k) x.W).2.1
          have f2 : ∀ x : Cl SS, x.W.cell? ⟨b, o + i * 4 + 2, none⟩ = some (.int .i64 u.d) := fun x => (hSS ▸ x.ok : SzS w b (o + i * 4) g i k u (levI l i) (levI l k) x.W).2.2.1
          have f3 : ∀ x : Cl SS, x.W.cell? ⟨b, o + i * 4 + 3, none⟩ = some (.int .i64 u.o) := fun x => (hSS ▸ x.ok : SzS w b (o + i * 4) g i k u (levI l i) (levI l k) x.W).2.2.2.1
          have f4 : ∀ x : Cl SS, x.W.cell? ⟨g, i, none⟩ = some (.int .i64 (levI l i)) := fun x => (hSS ▸ x.ok : SzS w b (o + i * 4) g i k u (levI l i) (levI l k) x.W).2.2.2.2.1
          have f5 : ∀ x : Cl SS, x.W.cell? ⟨g, k, none⟩ = some (.int .i64 (levI l k)) := fun x => (hSS ▸ x.ok : SzS w b (o + i * 4) g i k u (levI l i) (levI l k) x.W).2.2.2.2.2.1
          have HK := Lib.hid (show ∀ w1 w2, SS w1 → Below w1.heap.size w1 w2 → SS w2 from fun w1 w2 h hb => hSS ▸ SzS.go (SzS.lt hbl (hSS ▸ h)) (SzS.lt hgl (hSS ▸ h)) (hSS ▸ h) hb)
          have HS0 := Lib.hid (show SS wr.drew from hSS ▸ ⟨e0, e1, e2, e3, d0, d1, HB.out.drew⟩)
          have HSS := Lib.hid hSS
          clear hSS
          cases hbk : u.brk
          · have HBA := Lib.hid (show brkAt l (levI l k) i = false from by rw [BA.out, hbk]; rfl)
            have HBK := Lib.hid (show brkB u.k u.s u.d u.o = false from hbk)
            clear hbk
            have CB := Lib.hid (show ∀ W : World, Calls Tryz.prog 197 #[.agg #[.int .i64 u.k, .string u.s, .int .i64 u.d, .int .i64 u.o]] W fun e w' => e = .returned (.bool false) ∧ Below W.heap.size W w' from fun W => by have h := sIsBreak_any u.k u.s u.d u.o W hsu; rw [HBK.out] at h; exact h)
            go_wp2
            refine wp_region_class SS (by kernel_rfl) (by kernel_rfl) HS0.out (fun hne => ?_)
            repeat (go_big_quiet_step (fail))
            refine wpQuiet_step (fun K hK => ?_)
            go_simp
            refine ⟨.bool false, fun x => ?_, hK _ ?_⟩
            · refine calls_class x HK.out ?_
              exact CB.out _
            clear hK K
            repeat (go_big_quiet_step (fail))
            refine wpQuiet_nil ?_
            intro w3 hw
            obtain ⟨x, e⟩ := hw
            have hw3 : SS w3 := e ▸ x.ok
            clear e x f0 f1 f2 f3 f4 f5 hne CB HK HS0 e0 e1 e2 e3 d0 d1
            rw [← HSS.out] at hw3
            obtain ⟨e0, e1, e2, e3, d0, d1, hb3⟩ := hw3
            have HB3 := Lib.hid hb3
            clear hb3 HSS
            by_cases hu4 : u.k = 4
            · have u4 : (u.k == 4) = true := by rw [hu4]; rfl
              have HE := Lib.hid (goS_line (s := s) hlt HU.out HBA.out hu4)
              clear hu4
              go_wp2
              go_ret
              rw [HV.out, HG.out, HE.out]
              exact ⟨rfl, HB3.out⟩
            · have u4 : (u.k == 4) = false := by simpa using hu4
              have HE := Lib.hid (goS_next (s := s) hlt HU.out HBA.out hu4)
              clear hu4
              go_wp2_with fail
              refine (sWidthOf_any _ _ _ _ _ hsu).mono ?_
              rintro e w4 ⟨rfl, hb4⟩
              rw [show widB u.k u.s u.d u.o = u.wid from rfl]
              have HB4 := Lib.hid (HB3.out.trans (hb4.mono HB3.out.size))
              clear hb4 e0 e1 e2 e3 d0 d1
              obtain ⟨hwu0, hwu1⟩ := hwu
              go_wp2
              go_roundw
              case rel => exact ⟨i + 1, s + u.wid, by omega, by omega, by go_num, rfl, by omega, by omega, by rw [HG.out, HE.out], HB4.out⟩
              case measure => simp [intOf] <;> omega
          · have HBK := Lib.hid (show brkB u.k u.s u.d u.o = true from hbk)
            by_cases hlv : levI l i ≤ levI l k
            · have HBA := Lib.hid (show brkAt l (levI l k) i = true from by rw [BA.out, hbk]; simp [hlv])
              have hdl : decide (levI l i ≤ levI l k) = true := by simpa using hlv
              have HE := Lib.hid (goS_brk (s := s) hlt HBA.out)
              clear hbk
              have CB := Lib.hid (show ∀ W : World, Calls Tryz.prog 197 #[.agg #[.int .i64 u.k, .string u.s, .int .i64 u.d, .int .i64 u.o]] W fun e w' => e = .returned (.bool true) ∧ Below W.heap.size W w' from fun W => by have h := sIsBreak_any u.k u.s u.d u.o W hsu; rw [HBK.out] at h; exact h)
              go_wp2
              refine wp_region_class SS (by kernel_rfl) (by kernel_rfl) HS0.out (fun hne => ?_)
              repeat (go_big_quiet_step (fail))
              refine wpQuiet_step (fun K hK => ?_)
              go_simp
              refine ⟨.bool true, fun x => ?_, hK _ ?_⟩
              · refine calls_class x HK.out ?_
                exact CB.out _
              clear hK K
              repeat (go_big_quiet_step (fail))
              refine wpQuiet_nil ?_
              intro w3 hw
              obtain ⟨x, e⟩ := hw
              have hw3 : SS w3 := e ▸ x.ok
              clear e x f0 f1 f2 f3 f4 f5 hne CB HK HS0 e0 e1 e2 e3 d0 d1
              rw [← HSS.out] at hw3
              obtain ⟨e0, e1, e2, e3, d0, d1, hb3⟩ := hw3
              have HB3 := Lib.hid hb3
              clear hb3 HSS
              go_wp2
              go_ret
              rw [HV.out, HG.out, HE.out]
              exact ⟨rfl, HB3.out⟩
            · have HBA := Lib.hid (show brkAt l (levI l k) i = false from by rw [BA.out, hbk]; simp [hlv])
              have hdl : decide (levI l i ≤ levI l k) = false := by simpa using hlv
              clear hbk
              have CB := Lib.hid (show ∀ W : World, Calls Tryz.prog 197 #[.agg #[.int .i64 u.k, .string u.s, .int .i64 u.d, .int .i64 u.o]] W fun e w' => e = .returned (.bool true) ∧ Below W.heap.size W w' from fun W => by have h := sIsBreak_any u.k u.s u.d u.o W hsu; rw [HBK.out] at h; exact h)
              go_wp2
              refine wp_region_class SS (by kernel_rfl) (by kernel_rfl) HS0.out (fun hne => ?_)
              repeat (go_big_quiet_step (fail))
              refine wpQuiet_step (fun K hK => ?_)
              go_simp
              refine ⟨.bool true, fun x => ?_, hK _ ?_⟩
              · refine calls_class x HK.out ?_
                exact CB.out _
              clear hK K
              repeat (go_big_quiet_step (fail))
              refine wpQuiet_nil ?_
              intro w3 hw
              obtain ⟨x, e⟩ := hw
              have hw3 : SS w3 := e ▸ x.ok
              clear e x f0 f1 f2 f3 f4 f5 hne CB HK HS0 e0 e1 e2 e3 d0 d1
              rw [← HSS.out] at hw3
              obtain ⟨e0, e1, e2, e3, d0, d1, hb3⟩ := hw3
              have HB3 := Lib.hid hb3
              clear hb3 HSS
              by_cases hu4 : u.k = 4
              · have u4 : (u.k == 4) = true := by rw [hu4]; rfl
                have HE := Lib.hid (goS_line (s := s) hlt HU.out HBA.out hu4)
                clear hu4
                go_wp2
                go_ret
                rw [HV.out, HG.out, HE.out]
                exact ⟨rfl, HB3.out⟩
              · have u4 : (u.k == 4) = false := by simpa using hu4
                have HE := Lib.hid (goS_next (s := s) hlt HU.out HBA.out hu4)
                clear hu4
                go_wp2_with fail
                refine (sWidthOf_any _ _ _ _ _ hsu).mono ?_
                rintro e w4 ⟨rfl, hb4⟩
                rw [show widB u.k u.s u.d u.o = u.wid from rfl]
                have HB4 := Lib.hid (HB3.out.trans (hb4.mono HB3.out.size))
                clear hb4 e0 e1 e2 e3 d0 d1
                obtain ⟨hwu0, hwu1⟩ := hwu
                go_wp2
                go_roundw
                case rel => exact ⟨i + 1, s + u.wid, by omega, by omega, by go_num, rfl, by omega, by omega, by rw [HG.out, HE.out], HB4.out⟩
                case measure => simp [intOf] <;> omega
        · have hin : i = l.length := by omega
          have HE := Lib.hid (show goS l (levI l k) (l.length - i) i s = s from by rw [hin, goS_end])
          clear hin
          go_wp2
          go_ret
          rw [HV.out, HG.out, HE.out]
          exact ⟨rfl, HB.out⟩
  · have HV := Lib.hid (show sizI l k t = t.wid from if_neg hk)
    have h2 : (t.k != 2) = true := by simp; omega
    have h1 : (t.k != 1) = true := by simp; omega
    clear hk
    go_enter Tryz.func175, Tryz.ntmps175
    go_wp2_with fail
    refine (sWidthOf_any _ _ _ _ _ hs).mono ?_
    rintro e w1 ⟨rfl, hb1⟩
    rw [show widB t.k t.s t.d t.o = t.wid from rfl]
    have HB1 := Lib.hid hb1
    clear hb1
    go_wp2
    go_ret
    rw [HV.out]
    exact ⟨rfl, HB1.out⟩

def szsTo (l : List Tk) (k : Nat) : List Int := (szs l).take k
theorem szsTo_succ {l : List Tk} {k : Nat} {t : Tk} (ht : l[k]? = some t) : nums (szsTo l k) ++ [Value.int .i64 (sizI l k t)] = nums (szsTo l (k + 1)) := by
  unfold szsTo
  rw [List.take_add_one, szs_at ht]; simp [nums]

theorem szs_round {w w2 w3 : World} {o : Obj} {e : TypeId} {v v' : Value} {n : Nat} {xs : List Value} {A A1 : Option Addr} {l : List Tk} {ys : List Int} (hts : TS w A l) (hB : Below w.heap.size w w2) (hown : w2.ownsRow w.heap.size e 1 v n xs) (hI : IS w2 A1 ys) (ht : TS w2 A l)
    (hf : ∀ b, A1.map (·.block) = some b → v.ownBlock ≠ some b ∧ b < w2.heap.size) (hg : (w2.alloc o).grownBy w3 v.ownBlock) (hat : v'.ownBlock = v.ownBlock ∨ v'.ownBlock = some (w2.alloc o).heap.size) :
    Below w.heap.size w w3 ∧ IS w3 A1 ys ∧ TS w3 A l ∧ (∀ b, A1.map (·.block) = some b → v'.ownBlock ≠ some b ∧ b < w3.heap.size) := by
  have hg' : w2.grownBy w3 v.ownBlock := ⟨hg.os, hg.tape, hg.output, Nat.le_trans (by simp) hg.size, fun i hi hne => (hg.block i (by simp; omega) hne).trans (Below.heap_alloc w2 o i hi)⟩
  refine ⟨lev_below hB hown hg, hI.grown hg' (fun b hb e => (hf b hb).1 e.symm), ht.old hts hB.size hg' (fun g e => (hown.lt g e).1), fun b hb => ⟨?_, Nat.lt_of_lt_of_le (hf b hb).2 hg'.size⟩⟩
  rcases hat with h | h <;> rw [h]
  · exact (hf b hb).1
  · have := (hf b hb).2
    simp
    omega

end Go.Proofs.YthjkgbcomjiejadGreatDoor
