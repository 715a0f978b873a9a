/-
  The node that a lexeme begins.
-/
import Derived.Test.YthjkgbcomjiejaaGreatDoorKk38
namespace Go.Proofs.YthjkgbcomjiejaaGreatDoor
open Go.RowKit
set_option linter.unusedVariables false

/-- the mark ahead of what hangs on a node. -/
def mk1 (k : Nat) : ByteArray := if k = 3 then ⟨#[40]⟩ else if k = 4 then ⟨#[91]⟩ else if k = 5 then ⟨#[123]⟩ else ⟨#[39]⟩
theorem one_byte {s : ByteArray} (h : s.size = 1) : s = ⟨#[s[0]]⟩ := by
  obtain ⟨⟨l⟩⟩ := s
  match l, h with
  | [b], _ => rfl
theorem bt_one (c : UInt8) : bt ⟨#[c]⟩ 0 = c.toNat := rfl
theorem one_is {s : ByteArray} {c : UInt8} (h : s.size = 1) (hb : bt s 0 = c.toNat) : s = ⟨#[c]⟩ := by
  rw [one_byte h] at hb ⊢
  rw [bt_one] at hb
  rw [UInt8.toNat_inj.1 hb]
theorem ndX_mark {x : Lx} (hx : LxGd x) (h4 : x.k ≠ 4) {k : Nat} (h3 : 3 ≤ k) (h6 : k ≤ 6) (h : x.s = mk1 k) : (ndX x 0).k = k ∧ (ndX x 0).s = ByteArray.empty := by
  have hk := hx.kind
  unfold ndX
  obtain rfl | rfl | rfl | rfl : k = 3 ∨ k = 4 ∨ k = 5 ∨ k = 6 := by omega
  all_goals
    rw [h] at hk ⊢
    simp only [mk1] at hk ⊢
    simp [bt_one, kdI, opK] at hk ⊢
    simp [hk]
theorem ndX_none {x : Lx} (hx : LxGd x) (h4 : x.k ≠ 4) (h : ∀ k, 3 ≤ k → k ≤ 6 → x.s ≠ mk1 k) : ndX x 0 = ⟨0, x.k, x.s⟩ := by
  have hk := hx.kind
  unfold ndX
  by_cases h3 : x.k = 3
  · exfalso
    have h1 := hx.one (by omega)
    rcases kd_cases (bt x.s 0) with ⟨_, h5⟩ | ⟨h5, _⟩ | ⟨h5, _⟩ | ⟨h5, _⟩ | ⟨h5, _⟩ | ⟨h5, _⟩
    · rcases h5 with h5 | h5 | h5
      · exact h 3 (by omega) (by omega) (one_is (c := 40) h1 (by show _ = 40; omega))
      · exact h 4 (by omega) (by omega) (one_is (c := 91) h1 (by show _ = 91; omega))
      · exact h 5 (by omega) (by omega) (one_is (c := 123) h1 (by show _ = 123; omega))
    all_goals omega
  · rw [if_neg h3]
    by_cases h5 : x.k = 5
    · exfalso
      have h1 := hx.one (by omega)
      rcases kd_cases (bt x.s 0) with ⟨h6, _⟩ | ⟨h6, _⟩ | ⟨_, h6⟩ | ⟨h6, _⟩ | ⟨h6, _⟩ | ⟨h6, _⟩
      · omega
      · omega
      · exact h 6 (by omega) (by omega) (one_is (c := 39) h1 (by show _ = 39; omega))
      all_goals omega
    · rw [if_neg h5]
theorem mkS_ext {k : Nat} (h3 : 3 ≤ k) (h6 : k ≤ 6) : (mkS (k : Int)).extract 0 1 = mk1 k ∧ 1 ≤ (mkS (k : Int)).size := by
  obtain rfl | rfl | rfl | rfl : k = 3 ∨ k = 4 ∨ k = 5 ∨ k = 6 := by omega
  all_goals exact ⟨by kernel_rfl, by decide +kernel⟩
theorem toList_ne {a b : ByteArray} (h : b ≠ a) : (a.toList == b.toList) = false := by
  cases e : a.toList == b.toList
  · rfl
  · exact (h (ba_ext e).symm).elim
set_option maxHeartbeats 1000000 in
theorem nodeOf_any (x : Lx) (hx : LxGd x) (h4 : x.k ≠ 4) (w : World) :
    Calls Tryz.prog 84 #[.agg #[.int .i64 x.k, .string x.s, .int .i64 x.a]] w fun e w' => e = .returned (.agg #[.int .i64 0, .int .i64 (ndX x 0).k, .string (ndX x 0).s]) ∧ Below w.heap.size w w' := by
  have HX := Lib.hid hx
  have H4 := Lib.hid h4
  clear hx h4
  have hb1 := (Below.refl w.heap.size w).alloc (Nat.le_refl _) (.cells #[.int .i64 x.k, .string x.s, .int .i64 x.a] 51)
  have hb2 := hb1.alloc hb1.size (.cells #[.int .i64 0, .int .i64 0, .string ByteArray.empty] 31)
  have hX := (BlkL.new w 51 [.int .i64 x.k, .string x.s, .int .i64 x.a]).alloc (.cells #[.int .i64 0, .int .i64 0, .string ByteArray.empty] 31)
  have hN := BlkL.new (w.alloc (.cells #[.int .i64 x.k, .string x.s, .int .i64 x.a] 51)) 31 [.int .i64 0, .int .i64 0, .string ByteArray.empty]
  rw [show (w.alloc (.cells #[.int .i64 x.k, .string x.s, .int .i64 x.a] 51)).heap.size = w.heap.size + 1 by simp] at hN
  have HB2 := Lib.hid hb2
  have HXB := Lib.hid hX
  have HNB := Lib.hid hN
  clear hb1 hb2 hX hN
  go_enter Tryz.func84, Tryz.ntmps84
  go_wp2_with fail
  change Code.wp _ _ _ _ ((w.alloc (.cells #[.int .i64 x.k, .string x.s, .int .i64 x.a] 51)).alloc (.cells #[.int .i64 0, .int .i64 0, .string ByteArray.empty] 31))
  have HBLK := Lib.hid (show BlkL ((w.alloc (.cells #[.int .i64 x.k, .string x.s, .int .i64 x.a] 51)).alloc (.cells #[.int .i64 0, .int .i64 0, .string ByteArray.empty] 31)) w.heap.size 51 [.int .i64 x.k, .string x.s, .int .i64 x.a] from HXB.out)
  have HBLN := Lib.hid (show BlkL ((w.alloc (.cells #[.int .i64 x.k, .string x.s, .int .i64 x.a] 51)).alloc (.cells #[.int .i64 0, .int .i64 0, .string ByteArray.empty] 31)) (w.heap.size + 1) 31 [.int .i64 0, .int .i64 0, .string ByteArray.empty] from HNB.out)
  clear HXB HNB
  generalize (w.alloc (.cells #[.int .i64 x.k, .string x.s, .int .i64 x.a] 51)).alloc (.cells #[.int .i64 0, .int .i64 0, .string ByteArray.empty] 31) = W at *
  go_loopw [3] (fun iv wr => ∃ k : Nat, 3 ≤ k ∧ k ≤ 7 ∧ iv = .int .i64 k ∧ (∀ j, 3 ≤ j → j < k → x.s ≠ mk1 j) ∧ Bw W wr) (fun iv _ => 7 - (intOf iv).toNat)
  case atStart => exact ⟨3, Nat.le_refl _, by omega, rfl, fun j h1 h2 => by omega, Below.refl _ _⟩
  case round =>
    obtain ⟨k, h3, h7, rfl, hno, hb⟩ := hrel
    have HB := Lib.hid hb
    have HNO := Lib.hid hno
    clear hb hno
    by_cases h6 : k ≤ 6
    · obtain ⟨hext, hsz⟩ := mkS_ext h3 h6
      have hd : decide ((1 : Int) ≤ ((mkS (k : Int)).size : Int)) = true := by simp; omega
      have hblk := HBLK.out.below HB.out HBLK.out.lt
      have hbln := HBLN.out.below HB.out HBLN.out.lt
      have c1 : wr.cell? ⟨w.heap.size, 1, none⟩ = some (.string x.s) := (hblk.cell 1).trans rfl
      have cl := hblk.lt
      have nf := hbln.frozen
      have nl := hbln.lt
      have n0 := (hbln.cell 0).trans rfl
      have n1 := (hbln.cell 1).trans rfl
      have n2 := (hbln.cell 2).trans rfl
      have HBN := Lib.hid hbln
      have HM := Lib.hid (marksOf_any (k : Int))
      have r1 := Bw.rd c1
      have h6i : decide ((k : Int) ≤ 6) = true := by simp; omega
      clear hblk hbln c1
      by_cases he : x.s = mk1 k
      · have hq : ((mk1 k).toList == x.s.toList) = true := by rw [he]; simp
        obtain ⟨e1, e2⟩ := ndX_mark HX.out H4.out h3 h6 he
        have E1 := Lib.hid e1
        have E2 := Lib.hid e2
        clear e1 e2 he n0 n1 n2 nf nl
        go_wp2_with fail
        refine wp_region_class (Bw wr) (by kernel_rfl) (by kernel_rfl) (Bw.start wr) (fun hne => ?_)
        repeat (go_big_quiet_step (fail))
        refine wpQuiet_step (fun K hK => ?_)
        go_simp
        refine ⟨.string (mkS (k : Int)), fun y => calls_class y (Bw.keep wr) (same_below HM.out y.W), hK _ ?_⟩
        clear hK K
        repeat (go_big_quiet_step (fail))
        refine wpQuiet_nil ?_
        rintro w3 ⟨y, rfl⟩
        have hx := Lib.hid y.ok
        generalize y.W = w3 at *
        have hbn3 := HBN.out.below hx.out HBN.out.lt
        have HK3 := Lib.hid (((hbn3.set 0 (.int .i64 0)).set 1 (.int .i64 k)).set 2 (.string ByteArray.empty))
        have n0 : w3.cell? ⟨w.heap.size + 1, 0, none⟩ = some (.int .i64 0) := (hbn3.cell 0).trans rfl
        have n1 : w3.cell? ⟨w.heap.size + 1, 1, none⟩ = some (.int .i64 0) := (hbn3.cell 1).trans rfl
        have n2 : w3.cell? ⟨w.heap.size + 1, 2, none⟩ = some (.string ByteArray.empty) := (hbn3.cell 2).trans rfl
        have nf := hbn3.frozen
        have nl := hbn3.lt
        have HB3 := Lib.hid (HB2.out.trans ((HB.out.trans (hx.out.mono HB.out.size)).mono HB2.out.size))
        clear hbn3 r1
        go_wp2
        have hke := HK3.out
        have hen := below_setN (show w.heap.size ≤ w.heap.size + 1 by omega) [.int .i64 0, .int .i64 k, .string ByteArray.empty] w3 0 HB3.out
        change Below _ _ (((w3.setCell ⟨w.heap.size + 1, 0, none⟩ (.int .i64 0)).setCell ⟨w.heap.size + 1, 1, none⟩ (.int .i64 k)).setCell ⟨w.heap.size + 1, 2, none⟩ (.string ByteArray.empty)) at hen
        clear n0 n1 n2 nf nl
        change bodyPost _ _ _ _ _ (((w3.setCell ⟨w.heap.size + 1, 0, none⟩ (.int .i64 0)).setCell ⟨w.heap.size + 1, 1, none⟩ (.int .i64 k)).setCell ⟨w.heap.size + 1, 2, none⟩ (.string ByteArray.empty))
        generalize (((w3.setCell ⟨w.heap.size + 1, 0, none⟩ (.int .i64 0)).setCell ⟨w.heap.size + 1, 1, none⟩ (.int .i64 k)).setCell ⟨w.heap.size + 1, 2, none⟩ (.string ByteArray.empty)) = V at *
        have e0 : V.cell? ⟨w.heap.size + 1, 0, none⟩ = some (.int .i64 0) := (hke.cell 0).trans rfl
        have e1 : V.cell? ⟨w.heap.size + 1, 1, none⟩ = some (.int .i64 k) := (hke.cell 1).trans rfl
        have e2 : V.cell? ⟨w.heap.size + 1, 2, none⟩ = some (.string ByteArray.empty) := (hke.cell 2).trans rfl
        refine bodyPost_ret (v := .agg #[.int .i64 0, .int .i64 k, .string ByteArray.empty]) (by simp [results, Tryz.results84, go_sem, e0, e1, e2]) rfl ⟨?_, hen⟩
        rw [E1.out, E2.out]
      · have hq := toList_ne he
        have HNN := Lib.hid (show ∀ j, 3 ≤ j → j < k + 1 → x.s ≠ mk1 j from fun j h1 h2 => by
          by_cases e : j = k
          · subst e; exact he
          · exact HNO.out j h1 (by omega))
        clear he n0 n1 n2 nf nl
        go_wp2_with fail
        refine wp_region_class (Bw wr) (by kernel_rfl) (by kernel_rfl) (Bw.start wr) (fun hne => ?_)
        repeat (go_big_quiet_step (fail))
        refine wpQuiet_step (fun K hK => ?_)
        go_simp
        refine ⟨.string (mkS (k : Int)), fun y => calls_class y (Bw.keep wr) (same_below HM.out y.W), hK _ ?_⟩
        clear hK K
        repeat (go_big_quiet_step (fail))
        refine wpQuiet_nil ?_
        rintro w3 ⟨y, rfl⟩
        have hx := Lib.hid y.ok
        generalize y.W = w3 at *
        clear r1
        go_wp2
        go_roundw
        case rel => exact ⟨k + 1, by omega, by omega, by go_num, HNN.out, HB.out.trans (hx.out.mono HB.out.size)⟩
        case measure => simp [intOf]; omega
    · have HND := Lib.hid (ndX_none HX.out H4.out (fun j h1 h2 => HNO.out j h1 (by omega)))
      have h6i : decide ((k : Int) ≤ 6) = false := by simp; omega
      have hblk := HBLK.out.below HB.out HBLK.out.lt
      have hbln := HBLN.out.below HB.out HBLN.out.lt
      have c0 : wr.cell? ⟨w.heap.size, 0, none⟩ = some (.int .i64 x.k) := (hblk.cell 0).trans rfl
      have c1 : wr.cell? ⟨w.heap.size, 1, none⟩ = some (.string x.s) := (hblk.cell 1).trans rfl
      have cl := hblk.lt
      have nf := hbln.frozen
      have nl := hbln.lt
      have n0 : wr.cell? ⟨w.heap.size + 1, 0, none⟩ = some (.int .i64 0) := (hbln.cell 0).trans rfl
      have n1 : wr.cell? ⟨w.heap.size + 1, 1, none⟩ = some (.int .i64 0) := (hbln.cell 1).trans rfl
      have n2 : wr.cell? ⟨w.heap.size + 1, 2, none⟩ = some (.string ByteArray.empty) := (hbln.cell 2).trans rfl
      have HB3 := Lib.hid (HB2.out.trans (HB.out.mono HB2.out.size))
      have HK3 := Lib.hid (((hbln.set 0 (.int .i64 0)).set 1 (.int .i64 x.k)).set 2 (.string x.s))
      clear hblk hbln
      go_wp2
      have hke := HK3.out
      have hen := below_setN (show w.heap.size ≤ w.heap.size + 1 by omega) [.int .i64 0, .int .i64 x.k, .string x.s] wr 0 HB3.out
      change Below _ _ (((wr.setCell ⟨w.heap.size + 1, 0, none⟩ (.int .i64 0)).setCell ⟨w.heap.size + 1, 1, none⟩ (.int .i64 x.k)).setCell ⟨w.heap.size + 1, 2, none⟩ (.string x.s)) at hen
      clear n0 n1 n2 nf nl
      change bodyPost _ _ _ _ _ (((wr.setCell ⟨w.heap.size + 1, 0, none⟩ (.int .i64 0)).setCell ⟨w.heap.size + 1, 1, none⟩ (.int .i64 x.k)).setCell ⟨w.heap.size + 1, 2, none⟩ (.string x.s))
      generalize (((wr.setCell ⟨w.heap.size + 1, 0, none⟩ (.int .i64 0)).setCell ⟨w.heap.size + 1, 1, none⟩ (.int .i64 x.k)).setCell ⟨w.heap.size + 1, 2, none⟩ (.string x.s)) = V at *
      have e0 : V.cell? ⟨w.heap.size + 1, 0, none⟩ = some (.int .i64 0) := (hke.cell 0).trans rfl
      have e1 : V.cell? ⟨w.heap.size + 1, 1, none⟩ = some (.int .i64 x.k) := (hke.cell 1).trans rfl
      have e2 : V.cell? ⟨w.heap.size + 1, 2, none⟩ = some (.string x.s) := (hke.cell 2).trans rfl
      refine bodyPost_ret (v := .agg #[.int .i64 0, .int .i64 x.k, .string x.s]) (by simp [results, Tryz.results84, go_sem, e0, e1, e2]) rfl ⟨?_, hen⟩
      rw [HND.out]
end Go.Proofs.YthjkgbcomjiejaaGreatDoor
