/-
  strings.Builder walked in the program's own text (where the shelf's laying of copyCheck falls at a panic that the loader refuses).
-/
import Derived.Test.YtlcplgfjicifeaaGreatDoorQt32
import Derived.IntWalk
import Derived.Test.YtlcplgfjicifeaaGreatDoorQt07
import Derived.Test.YtlcplgfjicifeaaGreatDoorRows
import Derived.Shelf.Strings.BuilderK
import Derived.WalkKit
import Derived.WalkSpells
import Derived.WalkLawsBesides
import Derived.Lib.Hide
import Derived.Test.YtlcplgfjicifeaaGreatDoorQt01
namespace Go.Proofs.YtlcplgfjicifeaaGreatDoor
open Go.RowKit

set_option maxHeartbeats 400000 in
theorem opening_any (t : Tk) (w : World) :
    Calls Tryz.prog 148 #[.agg #[.int .i64 t.k, .string t.s, .int .i64 t.d, .int .i64 t.o]] w fun e w' => e = .returned (.int .i64 t.opn) ∧ Below w.heap.size w w' := by
  rcases t.opn_cases with ⟨hk2, hop⟩ | ⟨hk3, hop⟩ | ⟨hk2, hk3, hop⟩
  · have b2 : (t.k == 2) = true := by rw [hk2]; rfl
    have HOP := Lib.hid hop
    clear hk2 hop
    go_enter Tryz.func148, Tryz.ntmps148
    go_wp2
    go_ret
    rw [HOP.out]
    exact ⟨rfl, (Below.refl _ _).alloc (Nat.le_refl _) _⟩
  · have b2 : (t.k == 2) = false := by rw [hk3]; rfl
    have b3 : (t.k == 3) = true := by rw [hk3]; rfl
    have HOP := Lib.hid hop
    clear hk3 hop
    go_enter Tryz.func148, Tryz.ntmps148
    go_wp2
    go_ret
    rw [HOP.out]
    exact ⟨rfl, (Below.refl _ _).alloc (Nat.le_refl _) _⟩
  · have b2 : (t.k == 2) = false := beq_eq_false_iff_ne.2 hk2
    have b3 : (t.k == 3) = false := beq_eq_false_iff_ne.2 hk3
    have HOP := Lib.hid hop
    clear hk2 hk3 hop
    go_enter Tryz.func148, Tryz.ntmps148
    go_wp2
    go_ret
    rw [HOP.out]
    exact ⟨rfl, (Below.refl _ _).alloc (Nat.le_refl _) _⟩

/-- the counts of the first k + 1 places, 0 behind them. -/
def opsTo (l : List Tk) (n k : Nat) : List Int := (List.range (n + 1)).map fun i => if i ≤ k then opN l i else 0
theorem opsTo_length (l : List Tk) (n k : Nat) : (opsTo l n k).length = n + 1 := by simp [opsTo]
theorem opsTo_at (l : List Tk) {n k : Nat} (hk : k ≤ n) : (opsTo l n k)[k]? = some (opN l k) := by
  simp [opsTo, List.getElem?_map, List.getElem?_range (show k < n + 1 by omega)]
theorem opsTo_next (l : List Tk) {n k : Nat} (hk : k < n) : (opsTo l n k)[k + 1]? = some 0 := by
  simp only [opsTo, List.getElem?_map, List.getElem?_range (show k + 1 < n + 1 by omega), Option.map_some]
  rw [if_neg (by omega)]
theorem opsTo_zero (l : List Tk) (n : Nat) : opsTo l n 0 = List.replicate (n + 1) 0 := by
  apply List.ext_getElem?
  intro i
  by_cases hi : i < n + 1
  · simp only [opsTo, List.getElem?_map, List.getElem?_range hi, List.getElem?_replicate, hi, if_true, Option.map_some]
    by_cases h0 : i ≤ 0
    · obtain rfl : i = 0 := by omega
      simp [opN_zero]
    · simp [h0]
  · rw [List.getElem?_eq_none (by rw [opsTo_length]; omega), List.getElem?_eq_none (by simp; omega)]
theorem opsTo_set (l : List Tk) {n k : Nat} (hk : k < n) {x : Int} (hx : opN l (k + 1) = x) : (opsTo l n k).set (k + 1) x = opsTo l n (k + 1) := by
  apply List.ext_getElem?
  intro i
  by_cases hi : i < n + 1
  · rw [List.getElem?_set]
    by_cases e : k + 1 = i
    · subst e
      rw [if_pos rfl, if_pos (by rw [opsTo_length]; omega), opsTo_at l (by omega), hx]
    · rw [if_neg e]
      simp only [opsTo, List.getElem?_map, List.getElem?_range hi, Option.map_some]
      by_cases h0 : i ≤ k
      · rw [if_pos h0, if_pos (by omega)]
      · rw [if_neg h0, if_neg (by omega)]
  · rw [List.getElem?_eq_none (by rw [List.length_set, opsTo_length]; omega), List.getElem?_eq_none (by rw [opsTo_length]; omega)]
def ops (l : List Tk) : List Int := opsTo l l.length l.length
theorem ops_at (l : List Tk) {i : Nat} (hi : i ≤ l.length) : (ops l)[i]? = some (opN l i) := by
  simp only [ops, opsTo, List.getElem?_map, List.getElem?_range (show i < l.length + 1 by omega), Option.map_some]
  rw [if_pos hi]
theorem nums_set (xs : List Int) (i : Nat) (x : Int) : (nums xs).set i (.int .i64 x) = nums (xs.set i x) := by simp [nums]

def OpenPost (w : World) (l : List Tk) (e : Ending) (w' : World) : Prop :=
  Below w.heap.size w w' ∧ ((strB l = true ∧ e = .returned (.tuple #[.slice (some ⟨w.heap.size, 0, none⟩) (l.length + 1) (l.length + 1), .bool true]) ∧ BlkL w' w.heap.size 3 (nums (ops l))) ∨
    (strB l = false ∧ e = .returned (.tuple #[.slice none 0 0, .bool false])))

/-- what the region of the count keeps. -/
def OpS (w wr : World) (l : List Tk) (k : Nat) (t : Tk) (w' : World) : Prop :=
  w'.cell? ⟨wr.heap.size, 0, none⟩ = some (.int .i64 t.k) ∧ w'.cell? ⟨wr.heap.size, 1, none⟩ = some (.string t.s) ∧ w'.cell? ⟨wr.heap.size, 2, none⟩ = some (.int .i64 t.d) ∧ w'.cell? ⟨wr.heap.size, 3, none⟩ = some (.int .i64 t.o) ∧
  w'.cell? ⟨w.heap.size, k, none⟩ = some (.int .i64 (opN l k)) ∧ Below w.heap.size w w' ∧ wr.heap.size < w'.heap.size
theorem OpS.start {w wr : World} {l : List Tk} {n k : Nat} {t : Tk} {ty : TypeId} (hk : k < n) (hB : Below w.heap.size w wr) (hK : BlkL wr w.heap.size 3 (nums (opsTo l n k))) :
    OpS w wr l k t (wr.alloc (.cells #[.int .i64 t.k, .string t.s, .int .i64 t.d, .int .i64 t.o] ty)) := by
  have hK' := hK.alloc (.cells #[.int .i64 t.k, .string t.s, .int .i64 t.d, .int .i64 t.o] ty)
  have hN := BlkL.new wr ty [.int .i64 t.k, .string t.s, .int .i64 t.d, .int .i64 t.o]
  exact ⟨(hN.cell 0).trans rfl, (hN.cell 1).trans rfl, (hN.cell 2).trans rfl, (hN.cell 3).trans rfl, (hK'.cell k).trans (nums_at (opsTo_at l (by omega))), hB.alloc hB.size _, by simp⟩
theorem OpS.go {w wr : World} {l : List Tk} {k : Nat} {t : Tk} {w1 w2 : World} (hg : w.heap.size < wr.heap.size) (h : OpS w wr l k t w1) (hb : Below w1.heap.size w1 w2) : OpS w wr l k t w2 := by
  obtain ⟨h0, h1, h2, h3, h4, h8, h9⟩ := h
  have hg' := Nat.lt_trans hg h9
  exact ⟨(hb.cell (p := ⟨_, _, none⟩) h9).trans h0, (hb.cell (p := ⟨_, _, none⟩) h9).trans h1, (hb.cell (p := ⟨_, _, none⟩) h9).trans h2, (hb.cell (p := ⟨_, _, none⟩) h9).trans h3, (hb.cell (p := ⟨_, _, none⟩) hg').trans h4, h8.trans (hb.mono h8.size), Nat.lt_of_lt_of_le h9 hb.size⟩
theorem OpS.drew {w wr : World} {l : List Tk} {k : Nat} {t : Tk} {w1 : World} (h : OpS w wr l k t w1) : OpS w wr l k t w1.drew := by
  obtain ⟨h0, h1, h2, h3, h4, h8, h9⟩ := h
  exact ⟨h0, h1, h2, h3, h4, h8.drew, h9⟩
theorem OpS.store {w wr : World} {l : List Tk} {k : Nat} {t : Tk} {w1 : World} (hg : w.heap.size < wr.heap.size) (h : OpS w wr l k t w1) (v : Value) : OpS w wr l k t (w1.setCell ⟨w.heap.size, k + 1, none⟩ v) := by
  obtain ⟨h0, h1, h2, h3, h4, h8, h9⟩ := h
  have f : ∀ p, (w1.setCell ⟨w.heap.size, k + 1, none⟩ v).cell? ⟨wr.heap.size, p, none⟩ = w1.cell? ⟨wr.heap.size, p, none⟩ := fun p => World.cell?_setCell_other _ _ _ _ (by intro e; injection e; omega)
  exact ⟨(f _).trans h0, (f _).trans h1, (f _).trans h2, (f _).trans h3, (World.cell?_setCell_other _ _ _ _ (by simp)).trans h4, h8.setCell (p := ⟨w.heap.size, k + 1, none⟩) (Nat.le_refl _) _, by simpa [World.setCell] using h9⟩

set_option maxHeartbeats 2000000 in
set_option maxRecDepth 100000 in
theorem openBlocks_any (A : Option Addr) (l : List Tk) (n c : Nat) (w : World) (hn : l.length = n) (hm : n ≤ 2097152) (hts : TS w A l) (hf : Fits l) :
    Calls Tryz.prog 82 #[.slice A n c] w (OpenPost w l) := by
  have HN := Lib.hid hn
  clear hn
  by_cases h4 : 400 < n
  · have hS := Lib.hid (strB_long (l := l) (by have := HN.out; omega))
    go_enter Tryz.func82, Tryz.ntmps82
    go_wp2
    go_ret2
    exact ⟨Below.refl _ _, .inr ⟨hS.out, rfl⟩⟩
  · have hd4 : decide ((400 : Int) < n) = false := by simp; omega
    have h4' : n ≤ 400 := by omega
    have hmk := fun W => mkInts (n + 1) (by omega) W
    simp only [show (((n + 1 : Nat)) : Int) = (n : Int) + 1 from by omega] at hmk
    go_enter Tryz.func82, Tryz.ntmps82
    go_wp2
    go_loopw [16] (fun i wr => ∃ k : Nat, k ≤ n ∧ i = .int .i64 k ∧ okN l k = true ∧ BlkL wr w.heap.size 3 (nums (opsTo l n k)) ∧ Below w.heap.size w wr) (fun i _ => n - (intOf i).toNat)
    case atStart => exact ⟨0, Nat.zero_le _, rfl, rfl, by rw [opsTo_zero]; exact BlkL.new w 3 _, (Below.refl _ _).alloc (Nat.le_refl _) _⟩
    case round =>
      obtain ⟨k, hk, rfl, hok, hblk, hbw⟩ := hrel
      clear hmk
      have HOK := Lib.hid hok
      have hlo := okN_lo hok (by have := HN.out; omega)
      obtain ⟨hlo0, hlo1⟩ := hlo
      clear hok
      by_cases hkl : k < n
      · obtain ⟨t, b, o, ht, rfl, hbl, _⟩ := hts.at (k := k) (by have := HN.out; omega)
        have hs := hf k t ht
        obtain ⟨hbl', c0, c1, c2, c3⟩ := (hts.below hbw).get ht
        have HT := Lib.hid ht
        clear ht
        have HB := Lib.hid hbw
        clear hbw
        have HK := Lib.hid hblk
        clear hblk
        have hS0 := OpS.start (t := t) (ty := 48) hkl HB.out HK.out
        have HS0 := Lib.hid hS0
        have hgw := HK.out.lt
        have HKA := Lib.hid (HK.out.alloc (.cells #[.int .i64 t.k, .string t.s, .int .i64 t.d, .int .i64 t.o] 48))
        obtain ⟨s0, s1, s2, s3, s4, s8, s9⟩ := hS0
        clear s8
        have hopn : -1 ≤ t.opn ∧ t.opn ≤ 1 := by rcases t.opn_cases with ⟨_, e⟩ | ⟨_, e⟩ | ⟨_, _, e⟩ <;> omega
        obtain ⟨hop0, hop1⟩ := hopn
        go_wp2
        have x1 : IntKind.i64.wrap ((k : Int) + 1) = (k : Int) + 1 := IntWalk.i64_in _ (by omega)
        have x2 : IntKind.i64.wrap (opN l k + t.opn) = opN l k + t.opn := IntWalk.i64_in _ (by omega)
        have x3 : ((k : Int) + 1).toNat = k + 1 := by omega
        have x4 : (0 : Int) ≤ (k : Int) + 1 := by omega
        have x5 : (k : Int) + 1 < (n : Int) + 1 := by omega
        have x6 : (0 : Int) ≤ (k : Int) := by omega
        have x7 : (k : Int) < (n : Int) + 1 := by omega
        go_region_held3 (fun w' => w'.cell? ⟨wr.heap.size, 0, none⟩ = some (.int .i64 t.k) ∧ w'.cell? ⟨wr.heap.size, 1, none⟩ = some (.string t.s) ∧ w'.cell? ⟨wr.heap.size, 2, none⟩ = some (.int .i64 t.d) ∧ w'.cell? ⟨wr.heap.size, 3, none⟩ = some (.int .i64 t.o) ∧ w'.cell? ⟨w.heap.size, k, none⟩ = some (.int .i64 (opN l k)) ∧ Below w.heap.size w w' ∧ wr.heap.size < w'.heap.size)
          (first | exact OpS.drew HS0.out | exact OpS.go hgw ‹_› hb2 | exact OpS.store hgw ‹_› _)
          (first | ((with_reducible refine (opening_any t _).mono ?_); rintro e w2 ⟨rfl, hb2⟩; have HK2 := Lib.hid (HKA.out.drew.below hb2 (by show w.heap.size < (wr.alloc _).heap.size; simp; omega)); have y1 := (HK2.out.cell (k + 1)).trans (nums_at (opsTo_next l hkl)); have y2 := HK2.out.frozen (k + 1)))
        rename_i hheld
        obtain ⟨r0, r1, r2, r3, r4, r8, r9⟩ := hheld
        have OPK := Lib.hid (show opN l (k + 1) = opN l k + t.opn from opN_succ HT.out)
        have hK3 := HK2.out.set (k + 1) (.int .i64 (opN l k + t.opn))
        rw [nums_set, opsTo_set l hkl OPK.out] at hK3
        clear x1 x2 x3 x4 x5 x6 x7 y1 y2 s0 s1 s2 s3 s4 s9 c0 c1 c2 c3 hb2 HK2 HKA HS0 HK r4
        generalize w2.setCell ⟨w.heap.size, k + 1, none⟩ (.int .i64 (opN l k + t.opn)) = w3 at *
        have HB3 := Lib.hid r8
        have HK3 := Lib.hid hK3
        clear r8 hK3
        go_wp2_with fail
        refine (TokenOk_any _ _ _ _ _ hs).mono ?_
        rintro e w4 ⟨rfl, hb4⟩
        have z1 := (hb4.cell (p := ⟨w.heap.size, k + 1, none⟩) HK3.out.lt).trans ((HK3.out.cell (k + 1)).trans (nums_at ((opsTo_at l (show k + 1 ≤ n by omega)).trans (by rw [OPK.out]))))
        have HK4 := Lib.hid (HK3.out.below hb4 HK3.out.lt)
        have HB4 := Lib.hid (HB3.out.trans (hb4.mono HB3.out.size))
        clear hb4 r0 r1 r2 r3
        cases htok : tokB t.k t.s t.d t.o
        · have hS := Lib.hid (strB_bad (l := l) (i := k + 1) (by have := HN.out; omega) (okN_no HT.out (.inl htok)))
          clear htok
          go_wp2
          go_ret2
          exact ⟨HB4.out, .inr ⟨hS.out, rfl⟩⟩
        · have HTOK := Lib.hid (show t.ok = true from htok)
          clear htok
          by_cases hin : 0 ≤ opN l k + t.opn ∧ opN l k + t.opn ≤ 12
          · have HI := Lib.hid (inB_true.2 hin)
            have GOOD := Lib.hid (okN_step HT.out HOK.out HTOK.out hin.1 hin.2)
            clear hin
            go_wp2_with (go_at_call 98; refine (within_any _ _ _ _).mono ?_; rintro e w5 ⟨rfl, rfl⟩; rw [HI.out])
            go_roundw
            case rel => exact ⟨k + 1, by omega, by go_num, GOOD.out, HK4.out, HB4.out⟩
            case measure => simp [intOf]; omega
          · have HI := Lib.hid (inB_false.2 (show opN l k + t.opn < 0 ∨ 12 < opN l k + t.opn by omega))
            have hS := Lib.hid (strB_bad (l := l) (i := k + 1) (by have := HN.out; omega) (okN_no HT.out (.inr (by omega))))
            clear hin
            go_wp2_with (go_at_call 98; refine (within_any _ _ _ _).mono ?_; rintro e w5 ⟨rfl, rfl⟩; rw [HI.out])
            go_ret2
            exact ⟨HB4.out, .inr ⟨hS.out, rfl⟩⟩
      · have hkn : k = n := by omega
        have HKN := Lib.hid hkn
        have HB := Lib.hid hbw
        have HK := Lib.hid hblk
        have z1 : wr.cell? ⟨w.heap.size, n, none⟩ = some (.int .i64 (opN l n)) := (HK.out.cell n).trans (nums_at (by rw [hkn]; exact opsTo_at l (Nat.le_refl _)))
        clear hkn hbw hblk
        by_cases h0 : opN l n = 0
        · have hb0 : (opN l n != 0) = false := by simp [h0]
          have hS := Lib.hid (show strB l = true from by
            have e1 := HN.out; have e2 := HKN.out; subst e1; subst e2; rw [strB_end h4' HOK.out]; simp [h0])
          clear h0
          go_wp2
          go_ret2
          have e1 := HN.out; have e2 := HKN.out; subst e1; subst e2
          exact ⟨HB.out, .inl ⟨hS.out, rfl, HK.out⟩⟩
        · have hb0 : (opN l n != 0) = true := by simp [h0]
          have hS := Lib.hid (show strB l = false from by
            have e1 := HN.out; have e2 := HKN.out; subst e1; subst e2; rw [strB_end h4' HOK.out]; simp [h0])
          clear h0
          go_wp2
          go_ret2
          exact ⟨HB.out, .inr ⟨hS.out, rfl⟩⟩
end Go.Proofs.YtlcplgfjicifeaaGreatDoor
namespace Go.Proofs.YtlcplgfjicifeaaGreatDoor
open Go.RowKit

set_option maxHeartbeats 400000 in
theorem sStreamOk_any (A : Option Addr) (l : List Tk) (n c : Nat) (w : World) (hn : l.length = n) (hm : n ≤ 2097152) (hts : TS w A l) (hf : Fits l) :
    Calls Tryz.prog 66 #[.slice A n c] w fun e w' => e = .returned (.bool (strB l)) ∧ Below w.heap.size w w' := by
  have HN := Lib.hid hn
  clear hn
  go_enter Tryz.func66, Tryz.ntmps66
  go_wp2_with fail
  refine (sLevels_any _ l _ _ _ HN.out hm hts hf).mono ?_
  rintro e w1 ⟨A1, m1, c1, d1, rfl, hb, _⟩
  have HB := Lib.hid hb
  clear hb
  go_wp2
  go_ret
  exact ⟨rfl, HB.out⟩

set_option maxHeartbeats 400000 in
theorem StreamOk_any (A : Option Addr) (l : List Tk) (n c : Nat) (w : World) (hn : l.length = n) (hm : n ≤ 2097152) (hts : TS w A l) (hf : Fits l) :
    Calls Tryz.prog 28 #[.slice A n c] w fun e w' => e = .returned (.bool (strB l)) ∧ Below w.heap.size w w' := by
  have HN := Lib.hid hn
  clear hn
  go_enter Tryz.func28, Tryz.ntmps28
  go_wp2_with fail
  refine (openBlocks_any _ l _ _ _ HN.out hm hts hf).mono ?_
  rintro e w1 ⟨hb, ⟨hS, rfl, _⟩ | ⟨hS, rfl⟩⟩
  all_goals
    have HB := Lib.hid hb
    have HS := Lib.hid hS
    clear hb hS
    go_wp2
    go_ret
    rw [HS.out]
    exact ⟨rfl, HB.out⟩

end Go.Proofs.YtlcplgfjicifeaaGreatDoor
namespace Go.Proofs.YtlcplgfjicifeaaGreatDoor
open Go.RowKit
set_option linter.unusedVariables false

set_option maxRecDepth 100000 in
theorem sizeBld : (Tryz.prog.info? 106).map (·.size) = some 2 := by kernel_rfl
set_option maxRecDepth 100000 in
theorem liesBld : liesAt Tryz.prog Tryz.prog.depth 106 (2 / Tryz.prog.cellsOf 106) 0 106 1 = true := by kernel_rfl
set_option maxRecDepth 100000 in
theorem infoByteB : (Tryz.prog.info? 5).map (fun i => (i.zero, i.size, i.bytes)) = some (some (.int .u8 0), 1, 1) := by kernel_rfl
set_option maxRecDepth 100000 in
theorem copyCheck_same (b : Nat) (w : World) (h0 : w.cell? ⟨b, 0, none⟩ = some (.pointer (some ⟨b, 0, none⟩))) :
    Calls Tryz.prog 150 #[.pointer (some ⟨b, 0, none⟩)] w fun e w' => e = .returned (.tuple #[]) ∧ w' = w := by
  obtain ⟨j, hj, _⟩ := Option.map_eq_some_iff.1 sizeBld
  go_enter Tryz.func150, Tryz.ntmps150
  go_wp2
  rw [Lib.run_neq_ptr_same w _ Tryz.underlying104 hj]
  go_wp2
  go_end0
  exact ⟨rfl, rfl⟩
set_option maxHeartbeats 1000000 in
set_option maxRecDepth 100000 in
theorem copyCheck_new (b : Nat) (w : World) (h0 : w.cell? ⟨b, 0, none⟩ = some (.pointer none)) (hsh : w.shape? b = some (106, 2)) (hfz : w.frozen? ⟨b, 0, none⟩ = false) :
    Calls Tryz.prog 150 #[.pointer (some ⟨b, 0, none⟩)] w fun e w' => e = .returned (.tuple #[]) ∧ w' = w.setCell ⟨b, 0, none⟩ (.pointer (some ⟨b, 0, none⟩)) := by
  obtain ⟨j, hj, hjs⟩ := Option.map_eq_some_iff.1 sizeBld
  go_enter Tryz.func150, Tryz.ntmps150
  go_wp2
  rw [Lib.run_to_unsafe w ⟨b, 0, none⟩ Tryz.underlying104 Tryz.underlying231 hj (by rw [hjs]; decide) hsh (Nat.zero_lt_succ 1)]
  simp only [Result.andThen]
  rw [Oper.upon_value]
  go_wp2
  rw [run_callFunc_extern Tryz.func190 (by kernel_rfl) (by kernel_rfl) (by kernel_rfl) (e := Extern.AbiNoEscape.same) (by kernel_rfl)]
  rw [Lib.run_noEscape]
  simp only [Result.andThen]
  rw [Oper.upon_value]
  go_wp2
  rw [Lib.run_from_unsafe w ⟨b, 0, none⟩ Tryz.underlying231 Tryz.underlying104 hj hsh liesBld]
  simp only [Result.andThen]
  rw [Oper.upon_value]
  go_wp2
  go_end0
  exact ⟨rfl, rfl⟩
set_option maxRecDepth 100000 in
theorem copyChk_k (B b : Nat) (bs : List Value) (w : World) (h : Lib.IsBuilderF 106 5 B b bs w) :
    Calls Tryz.prog 150 #[.pointer (some ⟨b, 0, none⟩)] w fun e w' => e = .returned (.tuple #[]) ∧ (Lib.BuilderAtF 106 5 B b (.pointer (some ⟨b, 0, none⟩)) bs w' ∧ Below B w w' ∧ Lib.OthersKept 5 (some b) w w') := by
  rcases h with h | h
  · refine (copyCheck_new b w h.cell0 h.shape h.frozen0).mono ?_
    rintro e w' ⟨rfl, rfl⟩
    exact ⟨rfl, h.used _, (Below.refl B w).setCell (p := ⟨b, 0, none⟩) h.1 _, (Lib.OthersKept.refl _ _ w).setCell ⟨b, 0, none⟩ rfl _⟩
  · refine (copyCheck_same b w h.cell0).mono ?_
    rintro e w' ⟨rfl, rfl⟩
    exact ⟨rfl, h, Below.refl B _, Lib.OthersKept.refl _ _ _⟩
set_option maxHeartbeats 2000000 in
set_option maxRecDepth 100000 in
theorem WriteStr_k (B b : Nat) (bs : List Value) (s : ByteArray) (w : World) (h : Lib.IsBuilderF 106 5 B b bs w) (hlen : bs.length + s.size ≤ 140737488355328) (hBw : B ≤ w.heap.size) :
    Calls Tryz.prog 84 #[.pointer (some ⟨b, 0, none⟩), .string s] w fun e w' => e = .returned (.tuple #[.int .i64 s.size, .nilIface]) ∧ (Lib.IsBuilderF 106 5 B b (bs ++ Lib.strCells s) w' ∧ Below B w w' ∧ Lib.OthersKept 5 (some b) w w') := by
  obtain ⟨i0, hi, hz0, hz1, hz2⟩ := info_parts infoByteB
  go_enter Tryz.func84, Tryz.ntmps84
  go_wp2_with fail
  refine (copyChk_k B b bs _ h).mono ?_
  rintro e w1 ⟨rfl, h1, hb1, hk1⟩
  have HK1 := Lib.hid hk1
  clear hk1
  obtain ⟨hB, v, hbk, hown, hne⟩ := h1
  have c0 : w1.cell? ⟨b, 0, none⟩ = some (.pointer (some ⟨b, 0, none⟩)) := by rw [Lib.cell_of_heap hbk]; rfl
  have c1 : w1.cell? ⟨b, 1, none⟩ = some v := by rw [Lib.cell_of_heap hbk]; rfl
  have hlt : b < w1.heap.size := (Array.getElem?_eq_some_iff.1 hbk).1
  have hs1 := hb1.size
  have HBK := Lib.hid hbk
  have HOW := Lib.hid hown
  have HNE := Lib.hid hne
  have HB1 := Lib.hid hb1
  clear hbk hown hne hb1
  go_wp2_with (at_builtin; refine Lib.wpList_append_own_stringF _ rfl _ _ 38 9 rfl B 5 i0 Tryz.underlying38 Tryz.underlying9 hi hz0 hz1 hz2 _ _ _ rfl HOW.out s rfl (by unfold maxLen; omega) (by omega) (by omega) ?_)
  intro v' w2 hown' hgrow _
  have hb2 : w2.heap[b]? = some (.cells #[.pointer (some ⟨b, 0, none⟩), v] 106 (0, 0)) := (hgrow.block b hlt (fun e => HNE.out e.symm)).trans HBK.out
  have d0 : w2.cell? ⟨b, 0, none⟩ = some (.pointer (some ⟨b, 0, none⟩)) := by rw [Lib.cell_of_heap hb2]; rfl
  have d1 : w2.cell? ⟨b, 1, none⟩ = some v := by rw [Lib.cell_of_heap hb2]; rfl
  have f1 : w2.frozen? ⟨b, 1, none⟩ = false := Lib.frozen_of_heap hb2 1
  obtain ⟨ao, n', cap, rfl⟩ : ∃ ao n' cap, v' = .slice ao n' cap := by
    rcases hown'.2 with ⟨hv, _⟩ | ⟨g, cap, cur, fz, hv, _⟩
    · exact ⟨_, _, _, hv⟩
    · exact ⟨_, _, _, hv⟩
  have HO' := Lib.hid hown'
  have HG := Lib.hid hgrow
  have HB2 := Lib.hid hb2
  clear hown' hgrow hb2
  go_wp2
  go_ret2
  refine ⟨rfl, .inr (Lib.BuilderAtF.put (T := 106) (e := 5) hB HB2.out (bs' := bs ++ Lib.strCells s) (by simpa [Lib.strCells_length] using HO'.out) (by decide)), ?_, (HK1.out.grown HG.out (Lib.ownsRowF_kind HOW.out)).setCell ⟨b, 1, none⟩ rfl _⟩
  exact (HB1.out.grown HG.out (by omega) (fun k hk => (HOW.out.lt k hk).1)).setCell (p := ⟨b, 1, none⟩) hB _
set_option maxRecDepth 100000 in
theorem bld_keep {T e : TypeId} {B b : Nat} {bs : List Value} {w w' : World} (h : Lib.IsBuilderF T e B b bs w) (hb : Below w.heap.size w w') : Lib.IsBuilderF T e B b bs w' := by
  have hg : w.grownBy w' none := ⟨hb.os, hb.tape, hb.output, hb.size, fun i hi _ => hb.block i hi⟩
  have one : ∀ p, Lib.BuilderAtF T e B b p bs w → Lib.BuilderAtF T e B b p bs w' := by
    rintro p ⟨hB, v, hbk, hown, hne⟩
    exact ⟨hB, v, (hb.block b (Array.getElem?_eq_some_iff.1 hbk).1).trans hbk, hown.kept hg (by cases v.ownBlock <;> simp), hne⟩
  rcases h with h | h
  · exact .inl (one _ h)
  · exact .inr (one _ h)
set_option maxRecDepth 100000 in
theorem bld_alloc {T e : TypeId} {B b : Nat} {bs : List Value} {w : World} (h : Lib.IsBuilderF T e B b bs w) (o : Obj) : Lib.IsBuilderF T e B b bs (w.alloc o) := bld_keep h ((Below.refl _ _).alloc (Nat.le_refl _) o)
set_option maxRecDepth 100000 in
theorem bld_new {T e : TypeId} (w : World) : Lib.IsBuilderF T e w.heap.size w.heap.size [] (w.alloc (.cells #[.pointer none, .slice none 0 0] T)) := by
  refine .inl ⟨Nat.le_refl _, .slice none 0 0, BlkL.new w T [.pointer none, .slice none 0 0], World.ownsRowF_of (World.ownsRow_nil _ _ _ _), by simp [Value.ownBlock]⟩
set_option maxRecDepth 100000 in
theorem bld_app (a : List UInt8) (s : ByteArray) : Lib.byteCells a ++ Lib.strCells s = Lib.byteCells (a ++ s.data.toList) := by
  simp [Lib.byteCells, Lib.strCells]
end Go.Proofs.YtlcplgfjicifeaaGreatDoor
