/-
  The program's open blocks: what openBlocks gives at every list of tokens.
-/
import Derived.Test.YthjkgbcomjiejadGreatDoorLev
import Derived.IntWalk
namespace Go.Proofs.YthjkgbcomjiejadGreatDoor
open Go.RowKit

set_option maxHeartbeats 400000 in
theorem opening_any (t : Tk) (w : World) :
    Calls Tryz.prog 88 #[.agg #[.int .i64 t.k, .string t.s, .int .i64 t.d, .int .i64 t.o]] w fun e w' => e = .returned (.int .i64 t.opn) ∧ Below w.heap.size w w' := by
  rcases t.opn_cases with ⟨hk2, hop⟩ | ⟨hk3, hop⟩ | ⟨hk2, hk3, hop⟩
  · have b2 : (t.k == 2) = true := by rw [hk2]; rfl
    have HOP := Lib.hid hop
    clear hk2 hop
    go_enter Tryz.func88, Tryz.ntmps88
    go_wp2
    go_ret
    rw [HOP.out]
    exact ⟨rfl, (Below.refl _ _).alloc (Nat.le_refl _) _⟩
  · have b2 : (t.k == 2) = false := by rw [hk3]; rfl
    have b3 : (t.k == 3) = true := by rw [hk3]; rfl
    have HOP := Lib.hid hop
    clear hk3 hop
    go_enter Tryz.func88, Tryz.ntmps88
    go_wp2
    go_ret
    rw [HOP.out]
    exact ⟨rfl, (Below.refl _ _).alloc (Nat.le_refl _) _⟩
  · have b2 : (t.k == 2) = false := beq_eq_false_iff_ne.2 hk2
    have b3 : (t.k == 3) = false := beq_eq_false_iff_ne.2 hk3
    have HOP := Lib.hid hop
    clear hk2 hk3 hop
    go_enter Tryz.func88, Tryz.ntmps88
    go_wp2
    go_ret
    rw [HOP.out]
    exact ⟨rfl, (Below.refl _ _).alloc (Nat.le_refl _) _⟩

/-- the counts of the first k + 1 places, 0 behind them. -/
def opsTo (l : List Tk) (n k : Nat) : List Int := (List.range (n + 1)).map fun i => if i ≤ k then opN l i else 0
theorem opsTo_length (l : List Tk) (n k : Nat) : (opsTo l n k).length = n + 1 := by simp [opsTo]
theorem opsTo_at (l : List Tk) {n k : Nat} (hk : k ≤ n) : (opsTo l n k)[k]? = some (opN l k) := by
  simp [opsTo, List.getElem?_map, List.getElem?_range (show k < n + 1 by omega)]
theorem opsTo_next (l : List Tk) {n k : Nat} (hk : k < n) : (opsTo l n k)[k + 1]? = some 0 := by
  simp only [opsTo, List.getElem?_map, List.getElem?_range (show k + 1 < n + 1 by omega), Option.map_some]
  rw [if_neg (by omega)]
theorem opsTo_zero (l : List Tk) (n : Nat) : opsTo l n 0 = List.replicate (n + 1) 0 := by
  apply List.ext_getElem?
  intro i
  by_cases hi : i < n + 1
  · simp only [opsTo, List.getElem?_map, List.getElem?_range hi, List.getElem?_replicate, hi, if_true, Option.map_some]
    by_cases h0 : i ≤ 0
    · obtain rfl : i = 0 := by omega
      simp [opN_zero]
    · simp [h0]
  · rw [List.getElem?_eq_none (by rw [opsTo_length]; omega), List.getElem?_eq_none (by simp; omega)]
theorem opsTo_set (l : List Tk) {n k : Nat} (hk : k < n) {x : Int} (hx : opN l (k + 1) = x) : (opsTo l n k).set (k + 1) x = opsTo l n (k + 1) := by
  apply List.ext_getElem?
  intro i
  by_cases hi : i < n + 1
  · rw [List.getElem?_set]
    by_cases e : k + 1 = i
    · subst e
      rw [if_pos rfl, if_pos (by rw [opsTo_length]; omega), opsTo_at l (by omega), hx]
    · rw [if_neg e]
      simp only [opsTo, List.getElem?_map, List.getElem?_range hi, Option.map_some]
      by_cases h0 : i ≤ k
      · rw [if_pos h0, if_pos (by omega)]
      · rw [if_neg h0, if_neg (by omega)]
  · rw [List.getElem?_eq_none (by rw [List.length_set, opsTo_length]; omega), List.getElem?_eq_none (by rw [opsTo_length]; omega)]
def ops (l : List Tk) : List Int := opsTo l l.length l.length
theorem ops_at (l : List Tk) {i : Nat} (hi : i ≤ l.length) : (ops l)[i]? = some (opN l i) := by
  simp only [ops, opsTo, List.getElem?_map, List.getElem?_range (show i < l.length + 1 by omega), Option.map_some]
  rw [if_pos hi]
theorem nums_set (xs : List Int) (i : Nat) (x : Int) : (nums xs).set i (.int .i64 x) = nums (xs.set i x) := by simp [nums]

def OpenPost (w : World) (l : List Tk) (e : Ending) (w' : World) : Prop :=
  Below w.heap.size w w' ∧ ((strB l = true ∧ e = .returned (.tuple #[.slice (some ⟨w.heap.size, 0, none⟩) (l.length + 1) (l.length + 1), .bool true]) ∧ BlkL w' w.heap.size 3 (nums (ops l))) ∨
    (strB l = false ∧ e = .returned (.tuple #[.slice none 0 0, .bool false])))

/-- what the region of the count keeps. -/
def OpS (w wr : World) (l : List Tk) (k : Nat) (t : Tk) (w' : World) : Prop :=
  w'.cell? ⟨wr.heap.size, 0, none⟩ = some (.int .i64 t.k) ∧ w'.cell? ⟨wr.heap.size, 1, none⟩ = some (.string t.s) ∧ w'.cell? ⟨wr.heap.size, 2, none⟩ = some (.int .i64 t.d) ∧ w'.cell? ⟨wr.heap.size, 3, none⟩ = some (.int .i64 t.o) ∧
  w'.cell? ⟨w.heap.size, k, none⟩ = some (.int .i64 (opN l k)) ∧ Below w.heap.size w w' ∧ wr.heap.size < w'.heap.size
theorem OpS.start {w wr : World} {l : List Tk} {n k : Nat} {t : Tk} {ty : TypeId} (hk : k < n) (hB : Below w.heap.size w wr) (hK : BlkL wr w.heap.size 3 (nums (opsTo l n k))) :
    OpS w wr l k t (wr.alloc (.cells #[.int .i64 t.k, .string t.s, .int .i64 t.d, .int .i64 t.o] ty)) := by
  have hK' := hK.alloc (.cells #[.int .i64 t.k, .string t.s, .int .i64 t.d, .int .i64 t.o] ty)
  have hN := BlkL.new wr ty [.int .i64 t.k, .string t.s, .int .i64 t.d, .int .i64 t.o]
  exact ⟨(hN.cell 0).trans rfl, (hN.cell 1).trans rfl, (hN.cell 2).trans rfl, (hN.cell 3).trans rfl, (hK'.cell k).trans (nums_at (opsTo_at l (by omega))), hB.alloc hB.size _, by simp⟩
theorem OpS.go {w wr : World} {l : List Tk} {k : Nat} {t : Tk} {w1 w2 : World} (hg : w.heap.size < wr.heap.size) (h : OpS w wr l k t w1) (hb : Below w1.heap.size w1 w2) : OpS w wr l k t w2 := by
  obtain ⟨h0, h1, h2, h3, h4, h8, h9⟩ := h
  have hg' := Nat.lt_trans hg h9
  exact ⟨(hb.cell (p := ⟨_, _, none⟩) h9).trans h0, (hb.cell (p := ⟨_, _, none⟩) h9).trans h1, (hb.cell (p := ⟨_, _, none⟩) h9).trans h2, (hb.cell (p := ⟨_, _, none⟩) h9).trans h3, (hb.cell (p := ⟨_, _, none⟩) hg').trans h4, h8.trans (hb.mono h8.size), Nat.lt_of_lt_of_le h9 hb.size⟩
theorem OpS.drew {w wr : World} {l : List Tk} {k : Nat} {t : Tk} {w1 : World} (h : OpS w wr l k t w1) : OpS w wr l k t w1.drew := by
  obtain ⟨h0, h1, h2, h3, h4, h8, h9⟩ := h
  exact ⟨h0, h1, h2, h3, h4, h8.drew, h9⟩
theorem OpS.store {w wr : World} {l : List Tk} {k : Nat} {t : Tk} {w1 : World} (hg : w.heap.size < wr.heap.size) (h : OpS w wr l k t w1) (v : Value) : OpS w wr l k t (w1.setCell ⟨w.heap.size, k + 1, none⟩ v) := by
  obtain ⟨h0, h1, h2, h3, h4, h8, h9⟩ := h
  have f : ∀ p, (w1.setCell ⟨w.heap.size, k + 1, none⟩ v).cell? ⟨wr.heap.size, p, none⟩ = w1.cell? ⟨wr.heap.size, p, none⟩ := fun p => World.cell?_setCell_other _ _ _ _ (by intro e; injection e; omega)
  exact ⟨(f _).trans h0, (f _).trans h1, (f _).trans h2, (f _).trans h3, (World.cell?_setCell_other _ _ _ _ (by simp)).trans h4, h8.setCell (p := ⟨w.heap.size, k + 1, none⟩) (Nat.le_refl _) _, by simpa [World.setCell] using h9⟩

set_option maxHeartbeats 2000000 in
set_option maxRecDepth 100000 in
theorem openBlocks_any (A : Option Addr) (l : List Tk) (n c : Nat) (w : World) (hn : l.length = n) (hm : n ≤ 2097152) (hts : TS w A l) (hf : Fits l) :
    Calls Tryz.prog 41 #[.slice A n c] w (OpenPost w l) := by
  have HN := Lib.hid hn
  clear hn
  by_cases h4 : 400 < n
  · have hS := Lib.hid (strB_long (l := l) (by have := HN.out; omega))
    go_enter Tryz.func41, Tryz.ntmps41
    go_wp2
    go_ret2
    exact ⟨Below.refl _ _, .inr ⟨hS.out, rfl⟩⟩
  · have hd4 : decide ((400 : Int) < n) = false := by simp; omega
    have h4' : n ≤ 400 := by omega
    have hmk := fun W => mkInts (n + 1) (by omega) W
    simp only [show (((n + 1 : Nat)) : Int) = (n : Int) + 1 from by omega] at hmk
    go_enter Tryz.func41, Tryz.ntmps41
    go_wp2
    go_loopw [16] (fun i wr => ∃ k : Nat, k ≤ n ∧ i = .int .i64 k ∧ okN l k = true ∧ BlkL wr w.heap.size 3 (nums (opsTo l n k)) ∧ Below w.heap.size w wr) (fun i _ => n - (intOf i).toNat)
    case atStart => exact ⟨0, Nat.zero_le _, rfl, rfl, by rw [opsTo_zero]; exact BlkL.new w 3 _, (Below.refl _ _).alloc (Nat.le_refl _) _⟩
    case round =>
      obtain ⟨k, hk, rfl, hok, hblk, hbw⟩ := hrel
      clear hmk
      have HOK := Lib.hid hok
      have hlo := okN_lo hok (by have := HN.out; omega)
      obtain ⟨hlo0, hlo1⟩ := hlo
      clear hok
      by_cases hkl : k < n
      · obtain ⟨t, b, o, ht, rfl, hbl, _⟩ := hts.at (k := k) (by have := HN.out; omega)
        have hs := hf k t ht
        obtain ⟨hbl', c0, c1, c2, c3⟩ := (hts.below hbw).get ht
        have HT := Lib.hid ht
        clear ht
        have HB := Lib.hid hbw
        clear hbw
        have HK := Lib.hid hblk
        clear hblk
        have hS0 := OpS.start (t := t) (ty := 38) hkl HB.out HK.out
        have HS0 := Lib.hid hS0
        have hgw := HK.out.lt
        have HKA := Lib.hid (HK.out.alloc (.cells #[.int .i64 t.k, .string t.s, .int .i64 t.d, .int .i64 t.o] 38))
        obtain ⟨s0, s1, s2, s3, s4, s8, s9⟩ := hS0
        clear s8
        have hopn : -1 ≤ t.opn ∧ t.opn ≤ 1 := by rcases t.opn_cases with ⟨_, e⟩ | ⟨_, e⟩ | ⟨_, _, e⟩ <;> omega
        obtain ⟨hop0, hop1⟩ := hopn
        go_wp2
        have x1 : IntKind.i64.wrap ((k : Int) + 1) = (k : Int) + 1 := IntWalk.i64_in _ (by omega)
        have x2 : IntKind.i64.wrap (opN l k + t.opn) = opN l k + t.opn := IntWalk.i64_in _ (by omega)
        have x3 : ((k : Int) + 1).toNat = k + 1 := by omega
        have x4 : (0 : Int) ≤ (k : Int) + 1 := by omega
        have x5 : (k : Int) + 1 < (n : Int) + 1 := by omega
        have x6 : (0 : Int) ≤ (k : Int) := by omega
        have x7 : (k : Int) < (n : Int) + 1 := by omega
        go_region_held3 (fun w' => w'.cell? ⟨wr.heap.size, 0, none⟩ = some (.int .i64 t.k) ∧ w'.cell? ⟨wr.heap.size, 1, none⟩ = some (.string t.s) ∧ w'.cell? ⟨wr.heap.size, 2, none⟩ = some (.int .i64 t.d) ∧ w'.cell? ⟨wr.heap.size, 3, none⟩ = some (.int .i64 t.o) ∧ w'.cell? ⟨w.heap.size, k, none⟩ = some (.int .i64 (opN l k)) ∧ Below w.heap.size w w' ∧ wr.heap.size < w'.heap.size)
          (first | exact OpS.drew HS0.out | exact OpS.go hgw ‹_› hb2 | exact OpS.store hgw ‹_› _)
          (first | ((with_reducible refine (opening_any t _).mono ?_); rintro e w2 ⟨rfl, hb2⟩; have HK2 := Lib.hid (HKA.out.drew.below hb2 (by show w.heap.size < (wr.alloc _).heap.size; simp; omega)); have y1 := (HK2.out.cell (k + 1)).trans (nums_at (opsTo_next l hkl)); have y2 := HK2.out.frozen (k + 1)))
        rename_i hheld
        obtain ⟨r0, r1, r2, r3, r4, r8, r9⟩ := hheld
        have OPK := Lib.hid (show opN l (k + 1) = opN l k + t.opn from opN_succ HT.out)
        have hK3 := HK2.out.set (k + 1) (.int .i64 (opN l k + t.opn))
        rw [nums_set, opsTo_set l hkl OPK.out] at hK3
        clear x1 x2 x3 x4 x5 x6 x7 y1 y2 s0 s1 s2 s3 s4 s9 c0 c1 c2 c3 hb2 HK2 HKA HS0 HK r4
        generalize w2.setCell ⟨w.heap.size, k + 1, none⟩ (.int .i64 (opN l k + t.opn)) = w3 at *
        have HB3 := Lib.hid r8
        have HK3 := Lib.hid hK3
        clear r8 hK3
        go_wp2_with fail
        refine (TokenOk_any _ _ _ _ _ hs).mono ?_
        rintro e w4 ⟨rfl, hb4⟩
        have z1 := (hb4.cell (p := ⟨w.heap.size, k + 1, none⟩) HK3.out.lt).trans ((HK3.out.cell (k + 1)).trans (nums_at ((opsTo_at l (show k + 1 ≤ n by omega)).trans (by rw [OPK.out]))))
        have HK4 := Lib.hid (HK3.out.below hb4 HK3.out.lt)
        have HB4 := Lib.hid (HB3.out.trans (hb4.mono HB3.out.size))
        clear hb4 r0 r1 r2 r3
        cases htok : tokB t.k t.s t.d t.o
        · have hS := Lib.hid (strB_bad (l := l) (i := k + 1) (by have := HN.out; omega) (okN_no HT.out (.inl htok)))
          clear htok
          go_wp2
          go_ret2
          exact ⟨HB4.out, .inr ⟨hS.out, rfl⟩⟩
        · have HTOK := Lib.hid (show t.ok = true from htok)
          clear htok
          by_cases hin : 0 ≤ opN l k + t.opn ∧ opN l k + t.opn ≤ 12
          · have HI := Lib.hid (inB_true.2 hin)
            have GOOD := Lib.hid (okN_step HT.out HOK.out HTOK.out hin.1 hin.2)
            clear hin
            go_wp2_with (go_at_call 80; refine (within_any _ _ _ _).mono ?_; rintro e w5 ⟨rfl, rfl⟩; rw [HI.out])
            go_roundw
            case rel => exact ⟨k + 1, by omega, by go_num, GOOD.out, HK4.out, HB4.out⟩
            case measure => simp [intOf]; omega
          · have HI := Lib.hid (inB_false.2 (show opN l k + t.opn < 0 ∨ 12 < opN l k + t.opn by omega))
            have hS := Lib.hid (strB_bad (l := l) (i := k + 1) (by have := HN.out; omega) (okN_no HT.out (.inr (by omega))))
            clear hin
            go_wp2_with (go_at_call 80; refine (within_any _ _ _ _).mono ?_; rintro e w5 ⟨rfl, rfl⟩; rw [HI.out])
            go_ret2
            exact ⟨HB4.out, .inr ⟨hS.out, rfl⟩⟩
      · have hkn : k = n := by omega
        have HKN := Lib.hid hkn
        have HB := Lib.hid hbw
        have HK := Lib.hid hblk
        have z1 : wr.cell? ⟨w.heap.size, n, none⟩ = some (.int .i64 (opN l n)) := (HK.out.cell n).trans (nums_at (by rw [hkn]; exact opsTo_at l (Nat.le_refl _)))
        clear hkn hbw hblk
        by_cases h0 : opN l n = 0
        · have hb0 : (opN l n != 0) = false := by simp [h0]
          have hS := Lib.hid (show strB l = true from by
            have e1 := HN.out; have e2 := HKN.out; subst e1; subst e2; rw [strB_end h4' HOK.out]; simp [h0])
          clear h0
          go_wp2
          go_ret2
          have e1 := HN.out; have e2 := HKN.out; subst e1; subst e2
          exact ⟨HB.out, .inl ⟨hS.out, rfl, HK.out⟩⟩
        · have hb0 : (opN l n != 0) = true := by simp [h0]
          have hS := Lib.hid (show strB l = false from by
            have e1 := HN.out; have e2 := HKN.out; subst e1; subst e2; rw [strB_end h4' HOK.out]; simp [h0])
          clear h0
          go_wp2
          go_ret2
          exact ⟨HB.out, .inr ⟨hS.out, rfl⟩⟩
end Go.Proofs.YthjkgbcomjiejadGreatDoor
