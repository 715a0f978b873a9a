/-
  The model's levels: what l02Levels gives at every list of tokens.
-/
import Derived.Test.YthjkgbcomjiejadGreatDoorSl
import Derived.Maps.AppendAt
namespace Go.Proofs.YthjkgbcomjiejadGreatDoor
open Go.RowKit

/-- the levels of the first k places. -/
def levsTo (l : List Tk) (k : Nat) : List Int := (List.range k).map (levI l)
theorem levsTo_succ (l : List Tk) (k : Nat) : levsTo l (k + 1) = levsTo l k ++ [levI l k] := by
  simp [levsTo, List.range_succ]
theorem levsTo_length (l : List Tk) (k : Nat) : (levsTo l k).length = k := by simp [levsTo]
theorem levsTo_all (l : List Tk) : levsTo l l.length = levs l := rfl

def LevPost (w : World) (l : List Tk) (e : Ending) (w' : World) : Prop :=
  ∃ (A : Option Addr) (m c : Nat) (d : Int), e = .returned (.tuple #[.slice A m c, .int .i64 d, .bool (strB l)]) ∧ Below w.heap.size w w' ∧
    (strB l = true → d = mxN l l.length ∧ m = l.length ∧ w'.ownsRow w.heap.size 3 1 (.slice A m c) m (nums (levs l)))

theorem own_slice1 {w : World} {base : Nat} {e : TypeId} {v : Value} {n : Nat} {xs : List Value} (h : w.ownsRow base e 1 v n xs) : ∃ A c, v = .slice A n c ∧ (∀ b, A.map (·.block) = some b → base ≤ b ∧ b < w.heap.size) := by
  have hlt := h.lt
  rcases h.2 with ⟨rfl, rfl⟩ | ⟨g, cap, cur, rfl, _⟩
  · exact ⟨none, 0, rfl, fun b hb => by simp at hb⟩
  · exact ⟨_, cap, rfl, fun b hb => by simp at hb; subst hb; exact hlt g rfl⟩

theorem lev_no {w w' : World} {l : List Tk} (hS : strB l = false) (hB : Below w.heap.size w w') : LevPost w l (.returned (.tuple #[.slice none 0 0, .int .i64 0, .bool false])) w' :=
  ⟨none, 0, 0, 0, by rw [hS], hB, fun h => absurd h (by rw [hS]; simp)⟩
theorem lev_yes {w w' : World} {l : List Tk} {v : Value} {n : Nat} {d : Int} {b : Bool} (hn : l.length = n) (h4 : n ≤ 400) (hok : okN l n = true) (hd : mxN l n = d) (hb : decide (opN l n = 0) = b) (hB : Below w.heap.size w w') (hO : w'.ownsRow w.heap.size 3 1 v n (nums (levsTo l n))) : LevPost w l (.returned (.tuple #[v, .int .i64 d, .bool b])) w' := by
  subst hn
  obtain ⟨A, c, rfl, _⟩ := own_slice1 hO
  refine ⟨A, l.length, c, d, ?_, hB, fun _ => ⟨hd.symm, rfl, hO⟩⟩
  rw [strB_end h4 hok, hb]
theorem ownsRow_keep {w w' : World} {B : Nat} {e : TypeId} {v : Value} {n : Nat} {xs : List Value} (h : w.ownsRow B e 1 v n xs) (hb : Below w.heap.size w w') : w'.ownsRow B e 1 v n xs :=
  h.kept (World.grownBy.mk hb.os hb.tape hb.output hb.size (fun i hi _ => hb.block i hi) : w.grownBy w' none) (by cases v.ownBlock <;> simp)
theorem nums_snoc {l : List Tk} {k : Nat} {x : Int} (h : levI l k = x) : nums (levsTo l k) ++ [Value.int .i64 x] = nums (levsTo l (k + 1)) := by
  rw [levsTo_succ, h]; simp [nums]
/-- behind the append: the old memory is as it was. -/
theorem lev_below {w w2 w3 : World} {o : Obj} {e : TypeId} {v : Value} {n : Nat} {xs : List Value} (hB : Below w.heap.size w w2) (hown : w2.ownsRow w.heap.size e 1 v n xs) (hg : (w2.alloc o).grownBy w3 v.ownBlock) : Below w.heap.size w w3 :=
  (hB.alloc hB.size o).grown hg (Nat.le_trans hB.size (by simp)) (fun k hk => (hown.lt k hk).1)

set_option maxHeartbeats 2000000 in
set_option maxRecDepth 100000 in
theorem sLevels_any (A : Option Addr) (l : List Tk) (n c : Nat) (w : World) (hn : l.length = n) (hm : n ≤ 2097152) (hts : TS w A l) (hf : Fits l) :
    Calls Tryz.prog 58 #[.slice A n c] w (LevPost w l) := by
  have HN := Lib.hid hn
  clear hn
  have hmk : ∀ w : World, (Instr.buildSlice 57 0 #[]).run Tryz.prog w = .ok (.slice (some ⟨w.heap.size, 0, none⟩) 0 0) (w.alloc (.cells #[] 3)) := fun _ => by kernel_rfl
  by_cases h4 : 400 < n
  · have hS := Lib.hid (strB_long (l := l) (by have := HN.out; omega))
    go_enter Tryz.func58, Tryz.ntmps58
    go_wp2
    go_ret3
    exact lev_no hS.out ((Below.refl _ _).alloc (Nat.le_refl _) _)
  · have hd4 : decide ((400 : Int) < n) = false := by simp; omega
    have h4' : n ≤ 400 := by omega
    obtain ⟨i0, hi, hz0, hz1, hz2⟩ := info_parts infoInt
    go_enter Tryz.func58, Tryz.ntmps58
    go_wp2
    go_loopw [5, 6, 7, 8] (fun v op mo i wr => ∃ k : Nat, k ≤ n ∧ i = .int .i64 k ∧ op = .int .i64 (opN l k) ∧ mo = .int .i64 (mxN l k) ∧ okN l k = true ∧ wr.ownsRow w.heap.size 3 1 v k (nums (levsTo l k)) ∧ Below w.heap.size w wr) (fun _ _ _ i _ => n - (intOf i).toNat)
    case atStart => exact ⟨0, Nat.zero_le _, rfl, by rw [opN_zero], rfl, rfl, by simpa [nums, levsTo] using World.ownsRow_lit (base := w.heap.size) (e := 3) (size := 1) w #[] 0 (Nat.le_refl _) (Nat.zero_le _) rfl, (Below.refl _ _).alloc (Nat.le_refl _) _⟩
    case round =>
      obtain ⟨k, hk, rfl, rfl, rfl, hok, hown, hbw⟩ := hrel
      clear hmk
      have HOK := Lib.hid hok
      have hlo := okN_lo hok (by have := HN.out; omega)
      obtain ⟨hlo0, hlo1⟩ := hlo
      clear hok
      have hmb := mxN_bd HOK.out (by have := HN.out; omega)
      have hmb0 := mxN_nonneg l k
      by_cases hkl : k < n
      · obtain ⟨t, b, o, ht, rfl, hbl, _⟩ := hts.at (k := k) (by have := HN.out; omega)
        have hs := hf k t ht
        obtain ⟨hbl', c0, c1, c2, c3⟩ := (hts.below hbw).get ht
        have HT := Lib.hid ht
        clear ht
        have HB := Lib.hid hbw
        clear hbw
        have HO := Lib.hid hown
        clear hown
        go_wp2_with fail
        refine (sTokenOk_any _ _ _ _ _ hs).mono ?_
        rintro e w2 ⟨rfl, hb2⟩
        have e0 := (hb2.cell (p := ⟨b, o + k * 4, none⟩) hbl').trans c0
        clear c0 c1 c2 c3
        have HB2 := Lib.hid (HB.out.trans (hb2.mono HB.out.size))
        have hz2' := HB2.out.size
        have HO2 := Lib.hid (ownsRow_keep HO.out hb2)
        clear hb2 HO HB
        cases htok : tokB t.k t.s t.d t.o
        · have hS := Lib.hid (strB_bad (l := l) (i := k + 1) (by have := HN.out; omega) (okN_no HT.out (.inl htok)))
          clear htok
          go_wp2
          go_ret3
          exact lev_no hS.out HB2.out
        · have HTOK := Lib.hid (show t.ok = true from htok)
          clear htok
          rcases t.opn_cases with ⟨hk2, hop⟩ | ⟨hk3, hop⟩ | ⟨hk2, hk3, hop⟩
          · have b3 : (t.k == 3) = false := by rw [hk2]; rfl
            have b2 : (t.k == 2) = true := by rw [hk2]; rfl
            have LV := Lib.hid (show levI l k = opN l k from by rw [levI_eq HT.out, if_neg (by omega)])
            have OP := Lib.hid (show opN l (k + 1) = opN l k + 1 from by rw [opN_succ HT.out, hop])
            have HOP := Lib.hid hop
            clear hk2 hop
            by_cases hhi : 12 < opN l k + 1
            · have hS := Lib.hid (strB_bad (l := l) (i := k + 1) (by have := HN.out; omega) (okN_no HT.out (.inr <| .inr (by rw [HOP.out]; omega))))
              go_wp2_with (at_builtin; refine wpList_append_own _ rfl _ _ 57 rfl w.heap.size 3 i0 (.int .i64 0) 1 8 Tryz.underlying57 hi hz0 hz1 hz2 rfl (by decide) _ _ _ rfl (HO2.out.alloc _) ⟨w2.heap.size, 0, none⟩ 1 1 [_] rfl rfl (cell_one_new _ _ _) (by simp [Value.oneCell']) (by simp only [maxLen]; omega) (by omega) (by simp; omega) ?_; intro v' w3 hown3 hgrow3 _; have HB3 := Lib.hid (lev_below HB2.out HO2.out hgrow3); have f0 := (HB3.out.cell (p := ⟨b, o + k * 4, none⟩) hbl).trans ((HB2.out.cell (p := ⟨b, o + k * 4, none⟩) hbl).symm.trans e0); have HO3 := Lib.hid hown3; clear hown3 hgrow3)
              go_ret3
              exact lev_no hS.out HB3.out
            · have hhi' : opN l k + 1 ≤ 12 := by omega
              have GOOD := Lib.hid (okN_step HT.out HOK.out HTOK.out (by rw [HOP.out]; omega) (by rw [HOP.out]; omega))
              by_cases hmx : mxN l k < opN l k + 1
              · have MX := Lib.hid (show mxN l (k + 1) = opN l k + 1 from by simp only [mxN]; rw [OP.out]; omega)
                go_wp2_with (at_builtin; refine wpList_append_own _ rfl _ _ 57 rfl w.heap.size 3 i0 (.int .i64 0) 1 8 Tryz.underlying57 hi hz0 hz1 hz2 rfl (by decide) _ _ _ rfl (HO2.out.alloc _) ⟨w2.heap.size, 0, none⟩ 1 1 [_] rfl rfl (cell_one_new _ _ _) (by simp [Value.oneCell']) (by simp only [maxLen]; omega) (by omega) (by simp; omega) ?_; intro v' w3 hown3 hgrow3 _; have HB3 := Lib.hid (lev_below HB2.out HO2.out hgrow3); have f0 := (HB3.out.cell (p := ⟨b, o + k * 4, none⟩) hbl).trans ((HB2.out.cell (p := ⟨b, o + k * 4, none⟩) hbl).symm.trans e0); have HO3 := Lib.hid hown3; clear hown3 hgrow3)
                go_roundw
                case rel => exact ⟨k + 1, by omega, by go_num, by rw [OP.out], by rw [MX.out], GOOD.out, nums_snoc LV.out ▸ HO3.out, HB3.out⟩
                case measure => simp [intOf]; omega
              · have MX := Lib.hid (show mxN l (k + 1) = mxN l k from by simp only [mxN]; rw [OP.out]; omega)
                go_wp2_with (at_builtin; refine wpList_append_own _ rfl _ _ 57 rfl w.heap.size 3 i0 (.int .i64 0) 1 8 Tryz.underlying57 hi hz0 hz1 hz2 rfl (by decide) _ _ _ rfl (HO2.out.alloc _) ⟨w2.heap.size, 0, none⟩ 1 1 [_] rfl rfl (cell_one_new _ _ _) (by simp [Value.oneCell']) (by simp only [maxLen]; omega) (by omega) (by simp; omega) ?_; intro v' w3 hown3 hgrow3 _; have HB3 := Lib.hid (lev_below HB2.out HO2.out hgrow3); have f0 := (HB3.out.cell (p := ⟨b, o + k * 4, none⟩) hbl).trans ((HB2.out.cell (p := ⟨b, o + k * 4, none⟩) hbl).symm.trans e0); have HO3 := Lib.hid hown3; clear hown3 hgrow3)
                go_roundw
                case rel => exact ⟨k + 1, by omega, by go_num, by rw [OP.out], by rw [MX.out], GOOD.out, nums_snoc LV.out ▸ HO3.out, HB3.out⟩
                case measure => simp [intOf]; omega
          · have b3 : (t.k == 3) = true := by rw [hk3]; rfl
            have b2 : (t.k == 2) = false := by rw [hk3]; rfl
            have LV := Lib.hid (show levI l k = opN l k - 1 from by rw [levI_eq HT.out, if_pos hk3])
            have OP := Lib.hid (show opN l (k + 1) = opN l k - 1 from by rw [opN_succ HT.out, hop]; omega)
            have HOP := Lib.hid hop
            have hge := mxN_ge l k k (Nat.le_refl _)
            clear hk3 hop
            by_cases hhi : opN l k - 1 < 0
            · have hS := Lib.hid (strB_bad (l := l) (i := k + 1) (by have := HN.out; omega) (okN_no HT.out (.inr <| .inl (by rw [HOP.out]; omega))))
              go_wp2_with (at_builtin; refine wpList_append_own _ rfl _ _ 57 rfl w.heap.size 3 i0 (.int .i64 0) 1 8 Tryz.underlying57 hi hz0 hz1 hz2 rfl (by decide) _ _ _ rfl (HO2.out.alloc _) ⟨w2.heap.size, 0, none⟩ 1 1 [_] rfl rfl (cell_one_new _ _ _) (by simp [Value.oneCell']) (by simp only [maxLen]; omega) (by omega) (by simp; omega) ?_; intro v' w3 hown3 hgrow3 _; have HB3 := Lib.hid (lev_below HB2.out HO2.out hgrow3); have f0 := (HB3.out.cell (p := ⟨b, o + k * 4, none⟩) hbl).trans ((HB2.out.cell (p := ⟨b, o + k * 4, none⟩) hbl).symm.trans e0); have HO3 := Lib.hid hown3; clear hown3 hgrow3)
              go_ret3
              exact lev_no hS.out HB3.out
            · have hhi' : 0 ≤ opN l k - 1 := by omega
              have GOOD := Lib.hid (okN_step HT.out HOK.out HTOK.out (by rw [HOP.out]; omega) (by rw [HOP.out]; omega))
              have MX := Lib.hid (show mxN l (k + 1) = mxN l k from by simp only [mxN]; rw [OP.out]; omega)
              go_wp2_with (at_builtin; refine wpList_append_own _ rfl _ _ 57 rfl w.heap.size 3 i0 (.int .i64 0) 1 8 Tryz.underlying57 hi hz0 hz1 hz2 rfl (by decide) _ _ _ rfl (HO2.out.alloc _) ⟨w2.heap.size, 0, none⟩ 1 1 [_] rfl rfl (cell_one_new _ _ _) (by simp [Value.oneCell']) (by simp only [maxLen]; omega) (by omega) (by simp; omega) ?_; intro v' w3 hown3 hgrow3 _; have HB3 := Lib.hid (lev_below HB2.out HO2.out hgrow3); have f0 := (HB3.out.cell (p := ⟨b, o + k * 4, none⟩) hbl).trans ((HB2.out.cell (p := ⟨b, o + k * 4, none⟩) hbl).symm.trans e0); have HO3 := Lib.hid hown3; clear hown3 hgrow3)
              go_roundw
              case rel => exact ⟨k + 1, by omega, by go_num, by rw [OP.out], by rw [MX.out], GOOD.out, nums_snoc LV.out ▸ HO3.out, HB3.out⟩
              case measure => simp [intOf]; omega
          · have b3 : (t.k == 3) = false := beq_eq_false_iff_ne.2 hk3
            have b2 : (t.k == 2) = false := beq_eq_false_iff_ne.2 hk2
            have LV := Lib.hid (show levI l k = opN l k from by rw [levI_eq HT.out, if_neg hk3])
            have OP := Lib.hid (show opN l (k + 1) = opN l k from by rw [opN_succ HT.out, hop]; omega)
            have HOP := Lib.hid hop
            have hge := mxN_ge l k k (Nat.le_refl _)
            clear hk2 hk3 hop
            have GOOD := Lib.hid (okN_step HT.out HOK.out HTOK.out (by rw [HOP.out]; omega) (by rw [HOP.out]; omega))
            have MX := Lib.hid (show mxN l (k + 1) = mxN l k from by simp only [mxN]; rw [OP.out]; omega)
            go_wp2_with (at_builtin; refine wpList_append_own _ rfl _ _ 57 rfl w.heap.size 3 i0 (.int .i64 0) 1 8 Tryz.underlying57 hi hz0 hz1 hz2 rfl (by decide) _ _ _ rfl (HO2.out.alloc _) ⟨w2.heap.size, 0, none⟩ 1 1 [_] rfl rfl (cell_one_new _ _ _) (by simp [Value.oneCell']) (by simp only [maxLen]; omega) (by omega) (by simp; omega) ?_; intro v' w3 hown3 hgrow3 _; have HB3 := Lib.hid (lev_below HB2.out HO2.out hgrow3); have f0 := (HB3.out.cell (p := ⟨b, o + k * 4, none⟩) hbl).trans ((HB2.out.cell (p := ⟨b, o + k * 4, none⟩) hbl).symm.trans e0); have HO3 := Lib.hid hown3; clear hown3 hgrow3)
            go_roundw
            case rel => exact ⟨k + 1, by omega, by go_num, by rw [OP.out], by rw [MX.out], GOOD.out, nums_snoc LV.out ▸ HO3.out, HB3.out⟩
            case measure => simp [intOf]; omega
      · have hkn : k = n := by omega
        have HKN := Lib.hid hkn
        clear hkn
        have HB := Lib.hid hbw
        clear hbw
        have HO := Lib.hid hown
        clear hown
        go_wp2
        go_ret3
        have e := HKN.out
        subst e
        exact lev_yes HN.out h4' HOK.out rfl rfl HB.out HO.out
end Go.Proofs.YthjkgbcomjiejadGreatDoor
