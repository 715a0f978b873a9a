/-
  CountKinds on both sides.
-/
import Derived.Test.YthjkgbcomjiejaaDoorLl33
import Derived.Test.YthjkgbcomjiejaaDoorLl44
import Derived.Test.YthjkgbcomjiejaaDoorLl28
namespace Go.Proofs.YthjkgbcomjiejaaDoor
open Go.RowKit
set_option linter.unusedVariables false

/-- one more of Kind k. -/
def cnU (c : List Int) (k : Int) : List Int := if inB k 0 5 = true then c.set k.toNat ((c[k.toNat]?).getD 0 + 1) else c
/-- the counts of the first i lexemes. -/
def cnN (l : List Lx) : Nat → List Int
  | 0 => List.replicate 6 0
  | i + 1 => match l[i]? with | some t => cnU (cnN l i) t.k | none => cnN l i
theorem cnN_succ {l : List Lx} {i : Nat} {t : Lx} (h : l[i]? = some t) : cnN l (i + 1) = cnU (cnN l i) t.k := by simp only [cnN, h]
theorem cnU_length (c : List Int) (k : Int) : (cnU c k).length = c.length := by unfold cnU; split <;> simp
theorem cnN_length (l : List Lx) (i : Nat) : (cnN l i).length = 6 := by
  induction i with
  | zero => rfl
  | succ i ih => simp only [cnN]; split
                 · rw [cnU_length]; exact ih
                 · exact ih
theorem cnN_bd (l : List Lx) (i j : Nat) (x : Int) (h : (cnN l i)[j]? = some x) : 0 ≤ x ∧ x ≤ i := by
  induction i generalizing x with
  | zero =>
    simp only [cnN, List.getElem?_replicate] at h
    split at h
    · injection h with h; omega
    · cases h
  | succ i ih =>
    simp only [cnN] at h
    split at h
    · rename_i t ht
      unfold cnU at h
      split at h
      · rename_i hk
        rw [List.getElem?_set] at h
        split at h
        · rename_i e
          split at h
          · injection h with h
            have hj : t.k.toNat < (cnN l i).length := by assumption
            subst e
            have := ih _ (List.getElem?_eq_getElem hj)
            rw [List.getElem?_eq_getElem hj] at h
            simp only [Option.getD_some] at h
            omega
          · cases h
        · have := ih x h; omega
      · have := ih x h; omega
    · have := ih x h; omega

theorem below_drN {B : Nat} {a w : World} (h : Below B a w) (n : Nat) : Below B a (w.drewN n) := ⟨h.os, h.tape, h.output, h.size, h.block⟩
def CntOut (w : World) (xs : List Int) (e : Ending) (w' : World) : Prop :=
  e = .returned (.slice (some ⟨w.heap.size, 0, none⟩) xs.length xs.length) ∧ BlkL w' w.heap.size 3 (nums xs) ∧ Below w.heap.size w w'
theorem CntOut.out {w : World} {xs : List Int} {e : Ending} {w' : World} (h : CntOut w xs e w') : IntsOut w xs e w' := by
  obtain ⟨rfl, h1, h2⟩ := h
  exact ⟨h2, some ⟨w.heap.size, 0, none⟩, xs.length, rfl, fun b hb => by simp at hb; omega, fun h => (by cases h), .inr ⟨_, [], rfl, by simpa using h1⟩⟩
set_option maxHeartbeats 1000000 in
set_option maxRecDepth 100000 in
theorem CountKinds_any (A : Option Addr) (l : List Lx) (n c : Nat) (w : World) (hn : l.length = n) (hm : n ≤ 2097152) (hts : XS w A l) :
    Calls Tryd.prog 9 #[.slice A n c] w (CntOut w (cnN l l.length)) := by
  have HN := Lib.hid hn
  clear hn
  have hmk : ∀ W, (Instr.makeSlice 29 (.int .i64 6) (.int .i64 6)).run Tryd.prog W = _ := fun W => mkInts 6 (by omega) W
  go_enter Tryd.func9, Tryd.ntmps9
  go_wp2
  go_loopw [9] (fun i wr => ∃ k : Nat, k ≤ n ∧ i = .int .i64 k ∧ BlkL wr w.heap.size 3 (nums (cnN l k)) ∧ Below w.heap.size w wr) (fun i _ => n - (intOf i).toNat)
  case atStart => exact ⟨0, Nat.zero_le _, rfl, BlkL.new w 3 (nums (List.replicate 6 0)), (Below.refl _ _).alloc (Nat.le_refl _) _⟩
  case round =>
    obtain ⟨k, hk, rfl, hblk, hb⟩ := hrel
    clear hmk
    by_cases hkl : k < n
    · obtain ⟨t, b, o, ht, rfl, hbl, hc⟩ := hts.all (k := k) (by have := HN.out; omega)
      obtain ⟨hbl', c0, c1, c2⟩ := XS.get (RS.below hts hb) ht
      have hcs := cnN_succ ht
      clear ht hc
      have HB := Lib.hid hb
      have hz := hb.size
      clear hb
      have HC := Lib.hid hcs
      clear hcs
      have HK := Lib.hid hblk
      clear hblk
      have hlt := HK.out.lt
      go_wp2_with fail
      refine (within_any _ _ _ _).mono ?_
      rintro e w2 ⟨rfl, hwe⟩
      have hbx := BlkL.new wr 32 [.int .i64 t.k, .string t.s, .int .i64 t.a]
      have hK2 := HK.out.alloc (.cells #[.int .i64 t.k, .string t.s, .int .i64 t.a] 32)
      have hB2 := HB.out.alloc (by omega) (.cells #[.int .i64 t.k, .string t.s, .int .i64 t.a] 32)
      have hz3 : (wr.alloc (.cells #[.int .i64 t.k, .string t.s, .int .i64 t.a] 32)).heap.size = wr.heap.size + 1 := by simp
      rw [hwe] at hbx hK2 hB2 hz3
      clear hwe HK HB c0 c1 c2
      have x0 : w2.cell? ⟨wr.heap.size, 0, none⟩ = some (.int .i64 t.k) := (hbx.cell 0).trans rfl
      have x1 : w2.cell? ⟨wr.heap.size, 1, none⟩ = some (.string t.s) := (hbx.cell 1).trans rfl
      have x2 : w2.cell? ⟨wr.heap.size, 2, none⟩ = some (.int .i64 t.a) := (hbx.cell 2).trans rfl
      have xl := hbx.lt
      have kl := hK2.lt
      have HK := Lib.hid hK2
      have HB := Lib.hid hB2
      clear hbx hK2 hB2
      cases hin : inB t.k 0 5
      · have HE := Lib.hid (show cnN l (k + 1) = cnN l k by rw [HC.out, cnU, hin]; rfl)
        go_wp2
        go_roundw
        case rel => exact ⟨k + 1, by omega, by go_num, by rw [HE.out]; exact HK.out, HB.out⟩
        case measure => simp [intOf]; omega
      · have hkk := inB_true.1 hin
        have hk6 : 0 ≤ t.k ∧ t.k < 6 := by omega
        obtain ⟨x, hv⟩ : ∃ x, (cnN l k)[t.k.toNat]? = some x := ⟨_, List.getElem?_eq_getElem (show t.k.toNat < (cnN l k).length by rw [cnN_length]; omega)⟩
        have hbd := cnN_bd l k _ _ hv
        have HE := Lib.hid (show cnN l (k + 1) = (cnN l k).set t.k.toNat (x + 1) by rw [HC.out, cnU, hin, if_pos rfl, hv]; rfl)
        have q0 : w2.cell? ⟨w.heap.size, t.k.toNat, none⟩ = some (.int .i64 x) := (HK.out.cell _).trans (nums_at hv)
        have z0 := HK.out.frozen t.k.toNat
        clear hv hin hkk
        go_wp2_with fail
        go_roundw
        case rel => exact ⟨k + 1, by omega, by go_num, by rw [HE.out, ← nums_set]; exact BlkL.set HK.out _ _, HB.out.setCell (p := ⟨w.heap.size, _, none⟩) (Nat.le_refl _) _⟩
        case measure => simp [intOf]; omega
    · go_wp2
      go_ret
      have e := HN.out
      obtain rfl : k = n := by omega
      subst e
      exact ⟨by rw [cnN_length]; rfl, hblk, hb⟩
theorem CountKinds_out (A : Option Addr) (l : List Lx) (n c : Nat) (w : World) (hn : l.length = n) (hm : n ≤ 2097152) (hts : XS w A l) (hf : Fits (txs l)) :
    Calls Tryd.prog 9 #[.slice A n c] w (IntsOut w (cnN l l.length)) := (CountKinds_any A l n c w hn hm hts).mono fun _ _ h => h.out
end Go.Proofs.YthjkgbcomjiejaaDoor
