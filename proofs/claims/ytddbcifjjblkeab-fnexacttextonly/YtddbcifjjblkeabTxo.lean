/-
  TextOnly on both sides.
-/
import Derived.Test.YtddbcifjjblkeabStrm
import Derived.Test.YtddbcifjjblkeabLaw2
import Derived.Test.YtddbcifjjblkeabBlw
import Derived.Test.YtddbcifjjblkeabBwd
namespace Go.Proofs.Ytddbcifjjblkeab
open Go.RowKit
set_option linter.unusedVariables false

/-- the Texts of the first i tokens, one behind the other. -/
def toN (l : List Tk) : Nat → List UInt8
  | 0 => []
  | i + 1 => match l[i]? with | some t => toN l i ++ t.s.data.toList | none => toN l i
theorem toN_succ {l : List Tk} {i : Nat} {t : Tk} (h : l[i]? = some t) : toN l (i + 1) = toN l i ++ t.s.data.toList := by simp only [toN, h]
def toB (l : List Tk) : ByteArray := if strB l = true then ⟨(toN l l.length).toArray⟩ else ByteArray.empty
theorem toB_no {l : List Tk} (h : strB l = false) : toB l = ByteArray.empty := if_neg (by rw [h]; decide)
theorem toB_yes {l : List Tk} (h : strB l = true) : toB l = ⟨(toN l l.length).toArray⟩ := if_pos h
theorem tok_size {t : Tk} (h : t.ok = true) : t.s.size ≤ 40 := by
  unfold Tk.ok tokB at h
  split at h
  · simp only [Bool.and_eq_true] at h
    have h1 := h.1
    unfold txtB at h1
    split at h1
    · rename_i h2; exact h2.2
    · cases h1
  · split at h
    · cases h
    · omega
theorem toN_len {l : List Tk} (h : strB l = true) : ∀ i, i ≤ l.length → (toN l i).length ≤ 40 * i
  | 0, _ => by simp [toN]
  | i + 1, hi => by
    have ht := List.getElem?_eq_getElem (show i < l.length by omega)
    have h1 := toN_len h i (by omega)
    have h2 := tok_size (okN_at (strB_true h).2.1 (show i < l.length by omega) ht).1
    have h3 : (l[i]).s.size = (l[i]).s.data.toList.length := Array.length_toList.symm
    rw [toN_succ ht, List.length_append]
    omega
theorem app_lx (a b : ByteArray) : (a ++ b).data.toList = a.data.toList ++ b.data.toList := by simp
theorem ext_lx {a : ByteArray} {l : List UInt8} (h : a.data.toList = l) : a = ⟨l.toArray⟩ := by
  apply ByteArray.ext
  rw [← h]
set_option maxHeartbeats 1000000 in
set_option maxRecDepth 100000 in
theorem sTextOnly_any (A : Option Addr) (l : List Tk) (n c : Nat) (w : World) (hn : l.length = n) (hm : n ≤ 2097152) (hts : TS w A l) (hf : Fits l) :
    Calls Try.prog 14 #[.slice A n c] w fun e w' => e = .returned (.string (toB l)) ∧ Below w.heap.size w w' := by
  subst hn
  go_enter Try.func14, Try.ntmps14
  go_wp2_with fail
  refine (sStreamOk_any A l _ c w rfl hm hts hf).mono ?_
  rintro e w1 ⟨rfl, hb⟩
  have HB1 := Lib.hid hb
  have HT1 := Lib.hid (hts.below hb)
  clear hb
  cases ht : strB l
  · have HI := Lib.hid (toB_no ht)
    clear ht
    go_wp2
    go_ret
    rw [HI.out]
    exact ⟨rfl, HB1.out⟩
  have HS := Lib.hid ht
  have HI := Lib.hid (toB_yes ht)
  clear ht
  go_wp2
  go_loop [3, 4] (fun o i => ∃ (k : Nat) (S : ByteArray), k ≤ l.length ∧ i = .int .i64 k ∧ o = .string S ∧ S.data.toList = toN l k) (fun _ i => l.length - (intOf i).toNat)
  case atStart => exact ⟨0, ByteArray.empty, Nat.zero_le _, rfl, rfl, rfl⟩
  case round =>
    obtain ⟨k, S, hk, rfl, rfl, hS⟩ := hrel
    have HSS := Lib.hid hS
    have hsz : S.size ≤ 40 * k := by
      have := toN_len HS.out k hk
      have h3 : S.size = S.data.toList.length := Array.length_toList.symm
      rw [hS] at h3
      omega
    clear hS
    by_cases hlt : k < l.length
    · obtain ⟨t, b, o, ht, rfl, hbl, c0, c1, c2, c3⟩ := HT1.out.at (k := k) hlt
      have HT := Lib.hid (toN_succ ht)
      have hts2 := tok_size (okN_at (strB_true HS.out).2.1 hlt ht).1
      clear ht
      go_wp2
      go_round
      case rel => exact ⟨k + 1, S ++ t.s, by omega, by go_num, rfl, by rw [app_lx, HSS.out, HT.out]⟩
      case measure => simp [intOf] <;> omega
    · obtain rfl : k = l.length := by omega
      have HP := Lib.hid (show S = toB l by rw [HI.out]; exact ext_lx HSS.out)
      go_wp2
      go_ret
      rw [HP.out]
      exact ⟨rfl, HB1.out⟩
set_option maxHeartbeats 1000000 in
set_option maxRecDepth 100000 in
theorem TextOnly_any (A : Option Addr) (l : List Tk) (n c : Nat) (w : World) (hn : l.length = n) (hm : n ≤ 2097152) (hts : TS w A l) (hf : Fits l) :
    Calls Try.prog 16 #[.slice A n c] w fun e w' => e = .returned (.string (toB l)) ∧ Below w.heap.size w w' := by
  subst hn
  go_enter Try.func16, Try.ntmps16
  go_wp2_with fail
  refine (StreamOk_any A l _ c _ rfl hm hts hf).mono ?_
  rintro e w1 ⟨rfl, hb⟩
  have HB1 := Lib.hid hb
  have HT1 := Lib.hid (hts.below hb)
  clear hb
  cases ht : strB l
  · have HI := Lib.hid (toB_no ht)
    clear ht
    go_wp2
    go_ret
    rw [HI.out]
    exact ⟨rfl, HB1.out⟩
  have HS := Lib.hid ht
  have HI := Lib.hid (toB_yes ht)
  clear ht
  go_wp2
  go_loopw [11] (fun i wr => ∃ k : Nat, k ≤ l.length ∧ i = .int .i64 k ∧ Lib.IsBuilderF 56 5 w1.heap.size w1.heap.size (Lib.byteCells (toN l k)) wr ∧ Below w1.heap.size w1 wr) (fun i _ => l.length - (intOf i).toNat)
  case atStart => exact ⟨0, Nat.zero_le _, rfl, bld_new w1, (Below.refl _ _).alloc (Nat.le_refl _) _⟩
  case round =>
    obtain ⟨k, hk, rfl, hbd, hbw⟩ := hrel
    have hzw := hbw.size
    have hzs : w1.heap.size < wr.heap.size := by rcases hbd with h | h <;> exact h.lt
    have hpl := toN_len HS.out k hk
    have hl4 := (strB_true HS.out).1
    have HBD := Lib.hid hbd
    have HBW := Lib.hid hbw
    clear hbd
    by_cases hlt : k < l.length
    · obtain ⟨t, b, o, ht, rfl, hbl, c0, c1, c2, c3⟩ := (HT1.out.below hbw).at (k := k) hlt
      have HT := Lib.hid (toN_succ ht)
      have hts2 := tok_size (okN_at (strB_true HS.out).2.1 hlt ht).1
      clear ht hbw
      go_wp2_with fail
      refine (WriteStr_k w1.heap.size w1.heap.size _ t.s _ (bld_alloc HBD.out _) (by rw [Lib.byteCells_length]; omega) (by simp; omega)).mono ?_
      rintro e w3 ⟨rfl, h3, hb3, _⟩
      rw [bld_app, ← HT.out] at h3
      have H3 := Lib.hid h3
      have HB3 := Lib.hid ((HBW.out.alloc hzw _).trans hb3)
      clear h3 hb3 c0 c1 c2 c3
      go_wp2
      go_roundw
      case rel => exact ⟨k + 1, by omega, by go_num, H3.out, HB3.out⟩
      case measure => simp [intOf] <;> omega
    · obtain rfl : k = l.length := by omega
      clear hbw
      go_wp2_with fail
      refine (Go.Proofs.Any.Builder_String_any_k Try.lays169 Try.Builder_Extra_169 w1.heap.size w1.heap.size _ _ HBD.out hzw).mono ?_
      rintro e w3 ⟨rfl, _, hb3, _⟩
      have HB3 := Lib.hid (HB1.out.trans ((HBW.out.trans hb3).mono HB1.out.size))
      clear hb3
      go_wp2
      go_ret
      rw [HI.out]
      exact ⟨rfl, HB3.out⟩
end Go.Proofs.Ytddbcifjjblkeab
