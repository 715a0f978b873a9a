/-
  How long a string and a note are.
-/
import Derived.Test.YthjkgbcomjiejaaDoorLl18
import Derived.Test.YthjkgbcomjiejaaDoorLl19
import Derived.Shelf.Strings.SlTrimAscii
namespace Go.Proofs.YthjkgbcomjiejaaDoor
open Go.RowKit
set_option linter.unusedVariables false

/-- what stringSize tells: exact where all bytes up to the end may be there. -/
def StP (b : Nat → Nat) (n sz : Nat) (ends : Bool) : Prop :=
  sz ≤ n ∧ (fst (evS b) n = n → sz = n ∧ ends = false) ∧ (fst (evS b) n < n → clB b (fst (evS b) n) = true → sz = fst (evS b) n + 1 ∧ ends = true) ∧ (fst (evS b) n < n → clB b (fst (evS b) n) = false → fst (evS b) n < sz)
/-- how the rune at a place hangs together with the byte there. -/
structure RuneOf (c r wd : Nat) : Prop where
  low : c < 128 → r = c ∧ wd = 1
  high : 128 ≤ c → 128 ≤ r
  pos : 1 ≤ wd
theorem runeOf {s : ByteArray} {pos : Nat} (h : pos < s.size) : RuneOf (bt s pos) (Utf8.decode s pos).1 (Utf8.decode s pos).2 := by
  refine ⟨fun ha => ?_, fun ha => ?_, width_pos s pos h⟩
  · rw [bt_at h] at ha ⊢; rw [decode_ascii s pos h ha]; exact ⟨rfl, rfl⟩
  · rw [bt_at h] at ha; exact (decode_high s pos h ha).1
def StI (b : Nat → Nat) (n pos : Nat) (tv : Bool) : Prop :=
  (pos ≤ n ∧ (∀ k, k < pos → evS b k = false) ∧ tv = tkN b pos) ∨ (fst (evS b) n < n ∧ clB b (fst (evS b) n) = false ∧ fst (evS b) n < pos)
theorem StI.next {b : Nat → Nat} {n pos r wd : Nat} {tv : Bool} (h : StI b n pos tv) (hlt : pos < n) (hr : RuneOf (b pos) r wd) (hn : tv = true ∨ r ≠ 34) : StI b n (pos + wd) (!tv && decide (r = 92)) := by
  have hwd := hr.pos
  rcases h with ⟨h1, h2, h3⟩ | ⟨h1, h2, h3⟩
  · have hc : clB b pos = false := by
      unfold clB
      rw [← h3]
      rcases hn with hn | hn
      · rw [hn]; rfl
      · by_cases ha : b pos < 128
        · rw [← (hr.low ha).1]; simp [hn]
        · simp; intro _; omega
    cases hb : bdB (b pos)
    · have ha : b pos < 128 := by simp [bdB] at hb; omega
      obtain ⟨e1, e2⟩ := hr.low ha
      left
      refine ⟨by omega, fun k hk => ?_, ?_⟩
      · by_cases hkp : k = pos
        · subst hkp; rw [evS, hb, hc]; rfl
        · exact h2 k (by omega)
      · rw [e2, tkN, ← h3, e1]
    · have hf := fst_at hlt (show evS b pos = true by rw [evS, hb]; rfl) h2
      right
      rw [hf]
      exact ⟨hlt, hc, by omega⟩
  · exact .inr ⟨h1, h2, by omega⟩
theorem StI.close {b : Nat → Nat} {n pos r wd : Nat} (h : StI b n pos false) (hlt : pos < n) (hr : RuneOf (b pos) r wd) (h34 : r = 34) : StP b n (pos + 1) true := by
  have ha : b pos < 128 := by
    rcases Nat.lt_or_ge (b pos) 128 with h | h
    · exact h
    · have := hr.high h; omega
  have e1 := (hr.low ha).1
  rcases h with ⟨h1, h2, h3⟩ | ⟨h1, h2, h3⟩
  · have hc : clB b pos = true := by unfold clB; rw [← h3]; simp; omega
    have hf := fst_at hlt (show evS b pos = true by rw [evS, hc]; simp) h2
    unfold StP
    rw [hf]
    exact ⟨by omega, fun h => by omega, fun _ _ => ⟨rfl, rfl⟩, fun _ h => by omega⟩
  · refine ⟨by omega, fun h => by omega, fun _ h => ?_, fun _ _ => by omega⟩
    rw [h2] at h; cases h
theorem StI.done {b : Nat → Nat} {n pos : Nat} {tv : Bool} (h : StI b n pos tv) (hge : ¬ pos < n) : StP b n n false := by
  rcases h with ⟨h1, h2, h3⟩ | ⟨h1, h2, h3⟩
  · have hf : fst (evS b) n = n := fst_none (fun k hk => h2 k (by omega))
    unfold StP
    rw [hf]
    exact ⟨Nat.le_refl _, fun _ => ⟨rfl, rfl⟩, fun h => by omega, fun h => by omega⟩
  · refine ⟨Nat.le_refl _, fun h => by omega, fun _ h => ?_, fun _ _ => h1⟩
    rw [h2] at h; cases h
set_option maxHeartbeats 1000000 in
theorem stringSize_any (s : ByteArray) (w : World) (hs : s.size ≤ 1048576) :
    Calls Tryd.prog 58 #[.string s] w fun e w' => (∃ (sz : Nat) (b : Bool), e = .returned (.tuple #[.int .i64 sz, .bool b]) ∧ StP (bt s) s.size sz b) ∧ Below w.heap.size w w' := by
  go_enter Tryd.func58, Tryd.ntmps58
  go_wp2
  go_loopw [4] (fun tk w' => ∃ (pos : Nat) (tv : Bool), tk = .bool tv ∧ w' = w.iter s pos ∧ StI (bt s) s.size pos tv) (fun _ w' => s.size - w'.iterPos w.heap.size)
  case atStart => exact ⟨0, true, rfl, rfl, .inl ⟨Nat.zero_le _, fun k hk => by omega, rfl⟩⟩
  case round =>
    obtain ⟨pos, tv, rfl, rfl, hinv⟩ := hrel
    have HI := Lib.hid hinv
    clear hinv
    by_cases hlt : pos < s.size
    · have hnx : ∀ ty, (Instr.next (.pointer (some ⟨w.heap.size, 0, none⟩)) true ty).run Tryd.prog (w.iter s pos) = _ := fun ty => run_next_any w s pos ty hlt
      have HR := Lib.hid (runeOf hlt)
      have hwd := HR.out.pos
      generalize (Utf8.decode s pos).1 = r at *
      generalize (Utf8.decode s pos).2 = wd at *
      cases tv
      · by_cases h92 : r = 92
        · have HN := Lib.hid (show StI (bt s) s.size (pos + wd) true by have := HI.out.next hlt HR.out (.inr (by omega)); simpa [h92] using this)
          subst h92
          go_wp2
          go_roundw
          case rel => exact ⟨pos + wd, true, rfl, rfl, HN.out⟩
          case measure => simp; omega
        · have b92 : ((r : Int) == 92) = false := by simp; omega
          by_cases h34 : r = 34
          · have HP := Lib.hid (HI.out.close hlt HR.out h34)
            subst h34
            clear h92 b92
            go_wp2
            go_ret2
            exact ⟨⟨pos + 1, true, by simp, HP.out⟩, iter_below _ _ _⟩
          · have b34 : ((r : Int) == 34) = false := by simp; omega
            have HN := Lib.hid (show StI (bt s) s.size (pos + wd) false by have := HI.out.next hlt HR.out (.inr h34); simpa [h92] using this)
            clear h92 h34
            go_wp2
            go_roundw
            case rel => exact ⟨pos + wd, false, rfl, rfl, HN.out⟩
            case measure => simp; omega
      · have HN := Lib.hid (show StI (bt s) s.size (pos + wd) false by have := HI.out.next hlt HR.out (.inl rfl); simpa using this)
        go_wp2
        go_roundw
        case rel => exact ⟨pos + wd, false, rfl, rfl, HN.out⟩
        case measure => simp; omega
    · have hnx : ∀ ty, (Instr.next (.pointer (some ⟨w.heap.size, 0, none⟩)) true ty).run Tryd.prog (w.iter s pos) = _ := fun ty => run_next_end w s pos ty hlt
      have HP := Lib.hid (HI.out.done hlt)
      go_wp2
      go_ret2
      exact ⟨⟨s.size, false, rfl, HP.out⟩, iter_below _ _ _⟩
theorem bytes_at (s : ByteArray) (i : Nat) : s.data.toList[i]? = if h : i < s.size then some s[i] else none := by
  split
  · rename_i h
    rw [List.getElem?_eq_getElem (by simpa using h)]
    rfl
  · rename_i h
    rw [List.getElem?_eq_none (by simpa using h)]
theorem ln_index (s : ByteArray) : (Lib.indexByte s.data.toList 10 = -1 ∧ lnN (bt s) s.size = s.size) ∨ ∃ k : Nat, k < s.size ∧ Lib.indexByte s.data.toList 10 = k ∧ lnN (bt s) s.size = k := by
  by_cases h : Lib.indexByte s.data.toList 10 = -1
  · left
    refine ⟨h, fst_none fun k hk => ?_⟩
    have h1 := Lib.indexByte_none h k
    rw [bytes_at, dif_pos hk] at h1
    simp only [decide_eq_false_iff_not]
    rw [bt_at hk]
    intro h2
    exact h1 (by congr 1; exact UInt8.toNat_inj.1 h2)
  · right
    have h0 := Lib.indexByte_ge s.data.toList 10
    obtain ⟨k, hk⟩ := Int.eq_ofNat_of_zero_le (show 0 ≤ Lib.indexByte s.data.toList 10 by omega)
    obtain ⟨h1, h2⟩ := Lib.indexByte_some hk
    have hlt : k < s.size := by
      rcases Nat.lt_or_ge k s.size with h | h
      · exact h
      · rw [bytes_at, dif_neg (by omega)] at h1; cases h1
    refine ⟨k, hlt, hk, fst_at hlt ?_ fun i hi => ?_⟩
    · rw [bytes_at, dif_pos hlt] at h1
      have := Option.some.inj h1
      simp [bt_at hlt, this]
    · have h3 := h2 i hi
      rw [bytes_at, dif_pos (by omega)] at h3
      simp only [decide_eq_false_iff_not]
      rw [bt_at (by omega)]
      intro h4
      exact h3 (by congr 1; exact UInt8.toNat_inj.1 h4)
theorem bt_extract (s : ByteArray) (a e i : Nat) (he : e ≤ s.size) (hi : i < e - a) : bt (s.extract a e) i = bt s (a + i) := by
  have h1 : (s.extract a e).size = e - a := by simp [ByteArray.size_extract]; omega
  rw [bt_at (by omega), bt_at (by omega)]
  congr 1
  exact ByteArray.getElem_extract (h := by omega)
def CutP (s : ByteArray) (w : World) (e : Ending) (w' : World) : Prop := ∃ (L A : ByteArray) (f : Bool), e = .returned (.tuple #[.string L, .string A, .bool f]) ∧ L.size = lnN (bt s) s.size ∧ (∀ i, i < L.size → bt L i = bt s i) ∧ Below w.heap.size w w'
set_option maxHeartbeats 1000000 in
theorem liteCut_any (s : ByteArray) (w : World) (hs : s.size ≤ 1048576) :
    Calls Tryd.prog 64 #[.string s, .string ⟨#[10]⟩] w (CutP s w) := by
  rcases ln_index s with ⟨h1, h2⟩ | ⟨k, hk, h1, h2⟩
  · have H1 := Lib.hid h1
    have H2 := Lib.hid h2
    clear h1 h2
    go_enter Tryd.func64, Tryd.ntmps64
    go_wp2_with fail
    refine (Tryd.stringslite_Index_one s 10 w).mono ?_
    rintro e w' ⟨rfl, rfl⟩
    rw [H1.out]
    go_wp2
    refine bodyPost_ret (v := .tuple #[.string s, .string ⟨#[]⟩, .bool false]) (by simp [results, Tryd.results64, go_sem]) rfl ?_
    exact ⟨s, _, _, rfl, H2.out.symm, fun _ _ => rfl, Below.refl _ _⟩
  · have H1 := Lib.hid h1
    have H2 := Lib.hid h2
    clear h1 h2
    go_enter Tryd.func64, Tryd.ntmps64
    go_wp2_with fail
    refine (Tryd.stringslite_Index_one s 10 w).mono ?_
    rintro e w' ⟨rfl, rfl⟩
    rw [H1.out]
    go_wp2_with fail
    refine wp_region_class (Bw w') (by kernel_rfl) (by kernel_rfl) (Bw.start w') (fun hne => ?_)
    repeat (go_big_quiet_step (fail))
    refine wpQuiet_nil ?_
    rintro w3 ⟨x, rfl⟩
    have hx := Lib.hid x.ok
    generalize x.W = w3 at *
    go_wp2
    refine bodyPost_ret (v := .tuple #[.string (s.extract 0 k), .string (s.extract (k + 1) s.size), .bool true]) (by simp [results, Tryd.results64, go_sem]) rfl ?_
    have hz : (s.extract 0 k).size = k := by simp [ByteArray.size_extract]; omega
    refine ⟨_, _, _, rfl, by rw [hz]; exact H2.out.symm, fun i hi => ?_, hx.out⟩
    have := bt_extract s 0 k i (by omega) (by omega)
    rwa [Nat.zero_add] at this
set_option maxHeartbeats 1000000 in
theorem Cut_any (s : ByteArray) (w : World) (hs : s.size ≤ 1048576) :
    Calls Tryd.prog 62 #[.string s, .string ⟨#[10]⟩] w (CutP s w) := by
  go_enter Tryd.func62, Tryd.ntmps62
  go_wp2_with fail
  refine (liteCut_any s w hs).mono ?_
  rintro e w' ⟨L, A, f, rfl, h1, h2, hb⟩
  have H1 := Lib.hid h1
  have H2 := Lib.hid h2
  have HB := Lib.hid hb
  clear h1 h2 hb
  go_wp2
  refine bodyPost_ret (v := .tuple #[.string L, .string A, .bool f]) (by simp [results, Tryd.results62, go_sem]) rfl ?_
  exact ⟨L, A, f, rfl, H1.out, H2.out, HB.out⟩
theorem cs_white (b : UInt8) : [32, 9, 10, 13, 44].contains b = wtB (b.toNat : Int) := by
  have e : ∀ c : UInt8, (b == c) = ((b.toNat : Int) == (c.toNat : Int)) := fun c => by
    rw [Bool.eq_iff_iff]
    simp only [beq_iff_eq]
    rw [← UInt8.toNat_inj]
    omega
  simp only [List.contains_cons, List.contains_nil, e, wtB, Bool.or_false]
  rfl
theorem trm_congr {b c : Nat → Nat} {n : Nat} (h : ∀ i, i < n → b i = c i) : trm b n = trm c n := by
  induction n with
  | zero => rfl
  | succ n ih => simp only [trm]; rw [h n (by omega), ih (fun i hi => h i (by omega))]
theorem trim_len (L : ByteArray) : (Lib.trimRightS L.data.toList [32, 9, 10, 13, 44]).length = trm (bt L) L.size := by
  have hle := trm_le (bt L) L.size
  rw [Lib.trimRightS_take L.data.toList [32, 9, 10, 13, 44] (trm (bt L) L.size) (by simpa using hle) (fun j b hj hb => ?_) (fun b h0 hb => ?_)]
  · simp; omega
  · rw [bytes_at] at hb
    split at hb
    · rename_i hl
      rw [cs_white, ← Option.some.inj hb, ← bt_at hl]
      exact trm_white (bt L) L.size j hj hl
    · cases hb
  · rw [bytes_at] at hb
    split at hb
    · rename_i hl
      rw [cs_white, ← Option.some.inj hb, ← bt_at hl]
      exact trm_last (bt L) L.size h0
    · cases hb
theorem info256 : (Tryd.prog.info? 120).map (fun i => (i.zero, i.size)) = some (some (.agg (Array.replicate 256 (.bool false))), 256) := by kernel_rfl
set_option maxHeartbeats 1000000 in
theorem noteSize_any (s : ByteArray) (w : World) (hs : s.size ≤ 1048576) :
    Calls Tryd.prog 59 #[.string s] w fun e w' => e = .returned (.int .i64 (trm (bt s) (lnN (bt s) s.size))) ∧ Below w.heap.size w w' := by
  go_enter Tryd.func59, Tryd.ntmps59
  go_wp2_with fail
  refine (Cut_any s w hs).mono ?_
  rintro e w1 ⟨L, A, f, rfl, h1, h2, hb⟩
  have hle : L.size ≤ s.size := by rw [h1]; exact fst_le _ _
  have HE := Lib.hid (show trm (bt L) L.size = trm (bt s) (lnN (bt s) s.size) by rw [trm_congr h2, h1])
  have HB := Lib.hid hb
  clear h1 h2 hb
  go_wp2_with fail
  refine (Any.strings_TrimRight_laid Tryd.lays162 info256 L ⟨#[32, 9, 10, 13, 44]⟩ w1 (by omega) (by decide) (ascii_of_all (by decide))).mono ?_
  rintro e w2 ⟨rfl, hb2⟩
  have HB2 := Lib.hid (HB.out.trans (hb2.mono HB.out.size))
  have HT := Lib.hid (show ((⟨(Lib.trimRightS L.data.toList [32, 9, 10, 13, 44]).toArray⟩ : ByteArray).size) = trm (bt s) (lnN (bt s) s.size) by
    rw [← HE.out, ← trim_len]; simp [ByteArray.size])
  clear hb2
  generalize (⟨(Lib.trimRightS L.data.toList (⟨#[32, 9, 10, 13, 44]⟩ : ByteArray).data.toList).toArray⟩ : ByteArray) = T at *
  go_wp2
  go_ret
  rw [← HT.out]
  exact ⟨rfl, HB2.out⟩
end Go.Proofs.YthjkgbcomjiejaaDoor
