/-
  TextOnly on both sides.
-/
import Derived.Test.YthjkgbcomjiejadGreatDoorPlain
import Derived.Test.YthjkgbcomjiejadGreatDoorTok
import Derived.Lib.Hide
import Derived.IntWalk
import Derived.Test.YthjkgbcomjiejadGreatDoorStrm
import Derived.Test.YthjkgbcomjiejadGreatDoorLaw2
import Derived.Test.YthjkgbcomjiejadGreatDoorBlw
import Derived.Test.YthjkgbcomjiejadGreatDoorBwd
namespace Go.Proofs.YthjkgbcomjiejadGreatDoor
open Go.RowKit
set_option linter.unusedVariables false

/-- the first i below n with p i; n when there is none. -/
def fst (p : Nat → Bool) (n : Nat) : Nat := (List.range n).findIdx p
theorem fst_le (p : Nat → Bool) (n : Nat) : fst p n ≤ n := by
  have := List.findIdx_le_length (p := p) (xs := List.range n); simpa [fst] using this
theorem fst_at {p : Nat → Bool} {n i : Nat} (hi : i < n) (h : p i = true) (hb : ∀ k, k < i → p k = false) : fst p n = i := by
  unfold fst
  rw [List.findIdx_eq (by simpa using hi)]
  refine ⟨by simpa using h, fun j hj => ?_⟩
  simpa using hb j hj
theorem fst_none {p : Nat → Bool} {n : Nat} (hb : ∀ k, k < n → p k = false) : fst p n = n := by
  have : (List.range n).findIdx p = (List.range n).length := by
    rw [List.findIdx_eq_length]
    intro x hx
    exact hb x (List.mem_range.1 hx)
  simpa [fst] using this
theorem fst_before {p : Nat → Bool} {n k : Nat} (h : k < fst p n) : p k = false := by
  have hk := List.not_of_lt_findIdx (p := p) (xs := List.range n) (i := k) h
  simpa using hk
theorem fst_yes {p : Nat → Bool} {n : Nat} (h : fst p n < n) : p (fst p n) = true := by
  have h' : (List.range n).findIdx p < (List.range n).length := by simpa [fst] using h
  have := List.findIdx_getElem (w := h')
  simpa [fst] using this

/-- a byte of a text, 0 behind it. -/
def bt (s : ByteArray) (i : Nat) : Nat := if h : i < s.size then s[i].toNat else 0
theorem bt_at {s : ByteArray} {i : Nat} (h : i < s.size) : bt s i = s[i].toNat := dif_pos h
theorem bt_lt (s : ByteArray) (i : Nat) : bt s i < 256 := by
  unfold bt; split
  · exact UInt8.toNat_lt _
  · omega

/-- b is a white byte. -/
def wtB (b : Int) : Bool := b == 32 || (b == 9 || (b == 10 || (b == 13 || b == 44)))
/-- the Kind of the lexeme that begins with c. -/
def kdI (c : Int) : Int :=
  if c = 40 ∨ c = 91 ∨ c = 123 then 3 else if c = 41 ∨ c = 93 ∨ c = 125 then 4 else if c = 39 then 5 else if c = 59 then 2 else if c = 34 then 1 else 0
/-- c ends an atom. -/
def stB (c : Int) : Bool := if kdI c = 0 ∨ kdI c = 5 then wtB c else true
/-- c is none of 32 .. 126. -/
def bdB (c : Nat) : Bool := decide (c < 32) || decide (126 < c)
theorem stB_low {c : Int} (h : stB c = true) : c < 128 := by
  unfold stB at h
  split at h
  · simp [wtB] at h; omega
  · rename_i hk
    unfold kdI at hk
    repeat' split at hk
    all_goals omega
theorem wt_st {c : Int} (h : wtB c = true) : stB c = true := by
  have hc : kdI c = 0 := by
    simp [wtB] at h
    unfold kdI
    rcases h with h | h | h | h | h <;> subst h <;> decide
  unfold stB
  rw [if_pos (.inl hc)]
  exact h
theorem kd_cases (c : Int) : (kdI c = 3 ∧ (c = 40 ∨ c = 91 ∨ c = 123)) ∨ (kdI c = 4 ∧ (c = 41 ∨ c = 93 ∨ c = 125)) ∨ (kdI c = 5 ∧ c = 39) ∨ (kdI c = 2 ∧ c = 59) ∨ (kdI c = 1 ∧ c = 34) ∨
    (kdI c = 0 ∧ c ≠ 40 ∧ c ≠ 91 ∧ c ≠ 123 ∧ c ≠ 41 ∧ c ≠ 93 ∧ c ≠ 125 ∧ c ≠ 39 ∧ c ≠ 59 ∧ c ≠ 34) := by
  unfold kdI
  split
  · exact .inl ⟨rfl, by assumption⟩
  · split
    · exact .inr (.inl ⟨rfl, by assumption⟩)
    · split
      · exact .inr (.inr (.inl ⟨rfl, by assumption⟩))
      · split
        · exact .inr (.inr (.inr (.inl ⟨rfl, by assumption⟩)))
        · split
          · exact .inr (.inr (.inr (.inr (.inl ⟨rfl, by assumption⟩))))
          · exact .inr (.inr (.inr (.inr (.inr ⟨rfl, by omega, by omega, by omega, by omega, by omega, by omega, by omega, by omega, by omega⟩))))

section
variable (b : Nat → Nat)
/-- a byte that ends an atom, or may not be in it. -/
def evA (i : Nat) : Bool := stB (b i) || bdB (b i)
/-- a backslash (or the beginning) takes byte i. -/
def tkN : Nat → Bool
  | 0 => true
  | i + 1 => !(tkN i) && decide (b i = 92)
def clB (i : Nat) : Bool := !(tkN b i) && decide (b i = 34)
def evS (i : Nat) : Bool := bdB (b i) || clB b i
/-- how long what is ahead of k is without white bytes at its end. -/
def trm : Nat → Nat
  | 0 => 0
  | k + 1 => if wtB (b k) then trm k else k + 1
theorem trm_le (k : Nat) : trm b k ≤ k := by
  induction k with
  | zero => exact Nat.le_refl _
  | succ k ih => simp only [trm]; split <;> omega
theorem trm_white (k i : Nat) (h1 : trm b k ≤ i) (h2 : i < k) : wtB (b i) = true := by
  induction k with
  | zero => omega
  | succ k ih =>
    simp only [trm] at h1
    split at h1
    · by_cases e : i = k
      · subst e; assumption
      · exact ih h1 (by omega)
    · omega
theorem trm_last (k : Nat) (h : 0 < trm b k) : wtB (b (trm b k - 1)) = false := by
  induction k with
  | zero => simp [trm] at h
  | succ k ih =>
    simp only [trm] at h ⊢
    split
    · rename_i hw; rw [if_pos hw] at h; exact ih h
    · rename_i hw; simpa using hw
theorem trm_same {k m : Nat} (hm : m ≤ k) (h : ∀ i, m ≤ i → i < k → wtB (b i) = true) : trm b k = trm b m := by
  induction k with
  | zero => obtain rfl : m = 0 := by omega
            rfl
  | succ k ih =>
    by_cases e : m = k + 1
    · subst e; rfl
    · simp only [trm]
      rw [if_pos (h k (by omega) (by omega))]
      exact ih (by omega) (fun i h1 h2 => h i h1 (by omega))
theorem trm_pos {k : Nat} (hk : 0 < k) (h : wtB (b 0) = false) : 0 < trm b k := by
  rcases Nat.eq_zero_or_pos (trm b k) with h0 | h0
  · have := trm_white b k 0 (by omega) hk
    rw [h] at this; cases this
  · exact h0
/-- the line's length. -/
def lnN (n : Nat) : Nat := fst (fun i => decide (b i = 10)) n
/-- what the lexeme at the beginning of n bytes is: the place of its bad byte, or how long it is. -/
def lexO (n : Nat) : Option Nat × Nat :=
  if kdI (b 0) = 0 then
    let e := fst (evA b) n
    if e < n ∧ stB (b e) = false then (some e, 0) else (none, e)
  else if kdI (b 0) = 1 then
    let e := fst (evS b) n
    if e < n then (if clB b e = true then (none, e + 1) else (some e, 0)) else (some 0, 0)
  else if kdI (b 0) = 2 then
    let j := fst (fun i => bdB (b i)) (lnN b n)
    if j < trm b (lnN b n) then (some j, 0) else (none, trm b (lnN b n))
  else (none, 1)
end
end Go.Proofs.YthjkgbcomjiejadGreatDoor
namespace Go.Proofs.YthjkgbcomjiejadGreatDoor
open Go.RowKit
set_option linter.unusedVariables false

/-- how many of the first k bytes are b. -/
def cntB (s : ByteArray) (b : Int) : Nat → Nat
  | 0 => 0
  | k + 1 => cntB s b k + (if (bt s k : Int) = b then 1 else 0)
theorem cntB_le (s : ByteArray) (b : Int) : ∀ k, cntB s b k ≤ k
  | 0 => Nat.le_refl _
  | k + 1 => by
    have := cntB_le s b k
    simp only [cntB]
    split <;> omega
theorem cntB_yes {s : ByteArray} {b : Int} {k : Nat} (hk : k < s.size) (h : (s[k].toNat : Int) = b) : cntB s b (k + 1) = cntB s b k + 1 := by
  simp only [cntB, bt_at hk, h, if_true]
theorem cntB_no {s : ByteArray} {b : Int} {k : Nat} (hk : k < s.size) (h : (s[k].toNat : Int) ≠ b) : cntB s b (k + 1) = cntB s b k := by
  simp only [cntB, bt_at hk, if_neg h, Nat.add_zero]
set_option maxHeartbeats 1000000 in
set_option maxRecDepth 100000 in
theorem CountText_any (s : ByteArray) (b : Int) (w : World) (hs : s.size ≤ 16777216) :
    Calls Tryz.prog 26 #[.string s, .int .i64 b] w fun e w' => e = .returned (.int .i64 (cntB s b s.size)) ∧ w = w' := by
  go_enter Tryz.func26, Tryz.ntmps26
  go_wp2
  go_loopw [5, 9] (fun v iv wr => ∃ k : Nat, k ≤ s.size ∧ iv = .int .i64 k ∧ v = .int .i64 (cntB s b k) ∧ w = wr) (fun _ iv _ => s.size - (intOf iv).toNat)
  case atStart => exact ⟨0, Nat.zero_le _, rfl, rfl, rfl⟩
  case round =>
    obtain ⟨k, hk, rfl, rfl, rfl⟩ := hrel
    have hle := cntB_le s b k
    by_cases hkl : k < s.size
    · have hlt := UInt8.toNat_lt s[k]
      have hw : IntKind.i64.wrap (s[k].toNat : Int) = (s[k].toNat : Int) := IntWalk.i64_in _ (by omega)
      by_cases he : (s[k].toNat : Int) = b
      · have heb : ((s[k].toNat : Int) == b) = true := by simp [he]
        have HC := Lib.hid (cntB_yes hkl he)
        clear he
        go_wp2
        go_roundw
        case rel => exact ⟨k + 1, by omega, by go_num, by rw [HC.out]; go_num, trivial⟩
        case measure => simp [intOf]; omega
      · have heb : ((s[k].toNat : Int) == b) = false := by simp [he]
        have HC := Lib.hid (cntB_no hkl he)
        clear he
        go_wp2
        go_roundw
        case rel => exact ⟨k + 1, by omega, by go_num, by rw [HC.out], trivial⟩
        case measure => simp [intOf]; omega
    · obtain rfl : k = s.size := by omega
      go_wp2
      go_ret
      exact ⟨rfl, rfl⟩
end Go.Proofs.YthjkgbcomjiejadGreatDoor
namespace Go.Proofs.YthjkgbcomjiejadGreatDoor
open Go.RowKit
set_option linter.unusedVariables false

/-- the Texts of the first i tokens, one behind the other. -/
def toN (l : List Tk) : Nat → List UInt8
  | 0 => []
  | i + 1 => match l[i]? with | some t => toN l i ++ t.s.data.toList | none => toN l i
theorem toN_succ {l : List Tk} {i : Nat} {t : Tk} (h : l[i]? = some t) : toN l (i + 1) = toN l i ++ t.s.data.toList := by simp only [toN, h]
def txoB (l : List Tk) : ByteArray := if strB l = true then ⟨(toN l l.length).toArray⟩ else ByteArray.empty
theorem toB_no {l : List Tk} (h : strB l = false) : txoB l = ByteArray.empty := if_neg (by rw [h]; decide)
theorem toB_yes {l : List Tk} (h : strB l = true) : txoB l = ⟨(toN l l.length).toArray⟩ := if_pos h
theorem tok_size {t : Tk} (h : t.ok = true) : t.s.size ≤ 40 := by
  unfold Tk.ok tokB at h
  split at h
  · simp only [Bool.and_eq_true] at h
    have h1 := h.1
    unfold txtB at h1
    split at h1
    · rename_i h2; exact h2.2
    · cases h1
  · split at h
    · cases h
    · omega
theorem toN_len {l : List Tk} (h : strB l = true) : ∀ i, i ≤ l.length → (toN l i).length ≤ 40 * i
  | 0, _ => by simp [toN]
  | i + 1, hi => by
    have ht := List.getElem?_eq_getElem (show i < l.length by omega)
    have h1 := toN_len h i (by omega)
    have h2 := tok_size (okN_at (strB_true h).2.1 (show i < l.length by omega) ht).1
    have h3 : (l[i]).s.size = (l[i]).s.data.toList.length := Array.length_toList.symm
    rw [toN_succ ht, List.length_append]
    omega
theorem app_lx (a b : ByteArray) : (a ++ b).data.toList = a.data.toList ++ b.data.toList := by simp
theorem ext_lx {a : ByteArray} {l : List UInt8} (h : a.data.toList = l) : a = ⟨l.toArray⟩ := by
  apply ByteArray.ext
  rw [← h]
set_option maxHeartbeats 1000000 in
set_option maxRecDepth 100000 in
theorem TextOnly_any (A : Option Addr) (l : List Tk) (n c : Nat) (w : World) (hn : l.length = n) (hm : n ≤ 2097152) (hts : TS w A l) (hf : Fits l) :
    Calls Tryz.prog 15 #[.slice A n c] w fun e w' => e = .returned (.string (txoB l)) ∧ Below w.heap.size w w' := by
  subst hn
  go_enter Tryz.func15, Tryz.ntmps15
  go_wp2_with fail
  refine (StreamOk_any A l _ c _ rfl hm hts hf).mono ?_
  rintro e w1 ⟨rfl, hb⟩
  have HB1 := Lib.hid hb
  have HT1 := Lib.hid (hts.below hb)
  clear hb
  cases ht : strB l
  · have HI := Lib.hid (toB_no ht)
    clear ht
    go_wp2
    go_ret
    rw [HI.out]
    exact ⟨rfl, HB1.out⟩
  have HS := Lib.hid ht
  have HI := Lib.hid (toB_yes ht)
  clear ht
  go_wp2
  go_loopw [11] (fun i wr => ∃ k : Nat, k ≤ l.length ∧ i = .int .i64 k ∧ Lib.IsBuilderF 78 5 w1.heap.size w1.heap.size (Lib.byteCells (toN l k)) wr ∧ Below w1.heap.size w1 wr) (fun i _ => l.length - (intOf i).toNat)
  case atStart => exact ⟨0, Nat.zero_le _, rfl, bld_new w1, (Below.refl _ _).alloc (Nat.le_refl _) _⟩
  case round =>
    obtain ⟨k, hk, rfl, hbd, hbw⟩ := hrel
    have hzw := hbw.size
    have hzs : w1.heap.size < wr.heap.size := by rcases hbd with h | h <;> exact h.lt
    have hpl := toN_len HS.out k hk
    have hl4 := (strB_true HS.out).1
    have HBD := Lib.hid hbd
    have HBW := Lib.hid hbw
    clear hbd
    by_cases hlt : k < l.length
    · obtain ⟨t, b, o, ht, rfl, hbl, c0, c1, c2, c3⟩ := (HT1.out.below hbw).at (k := k) hlt
      have HT := Lib.hid (toN_succ ht)
      have hts2 := tok_size (okN_at (strB_true HS.out).2.1 hlt ht).1
      clear ht hbw
      go_wp2_with fail
      refine (WriteStr_k w1.heap.size w1.heap.size _ t.s _ (bld_alloc HBD.out _) (by rw [Lib.byteCells_length]; omega) (by simp; omega)).mono ?_
      rintro e w3 ⟨rfl, h3, hb3, _⟩
      rw [bld_app, ← HT.out] at h3
      have H3 := Lib.hid h3
      have HB3 := Lib.hid ((HBW.out.alloc hzw _).trans hb3)
      clear h3 hb3 c0 c1 c2 c3
      go_wp2
      go_roundw
      case rel => exact ⟨k + 1, by omega, by go_num, H3.out, HB3.out⟩
      case measure => simp [intOf] <;> omega
    · obtain rfl : k = l.length := by omega
      clear hbw
      go_wp2_with fail
      refine (Go.Proofs.Any.Builder_String_any_k Tryz.lays169 Tryz.Builder_Extra_169 w1.heap.size w1.heap.size _ _ HBD.out hzw).mono ?_
      rintro e w3 ⟨rfl, _, hb3, _⟩
      have HB3 := Lib.hid (HB1.out.trans ((HBW.out.trans hb3).mono HB1.out.size))
      clear hb3
      go_wp2
      go_ret
      rw [HI.out]
      exact ⟨rfl, HB3.out⟩
end Go.Proofs.YthjkgbcomjiejadGreatDoor
