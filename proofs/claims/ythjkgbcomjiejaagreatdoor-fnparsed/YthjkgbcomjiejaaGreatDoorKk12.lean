/-
  White bytes: IsWhite on both sides.
-/
import Derived.Test.YthjkgbcomjiejaaGreatDoorKk01
import Derived.Test.YthjkgbcomjiejaaGreatDoorKk11
namespace Go.Proofs.YthjkgbcomjiejaaGreatDoor
open Go.RowKit
set_option linter.unusedVariables false

/-- the first i below n with p i; n when there is none. -/
def fst (p : Nat → Bool) (n : Nat) : Nat := (List.range n).findIdx p
theorem fst_le (p : Nat → Bool) (n : Nat) : fst p n ≤ n := by
  have := List.findIdx_le_length (p := p) (xs := List.range n); simpa [fst] using this
theorem fst_at {p : Nat → Bool} {n i : Nat} (hi : i < n) (h : p i = true) (hb : ∀ k, k < i → p k = false) : fst p n = i := by
  unfold fst
  rw [List.findIdx_eq (by simpa using hi)]
  refine ⟨by simpa using h, fun j hj => ?_⟩
  simpa using hb j hj
theorem fst_none {p : Nat → Bool} {n : Nat} (hb : ∀ k, k < n → p k = false) : fst p n = n := by
  have : (List.range n).findIdx p = (List.range n).length := by
    rw [List.findIdx_eq_length]
    intro x hx
    exact hb x (List.mem_range.1 hx)
  simpa [fst] using this
theorem fst_before {p : Nat → Bool} {n k : Nat} (h : k < fst p n) : p k = false := by
  have hk := List.not_of_lt_findIdx (p := p) (xs := List.range n) (i := k) h
  simpa using hk
theorem fst_yes {p : Nat → Bool} {n : Nat} (h : fst p n < n) : p (fst p n) = true := by
  have h' : (List.range n).findIdx p < (List.range n).length := by simpa [fst] using h
  have := List.findIdx_getElem (w := h')
  simpa [fst] using this

/-- a byte of a text, 0 behind it. -/
def bt (s : ByteArray) (i : Nat) : Nat := if h : i < s.size then s[i].toNat else 0
theorem bt_at {s : ByteArray} {i : Nat} (h : i < s.size) : bt s i = s[i].toNat := dif_pos h
theorem bt_lt (s : ByteArray) (i : Nat) : bt s i < 256 := by
  unfold bt; split
  · exact UInt8.toNat_lt _
  · omega

/-- b is a white byte. -/
def wtB (b : Int) : Bool := b == 32 || (b == 9 || (b == 10 || (b == 13 || b == 44)))
/-- the Kind of the lexeme that begins with c. -/
def kdI (c : Int) : Int :=
  if c = 40 ∨ c = 91 ∨ c = 123 then 3 else if c = 41 ∨ c = 93 ∨ c = 125 then 4 else if c = 39 then 5 else if c = 59 then 2 else if c = 34 then 1 else 0
/-- c ends an atom. -/
def stB (c : Int) : Bool := if kdI c = 0 ∨ kdI c = 5 then wtB c else true
/-- c is none of 32 .. 126. -/
def bdB (c : Nat) : Bool := decide (c < 32) || decide (126 < c)
theorem stB_low {c : Int} (h : stB c = true) : c < 128 := by
  unfold stB at h
  split at h
  · simp [wtB] at h; omega
  · rename_i hk
    unfold kdI at hk
    repeat' split at hk
    all_goals omega
theorem wt_st {c : Int} (h : wtB c = true) : stB c = true := by
  have hc : kdI c = 0 := by
    simp [wtB] at h
    unfold kdI
    rcases h with h | h | h | h | h <;> subst h <;> decide
  unfold stB
  rw [if_pos (.inl hc)]
  exact h
theorem kd_cases (c : Int) : (kdI c = 3 ∧ (c = 40 ∨ c = 91 ∨ c = 123)) ∨ (kdI c = 4 ∧ (c = 41 ∨ c = 93 ∨ c = 125)) ∨ (kdI c = 5 ∧ c = 39) ∨ (kdI c = 2 ∧ c = 59) ∨ (kdI c = 1 ∧ c = 34) ∨
    (kdI c = 0 ∧ c ≠ 40 ∧ c ≠ 91 ∧ c ≠ 123 ∧ c ≠ 41 ∧ c ≠ 93 ∧ c ≠ 125 ∧ c ≠ 39 ∧ c ≠ 59 ∧ c ≠ 34) := by
  unfold kdI
  split
  · exact .inl ⟨rfl, by assumption⟩
  · split
    · exact .inr (.inl ⟨rfl, by assumption⟩)
    · split
      · exact .inr (.inr (.inl ⟨rfl, by assumption⟩))
      · split
        · exact .inr (.inr (.inr (.inl ⟨rfl, by assumption⟩)))
        · split
          · exact .inr (.inr (.inr (.inr (.inl ⟨rfl, by assumption⟩))))
          · exact .inr (.inr (.inr (.inr (.inr ⟨rfl, by omega, by omega, by omega, by omega, by omega, by omega, by omega, by omega, by omega⟩))))

section
variable (b : Nat → Nat)
/-- a byte that ends an atom, or may not be in it. -/
def evA (i : Nat) : Bool := stB (b i) || bdB (b i)
/-- a backslash (or the beginning) takes byte i. -/
def tkN : Nat → Bool
  | 0 => true
  | i + 1 => !(tkN i) && decide (b i = 92)
def clB (i : Nat) : Bool := !(tkN b i) && decide (b i = 34)
def evS (i : Nat) : Bool := bdB (b i) || clB b i
/-- how long what is ahead of k is without white bytes at its end. -/
def trm : Nat → Nat
  | 0 => 0
  | k + 1 => if wtB (b k) then trm k else k + 1
theorem trm_le (k : Nat) : trm b k ≤ k := by
  induction k with
  | zero => exact Nat.le_refl _
  | succ k ih => simp only [trm]; split <;> omega
theorem trm_white (k i : Nat) (h1 : trm b k ≤ i) (h2 : i < k) : wtB (b i) = true := by
  induction k with
  | zero => omega
  | succ k ih =>
    simp only [trm] at h1
    split at h1
    · by_cases e : i = k
      · subst e; assumption
      · exact ih h1 (by omega)
    · omega
theorem trm_last (k : Nat) (h : 0 < trm b k) : wtB (b (trm b k - 1)) = false := by
  induction k with
  | zero => simp [trm] at h
  | succ k ih =>
    simp only [trm] at h ⊢
    split
    · rename_i hw; rw [if_pos hw] at h; exact ih h
    · rename_i hw; simpa using hw
theorem trm_same {k m : Nat} (hm : m ≤ k) (h : ∀ i, m ≤ i → i < k → wtB (b i) = true) : trm b k = trm b m := by
  induction k with
  | zero => obtain rfl : m = 0 := by omega
            rfl
  | succ k ih =>
    by_cases e : m = k + 1
    · subst e; rfl
    · simp only [trm]
      rw [if_pos (h k (by omega) (by omega))]
      exact ih (by omega) (fun i h1 h2 => h i h1 (by omega))
theorem trm_pos {k : Nat} (hk : 0 < k) (h : wtB (b 0) = false) : 0 < trm b k := by
  rcases Nat.eq_zero_or_pos (trm b k) with h0 | h0
  · have := trm_white b k 0 (by omega) hk
    rw [h] at this; cases this
  · exact h0
/-- the line's length. -/
def lnN (n : Nat) : Nat := fst (fun i => decide (b i = 10)) n
/-- what the lexeme at the beginning of n bytes is: the place of its bad byte, or how long it is. -/
def lexO (n : Nat) : Option Nat × Nat :=
  if kdI (b 0) = 0 then
    let e := fst (evA b) n
    if e < n ∧ stB (b e) = false then (some e, 0) else (none, e)
  else if kdI (b 0) = 1 then
    let e := fst (evS b) n
    if e < n then (if clB b e = true then (none, e + 1) else (some e, 0)) else (some 0, 0)
  else if kdI (b 0) = 2 then
    let j := fst (fun i => bdB (b i)) (lnN b n)
    if j < trm b (lnN b n) then (some j, 0) else (none, trm b (lnN b n))
  else (none, 1)
end
end Go.Proofs.YthjkgbcomjiejaaGreatDoor
namespace Go.Proofs.YthjkgbcomjiejaaGreatDoor
open Go.RowKit
set_option linter.unusedVariables false

set_option maxHeartbeats 400000 in
theorem sIsWhite_any (b : Int) (w : World) :
    Calls Tryz.prog 55 #[.int .i64 b] w fun e w' => e = .returned (.bool (wtB b)) ∧ w = w' := by
  go_enter Tryz.func55, Tryz.ntmps55
  go_wp2
  all_goals go_ret
  all_goals simp_all [wtB, Bool.or_assoc]
theorem white_small : ∀ n : Nat, n < 128 → decide (0 ≤ Lib.indexByte [32, 9, 10, 13, 44] (n.toUInt8)) = wtB (n : Int) := by decide
theorem conv_byte (b : Int) (h0 : 0 ≤ b) (h1 : b ≤ 127) : IntKind.u8.wrap b = b := by
  simp [IntKind.wrap, IntKind.bits, IntKind.signed]; omega
set_option maxHeartbeats 400000 in
theorem IsWhite_any (b : Int) (w : World) :
    Calls Tryz.prog 95 #[.int .i64 b] w fun e w' => e = .returned (.bool (wtB b)) ∧ w = w' := by
  cases hin : inB b 0 127
  · have hF := Lib.hid (show wtB b = false from by have := inB_false.1 hin; simp [wtB]; omega)
    have HI := Lib.hid hin
    clear hin
    go_enter Tryz.func95, Tryz.ntmps95
    go_wp2_with fail
    refine (within_any _ _ _ _).mono ?_
    rintro e w' ⟨rfl, rfl⟩
    rw [HI.out]
    go_wp2
    go_ret
    rw [hF.out]
    exact ⟨rfl, rfl⟩
  · have hb := inB_true.1 hin
    obtain ⟨n, rfl⟩ := Int.eq_ofNat_of_zero_le hb.1
    have hF := Lib.hid (white_small n (by omega))
    have hw := conv_byte (n : Int) hb.1 hb.2
    have HI := Lib.hid hin
    clear hin
    go_enter Tryz.func95, Tryz.ntmps95
    go_wp2_with fail
    refine (within_any _ _ _ _).mono ?_
    rintro e w' ⟨rfl, rfl⟩
    rw [HI.out]
    go_wp2_with fail
    refine (Tryz.strings_IndexByte _ _ _).mono ?_
    rintro e w' ⟨rfl, rfl⟩
    go_wp2
    go_ret
    rw [← hF.out]
    exact ⟨rfl, rfl⟩
end Go.Proofs.YthjkgbcomjiejaaGreatDoor
