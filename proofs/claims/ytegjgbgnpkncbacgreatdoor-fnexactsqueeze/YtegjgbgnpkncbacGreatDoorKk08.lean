/-
  The class of worlds in which all that was there stays, for regions that draw.
-/
import Derived.Test.YtegjgbgnpkncbacGreatDoorKk01
import Derived.Test.YtegjgbgnpkncbacGreatDoorKk07
import Derived.Test.YtegjgbgnpkncbacGreatDoorKk04
import Derived.Test.YtegjgbgnpkncbacGreatDoorKk02
import Derived.BigQuiet
import Derived.Below
import Derived.Deep.Draws
namespace Go.Proofs.YtegjgbgnpkncbacGreatDoor
open Go.RowKit
set_option linter.unusedVariables false

/-- the first i below n with p i; n when there is none. -/
def fst (p : Nat → Bool) (n : Nat) : Nat := (List.range n).findIdx p
theorem fst_le (p : Nat → Bool) (n : Nat) : fst p n ≤ n := by
  have := List.findIdx_le_length (p := p) (xs := List.range n); simpa [fst] using this
theorem fst_at {p : Nat → Bool} {n i : Nat} (hi : i < n) (h : p i = true) (hb : ∀ k, k < i → p k = false) : fst p n = i := by
  unfold fst
  rw [List.findIdx_eq (by simpa using hi)]
  refine ⟨by simpa using h, fun j hj => ?_⟩
  simpa using hb j hj
theorem fst_none {p : Nat → Bool} {n : Nat} (hb : ∀ k, k < n → p k = false) : fst p n = n := by
  have : (List.range n).findIdx p = (List.range n).length := by
    rw [List.findIdx_eq_length]
    intro x hx
    exact hb x (List.mem_range.1 hx)
  simpa [fst] using this
theorem fst_before {p : Nat → Bool} {n k : Nat} (h : k < fst p n) : p k = false := by
  have hk := List.not_of_lt_findIdx (p := p) (xs := List.range n) (i := k) h
  simpa using hk
theorem fst_yes {p : Nat → Bool} {n : Nat} (h : fst p n < n) : p (fst p n) = true := by
  have h' : (List.range n).findIdx p < (List.range n).length := by simpa [fst] using h
  have := List.findIdx_getElem (w := h')
  simpa [fst] using this

/-- a byte of a text, 0 behind it. -/
def bt (s : ByteArray) (i : Nat) : Nat := if h : i < s.size then s[i].toNat else 0
theorem bt_at {s : ByteArray} {i : Nat} (h : i < s.size) : bt s i = s[i].toNat := dif_pos h
theorem bt_lt (s : ByteArray) (i : Nat) : bt s i < 256 := by
  unfold bt; split
  · exact UInt8.toNat_lt _
  · omega

/-- b is a white byte. -/
def wtB (b : Int) : Bool := b == 32 || (b == 9 || (b == 10 || (b == 13 || b == 44)))
/-- the Kind of the lexeme that begins with c. -/
def kdI (c : Int) : Int :=
  if c = 40 ∨ c = 91 ∨ c = 123 then 3 else if c = 41 ∨ c = 93 ∨ c = 125 then 4 else if c = 39 then 5 else if c = 59 then 2 else if c = 34 then 1 else 0
/-- c ends an atom. -/
def stB (c : Int) : Bool := if kdI c = 0 ∨ kdI c = 5 then wtB c else true
/-- c is none of 32 .. 126. -/
def bdB (c : Nat) : Bool := decide (c < 32) || decide (126 < c)
theorem stB_low {c : Int} (h : stB c = true) : c < 128 := by
  unfold stB at h
  split at h
  · simp [wtB] at h; omega
  · rename_i hk
    unfold kdI at hk
    repeat' split at hk
    all_goals omega
theorem wt_st {c : Int} (h : wtB c = true) : stB c = true := by
  have hc : kdI c = 0 := by
    simp [wtB] at h
    unfold kdI
    rcases h with h | h | h | h | h <;> subst h <;> decide
  unfold stB
  rw [if_pos (.inl hc)]
  exact h
theorem kd_cases (c : Int) : (kdI c = 3 ∧ (c = 40 ∨ c = 91 ∨ c = 123)) ∨ (kdI c = 4 ∧ (c = 41 ∨ c = 93 ∨ c = 125)) ∨ (kdI c = 5 ∧ c = 39) ∨ (kdI c = 2 ∧ c = 59) ∨ (kdI c = 1 ∧ c = 34) ∨
    (kdI c = 0 ∧ c ≠ 40 ∧ c ≠ 91 ∧ c ≠ 123 ∧ c ≠ 41 ∧ c ≠ 93 ∧ c ≠ 125 ∧ c ≠ 39 ∧ c ≠ 59 ∧ c ≠ 34) := by
  unfold kdI
  split
  · exact .inl ⟨rfl, by assumption⟩
  · split
    · exact .inr (.inl ⟨rfl, by assumption⟩)
    · split
      · exact .inr (.inr (.inl ⟨rfl, by assumption⟩))
      · split
        · exact .inr (.inr (.inr (.inl ⟨rfl, by assumption⟩)))
        · split
          · exact .inr (.inr (.inr (.inr (.inl ⟨rfl, by assumption⟩))))
          · exact .inr (.inr (.inr (.inr (.inr ⟨rfl, by omega, by omega, by omega, by omega, by omega, by omega, by omega, by omega, by omega⟩))))

section
variable (b : Nat → Nat)
/-- a byte that ends an atom, or may not be in it. -/
def evA (i : Nat) : Bool := stB (b i) || bdB (b i)
/-- a backslash (or the beginning) takes byte i. -/
def tkN : Nat → Bool
  | 0 => true
  | i + 1 => !(tkN i) && decide (b i = 92)
def clB (i : Nat) : Bool := !(tkN b i) && decide (b i = 34)
def evS (i : Nat) : Bool := bdB (b i) || clB b i
/-- how long what is ahead of k is without white bytes at its end. -/
def trm : Nat → Nat
  | 0 => 0
  | k + 1 => if wtB (b k) then trm k else k + 1
theorem trm_le (k : Nat) : trm b k ≤ k := by
  induction k with
  | zero => exact Nat.le_refl _
  | succ k ih => simp only [trm]; split <;> omega
theorem trm_white (k i : Nat) (h1 : trm b k ≤ i) (h2 : i < k) : wtB (b i) = true := by
  induction k with
  | zero => omega
  | succ k ih =>
    simp only [trm] at h1
    split at h1
    · by_cases e : i = k
      · subst e; assumption
      · exact ih h1 (by omega)
    · omega
theorem trm_last (k : Nat) (h : 0 < trm b k) : wtB (b (trm b k - 1)) = false := by
  induction k with
  | zero => simp [trm] at h
  | succ k ih =>
    simp only [trm] at h ⊢
    split
    · rename_i hw; rw [if_pos hw] at h; exact ih h
    · rename_i hw; simpa using hw
theorem trm_same {k m : Nat} (hm : m ≤ k) (h : ∀ i, m ≤ i → i < k → wtB (b i) = true) : trm b k = trm b m := by
  induction k with
  | zero => obtain rfl : m = 0 := by omega
            rfl
  | succ k ih =>
    by_cases e : m = k + 1
    · subst e; rfl
    · simp only [trm]
      rw [if_pos (h k (by omega) (by omega))]
      exact ih (by omega) (fun i h1 h2 => h i h1 (by omega))
theorem trm_pos {k : Nat} (hk : 0 < k) (h : wtB (b 0) = false) : 0 < trm b k := by
  rcases Nat.eq_zero_or_pos (trm b k) with h0 | h0
  · have := trm_white b k 0 (by omega) hk
    rw [h] at this; cases this
  · exact h0
/-- the line's length. -/
def lnN (n : Nat) : Nat := fst (fun i => decide (b i = 10)) n
/-- what the lexeme at the beginning of n bytes is: the place of its bad byte, or how long it is. -/
def lexO (n : Nat) : Option Nat × Nat :=
  if kdI (b 0) = 0 then
    let e := fst (evA b) n
    if e < n ∧ stB (b e) = false then (some e, 0) else (none, e)
  else if kdI (b 0) = 1 then
    let e := fst (evS b) n
    if e < n then (if clB b e = true then (none, e + 1) else (some e, 0)) else (some 0, 0)
  else if kdI (b 0) = 2 then
    let j := fst (fun i => bdB (b i)) (lnN b n)
    if j < trm b (lnN b n) then (some j, 0) else (none, trm b (lnN b n))
  else (none, 1)
end
end Go.Proofs.YtegjgbgnpkncbacGreatDoor
namespace Go.Proofs.YtegjgbgnpkncbacGreatDoor
open Go.RowKit
set_option linter.unusedVariables false

set_option maxHeartbeats 400000 in
theorem sIsWhite_any (b : Int) (w : World) :
    Calls Tryz.prog 29 #[.int .i64 b] w fun e w' => e = .returned (.bool (wtB b)) ∧ w = w' := by
  go_enter Tryz.func29, Tryz.ntmps29
  go_wp2
  all_goals go_ret
  all_goals simp_all [wtB, Bool.or_assoc]
theorem white_small : ∀ n : Nat, n < 128 → decide (0 ≤ Lib.indexByte [32, 9, 10, 13, 44] (n.toUInt8)) = wtB (n : Int) := by decide
theorem conv_byte (b : Int) (h0 : 0 ≤ b) (h1 : b ≤ 127) : IntKind.u8.wrap b = b := by
  simp [IntKind.wrap, IntKind.bits, IntKind.signed]; omega
set_option maxHeartbeats 400000 in
theorem IsWhite_any (b : Int) (w : World) :
    Calls Tryz.prog 64 #[.int .i64 b] w fun e w' => e = .returned (.bool (wtB b)) ∧ w = w' := by
  cases hin : inB b 0 127
  · have hF := Lib.hid (show wtB b = false from by have := inB_false.1 hin; simp [wtB]; omega)
    have HI := Lib.hid hin
    clear hin
    go_enter Tryz.func64, Tryz.ntmps64
    go_wp2_with fail
    refine (within_any _ _ _ _).mono ?_
    rintro e w' ⟨rfl, rfl⟩
    rw [HI.out]
    go_wp2
    go_ret
    rw [hF.out]
    exact ⟨rfl, rfl⟩
  · have hb := inB_true.1 hin
    obtain ⟨n, rfl⟩ := Int.eq_ofNat_of_zero_le hb.1
    have hF := Lib.hid (white_small n (by omega))
    have hw := conv_byte (n : Int) hb.1 hb.2
    have HI := Lib.hid hin
    clear hin
    go_enter Tryz.func64, Tryz.ntmps64
    go_wp2_with fail
    refine (within_any _ _ _ _).mono ?_
    rintro e w' ⟨rfl, rfl⟩
    rw [HI.out]
    go_wp2_with fail
    refine (Tryz.strings_IndexByte _ _ _).mono ?_
    rintro e w' ⟨rfl, rfl⟩
    go_wp2
    go_ret
    rw [← hF.out]
    exact ⟨rfl, rfl⟩
end Go.Proofs.YtegjgbgnpkncbacGreatDoor
namespace Go.Proofs.YtegjgbgnpkncbacGreatDoor
open Go.RowKit
set_option linter.unusedVariables false

set_option maxHeartbeats 400000 in
theorem kindOfFirst_any (r : Int) (w : World) :
    Calls Tryz.prog 87 #[.int .i32 r] w fun e w' => e = .returned (.int .i64 (kdI r)) ∧ w = w' := by
  rcases kd_cases r with ⟨hk, h⟩ | ⟨hk, h⟩ | ⟨hk, h⟩ | ⟨hk, h⟩ | ⟨hk, h⟩ | ⟨hk, h1, h2, h3, h4, h5, h6, h7, h8, h9⟩
  · rcases h with rfl | rfl | rfl
    all_goals
      rw [hk]
      go_enter Tryz.func87, Tryz.ntmps87
      go_wp2
      go_ret
      exact ⟨rfl, rfl⟩
  · rcases h with rfl | rfl | rfl
    all_goals
      rw [hk]
      go_enter Tryz.func87, Tryz.ntmps87
      go_wp2
      go_ret
      exact ⟨rfl, rfl⟩
  · subst h
    rw [hk]
    go_enter Tryz.func87, Tryz.ntmps87
    go_wp2
    go_ret
    exact ⟨rfl, rfl⟩
  · subst h
    rw [hk]
    go_enter Tryz.func87, Tryz.ntmps87
    go_wp2
    go_ret
    exact ⟨rfl, rfl⟩
  · subst h
    rw [hk]
    go_enter Tryz.func87, Tryz.ntmps87
    go_wp2
    go_ret
    exact ⟨rfl, rfl⟩
  · rw [hk]
    have b1 : (r == 40) = false := by simpa using h1
    have b2 : (r == 91) = false := by simpa using h2
    have b3 : (r == 123) = false := by simpa using h3
    have b4 : (r == 41) = false := by simpa using h4
    have b5 : (r == 93) = false := by simpa using h5
    have b6 : (r == 125) = false := by simpa using h6
    have b7 : (r == 39) = false := by simpa using h7
    have b8 : (r == 59) = false := by simpa using h8
    have b9 : (r == 34) = false := by simpa using h9
    clear h1 h2 h3 h4 h5 h6 h7 h8 h9 hk
    go_enter Tryz.func87, Tryz.ntmps87
    go_wp2
    go_ret
    exact ⟨rfl, rfl⟩
set_option maxHeartbeats 400000 in
theorem endsAtom_any (r : Int) (h0 : 0 ≤ r) (hr : r ≤ 2147483647) (w : World) :
    Calls Tryz.prog 103 #[.int .i32 r] w fun e w' => e = .returned (.bool (stB r)) ∧ w = w' := by
  have hk := kd_cases r
  have hS := Lib.hid (show stB r = if kdI r = 0 ∨ kdI r = 5 then wtB r else true from rfl)
  go_enter Tryz.func103, Tryz.ntmps103
  go_wp2_with fail
  refine (kindOfFirst_any r w).mono ?_
  rintro e w' ⟨rfl, rfl⟩
  by_cases hc : kdI r = 0 ∨ kdI r = 5
  · have hF := Lib.hid (show stB r = wtB r by rw [hS.out, if_pos hc])
    have hw : IntKind.i64.wrap r = r := IntWalk.i64_in _ (by omega)
    rcases hc with hc | hc
    · rw [hc]
      clear hk hc
      go_wp2_with fail
      refine (IsWhite_any _ _).mono ?_
      rintro e w' ⟨rfl, rfl⟩
      go_wp2
      go_ret
      rw [hF.out]
      exact ⟨rfl, rfl⟩
    · rw [hc]
      clear hk hc
      go_wp2_with fail
      refine (IsWhite_any _ _).mono ?_
      rintro e w' ⟨rfl, rfl⟩
      go_wp2
      go_ret
      rw [hF.out]
      exact ⟨rfl, rfl⟩
  · have hF := Lib.hid (show stB r = true by rw [hS.out, if_neg hc])
    have b0 : (kdI r == 0) = false := by simp; omega
    have b5 : (kdI r == 5) = false := by simp; omega
    clear hk hc
    generalize kdI r = kk at *
    go_wp2
    go_ret
    rw [hF.out]
    exact ⟨rfl, rfl⟩
/-- what atomSize tells: exact where all bytes up to the end may be there. -/
def AtP (b : Nat → Nat) (n sz : Nat) : Prop := sz ≤ n ∧ (fst (evA b) n < n → stB (b (fst (evA b) n)) = false → fst (evA b) n < sz) ∧ (fst (evA b) n = n ∨ stB (b (fst (evA b) n)) = true → sz = fst (evA b) n)
set_option maxHeartbeats 1000000 in
theorem atomSize_any (s : ByteArray) (w : World) (hs : s.size ≤ 1048576) :
    Calls Tryz.prog 88 #[.string s] w fun e w' => (∃ sz : Nat, e = .returned (.int .i64 sz) ∧ AtP (bt s) s.size sz) ∧ Below w.heap.size w w' := by
  go_enter Tryz.func88, Tryz.ntmps88
  go_wp2
  go_loopw [] (fun w' => ∃ pos : Nat, w' = w.iter s pos ∧ ((pos ≤ s.size ∧ ∀ k, k < pos → evA (bt s) k = false) ∨ (fst (evA (bt s)) s.size < s.size ∧ stB (bt s (fst (evA (bt s)) s.size)) = false ∧ fst (evA (bt s)) s.size < pos))) (fun w' => s.size - w'.iterPos w.heap.size)
  case atStart => exact ⟨0, rfl, .inl ⟨Nat.zero_le _, fun k hk => by omega⟩⟩
  case round =>
    obtain ⟨pos, rfl, hinv⟩ := hrel
    have HI := Lib.hid hinv
    clear hinv
    by_cases hlt : pos < s.size
    · have hnx : ∀ ty, (Instr.next (.pointer (some ⟨w.heap.size, 0, none⟩)) true ty).run Tryz.prog (w.iter s pos) = _ := fun ty => run_next_any w s pos ty hlt
      have hwd := width_pos s pos hlt
      have hle := decode_le s pos
      have HR := Lib.hid (show (bt s pos < 128 → (Utf8.decode s pos).1 = bt s pos ∧ (Utf8.decode s pos).2 = 1) ∧ (128 ≤ bt s pos → 128 ≤ (Utf8.decode s pos).1) by
        rw [bt_at hlt]
        constructor
        · intro ha; rw [decode_ascii s pos hlt ha]; exact ⟨rfl, rfl⟩
        · intro ha; exact (decode_high s pos hlt ha).1)
      generalize (Utf8.decode s pos).1 = r at *
      generalize (Utf8.decode s pos).2 = wd at *
      go_wp2_with fail
      refine (endsAtom_any r (by omega) (by omega) _).mono ?_
      rintro e w' ⟨rfl, rfl⟩
      cases hst : stB r
      · have HN := Lib.hid (show ((pos + wd ≤ s.size ∧ ∀ k, k < pos + wd → evA (bt s) k = false) ∨ (fst (evA (bt s)) s.size < s.size ∧ stB (bt s (fst (evA (bt s)) s.size)) = false ∧ fst (evA (bt s)) s.size < pos + wd)) by
          rcases HI.out with ⟨h1, h2⟩ | ⟨h1, h2, h3⟩
          · cases hb : evA (bt s) pos
            · have h128 : bt s pos < 128 := by
                simp [evA, bdB] at hb; omega
              obtain ⟨e1, e2⟩ := HR.out.1 h128
              left
              refine ⟨by omega, fun k hk => ?_⟩
              by_cases hkp : k = pos
              · subst hkp; exact hb
              · exact h2 k (by omega)
            · have hf := fst_at hlt hb h2
              have hns : stB (bt s pos) = false := by
                by_cases h128 : bt s pos < 128
                · rw [← (HR.out.1 h128).1]; exact hst
                · cases hq : stB (bt s pos)
                  · rfl
                  · have := stB_low hq; omega
              right
              rw [hf]
              exact ⟨hlt, hns, by omega⟩
          · exact .inr ⟨h1, h2, by omega⟩)
        go_wp2
        go_roundw
        case rel => exact ⟨pos + wd, rfl, HN.out⟩
        case measure => simp; omega
      · have HP := Lib.hid (show AtP (bt s) s.size pos by
          have hlow := stB_low hst
          have h128 : bt s pos < 128 := by
            rcases Nat.lt_or_ge (bt s pos) 128 with h | h
            · exact h
            · have := HR.out.2 h; omega
          have e1 := (HR.out.1 h128).1
          rcases HI.out with ⟨h1, h2⟩ | ⟨h1, h2, h3⟩
          · have hf : fst (evA (bt s)) s.size = pos := fst_at hlt (by rw [evA, ← e1, hst]; rfl) h2
            unfold AtP
            rw [hf]
            refine ⟨by omega, fun _ h => ?_, fun _ => rfl⟩
            rw [← e1, hst] at h; cases h
          · refine ⟨by omega, fun _ _ => h3, fun h => ?_⟩
            rcases h with h | h
            · omega
            · rw [h2] at h; cases h)
        go_wp2
        go_ret
        exact ⟨⟨pos, rfl, HP.out⟩, iter_below _ _ _⟩
    · have hnx : ∀ ty, (Instr.next (.pointer (some ⟨w.heap.size, 0, none⟩)) true ty).run Tryz.prog (w.iter s pos) = _ := fun ty => run_next_end w s pos ty hlt
      have HP := Lib.hid (show AtP (bt s) s.size s.size by
        rcases HI.out with ⟨h1, h2⟩ | ⟨h1, h2, h3⟩
        · have hf : fst (evA (bt s)) s.size = s.size := fst_none (fun k hk => h2 k (by omega))
          unfold AtP
          rw [hf]
          exact ⟨Nat.le_refl _, fun h => by omega, fun _ => rfl⟩
        · refine ⟨Nat.le_refl _, fun _ _ => h1, fun h => ?_⟩
          rcases h with h | h
          · omega
          · rw [h2] at h; cases h)
      go_wp2
      go_ret
      exact ⟨⟨s.size, rfl, HP.out⟩, iter_below _ _ _⟩
end Go.Proofs.YtegjgbgnpkncbacGreatDoor
namespace Go.Proofs.YtegjgbgnpkncbacGreatDoor
open Go.RowKit

/-- a world that meets S. -/
structure Cl (S : World → Prop) where
  W : World
  ok : S W
theorem wp_region_class {P : Program} {id : Nat} {Q : Exit → Act → World → Prop} {a : Act} {w : World} {l : List Oper} (S : World → Prop) (hm : P.follows .mixedOrders = true) (hB : Region.lexB .any l.toArray = true) (hS : S w.drew)
    (h : Nonempty (Cl S) → wpQuiet P l.toArray (fun w' => ∃ x : Cl S, w' = x.W) (fun a' => ∀ w', (∃ x : Cl S, w' = x.W) → Q .normal a' w') l a) : (Code.region id l.toArray true).wp P Q a w :=
  wp_region_quiet (C := fun w' => ∃ x : Cl S, w' = x.W) hm hB ⟨⟨_, hS⟩, rfl⟩ (by simpa using h ⟨⟨_, hS⟩⟩)

/-- a callee that makes memory alone keeps the class, if S is kept. -/
theorem calls_class {P : Program} {f : FuncId} {args : Array Value} {S : World → Prop} (x : Cl S) {v : Value} (hk : ∀ w w', S w → Below w.heap.size w w' → S w')
    (h : Calls P f args x.W fun e w' => e = .returned v ∧ Below x.W.heap.size x.W w') : Calls P f args x.W fun e w'' => e = .returned v ∧ ∃ y : Cl S, w'' = y.W :=
  h.mono fun _ w' ⟨he, hb⟩ => ⟨he, ⟨w', hk _ w' x.ok hb⟩, rfl⟩
end Go.Proofs.YtegjgbgnpkncbacGreatDoor
namespace Go.Proofs.YtegjgbgnpkncbacGreatDoor
open Go.RowKit
set_option linter.unusedVariables false
def Bw (w w' : World) : Prop := Below w.heap.size w w'
theorem Bw.start (w : World) : Bw w w.drew := (Below.refl _ _).drew
theorem Bw.keep (w : World) : ∀ w1 w2, Bw w w1 → Below w1.heap.size w1 w2 → Bw w w2 := fun w1 w2 h hb => Below.trans h (hb.mono (show w.heap.size ≤ w1.heap.size from h.size))
theorem Bw.rd {w : World} {a : Addr} {v : Value} (h : w.cell? a = some v) : ∀ x : Cl (Bw w), x.W.cell? a = some v := fun x => (Below.cell (show Below w.heap.size w x.W from x.ok) (World.block_lt_of_cell? w a h)).trans h
theorem Bw.call {P : Program} {f : FuncId} {args : Array Value} {w : World} {b c : Bool} (hbc : b = c) (h : ∀ V, Calls P f args V fun e w' => e = .returned (.bool b) ∧ Below V.heap.size V w') (x : Cl (Bw w)) : Calls P f args x.W fun e w'' => e = .returned (.bool c) ∧ ∃ y : Cl (Bw w), w'' = y.W := by
  subst hbc
  exact calls_class x (Bw.keep w) (h x.W)
theorem same_below {P : Program} {f : FuncId} {args : Array Value} {v : Value} (h : ∀ V, Calls P f args V fun e w' => e = .returned v ∧ V = w') : ∀ V, Calls P f args V fun e w' => e = .returned v ∧ Below V.heap.size V w' :=
  fun V => (h V).mono (by rintro e w' ⟨rfl, rfl⟩; exact ⟨rfl, Below.refl _ _⟩)
end Go.Proofs.YtegjgbgnpkncbacGreatDoor
