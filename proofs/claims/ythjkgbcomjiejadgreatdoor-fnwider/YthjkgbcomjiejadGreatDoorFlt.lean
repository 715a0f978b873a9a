/-
  Small whole numbers as float64: their sums are exact, and they are read back as they were.
-/
import Derived.Test.YthjkgbcomjiejadGreatDoorRows
import Derived.WalkLawsBesides
namespace Go.Proofs.YthjkgbcomjiejadGreatDoor
open Go.RowKit
set_option linter.unusedVariables false

/-- the bits of a small whole number. -/
def fN (n : Nat) : Nat := FloatKind.nearest .f64 (n : Int)
theorem fN_zero : fN 0 = 0 := by decide
theorem fN_one : fN 1 = 4607182418800017408 := by decide +kernel

theorem log2_bd {n : Nat} (h0 : n ≠ 0) (h : n < 2 ^ 53) : n.log2 ≤ 52 := by
  have := Nat.log2_lt h0 (k := 53)
  omega
theorem shl_log {n : Nat} (h0 : n ≠ 0) (h : n.log2 ≤ 52) : 2 ^ 52 ≤ n * 2 ^ (52 - n.log2) ∧ n * 2 ^ (52 - n.log2) < 2 ^ 53 := by
  have h1 := Nat.log2_self_le h0
  have h2 : n < 2 ^ (n.log2 + 1) := Nat.lt_log2_self
  have e1 : 2 ^ n.log2 * 2 ^ (52 - n.log2) = 2 ^ 52 := by rw [← Nat.pow_add]; congr 1; omega
  have e2 : 2 ^ (n.log2 + 1) * 2 ^ (52 - n.log2) = 2 ^ 53 := by rw [← Nat.pow_add]; congr 1; omega
  constructor
  · rw [← e1]; exact Nat.mul_le_mul_right _ h1
  · rw [← e2]; exact Nat.mul_lt_mul_of_pos_right h2 (Nat.two_pow_pos _)
theorem cut_exact (way : Ieee.Toward) (neg : Bool) (n drop : Nat) (h0 : n ≠ 0) : way.cut neg (n * 2 ^ drop) drop = n := by
  have hp : 0 < 2 ^ drop := Nat.two_pow_pos _
  have hl : drop ≤ (n * 2 ^ drop).log2 := by
    have : n * 2 ^ drop ≠ 0 := Nat.mul_ne_zero h0 (by omega)
    rw [Nat.le_log2 this]
    exact Nat.le_mul_of_pos_left _ (by omega)
  have hm : min drop ((n * 2 ^ drop).log2 + 2) = drop := by omega
  unfold Ieee.Toward.cut
  simp only [hm, Nat.shiftLeft_eq, Nat.one_mul, Nat.mul_mod_left, Nat.mul_div_cancel _ hp]
  cases way <;> simp <;> omega
theorem nearest_scaled {n s : Nat} (h0 : n ≠ 0) (h : n < 2 ^ 53) (hs : s ≤ 1074) : Ieee.double.nearest false (n * 2 ^ s) (-(s : Int)) = (n.log2 + 1022) * 2 ^ 52 + n * 2 ^ (52 - n.log2) := by
  have hl := log2_bd h0 h
  have hsh := shl_log h0 hl
  have hne : n * 2 ^ s ≠ 0 := Nat.mul_ne_zero h0 (by have := Nat.two_pow_pos s; omega)
  have hlog : (n * 2 ^ s).log2 = n.log2 + s := by
    rw [Nat.log2_eq_iff hne]
    have h1 := Nat.log2_self_le h0
    have h2 : n < 2 ^ (n.log2 + 1) := Nat.lt_log2_self
    refine ⟨?_, ?_⟩
    · rw [Nat.pow_add]; exact Nat.mul_le_mul_right _ h1
    · rw [show n.log2 + s + 1 = n.log2 + 1 + s by omega, Nat.pow_add]; exact Nat.mul_lt_mul_of_pos_right h2 (Nat.two_pow_pos _)
  have hlp : Ieee.double.leastPlace = -1074 := by decide
  have hbin : Ieee.double.binade = 2 ^ 52 := rfl
  have hlast : max (-(s : Int) + ((n.log2 + s : Nat) : Int) - (52 : Nat)) (-1074) = (n.log2 : Int) - 52 := by omega
  have hkept : Ieee.Toward.even.cut false ((n * 2 ^ s) <<< (-(s : Int) - ((n.log2 : Int) - 52)).toNat) (((n.log2 : Int) - 52) - -(s : Int)).toNat = n * 2 ^ (52 - n.log2) := by
    by_cases hc : s ≤ 52 - n.log2
    · have e1 : (-(s : Int) - ((n.log2 : Int) - 52)).toNat = 52 - n.log2 - s := by omega
      have e2 : (((n.log2 : Int) - 52) - -(s : Int)).toNat = 0 := by omega
      rw [e1, e2, Nat.shiftLeft_eq, Nat.mul_assoc, ← Nat.pow_add, show s + (52 - n.log2 - s) = 52 - n.log2 by omega]
      have := cut_exact .even false (n * 2 ^ (52 - n.log2)) 0 (by omega)
      simpa using this
    · have e1 : (-(s : Int) - ((n.log2 : Int) - 52)).toNat = 0 := by omega
      have e2 : (((n.log2 : Int) - 52) - -(s : Int)).toNat = s - (52 - n.log2) := by omega
      rw [e1, e2, Nat.shiftLeft_zero, show n * 2 ^ s = n * 2 ^ (52 - n.log2) * 2 ^ (s - (52 - n.log2)) by rw [Nat.mul_assoc, ← Nat.pow_add]; congr 2; omega]
      exact cut_exact .even false _ _ (by omega)
  have hinf : Ieee.double.infRung = 2047 * 2 ^ 52 := rfl
  have hr : ((n.log2 : Int) - 52 - -1074).toNat = n.log2 + 1022 := by omega
  unfold Ieee.Format.nearest
  simp only [hne, if_false, hlog, hlp, hbin, hinf, show Ieee.double.fractionBits = 52 from rfl, hlast, hkept, hr, Ieee.Format.word]
  have hle : (n.log2 + 1022) * 2 ^ 52 + n * 2 ^ (52 - n.log2) ≤ 2047 * 2 ^ 52 := by
    generalize n * 2 ^ (52 - n.log2) = m at *
    generalize n.log2 = L at *
    clear hkept hlast hlog hne
    omega
  simp only [Nat.min_eq_left hle]
  simp
theorem fN_eq {n : Nat} (h0 : n ≠ 0) (h : n < 2 ^ 53) : fN n = (n.log2 + 1022) * 2 ^ 52 + n * 2 ^ (52 - n.log2) := by
  have := nearest_scaled (s := 0) h0 h (by omega)
  have hd : decide ((n : Int) < 0) = false := by simp
  rw [Nat.pow_zero, Nat.mul_one] at this
  show Ieee.double.nearest (decide ((n : Int) < 0)) (n : Int).natAbs 0 = _
  rw [hd, Int.natAbs_natCast]
  exact this
theorem read_fN {n : Nat} (h0 : n ≠ 0) (h : n < 2 ^ 53) : Ieee.double.read (fN n) = .number false (n * 2 ^ (52 - n.log2)) ((n.log2 : Int) - 52) := by
  have hl := log2_bd h0 h
  have hsh := shl_log h0 hl
  rw [fN_eq h0 h]
  generalize n * 2 ^ (52 - n.log2) = m at *
  generalize n.log2 = L at *
  have hlp : Ieee.double.leastPlace = -1074 := by decide
  have hbin : Ieee.double.binade = 2 ^ 52 := rfl
  have hinf : Ieee.double.infRung = 2047 * 2 ^ 52 := rfl
  have hsw : Ieee.double.signWeight = 2 ^ 63 := rfl
  unfold Ieee.Format.read
  simp only [hlp, hbin, hinf, hsw]
  have hx : (L + 1022) * 2 ^ 52 + m < 2 ^ 63 := by
    have : (L + 1022) * 2 ^ 52 ≤ 1074 * 2 ^ 52 := Nat.mul_le_mul_right _ (by omega)
    omega
  have e1 : ((L + 1022) * 2 ^ 52 + m) / 2 ^ 63 = 0 := Nat.div_eq_of_lt hx
  have e2 : ((L + 1022) * 2 ^ 52 + m) % 2 ^ 63 = (L + 1022) * 2 ^ 52 + m := Nat.mod_eq_of_lt hx
  have e3 : ((L + 1022) * 2 ^ 52 + m) / 2 ^ 52 = L + 1023 := by omega
  have e4 : ((L + 1022) * 2 ^ 52 + m) % 2 ^ 52 = m - 2 ^ 52 := by omega
  have n1 : ¬ ((L + 1022) * 2 ^ 52 + m < 2 ^ 52) := by omega
  have n2 : (L + 1022) * 2 ^ 52 + m < 2047 * 2 ^ 52 := by omega
  simp only [e1, e2, e3, e4, n1, n2, if_false, if_true]
  simp
  omega
theorem read_zero : Ieee.double.read (fN 0) = .number false 0 (-1074) := by decide
theorem nearest_one {n : Nat} (h : n < 2 ^ 53) {s : Nat} (hs : s ≤ 1074) : Ieee.double.nearest false (n * 2 ^ s) (-(s : Int)) = fN n := by
  by_cases h0 : n = 0
  · subst h0
    simp [Ieee.Format.nearest, Ieee.Format.word, fN_zero]
  · rw [nearest_scaled h0 h hs, fN_eq h0 h]
theorem add_fN {a b : Nat} (h : a + b < 2 ^ 53) : floatBits .add .f64 (fN a) (fN b) = some (fN (a + b)) := by
  have key : ∀ (m i : Nat) (n j : Nat), i ≤ 1074 → j ≤ 1074 → m = a * 2 ^ i → n = b * 2 ^ j →
      ((Ieee.Datum.number false m (-(i : Int))).sum (Ieee.Datum.number false n (-(j : Int)))).map Ieee.double.write = some (fN (a + b)) := by
    intro m i n j hi hj hm hn
    subst hm hn
    have hbase : min (-(i : Int)) (-(j : Int)) = -((max i j : Nat) : Int) := by omega
    have e1 : (-(i : Int) - -((max i j : Nat) : Int)).toNat = max i j - i := by omega
    have e2 : (-(j : Int) - -((max i j : Nat) : Int)).toNat = max i j - j := by omega
    have t1 : a * 2 ^ i * 2 ^ (max i j - i) = a * 2 ^ (max i j) := by rw [Nat.mul_assoc, ← Nat.pow_add]; congr 2; omega
    have t2 : b * 2 ^ j * 2 ^ (max i j - j) = b * 2 ^ (max i j) := by rw [Nat.mul_assoc, ← Nat.pow_add]; congr 2; omega
    simp only [Ieee.Datum.sum, hbase, e1, e2, Ieee.signed, Nat.shiftLeft_eq, t1, t2]
    have hab : ((a * 2 ^ (max i j) : Nat) : Int) + ((b * 2 ^ (max i j) : Nat) : Int) = (((a + b) * 2 ^ (max i j) : Nat) : Int) := by rw [Nat.add_mul]; simp
    simp only [Bool.false_eq_true, if_false, hab, Int.natAbs_natCast, Option.map_some, Ieee.Format.write]
    have hneg : (if (((a + b) * 2 ^ (max i j) : Nat) : Int) = 0 then (false && false) else decide ((((a + b) * 2 ^ (max i j) : Nat) : Int) < 0)) = false := by
      split
      · rfl
      · exact decide_eq_false (by have := Int.natCast_nonneg ((a + b) * 2 ^ (max i j)); omega)
    rw [hneg, nearest_one h (by omega)]
  show (Ieee.double.add (fN a) (fN b)) = _
  unfold Ieee.Format.add
  have ra : ∃ m i : Nat, Ieee.double.read (fN a) = .number false m (-(i : Int)) ∧ i ≤ 1074 ∧ m = a * 2 ^ i := by
    by_cases h0 : a = 0
    · subst h0; obtain ⟨q, hq⟩ : ∃ q : Nat, q = 1074 := ⟨_, rfl⟩; exact ⟨0, q, by rw [hq]; exact read_zero, by omega, (Nat.zero_mul _).symm⟩
    · have hl := log2_bd h0 (show a < 2 ^ 53 by omega)
      refine ⟨_, 52 - a.log2, (read_fN h0 (by omega)).trans ?_, by omega, rfl⟩
      congr 1; omega
  have rb : ∃ m i : Nat, Ieee.double.read (fN b) = .number false m (-(i : Int)) ∧ i ≤ 1074 ∧ m = b * 2 ^ i := by
    by_cases h0 : b = 0
    · subst h0; obtain ⟨q, hq⟩ : ∃ q : Nat, q = 1074 := ⟨_, rfl⟩; exact ⟨0, q, by rw [hq]; exact read_zero, by omega, (Nat.zero_mul _).symm⟩
    · have hl := log2_bd h0 (show b < 2 ^ 53 by omega)
      refine ⟨_, 52 - b.log2, (read_fN h0 (by omega)).trans ?_, by omega, rfl⟩
      congr 1; omega
  obtain ⟨m, i, e1, hi, hm⟩ := ra
  obtain ⟨n, j, e2, hj, hn⟩ := rb
  rw [e1, e2]
  exact key m i n j hi hj hm hn
theorem int_fN {n : Nat} (h : n < 2 ^ 53) : floatToIntVal .f64 (fN n) .i64 = some (n : Int) := by
  have hv : ((FloatKind.f64).decode (fN n)).toInt .zero = some (n : Int) := by
    show (Ieee.double.read (fN n)).toInt .zero = _
    by_cases h0 : n = 0
    · subst h0; rw [read_zero]; decide
    · have hl := log2_bd h0 h
      rw [read_fN h0 h]
      have e1 : ((n.log2 : Int) - 52).toNat = 0 := by omega
      have e2 : (-((n.log2 : Int) - 52)).toNat = 52 - n.log2 := by omega
      simp only [Ieee.Datum.toInt, Ieee.Datum.integral, e1, e2, Nat.shiftLeft_zero, cut_exact .zero false n (52 - n.log2) h0, Ieee.signed]
      simp
  unfold floatToIntVal
  rw [hv]
  have : IntKind.i64.min ≤ (n : Int) ∧ (n : Int) ≤ IntKind.i64.max := by
    rw [show IntKind.i64.min = -9223372036854775808 from rfl, show IntKind.i64.max = 9223372036854775807 from rfl]
    omega
  simp only [this, and_self, if_true]
end Go.Proofs.YthjkgbcomjiejadGreatDoor
