/-
  Plain mathematics of the tokens: what TokenOk asks, as Bool functions. It imports nothing of the program.
-/
import Derived.WalkKit
namespace Go.Proofs.YthjkgbcomjiejadGreatDoor
open Go.RowKit

/-- low to high, both within. -/
def inB (x lo hi : Int) : Bool := decide (lo ≤ x) && decide (x ≤ hi)
theorem inB_true {x lo hi : Int} : inB x lo hi = true ↔ lo ≤ x ∧ x ≤ hi := by simp [inB]
theorem inB_false {x lo hi : Int} : inB x lo hi = false ↔ x < lo ∨ hi < x := by
  rw [← Bool.not_eq_true, inB_true]; omega

/-- the first k bytes are all of 32 .. 126. -/
def prN (s : ByteArray) (k : Nat) : Bool := (s.data.toList.take k).all fun c => decide (32 ≤ (c.toNat : Int)) && decide ((c.toNat : Int) ≤ 126)
theorem prN_zero (s : ByteArray) : prN s 0 = true := by simp [prN]
theorem take_snoc (s : ByteArray) (k : Nat) (h : k < s.size) : s.data.toList.take (k + 1) = s.data.toList.take k ++ [s[k]] := by
  rw [List.take_succ_eq_append_getElem (by simpa using h)]; rfl
theorem prN_succ (s : ByteArray) (k : Nat) (h : k < s.size) : prN s (k + 1) = (prN s k && (decide (32 ≤ (s[k].toNat : Int)) && decide ((s[k].toNat : Int) ≤ 126))) := by
  simp only [prN, take_snoc s k h, List.all_append, List.all_cons, List.all_nil, Bool.and_true]
theorem prN_step (s : ByteArray) (k : Nat) (h : k < s.size) (hp : prN s k = true) (h1 : 32 ≤ (s[k].toNat : Int)) (h2 : (s[k].toNat : Int) ≤ 126) : prN s (k + 1) = true := by
  rw [prN_succ s k h, hp]; simp; omega
theorem prN_bad (s : ByteArray) (k : Nat) (h : k < s.size) (hb : (s[k].toNat : Int) < 32 ∨ 126 < (s[k].toNat : Int)) : prN s s.size = false := by
  have : ¬ (prN s s.size = true) := by
    intro ht
    simp only [prN, List.all_eq_true] at ht
    have hm : s[k] ∈ s.data.toList.take s.size := by
      rw [List.take_of_length_le (by simp)]
      exact List.getElem_mem (l := s.data.toList) (by simpa using h)
    have := ht _ hm
    simp at this
    omega
  simpa using this

/-- what a Text must be. -/
def txtB (s : ByteArray) : Bool :=
  if h : 1 ≤ s.size ∧ s.size ≤ 40 then !((s[0].toNat : Int) == 32) && (!((s[s.size - 1].toNat : Int) == 32) && prN s s.size) else false

/-- TokenOk of Kind k, Text s, Width d, Off o. -/
def tokB (k : Int) (s : ByteArray) (d o : Int) : Bool :=
  if k = 0 then txtB s && (decide (d = 0) && decide (o = 0))
  else if s.size ≠ 0 then false
  else if k = 1 then inB d 0 9 && inB o (-9) 9
  else if k = 2 then inB d 0 1 && inB o 0 9
  else if k = 3 then decide (d = 0) && decide (o = 0)
  else if k = 4 then decide (d = 0) && inB o (-9) 9
  else false

theorem size_zero {s : ByteArray} : s.size = 0 ↔ s = ByteArray.empty := by
  constructor
  · intro h
    obtain ⟨⟨l⟩⟩ := s
    have : l = [] := by simpa [ByteArray.size] using h
    subst this; rfl
  · intro h; subst h; rfl

theorem toList_eq (s : ByteArray) : s.toList = s.data.toList := ByteArray.toList_eq s
theorem ne_isEmpty {s : ByteArray} (h : s.size ≠ 0) : (!s.toList.isEmpty) = true := by
  rw [toList_eq]
  obtain ⟨⟨l⟩⟩ := s
  cases l
  · exact absurd rfl h
  · rfl

/-- a byte of 32 .. 126. -/
def okC (c : UInt8) : Bool := decide (32 ≤ (c.toNat : Int)) && decide ((c.toNat : Int) ≤ 126)
/-- the place of the first byte that is none of 32 .. 126; -1 when there is none. -/
def fbI (s : ByteArray) : Int := if prN s s.size then -1 else ((s.data.toList.takeWhile okC).length : Int)
theorem fbI_none {s : ByteArray} (h : prN s s.size = true) : fbI s = -1 := by rw [fbI, if_pos h]
theorem takeWhile_len {l : List UInt8} {p : UInt8 → Bool} {k : Nat} (hk : k < l.length) (ha : (l.take k).all p = true) (hb : p l[k] = false) : (l.takeWhile p).length = k := by
  have e : l = l.take k ++ l[k] :: l.drop (k + 1) := by rw [← List.drop_eq_getElem_cons hk, List.take_append_drop]
  have h2 : (l.take k ++ l[k] :: l.drop (k + 1)).takeWhile p = l.take k := by
    rw [List.takeWhile_append_of_pos (by simpa [List.all_eq_true] using ha), List.takeWhile_cons_of_neg (by simp [hb]), List.append_nil]
  rw [← e] at h2
  rw [h2]; simp; omega
theorem fbI_at {s : ByteArray} {k : Nat} (hk : k < s.size) (hp : prN s k = true) (hb : (s[k].toNat : Int) < 32 ∨ 126 < (s[k].toNat : Int)) : fbI s = k := by
  rw [fbI, prN_bad s k hk hb, if_neg (by simp), takeWhile_len (p := okC) (k := k) (by simpa using hk) hp]
  show okC s[k] = false
  simp [okC]; omega
theorem fbI_neg (s : ByteArray) : decide (fbI s < 0) = prN s s.size := by
  unfold fbI; split
  · rename_i h; simp [h]
  · rename_i h; simp at h; simp [h]

end Go.Proofs.YthjkgbcomjiejadGreatDoor
