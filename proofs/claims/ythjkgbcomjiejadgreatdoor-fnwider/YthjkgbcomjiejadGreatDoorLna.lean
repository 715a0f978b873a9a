/-
  Plain mathematics of lines: a text parted at each byte 10; strings.Split's pieces are these; the lines of a text. It names no function of the program.
-/
import Derived.Lib.SplitLaws
import Derived.Test.YthjkgbcomjiejadGreatDoorPlain
namespace Go.Proofs.YthjkgbcomjiejadGreatDoor
open Go.RowKit
set_option linter.unusedVariables false

def prt (c : UInt8) : List UInt8 → List (List UInt8)
  | [] => [[]]
  | b :: r => if b = c then [] :: prt c r else match prt c r with
    | [] => [[b]]
    | h :: t => (b :: h) :: t
def pre (p : List UInt8) : List (List UInt8) → List (List UInt8)
  | [] => [p]
  | h :: t => (p ++ h) :: t
theorem prt_nil (c : UInt8) : prt c [] = [[]] := rfl
theorem prt_eq (c : UInt8) (r : List UInt8) : prt c (c :: r) = [] :: prt c r := by simp [prt]
theorem prt_cons {c b : UInt8} (r : List UInt8) (h : b ≠ c) : prt c (b :: r) = pre [b] (prt c r) := by
  rw [prt, if_neg h]
  cases prt c r <;> rfl
theorem prt_pos (c : UInt8) (l : List UInt8) : prt c l ≠ [] := by
  cases l with
  | nil => simp [prt]
  | cons b r =>
    by_cases h : b = c
    · subst h; rw [prt_eq]; simp
    · rw [prt_cons r h]; cases prt c r <;> simp [pre]
theorem pre_nil {L : List (List UInt8)} (h : L ≠ []) : pre [] L = L := by
  cases L with
  | nil => exact absurd rfl h
  | cons x r => simp [pre]
theorem pre_pre (p q : List UInt8) (L : List (List UInt8)) : pre p (pre q L) = pre (p ++ q) L := by
  cases L <;> simp [pre]
theorem pre_cons (p h : List UInt8) (t : List (List UInt8)) : pre p (h :: t) = (p ++ h) :: t := rfl
theorem pre_len (p : List UInt8) (L : List (List UInt8)) : (pre p L).length ≤ L.length + 1 ∧ (L ≠ [] → (pre p L).length = L.length) := by
  cases L <;> simp [pre]
theorem prt_len (c : UInt8) : ∀ l : List UInt8, (prt c l).length = l.count c + 1
  | [] => rfl
  | b :: r => by
    have ih := prt_len c r
    by_cases h : b = c
    · subst h; rw [prt_eq]; simp [ih]
    · rw [prt_cons r h, (pre_len _ _).2 (prt_pos c r), ih, List.count_cons_of_ne (by simpa using h)]
theorem splitK_prt (c : UInt8) : ∀ l : List UInt8, Lib.splitK [c] 0 (Lib.count l [c]) l = prt c l
  | [] => by rw [Lib.count_miss (by simp [Lib.index])]; rfl
  | b :: r => by
    have ih := splitK_prt c r
    by_cases h : b = c
    · subst h
      have hix : Lib.index (b :: r) [b] = 0 := by rw [Lib.index]; simp [List.isPrefixOf]
      rw [Lib.count_cons_eq, Nat.add_comm 1, Lib.splitK, hix, prt_eq]
      simp only [show ((0 : Int) == -1) = false from rfl]
      simp [ih]
    · have hp : ([c] : List UInt8).isPrefixOf (b :: r) = false := by simp [List.isPrefixOf, Ne.symm h]
      have hix : Lib.index (b :: r) [c] = if Lib.index r [c] == -1 then -1 else Lib.index r [c] + 1 := by rw [Lib.index, hp]; simp
      rw [Lib.count_cons_ne b c r h, prt_cons r h, ← ih]
      by_cases hm : Lib.index r [c] = -1
      · rw [Lib.count_miss hm]
        rfl
      · have hge := Lib.index_ge r [c]
        obtain ⟨j, hj⟩ : ∃ j : Nat, Lib.index r [c] = j := ⟨(Lib.index r [c]).toNat, by omega⟩
        have hb : (Lib.index r [c] == -1) = false := beq_eq_false_iff_ne.2 hm
        rw [hb, if_neg (by decide)] at hix
        have hb2 : (Lib.index (b :: r) [c] == -1) = false := beq_eq_false_iff_ne.2 (by omega)
        rw [Lib.count_hit (by simp) hj, Nat.add_comm 1, Lib.splitK, Lib.splitK, hb, hb2, if_neg (by decide), if_neg (by decide), pre_cons, hix, hj]
        have e1 : ((j : Int) + 1).toNat = j + 1 := by omega
        have e2 : ((j : Int)).toNat = j := by omega
        rw [e1, e2]
        simp
def toB (l : List UInt8) : ByteArray := ⟨l.toArray⟩
theorem toB_data (s : ByteArray) : toB s.data.toList = s := rfl
theorem toB_list (l : List UInt8) : (toB l).data.toList = l := rfl
theorem toB_size (l : List UInt8) : (toB l).size = l.length := rfl
/-- the pieces of a text. -/
def parts (s : ByteArray) : List ByteArray := (prt 10 s.data.toList).map toB
theorem parts_split (s sep : ByteArray) (h : sep.data.toList = [10]) : Lib.splitB sep 0 (Lib.countB s sep) s = parts s := by
  have e := Lib.splitB_data sep 0 (Lib.countB s sep) s
  have e2 : Lib.splitK sep.data.toList 0 (Lib.countB s sep) s.data.toList = prt 10 s.data.toList := by
    unfold Lib.countB
    rw [h]
    exact splitK_prt 10 _
  rw [e2] at e
  unfold parts
  rw [← e, List.map_map]
  exact (List.map_id _).symm
theorem parts_len (s : ByteArray) : 1 ≤ (parts s).length ∧ (parts s).length ≤ s.size + 1 := by
  have h := prt_len 10 s.data.toList
  have h2 : s.data.toList.count 10 ≤ s.data.toList.length := List.count_le_length
  have h3 : s.data.toList.length = s.size := (Lib.size_eq s).symm
  unfold parts
  rw [List.length_map]
  omega
/-- the model's loop: the pieces so far, what is being read, what is still ahead. -/
def MidP (s : ByteArray) (out : List ByteArray) (a k : Nat) : Prop := a ≤ k ∧ out ++ (pre (s.extract a k).data.toList (prt 10 (s.data.toList.drop k))).map toB = parts s
theorem MidP.zero (s : ByteArray) : MidP s [] 0 0 := by
  refine ⟨Nat.le_refl _, ?_⟩
  have e : (s.extract 0 0).data.toList = [] := by rw [Lib.extract_data]; simp
  rw [e, pre_nil (prt_pos _ _)]
  simp [parts]
theorem byte_at {s : ByteArray} {k : Nat} (hk : k < s.size) : s.data.toList.drop k = s[k] :: s.data.toList.drop (k + 1) := by
  have h3 : s.data.toList.length = s.size := (Lib.size_eq s).symm
  rw [List.drop_eq_getElem_cons (by omega)]
  rfl
theorem extract_snoc {s : ByteArray} {a k : Nat} (ha : a ≤ k) (hk : k < s.size) : (s.extract a (k + 1)).data.toList = (s.extract a k).data.toList ++ [s[k]] := by
  have h3 : s.data.toList.length = s.size := (Lib.size_eq s).symm
  rw [Lib.extract_data, Lib.extract_data, show k + 1 - a = (k - a) + 1 by omega, List.take_add_one]
  congr 1
  rw [List.getElem?_drop, show a + (k - a) = k by omega, List.getElem?_eq_getElem (by omega)]
  rfl
theorem MidP.cut {s : ByteArray} {out : List ByteArray} {a k : Nat} (h : MidP s out a k) (hk : k < s.size) (hb : s[k] = 10) : MidP s (out ++ [s.extract a k]) (k + 1) (k + 1) := by
  obtain ⟨h1, h2⟩ := h
  refine ⟨Nat.le_refl _, ?_⟩
  have e : (s.extract (k + 1) (k + 1)).data.toList = [] := by rw [Lib.extract_data]; simp
  rw [e, pre_nil (prt_pos _ _)]
  rw [byte_at hk, hb, prt_eq, pre_cons, List.append_nil, List.map_cons, toB_data] at h2
  rw [← h2]
  simp
theorem MidP.go {s : ByteArray} {out : List ByteArray} {a k : Nat} (h : MidP s out a k) (hk : k < s.size) (hb : s[k] ≠ 10) : MidP s out a (k + 1) := by
  obtain ⟨h1, h2⟩ := h
  refine ⟨by omega, ?_⟩
  rw [byte_at hk, prt_cons _ hb, pre_pre] at h2
  rw [extract_snoc h1 hk]
  exact h2
theorem MidP.last {s : ByteArray} {out : List ByteArray} {a : Nat} (h : MidP s out a s.size) : out ++ [s.extract a s.size] = parts s := by
  obtain ⟨h1, h2⟩ := h
  have h3 : s.data.toList.length = s.size := (Lib.size_eq s).symm
  rw [List.drop_eq_nil_of_le (by omega), prt_nil, pre_cons, List.append_nil] at h2
  exact h2
theorem MidP.len {s : ByteArray} {out : List ByteArray} {a k : Nat} (h : MidP s out a k) : out.length ≤ s.size + 1 := by
  have := congrArg List.length h.2
  rw [List.length_append] at this
  have := (parts_len s).2
  omega
/-- the last piece. -/
def lastP (s : ByteArray) : ByteArray := (parts s).getD ((parts s).length - 1) ByteArray.empty
theorem lastP_at (s : ByteArray) : (parts s)[(parts s).length - 1]? = some (lastP s) := by
  have h := (parts_len s).1
  have e : (parts s)[(parts s).length - 1]? = some ((parts s)[(parts s).length - 1]'(by omega)) := List.getElem?_eq_getElem (by omega)
  unfold lastP
  rw [List.getD_eq_getElem?_getD, e]
  rfl
/-- the lines of a text. -/
def lns (s : ByteArray) : List ByteArray := if (lastP s).size = 0 then (parts s).take ((parts s).length - 1) else parts s
theorem lns_len (s : ByteArray) : (lns s).length ≤ s.size + 1 := by
  have := (parts_len s).2
  unfold lns
  split
  · simp; omega
  · exact this
theorem parts_size {s x : ByteArray} (h : x ∈ parts s) : x.size ≤ s.size := by
  have key : ∀ (c : UInt8) (l : List UInt8) (y : List UInt8), y ∈ prt c l → y.length ≤ l.length := by
    intro c l
    induction l with
    | nil => intro y hy; simp [prt] at hy; subst hy; simp
    | cons b r ih =>
      intro y hy
      by_cases e : b = c
      · subst e
        rw [prt_eq] at hy
        rcases List.mem_cons.1 hy with rfl | hy
        · simp
        · have := ih y hy; simp; omega
      · rw [prt_cons r e] at hy
        cases hp : prt c r with
        | nil => exact absurd hp (prt_pos c r)
        | cons z t =>
          rw [hp] at hy ih
          rcases List.mem_cons.1 hy with rfl | hy
          · have := ih z (by simp); simp; omega
          · have := ih y (by simp [hy]); simp; omega
  unfold parts at h
  obtain ⟨y, hy, rfl⟩ := List.mem_map.1 h
  have h3 : s.data.toList.length = s.size := (Lib.size_eq s).symm
  have := key 10 _ y hy
  rw [toB_size]
  omega
theorem lns_size {s x : ByteArray} (h : x ∈ lns s) : x.size ≤ s.size := by
  unfold lns at h
  split at h
  · exact parts_size (List.mem_of_mem_take h)
  · exact parts_size h
end Go.Proofs.YthjkgbcomjiejadGreatDoor
