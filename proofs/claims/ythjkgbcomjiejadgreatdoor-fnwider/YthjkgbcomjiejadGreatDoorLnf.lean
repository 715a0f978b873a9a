/-
  LongLines, TrailOk and WidestLine on both sides.
-/
import Derived.Test.YthjkgbcomjiejadGreatDoorLnb
import Derived.Test.YthjkgbcomjiejadGreatDoorInts
import Derived.Lib.TrimByte
namespace Go.Proofs.YthjkgbcomjiejadGreatDoor
open Go.RowKit
set_option linter.unusedVariables false

theorem infoI : (Tryz.prog.info? 3).map (fun i => (i.zero, i.size, i.bytes)) = some (some (.int .i64 0), 1, 8) := by kernel_rfl
theorem nums_setL (xs : List Int) (i : Nat) (x : Int) : (nums xs).set i (.int .i64 x) = nums (xs.set i x) := by simp [nums]
def szL (l : List ByteArray) : List Int := l.map fun x => (x.size : Int)
theorem szL_len (l : List ByteArray) : (szL l).length = l.length := by simp [szL]
theorem szL_at {l : List ByteArray} {k : Nat} {x : ByteArray} (h : l[k]? = some x) : (szL l)[k]? = some (x.size : Int) := by simp [szL, h]
/-- how many blanks a text begins with. -/
def ldB (x : ByteArray) : Nat := (x.data.toList.takeWhile (· == 32)).length
theorem ldB_le (x : ByteArray) : ldB x ≤ x.size := by
  have h1 : x.data.toList.length = x.size := (Lib.size_eq x).symm
  have := (List.takeWhile_prefix (p := fun b : UInt8 => b == 32) (l := x.data.toList)).length_le
  unfold ldB
  omega
def idL (l : List ByteArray) : List Int := l.map fun x => (ldB x : Int)
theorem idL_len (l : List ByteArray) : (idL l).length = l.length := by simp [idL]
theorem idL_at {l : List ByteArray} {k : Nat} {x : ByteArray} (h : l[k]? = some x) : (idL l)[k]? = some (ldB x : Int) := by simp [idL, h]
theorem trimLeft_len (c : UInt8) : ∀ l : List UInt8, (Lib.trimLeftB l c).length + (l.takeWhile (· == c)).length = l.length
  | [] => rfl
  | b :: r => by
    by_cases h : b = c
    · subst h
      have := trimLeft_len b r
      simp [Lib.trimLeftB, List.takeWhile] at this ⊢
      omega
    · have hb : (b == c) = false := by simp [h]
      simp [Lib.trimLeftB, List.takeWhile, hb]
theorem ld_at {x : ByteArray} {n : Nat} (h : ∀ k, k < n → ∃ hk : k < x.size, x[k] = 32) (hn : n ≤ x.size) (hs : n = x.size ∨ ∃ hk : n < x.size, x[n] ≠ 32) : ldB x = n := by
  have h1 : x.data.toList.length = x.size := (Lib.size_eq x).symm
  have e : ∀ (l : List UInt8) (n : Nat), (∀ k, k < n → l[k]? = some 32) → (n = l.length ∨ ∃ b, l[n]? = some b ∧ b ≠ 32) → (l.takeWhile (· == 32)).length = n := by
    intro l
    induction l with
    | nil =>
      intro n hk hs
      rcases hs with h | ⟨b, h, _⟩
      · simp at h; subst h; rfl
      · simp at h
    | cons b r ih =>
      intro n hk hs
      cases n with
      | zero =>
        rcases hs with h | ⟨c, h, hc⟩
        · simp at h
        · simp at h
          subst h
          have hb : (b == 32) = false := by simp [hc]
          simp [List.takeWhile, hb]
      | succ n =>
        have hb := hk 0 (by omega)
        simp at hb
        subst hb
        have := ih n (fun k hk2 => by have := hk (k + 1) (by omega); simpa using this) (by
          rcases hs with h | ⟨c, h, hc⟩
          · left; simpa using h
          · right; exact ⟨c, by simpa using h, hc⟩)
        simp [List.takeWhile, this]
  unfold ldB
  refine e _ n (fun k hk => ?_) ?_
  · obtain ⟨h2, h3⟩ := h k hk
    rw [List.getElem?_eq_getElem (by omega), ← h3]
    rfl
  · rcases hs with h2 | ⟨h2, h3⟩
    · left; omega
    · right
      exact ⟨x[n], by rw [List.getElem?_eq_getElem (by omega)]; rfl, h3⟩
theorem ints_own {w w' : World} {v : Value} {n : Nat} {xs : List Int} (hn : xs.length = n) (h : w'.ownsRow w.heap.size 3 1 v n (nums xs)) (hb : Below w.heap.size w w') : IntsOut w xs (.returned v) w' := by
  subst hn
  obtain ⟨A, c, rfl⟩ := os_slice h
  obtain ⟨h1, h2, h3⟩ := row_of_own h
  exact ⟨hb, A, c, rfl, h2, h3, h1⟩
end Go.Proofs.YthjkgbcomjiejadGreatDoor
namespace Go.Proofs.YthjkgbcomjiejadGreatDoor
open Go.RowKit
set_option linter.unusedVariables false

/-- the numbers (from first on) of those among the first i lines that are longer than k. -/
def lgK (l : List ByteArray) (first k : Int) : Nat → List Int
  | 0 => []
  | i + 1 => lgK l first k i ++ (match l[i]? with | some x => if k < (x.size : Int) then [first + i] else [] | none => [])
def lgL (l : List ByteArray) (first k : Int) : List Int := lgK l first k l.length
theorem lgK_le (l : List ByteArray) (first k : Int) : ∀ i, (lgK l first k i).length ≤ i
  | 0 => Nat.le_refl _
  | i + 1 => by
    have := lgK_le l first k i
    simp only [lgK, List.length_append]
    split
    · split <;> simp <;> omega
    · simp; omega
theorem lgL_len (l : List ByteArray) (first k : Int) : (lgL l first k).length ≤ l.length := lgK_le _ _ _ _
theorem lgK_yes {l : List ByteArray} {first k : Int} {i : Nat} {x : ByteArray} (h : l[i]? = some x) (hk : k < (x.size : Int)) : lgK l first k (i + 1) = lgK l first k i ++ [first + i] := by
  simp only [lgK, h, if_pos hk]
theorem lgK_no {l : List ByteArray} {first k : Int} {i : Nat} {x : ByteArray} (h : l[i]? = some x) (hk : ¬ k < (x.size : Int)) : lgK l first k (i + 1) = lgK l first k i := by
  simp only [lgK, h, if_neg hk, List.append_nil]
/-- does a line end with a blank? -/
def eB (x : ByteArray) : Bool := Lib.hasSuffix x.data.toList [32]
theorem eB_empty {x : ByteArray} (h : x.size = 0) : eB x = false := by
  have h1 : x.data.toList.length = x.size := (Lib.size_eq x).symm
  have h2 : x.data.toList = [] := List.eq_nil_of_length_eq_zero (by omega)
  unfold eB Lib.hasSuffix
  rw [h2]
  rfl
theorem eB_last {x : ByteArray} {m : Nat} (h : x.size = m + 1) : eB x = ((x[m]'(by omega)).toNat == 32) := by
  have h1 : x.data.toList.length = x.size := (Lib.size_eq x).symm
  have h2 : x.data.toList = x.data.toList.take m ++ [x[m]'(by omega)] := by
    have h3 : x.data.toList[m]'(by omega) = x[m]'(by omega) := rfl
    rw [← h3]
    have h5 := List.take_append_getElem (l := x.data.toList) (i := m) (by omega)
    rw [List.take_of_length_le (i := m + 1) (by omega)] at h5
    exact h5.symm
  unfold eB Lib.hasSuffix
  rw [h2]
  by_cases h4 : x[m]'(by omega) = 32
  · rw [h4]
    have : ([32] : List UInt8) <:+ x.data.toList.take m ++ [32] := List.suffix_append _ _
    rw [List.isSuffixOf_iff_suffix.2 this]
    rfl
  · have h5 : ((x[m]'(by omega)).toNat == 32) = false := by
      simp
      intro h6
      exact h4 (UInt8.toNat_inj.1 h6)
    rw [h5]
    have h6 : ¬ ([32] : List UInt8) <:+ x.data.toList.take m ++ [x[m]'(by omega)] := by
      intro h7
      obtain ⟨t, ht⟩ := h7
      have := List.append_inj_right' ht rfl
      simp at this
      exact h4 this.symm
    cases h8 : ([32] : List UInt8).isSuffixOf (x.data.toList.take m ++ [x[m]'(by omega)])
    · rfl
    · exact absurd (List.isSuffixOf_iff_suffix.1 h8) h6
def trN (l : List ByteArray) (i : Nat) : Bool := (l.take i).all fun x => !eB x
def trB (l : List ByteArray) : Bool := l.all fun x => !eB x
theorem trN_all (l : List ByteArray) {n : Nat} (h : l.length = n) : trN l n = trB l := by subst h; simp [trN, trB]
theorem trN_yes {l : List ByteArray} {i : Nat} {x : ByteArray} (hx : l[i]? = some x) (he : eB x = false) (h : trN l i = true) : trN l (i + 1) = true := by
  unfold trN at h ⊢
  rw [List.take_add_one, hx, List.all_append, h]
  simp [he]
theorem trB_no {l : List ByteArray} {i : Nat} {x : ByteArray} (hx : l[i]? = some x) (he : eB x = true) : trB l = false := by
  unfold trB
  rw [List.all_eq_false]
  exact ⟨x, List.mem_of_getElem? hx, by simp [he]⟩
set_option maxHeartbeats 1000000 in
set_option maxRecDepth 100000 in
theorem endsWithBlank_any (x : ByteArray) (w : World) (hx : x.size ≤ 16777216) :
    Calls Tryz.prog 62 #[.string x] w fun e w' => e = .returned (.bool (eB x)) ∧ w = w' := by
  go_enter Tryz.func62, Tryz.ntmps62
  go_wp2_with fail
  refine (Any.strings_HasSuffix Tryz.lays100 x ⟨#[32]⟩ _ (by omega)).mono ?_
  rintro e w1 ⟨rfl, rfl⟩
  go_wp2_with fail
  go_ret
  exact ⟨rfl, rfl⟩
def IdxP (l : List ByteArray) (w : World) (e : Ending) (w' : World) : Prop := ∃ r : Int, e = .returned (.int .i64 r) ∧ w = w' ∧ decide (0 ≤ r) = !trB l ∧ -1 ≤ r ∧ r ≤ 33554432
set_option maxHeartbeats 1000000 in
set_option maxRecDepth 100000 in
theorem IndexFunc_any (A : Option Addr) (l : List ByteArray) (n c : Nat) (w : World) (hn : l.length = n) (hm : n ≤ 33554432) (hl : SW w A l) (hs : ∀ x ∈ l, x.size ≤ 16777216) :
    Calls Tryz.prog 110 #[.slice A n c, .func (.func 62) #[] #[]] w (IdxP l w) := by
  have HN := Lib.hid hn
  have HL := Lib.hid hl
  have HS := Lib.hid hs
  clear hn hl hs
  go_enter Tryz.func110, Tryz.ntmps110
  go_wp2_with fail
  go_loopw [8] (fun iv wr => ∃ i : Nat, i ≤ n ∧ iv = .int .i64 i ∧ w = wr ∧ trN l i = true) (fun iv _ => n - (intOf iv).toNat)
  case atStart => exact ⟨0, Nat.zero_le _, rfl, rfl, rfl⟩
  case round =>
    obtain ⟨i, hi, rfl, rfl, htr⟩ := hrel
    have HT := Lib.hid htr
    clear htr
    by_cases hil : i < n
    · obtain ⟨x, b, o, hx, rfl, hbl, c0⟩ := HL.out.at (k := i) (by have := HN.out; omega)
      have hxs := HS.out x (List.mem_of_getElem? hx)
      cases he : eB x
      · have HG := Lib.hid (trN_yes hx he HT.out)
        have HE := Lib.hid he
        clear hx he
        go_wp2_with fail
        refine (endsWithBlank_any x _ hxs).mono ?_
        rintro e w2 ⟨rfl, rfl⟩
        rw [HE.out]
        go_wp2_with fail
        go_roundw
        case rel => exact ⟨i + 1, by omega, by go_num, trivial, HG.out⟩
        case measure => simp [intOf]; omega
      · have HG := Lib.hid (trB_no hx he)
        have HE := Lib.hid he
        clear hx he
        go_wp2_with fail
        refine (endsWithBlank_any x _ hxs).mono ?_
        rintro e w2 ⟨rfl, rfl⟩
        rw [HE.out]
        go_wp2_with fail
        go_ret
        exact ⟨i, rfl, rfl, by rw [HG.out]; simp, by omega, by omega⟩
    · obtain rfl : i = n := by omega
      have e := trN_all l HN.out
      rw [HT.out] at e
      have HE := Lib.hid e
      clear e
      go_wp2_with fail
      go_ret
      exact ⟨-1, rfl, rfl, by rw [← HE.out]; rfl, by omega, by omega⟩
set_option maxHeartbeats 1000000 in
set_option maxRecDepth 100000 in
theorem TrailOk_any (s : ByteArray) (w : World) (hs : s.size ≤ 16777216) :
    Calls Tryz.prog 23 #[.string s] w fun e w' => e = .returned (.bool (trB (lns s))) ∧ Below w.heap.size w w' := by
  have hlen := lns_len s
  go_enter Tryz.func23, Tryz.ntmps23
  go_wp2_with fail
  refine (linesOf_any s _ (by omega)).mono ?_
  rintro e w1 ⟨A, c, rfl, hsw, hlo, hb⟩
  have HB := Lib.hid hb
  have HSZ := Lib.hid (fun x (hx : x ∈ lns s) => lns_size hx)
  clear hb hlo
  go_wp2_with fail
  go_enter Tryz.func60, Tryz.ntmps60
  go_wp2_with fail
  refine (IndexFunc_any A (lns s) _ c _ rfl (by omega) hsw (fun x hx => by have := HSZ.out x hx; omega)).mono ?_
  rintro e w2 ⟨r, rfl, rfl, hr, h1, h2⟩
  have HR := Lib.hid (show (!decide (0 ≤ r)) = trB (lns s) by rw [hr]; simp)
  clear hr
  go_wp2_with fail
  go_ret
  exact ⟨by rw [← HR.out]; rfl, HB.out⟩
/-- the greatest of the first i sizes. -/
def wdN (l : List ByteArray) : Nat → Nat
  | 0 => 0
  | i + 1 => match l[i]? with | some x => max (wdN l i) x.size | none => wdN l i
def wdL (l : List ByteArray) : Int := (wdN l l.length : Int)
theorem wdN_at {l : List ByteArray} {i : Nat} {x : ByteArray} (h : l[i]? = some x) : wdN l (i + 1) = max (wdN l i) x.size := by simp only [wdN, h]
end Go.Proofs.YthjkgbcomjiejadGreatDoor
