/-
  SameLexes on both sides.
-/
import Derived.Test.YthjkgbcomjiejaaDoorLl33
import Derived.Test.YthjkgbcomjiejaaDoorLl19
namespace Go.Proofs.YthjkgbcomjiejaaDoor
open Go.RowKit
set_option linter.unusedVariables false

/-- Kind and Text are the same. -/
def sqB (x y : Lx) : Bool := x.k == y.k && x.s.toList == y.s.toList
def smN (l m : List Lx) : Nat → Bool
  | 0 => true
  | i + 1 => smN l m i && (match l[i]?, m[i]? with | some x, some y => sqB x y | _, _ => true)
theorem smN_succ {l m : List Lx} {i : Nat} {x y : Lx} (h1 : l[i]? = some x) (h2 : m[i]? = some y) : smN l m (i + 1) = (smN l m i && sqB x y) := by simp only [smN, h1, h2]
theorem smN_mono {l m : List Lx} {i j : Nat} (hij : i ≤ j) (h : smN l m j = true) : smN l m i = true := by
  induction hij with
  | refl => exact h
  | step _ ih => exact ih (by simp only [smN, Bool.and_eq_true] at h; exact h.1)
theorem smN_false {l m : List Lx} {i j : Nat} (hij : i ≤ j) (h : smN l m i = false) : smN l m j = false := by
  cases hj : smN l m j
  · rfl
  · rw [smN_mono hij hj] at h; exact h
def smB (l m : List Lx) : Bool := decide (l.length = m.length) && smN l m l.length

set_option maxHeartbeats 400000 in
theorem sameLexeme_any (x y : Lx) (w : World) :
    Calls Tryd.prog 21 #[.agg #[.int .i64 x.k, .string x.s, .int .i64 x.a], .agg #[.int .i64 y.k, .string y.s, .int .i64 y.a]] w fun e w' => e = .returned (.bool (sqB x y)) ∧ Below w.heap.size w w' := by
  cases h1 : (x.k == y.k) <;> cases h2 : (x.s.toList == y.s.toList)
  all_goals
    have hI := Lib.hid (show sqB x y = _ from by rw [sqB, h1, h2])
    go_enter Tryd.func21, Tryd.ntmps21
    go_wp2
    go_ret
    rw [hI.out]
    exact ⟨rfl, ((Below.refl _ _).alloc (Nat.le_refl _) _).alloc (by simp) _⟩
set_option maxHeartbeats 1000000 in
set_option maxRecDepth 100000 in
theorem EqualFunc_any (A B : Option Addr) (l m : List Lx) (n c n2 c2 : Nat) (w : World) (hn : l.length = n) (hn2 : m.length = n2) (hm : n ≤ 2097152) (hm2 : n2 ≤ 2097152) (hl : XS w A l) (hr : XS w B m) :
    Calls Tryd.prog 20 #[.slice A n c, .slice B n2 c2, .func (.func 21) #[] #[]] w fun e w' => e = .returned (.bool (smB l m)) ∧ Below w.heap.size w w' := by
  have HN := Lib.hid hn
  have HN2 := Lib.hid hn2
  clear hn hn2
  by_cases he : n = n2
  · subst he
    go_enter Tryd.func20, Tryd.ntmps20
    go_wp2
    go_loopw [17] (fun i wr => ∃ k : Nat, k ≤ n ∧ i = .int .i64 k ∧ smN l m k = true ∧ Below w.heap.size w wr) (fun i _ => n - (intOf i).toNat)
    case atStart => exact ⟨0, Nat.zero_le _, rfl, rfl, Below.refl _ _⟩
    case round =>
      obtain ⟨k, hk, rfl, hs, hb⟩ := hrel
      by_cases hkl : k < n
      · obtain ⟨t, b, o, ht, rfl, hbl, hc⟩ := hl.all (k := k) (by have := HN.out; omega)
        obtain ⟨u, b2, o2, hu, rfl, hbl2, hc2⟩ := hr.all (k := k) (by have := HN2.out; omega)
        obtain ⟨hbl', c0, c1, c2⟩ := XS.get (RS.below hl hb) ht
        obtain ⟨hbl2', d0, d1, d2⟩ := XS.get (RS.below hr hb) hu
        have HS := Lib.hid (show smN l m (k + 1) = sqB t u by rw [smN_succ ht hu, hs]; rfl)
        have HB := Lib.hid hb
        clear ht hu hc hc2 hs hb
        go_wp2_with fail
        refine (sameLexeme_any t u _).mono ?_
        rintro e w2 ⟨rfl, hb2⟩
        have HB2 := Lib.hid ((HB.out.alloc (by have := HB.out.size; omega) _).alloc (by have := HB.out.size; simp; omega) _ |>.trans (hb2.mono (by have := HB.out.size; simp; omega)))
        clear hb2 c0 c1 c2 d0 d1 d2
        cases h1 : sqB t u
        · have HE := Lib.hid (show smB l m = false by rw [smB, smN_false (i := k + 1) (by have := HN.out; omega) (by rw [HS.out, h1]), Bool.and_false])
          go_wp2
          go_ret
          rw [HE.out]
          exact ⟨rfl, HB2.out⟩
        · have HE := Lib.hid (show smN l m (k + 1) = true by rw [HS.out, h1])
          go_wp2
          go_roundw
          case rel => exact ⟨k + 1, by omega, by go_num, HE.out, HB2.out⟩
          case measure => simp [intOf]; omega
      · have HE := Lib.hid (show smB l m = true by
          have e1 := HN.out; have e2 := HN2.out
          obtain rfl : k = l.length := by omega
          rw [smB, hs, decide_eq_true (by omega)]; rfl)
        clear hs
        go_wp2
        go_ret
        rw [HE.out]
        exact ⟨rfl, hb⟩
  · have HE := Lib.hid (show smB l m = false by have e1 := HN.out; have e2 := HN2.out; rw [smB, decide_eq_false (by omega), Bool.false_and])
    have b1 : ((n : Int) == (n2 : Int)) = false := by simp; omega
    have b2 : ((n : Int) != (n2 : Int)) = true := by simp; omega
    clear he
    go_enter Tryd.func20, Tryd.ntmps20
    go_wp2
    go_ret
    rw [HE.out]
    exact ⟨rfl, Below.refl _ _⟩
set_option maxHeartbeats 1000000 in
set_option maxRecDepth 100000 in
theorem SameLexes_any (A B : Option Addr) (l m : List Lx) (n c n2 c2 : Nat) (w : World) (hn : l.length = n) (hn2 : m.length = n2) (hm : n ≤ 2097152) (hm2 : n2 ≤ 2097152) (hl : XS w A l) (hr : XS w B m) :
    Calls Tryd.prog 8 #[.slice A n c, .slice B n2 c2] w fun e w' => e = .returned (.bool (smB l m)) ∧ Below w.heap.size w w' := by
  have HN := Lib.hid hn
  have HN2 := Lib.hid hn2
  clear hn hn2
  go_enter Tryd.func8, Tryd.ntmps8
  go_wp2_with fail
  refine (EqualFunc_any A B l m n c n2 c2 w HN.out HN2.out hm hm2 hl hr).mono ?_
  rintro e w2 ⟨rfl, hb⟩
  have HB := Lib.hid hb
  clear hb
  go_wp2
  go_ret
  exact ⟨rfl, HB.out⟩
end Go.Proofs.YthjkgbcomjiejaaDoor
