/-
  StyleOk and DefaultStyle on both sides, and the laws' helpers over styles.
-/
import Derived.Test.YtlcplgfjicifeaaGreatDoorQt02
import Derived.Test.YtlcplgfjicifeaaGreatDoorQt22
import Derived.Test.YtlcplgfjicifeaaGreatDoorQt01
namespace Go.Proofs.YtlcplgfjicifeaaGreatDoor
open Go.RowKit
set_option linter.unusedVariables false

/-- a style's five cells in a block of one's own. -/
def SyAt (w : World) (b : Nat) (s : Sy) : Prop :=
  w.cell? ⟨b, 0, none⟩ = some (.int .i64 s.r) ∧ w.cell? ⟨b, 1, none⟩ = some (.int .i64 s.q) ∧ w.cell? ⟨b, 2, none⟩ = some (.int .i64 s.c) ∧ w.cell? ⟨b, 3, none⟩ = some (.int .i64 s.h) ∧ w.cell? ⟨b, 4, none⟩ = some (.int .i64 s.g) ∧ b < w.heap.size
theorem SyAt.new (w : World) (s : Sy) (t : TypeId) : SyAt (w.alloc (.cells #[.int .i64 s.r, .int .i64 s.q, .int .i64 s.c, .int .i64 s.h, .int .i64 s.g] t)) w.heap.size s := by
  refine ⟨?_, ?_, ?_, ?_, ?_, ?_⟩ <;> simp
theorem SyAt.below {w w' : World} {b : Nat} {s : Sy} (h : SyAt w b s) (hb : Below w.heap.size w w') : SyAt w' b s := by
  obtain ⟨h0, h1, h2, h3, h4, h5⟩ := h
  exact ⟨(hb.cell (p := ⟨b, 0, none⟩) h5).trans h0, (hb.cell (p := ⟨b, 1, none⟩) h5).trans h1, (hb.cell (p := ⟨b, 2, none⟩) h5).trans h2, (hb.cell (p := ⟨b, 3, none⟩) h5).trans h3, (hb.cell (p := ⟨b, 4, none⟩) h5).trans h4, Nat.lt_of_lt_of_le h5 hb.size⟩
set_option maxHeartbeats 400000 in
theorem toStyle_any (s : Sy) (w : World) :
    Calls Tryz.prog 15 #[s.val] w fun e w' => e = .returned s.val ∧ Below w.heap.size w w' := by
  unfold Sy.val
  go_enter Tryz.func15, Tryz.ntmps15
  go_wp2
  refine bodyPost_ret (v := .agg #[.int .i64 s.r, .int .i64 s.q, .int .i64 s.c, .int .i64 s.h, .int .i64 s.g]) (by simp [results, Tryz.results15, go_sem]) rfl ⟨rfl, ?_⟩
  exact (((Below.refl _ _).alloc (Nat.le_refl _) _).alloc (by simp) _).alloc (by simp; omega) _
set_option maxHeartbeats 1000000 in
theorem sStyleOk_any (s : Sy) (w : World) :
    Calls Tryz.prog 27 #[s.val] w fun e w' => e = .returned (.bool s.ok) ∧ Below w.heap.size w w' := by
  unfold Sy.val
  have HI := Lib.hid (show s.ok = (inB s.r 0 3 && (inB s.q 0 3 && (inB s.c 0 3 && (inB s.h 0 3 && inB s.g 0 1)))) from rfl)
  have hb := (Below.refl w.heap.size w).alloc (Nat.le_refl _) (.cells #[.int .i64 s.r, .int .i64 s.q, .int .i64 s.c, .int .i64 s.h, .int .i64 s.g] 29)
  have HB := Lib.hid hb
  clear hb
  go_enter Tryz.func27, Tryz.ntmps27
  go_wp2_with fail
  refine (l01In_any _ _ _ _).mono ?_
  rintro e w1 ⟨rfl, rfl⟩
  cases h0 : inB s.r 0 3
  · rw [h0] at HI
    simp only [Bool.false_and] at HI
    clear h0
    go_wp2
    go_ret
    rw [HI.out]
    exact ⟨rfl, HB.out⟩
  rw [h0] at HI
  clear h0
  go_wp2_with fail
  refine (l01In_any _ _ _ _).mono ?_
  rintro e w1 ⟨rfl, rfl⟩
  cases h1 : inB s.q 0 3
  · rw [h1] at HI
    simp only [Bool.false_and, Bool.and_false] at HI
    clear h1
    go_wp2
    go_ret
    rw [HI.out]
    exact ⟨rfl, HB.out⟩
  rw [h1] at HI
  clear h1
  go_wp2_with fail
  refine (l01In_any _ _ _ _).mono ?_
  rintro e w1 ⟨rfl, rfl⟩
  cases h2 : inB s.c 0 3
  · rw [h2] at HI
    simp only [Bool.false_and, Bool.and_false] at HI
    clear h2
    go_wp2
    go_ret
    rw [HI.out]
    exact ⟨rfl, HB.out⟩
  rw [h2] at HI
  clear h2
  go_wp2_with fail
  refine (l01In_any _ _ _ _).mono ?_
  rintro e w1 ⟨rfl, rfl⟩
  cases h3 : inB s.h 0 3
  · rw [h3] at HI
    simp only [Bool.false_and, Bool.and_false] at HI
    clear h3
    go_wp2
    go_ret
    rw [HI.out]
    exact ⟨rfl, HB.out⟩
  rw [h3] at HI
  clear h3
  go_wp2_with fail
  refine (l01In_any _ _ _ _).mono ?_
  rintro e w1 ⟨rfl, rfl⟩
  go_wp2
  go_ret
  rw [HI.out]
  exact ⟨rfl, HB.out⟩
/-- the first k of the four numbers are of 0 .. 3. -/
def okF (s : Sy) (k : Nat) : Bool := (s.vs.take k).all (fun x => inB x 0 3)
theorem okF_no {s : Sy} {k : Nat} {x : Int} (h : s.vs[k]? = some x) (hk : k < 4) (hx : inB x 0 3 = false) : s.ok = false := by
  match k, hk with
  | 0, _ => simp [Sy.vs] at h; subst h; simp [Sy.ok, hx]
  | 1, _ => simp [Sy.vs] at h; subst h; simp [Sy.ok, hx]
  | 2, _ => simp [Sy.vs] at h; subst h; simp [Sy.ok, hx]
  | 3, _ => simp [Sy.vs] at h; subst h; simp [Sy.ok, hx]
theorem okF_all {s : Sy} (h : okF s 4 = true) : s.ok = inB s.g 0 1 := by
  simp only [okF, Sy.vs, List.take_succ_cons, List.take_zero, List.all_cons, List.all_nil, Bool.and_true, Bool.and_eq_true] at h
  simp [Sy.ok, h]
set_option maxHeartbeats 1000000 in
set_option maxRecDepth 100000 in
theorem StyleOk_any (s : Sy) (w : World) :
    Calls Tryz.prog 69 #[s.val] w fun e w' => e = .returned (.bool s.ok) ∧ Below w.heap.size w w' := by
  unfold Sy.val
  have hb := ((Below.refl w.heap.size w).alloc (Nat.le_refl _) (.cells #[.int .i64 s.r, .int .i64 s.q, .int .i64 s.c, .int .i64 s.h, .int .i64 s.g] 29)).alloc (by simp) (.cells #[.int .i64 s.r, .int .i64 s.q, .int .i64 s.c, .int .i64 s.h] 3)
  have HK := Lib.hid (show BlkL ((w.alloc (.cells #[.int .i64 s.r, .int .i64 s.q, .int .i64 s.c, .int .i64 s.h, .int .i64 s.g] 29)).alloc (.cells #[.int .i64 s.r, .int .i64 s.q, .int .i64 s.c, .int .i64 s.h] 3)) (w.heap.size + 1) 3 [.int .i64 s.r, .int .i64 s.q, .int .i64 s.c, .int .i64 s.h] by
    have := BlkL.new (w.alloc (.cells #[.int .i64 s.r, .int .i64 s.q, .int .i64 s.c, .int .i64 s.h, .int .i64 s.g] 29)) 3 [.int .i64 s.r, .int .i64 s.q, .int .i64 s.c, .int .i64 s.h]
    simpa using this)
  have HB := Lib.hid hb
  clear hb
  go_enter Tryz.func69, Tryz.ntmps69
  go_wp2
  have hg : w.heap.size < ((w.alloc (.cells #[.int .i64 s.r, .int .i64 s.q, .int .i64 s.c, .int .i64 s.h, .int .i64 s.g] 29)).alloc (.cells #[.int .i64 s.r, .int .i64 s.q, .int .i64 s.c, .int .i64 s.h] 3)).heap.size := by simp; omega
  have h4 : ((w.alloc (.cells #[.int .i64 s.r, .int .i64 s.q, .int .i64 s.c, .int .i64 s.h, .int .i64 s.g] 29)).alloc (.cells #[.int .i64 s.r, .int .i64 s.q, .int .i64 s.c, .int .i64 s.h] 3)).cell? ⟨w.heap.size, 4, none⟩ = some (.int .i64 s.g) := by
    simp
  generalize ((w.alloc (.cells #[.int .i64 s.r, .int .i64 s.q, .int .i64 s.c, .int .i64 s.h, .int .i64 s.g] 29)).alloc (.cells #[.int .i64 s.r, .int .i64 s.q, .int .i64 s.c, .int .i64 s.h] 3)) = W1 at *
  go_loopw [15] (fun iv wr => ∃ k : Nat, k ≤ 4 ∧ iv = .int .i64 k ∧ okF s k = true ∧ wr = W1) (fun iv _ => 4 - (intOf iv).toNat)
  case atStart => exact ⟨0, Nat.zero_le _, rfl, rfl, rfl⟩
  case round =>
    obtain ⟨k, hk, rfl, hok, rfl⟩ := hrel
    by_cases hlt : k < 4
    · obtain ⟨x, hx, hc⟩ : ∃ x, s.vs[k]? = some x ∧ wr.cell? ⟨w.heap.size + 1, k, none⟩ = some (.int .i64 x) := by
        refine ⟨(s.vs[k]?).getD 0, ?_, ?_⟩
        · match k, hlt with
          | 0, _ => rfl
          | 1, _ => rfl
          | 2, _ => rfl
          | 3, _ => rfl
        · rw [HK.out.cell]
          match k, hlt with
          | 0, _ => rfl
          | 1, _ => rfl
          | 2, _ => rfl
          | 3, _ => rfl
      have HX := Lib.hid hx
      have HOK := Lib.hid hok
      clear hx hok
      go_wp2_with fail
      refine (within_any _ _ _ _).mono ?_
      rintro e w1 ⟨rfl, rfl⟩
      cases hxb : inB x 0 3
      · have HI := Lib.hid (okF_no HX.out hlt hxb)
        clear hxb
        go_wp2
        go_ret
        rw [HI.out]
        exact ⟨rfl, HB.out⟩
      · have HI := Lib.hid (show okF s (k + 1) = true by
          have h1 := HOK.out
          unfold okF at h1 ⊢
          rw [List.take_add_one, HX.out, List.all_append, h1]
          simp [hxb])
        clear hxb
        go_wp2
        go_roundw
        case rel => exact ⟨k + 1, by omega, by go_num, HI.out, trivial⟩
        case measure => simp [intOf]; omega
    · obtain rfl : k = 4 := by omega
      have HI := Lib.hid (okF_all hok)
      clear hok
      go_wp2_with fail
      refine (within_any _ _ _ _).mono ?_
      rintro e w1 ⟨rfl, rfl⟩
      go_wp2
      go_ret
      rw [HI.out]
      exact ⟨rfl, HB.out⟩
def defS : Sy := ⟨2, 1, 1, 1, 0⟩
end Go.Proofs.YtlcplgfjicifeaaGreatDoor
