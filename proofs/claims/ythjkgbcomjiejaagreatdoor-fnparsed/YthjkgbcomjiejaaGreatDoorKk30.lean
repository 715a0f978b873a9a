/-
  Whether what hangs on a branch is what its kind asks for; a list planted.
-/
import Derived.Test.YthjkgbcomjiejaaGreatDoorKk29
namespace Go.Proofs.YthjkgbcomjiejaaGreatDoor
open Go.RowKit
set_option linter.unusedVariables false

theorem plainN_step {l : List Nd} {ks : List Nat} {j x : Nat} (h : ks[j]? = some x) : plainN l (ks.take (j + 1)) = plainN l (ks.take j) + (if knd l (x + 1) = 2 then 0 else 1) := by
  unfold plainN
  rw [List.take_add_one, h, List.countP_append]
  by_cases hk : knd l (x + 1) = 2 <;> simp [hk]
def evB (n : Nat) : Bool := decide (n % 2 = 0)
theorem evB_succ (n : Nat) : evB (n + 1) = !evB n := by
  unfold evB
  by_cases h : n % 2 = 0
  · simp [h]; omega
  · simp [h]; omega
set_option maxHeartbeats 1000000 in
theorem even_any {w : World} {B k : Nat} {l : List Nd} {ps : Nat → Nat} {vs : Nat → Value} (h : Fo w B l k ps vs) (i : Nat) (hi : i ≤ k) (h200 : k ≤ 1000) :
    Calls Tryz.prog 92 #[ptr (ps i)] w fun e w' => e = .returned (.bool (evB (plainN l (kidsN l i k)))) ∧ w = w' := by
  have H := Lib.hid h
  clear h
  obtain ⟨A, c, hv, hkid⟩ := H.out.kid hi
  have hcell := H.out.cells hi
  rw [hv] at hcell
  obtain ⟨_, _, _, _, _, c5, cl⟩ := hcell
  have hlen := kidsN_len l i k
  obtain ⟨ks, hks⟩ : ∃ ks, kidsN l i k = ks := ⟨_, rfl⟩
  have HM := Lib.hid (show ∀ x ∈ ks, x < k from fun x hx => (kidsN_mem (by rw [hks]; exact hx)).1)
  rw [hks] at hkid c5 hlen ⊢
  have HKID := Lib.hid hkid
  clear hkid hks hv
  unfold ptr
  go_enter Tryz.func92, Tryz.ntmps92
  go_wp2
  clear c5 cl
  go_loopw [3, 11] (fun ev iv wr => ∃ j : Nat, j ≤ ks.length ∧ iv = .int .i64 j ∧ ev = .bool (evB (plainN l (ks.take j))) ∧ wr = w) (fun _ iv _ => ks.length - (intOf iv).toNat)
  case atStart => exact ⟨0, Nat.zero_le _, rfl, rfl, rfl⟩
  case round =>
    obtain ⟨j, hj, rfl, rfl, rfl⟩ := hrel
    by_cases hjl : j < ks.length
    · have hx := List.getElem?_eq_getElem hjl
      obtain ⟨x, hx'⟩ : ∃ x, ks[j] = x := ⟨_, rfl⟩
      rw [hx'] at hx
      obtain ⟨g, rfl, hgl, cg⟩ := HKID.out j x hx
      have hxk := HM.out x (List.mem_of_getElem? hx)
      obtain ⟨_, d1, _, _, _, _, dl⟩ := H.out.cells (show x + 1 ≤ k by omega)
      have HST := Lib.hid (plainN_step (l := l) hx)
      unfold ptr at cg
      clear hx hx'
      by_cases h2 : knd l (x + 1) = 2
      · have HE := Lib.hid (show evB (plainN l (ks.take (j + 1))) = evB (plainN l (ks.take j)) by rw [HST.out, if_pos h2]; rfl)
        rw [h2] at d1
        go_wp2
        go_roundw
        case rel => exact ⟨j + 1, by omega, by go_num, by rw [HE.out], trivial⟩
        case measure => simp [intOf]; omega
      · have HE := Lib.hid (show evB (plainN l (ks.take (j + 1))) = !evB (plainN l (ks.take j)) by rw [HST.out, if_neg h2, evB_succ])
        have b1 : (knd l (x + 1) == 2) = false := by simpa using h2
        have b2 : (knd l (x + 1) != 2) = true := by simpa using h2
        clear h2
        go_wp2
        go_roundw
        case rel => exact ⟨j + 1, by omega, by go_num, by rw [HE.out], trivial⟩
        case measure => simp [intOf]; omega
    · have e : ks.take j = ks := List.take_of_length_le (by omega)
      rw [e]
      go_wp2
      go_ret
      exact ⟨rfl, rfl⟩
set_option maxHeartbeats 1000000 in
theorem whole_any {w : World} {B k : Nat} {l : List Nd} {ps : Nat → Nat} {vs : Nat → Value} (h : Fo w B l k ps vs) (i : Nat) (hi : i ≤ k) (h200 : k ≤ 1000) :
    Calls Tryz.prog 72 #[ptr (ps i)] w fun e w' => e = .returned (.bool (whl l i k)) ∧ w = w' := by
  have H := Lib.hid h
  clear h
  obtain ⟨A, c, hv, hkid⟩ := H.out.kid hi
  have hcell := H.out.cells hi
  rw [hv] at hcell
  obtain ⟨_, c1, _, _, _, c5, cl⟩ := hcell
  have hlen := kidsN_len l i k
  unfold ptr
  by_cases h6 : knd l i = 6
  · obtain ⟨ks, hks⟩ : ∃ ks, kidsN l i k = ks := ⟨_, rfl⟩
    have HM := Lib.hid (show ∀ x ∈ ks, x < k from fun x hx => (kidsN_mem (by rw [hks]; exact hx)).1)
    have HI := Lib.hid (show whl l i k = (decide (ks.length = 1) && decide (plainN l ks = 1)) by unfold whl; rw [if_pos h6, hks])
    rw [hks] at hkid c5 hlen
    rw [h6] at c1
    clear hks hv h6
    by_cases h1 : ks.length = 1
    · match ks, h1 with
      | [x], _ =>
        obtain ⟨g, rfl, hgl, cg⟩ := hkid 0 x rfl
        have hxk := HM.out x (by simp)
        obtain ⟨_, d1, _, _, _, _, dl⟩ := H.out.cells (show x + 1 ≤ k by omega)
        unfold ptr at cg
        by_cases h2 : knd l (x + 1) = 2
        · have HE := Lib.hid (show whl l i k = false by rw [HI.out]; simp [plainN, h2])
          rw [h2] at d1
          clear hkid
          simp only [List.length_cons, List.length_nil, Nat.zero_add] at c5
          go_enter Tryz.func72, Tryz.ntmps72
          go_wp2
          go_ret
          rw [HE.out]
          exact ⟨rfl, rfl⟩
        · have HE := Lib.hid (show whl l i k = true by rw [HI.out]; simp [plainN, h2])
          have b1 : (knd l (x + 1) == 2) = false := by simpa using h2
          have b2 : (knd l (x + 1) != 2) = true := by simpa using h2
          clear hkid h2
          simp only [List.length_cons, List.length_nil, Nat.zero_add] at c5
          go_enter Tryz.func72, Tryz.ntmps72
          go_wp2
          go_ret
          rw [HE.out]
          exact ⟨rfl, rfl⟩
    · have HE := Lib.hid (show whl l i k = false by rw [HI.out]; simp [h1])
      have b1 : ((ks.length : Int) == 1) = false := by simp; omega
      clear hkid h1
      go_enter Tryz.func72, Tryz.ntmps72
      go_wp2
      go_ret
      rw [HE.out]
      exact ⟨rfl, rfl⟩
  · have b6 : (knd l i == 6) = false := by simpa using h6
    by_cases h5 : knd l i = 5
    · have HI := Lib.hid (show whl l i k = evB (plainN l (kidsN l i k)) by unfold whl; rw [if_neg h6, if_pos h5]; rfl)
      rw [h5] at c1 b6
      clear h5 h6 hkid c5
      go_enter Tryz.func72, Tryz.ntmps72
      go_wp2_with fail
      refine (even_any H.out i hi h200).mono ?_
      rintro e w' ⟨rfl, rfl⟩
      go_wp2
      go_ret
      rw [HI.out]
      exact ⟨rfl, rfl⟩
    · have HI := Lib.hid (show whl l i k = true by unfold whl; rw [if_neg h6, if_neg h5])
      have b5 : (knd l i == 5) = false := by simpa using h5
      clear h5 h6 hkid c5
      go_enter Tryz.func72, Tryz.ntmps72
      go_wp2
      go_ret
      rw [HI.out]
      exact ⟨rfl, rfl⟩
end Go.Proofs.YthjkgbcomjiejaaGreatDoor
