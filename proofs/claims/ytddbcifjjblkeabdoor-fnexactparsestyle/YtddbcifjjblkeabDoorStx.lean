/-
  StyleText on both sides.
-/
import Derived.Test.YtddbcifjjblkeabDoorJin
import Derived.Test.YtddbcifjjblkeabDoorSyk
import Derived.Test.YtddbcifjjblkeabDoorRws
import Derived.Laws.IdiomStrings
import Derived.IntWalk
namespace Go.Proofs.YtddbcifjjblkeabDoor
open Go.RowKit
set_option linter.unusedVariables false

def dgL (s : Sy) : List ByteArray := s.vs.map dgS
theorem dgL_len (s : Sy) : (dgL s).length = 5 := rfl
theorem dgL_at {s : Sy} {k : Nat} {x : Int} (h : s.vs[k]? = some x) : (dgL s)[k]? = some (dgS x) := by simp [dgL, h]
theorem dgL_size (s : Sy) : ∀ x ∈ dgL s, x.size ≤ 100000 := by
  intro x hx
  obtain ⟨k, _, rfl⟩ := List.mem_map.1 hx
  rw [dgS_size]
  decide
def stxT (s : Sy) : ByteArray := if s.ok = true then ⟨(jnN 32 (dgL s) 5).toArray⟩ else ByteArray.empty
theorem stxT_no {s : Sy} (h : s.ok = false) : stxT s = ByteArray.empty := if_neg (by rw [h]; decide)
theorem stxT_yes {s : Sy} (h : s.ok = true) : stxT s = ⟨(jnN 32 (dgL s) 5).toArray⟩ := if_pos h
theorem vs_bd {s : Sy} (h : s.ok = true) {k : Nat} {x : Int} (hx : s.vs[k]? = some x) : 0 ≤ x ∧ x ≤ 3 := by
  have h1 := Sy.ok_iff.1 h
  match k with
  | 0 => simp [Sy.vs] at hx; omega
  | 1 => simp [Sy.vs] at hx; omega
  | 2 => simp [Sy.vs] at hx; omega
  | 3 => simp [Sy.vs] at hx; omega
  | 4 => simp [Sy.vs] at hx; omega
  | k + 5 => simp [Sy.vs] at hx
set_option maxHeartbeats 400000 in
theorem Itoa_any (k : Int) (h0 : 0 ≤ k) (h1 : k ≤ 3) (w : World) :
    Calls Tryd.prog 15 #[.int .i64 k] w fun e w' => e = .returned (.string (dgS k)) ∧ w = w' := by
  obtain h | h | h | h : k = 0 ∨ k = 1 ∨ k = 2 ∨ k = 3 := by omega
  all_goals
    subst h
    go_enter Tryd.func15, Tryd.ntmps15
    go_wp2
    go_ret
    exact ⟨by kernel_rfl, rfl⟩
theorem convB (x : UInt8) (X : Int) (hx : (x.toNat : Int) = X) (w : World) :
    (convert 41 9 (.slice (some ⟨w.heap.size, 0, none⟩) 1 1)).run Tryd.prog (w.alloc (.cells #[.int .u8 X] 5)) = .ok (.string ⟨#[x]⟩) (w.alloc (.cells #[.int .u8 X] 5)) := by
  have h := run_convert_bytes_back (P := Tryd.prog) (w.alloc (.cells #[.int .u8 X] 5)) 41 9 5 ⟨w.heap.size, 0, none⟩ 1 [x] Tryd.underlying41 Tryd.underlying5 Tryd.underlying9 (by
    intro i hi
    have hi0 : i = 0 := by simpa using hi
    subst hi0
    subst hx
    simp [Addr.add])
  exact h
set_option maxHeartbeats 1000000 in
set_option maxRecDepth 100000 in
theorem l01Num_1 (w : World) : Calls Tryd.prog 13 #[.int .i64 1] w fun e w' => e = .returned (.string ⟨#[49]⟩) ∧ Below w.heap.size w w' := by
  have hcv := convB 49 49 rfl w
  have hap : (⟨#[49]⟩ : ByteArray) ++ ⟨#[]⟩ = ⟨#[49]⟩ := rfl
  go_enter Tryd.func13, Tryd.ntmps13
  go_wp2
  go_loopw [0, 3] (fun x o wr => (x = .int .i64 1 ∧ o = .string ⟨#[]⟩ ∧ wr = w) ∨ (x = .int .i64 0 ∧ o = .string ⟨#[49]⟩ ∧ Below w.heap.size w wr)) (fun x _ _ => (intOf x).toNat)
  case atStart => exact .inl ⟨rfl, rfl, rfl⟩
  case round =>
    rcases hrel with ⟨rfl, rfl, rfl⟩ | ⟨rfl, rfl, hb⟩
    · go_wp2
      go_roundw
      case rel => exact .inr ⟨by rfl, by rfl, (Below.refl _ _).alloc (Nat.le_refl _) _⟩
      case measure => simp [intOf]
    · go_wp2
      go_ret
      exact ⟨rfl, hb⟩
set_option maxHeartbeats 1000000 in
set_option maxRecDepth 100000 in
theorem l01Num_2 (w : World) : Calls Tryd.prog 13 #[.int .i64 2] w fun e w' => e = .returned (.string ⟨#[50]⟩) ∧ Below w.heap.size w w' := by
  have hcv := convB 50 50 rfl w
  have hap : (⟨#[50]⟩ : ByteArray) ++ ⟨#[]⟩ = ⟨#[50]⟩ := rfl
  go_enter Tryd.func13, Tryd.ntmps13
  go_wp2
  go_loopw [0, 3] (fun x o wr => (x = .int .i64 2 ∧ o = .string ⟨#[]⟩ ∧ wr = w) ∨ (x = .int .i64 0 ∧ o = .string ⟨#[50]⟩ ∧ Below w.heap.size w wr)) (fun x _ _ => (intOf x).toNat)
  case atStart => exact .inl ⟨rfl, rfl, rfl⟩
  case round =>
    rcases hrel with ⟨rfl, rfl, rfl⟩ | ⟨rfl, rfl, hb⟩
    · go_wp2
      go_roundw
      case rel => exact .inr ⟨by rfl, by rfl, (Below.refl _ _).alloc (Nat.le_refl _) _⟩
      case measure => simp [intOf]
    · go_wp2
      go_ret
      exact ⟨rfl, hb⟩
set_option maxHeartbeats 1000000 in
set_option maxRecDepth 100000 in
theorem l01Num_3 (w : World) : Calls Tryd.prog 13 #[.int .i64 3] w fun e w' => e = .returned (.string ⟨#[51]⟩) ∧ Below w.heap.size w w' := by
  have hcv := convB 51 51 rfl w
  have hap : (⟨#[51]⟩ : ByteArray) ++ ⟨#[]⟩ = ⟨#[51]⟩ := rfl
  go_enter Tryd.func13, Tryd.ntmps13
  go_wp2
  go_loopw [0, 3] (fun x o wr => (x = .int .i64 3 ∧ o = .string ⟨#[]⟩ ∧ wr = w) ∨ (x = .int .i64 0 ∧ o = .string ⟨#[51]⟩ ∧ Below w.heap.size w wr)) (fun x _ _ => (intOf x).toNat)
  case atStart => exact .inl ⟨rfl, rfl, rfl⟩
  case round =>
    rcases hrel with ⟨rfl, rfl, rfl⟩ | ⟨rfl, rfl, hb⟩
    · go_wp2
      go_roundw
      case rel => exact .inr ⟨by rfl, by rfl, (Below.refl _ _).alloc (Nat.le_refl _) _⟩
      case measure => simp [intOf]
    · go_wp2
      go_ret
      exact ⟨rfl, hb⟩
set_option maxHeartbeats 400000 in
theorem l01Num_0 (w : World) : Calls Tryd.prog 13 #[.int .i64 0] w fun e w' => e = .returned (.string ⟨#[48]⟩) ∧ Below w.heap.size w w' := by
  go_enter Tryd.func13, Tryd.ntmps13
  go_wp2
  go_ret
  exact ⟨rfl, Below.refl _ _⟩
theorem l01Num_any (k : Int) (h0 : 0 ≤ k) (h1 : k ≤ 3) (w : World) :
    Calls Tryd.prog 13 #[.int .i64 k] w fun e w' => e = .returned (.string (dgS k)) ∧ Below w.heap.size w w' := by
  obtain h | h | h | h : k = 0 ∨ k = 1 ∨ k = 2 ∨ k = 3 := by omega
  · subst h; exact l01Num_0 w
  · subst h; exact l01Num_1 w
  · subst h; exact l01Num_2 w
  · subst h; exact l01Num_3 w
theorem lit5 (w : World) (s : Sy) (t : TypeId) : BlkL (w.alloc (.cells #[.int .i64 s.r, .int .i64 s.q, .int .i64 s.c, .int .i64 s.h, .int .i64 s.g] t)) w.heap.size t (nums s.vs) := BlkL.new w t [.int .i64 s.r, .int .i64 s.q, .int .i64 s.c, .int .i64 s.h, .int .i64 s.g]
set_option maxHeartbeats 400000 in
theorem l08Values_any (s : Sy) (w : World) :
    Calls Tryd.prog 12 #[s.val] w fun e w' => ∃ g, e = .returned (.slice (some ⟨g, 0, none⟩) 5 5) ∧ BlkL w' g 3 (nums s.vs) ∧ Below w.heap.size w w' := by
  have h2 := Lib.hid (lit5 (w.alloc (.cells #[.int .i64 s.r, .int .i64 s.q, .int .i64 s.c, .int .i64 s.h, .int .i64 s.g] 26)) s 3)
  unfold Sy.val
  go_enter Tryd.func12, Tryd.ntmps12
  go_wp2
  go_ret
  have h3 := h2.out
  rw [show (w.alloc (.cells #[.int .i64 s.r, .int .i64 s.q, .int .i64 s.c, .int .i64 s.h, .int .i64 s.g] 26)).heap.size = w.heap.size + 1 by simp] at h3
  exact ⟨_, rfl, h3, ((Below.refl _ _).alloc (Nat.le_refl _) _).alloc (by simp) _⟩
set_option maxHeartbeats 1000000 in
set_option maxRecDepth 100000 in
theorem sStyleText_any (s : Sy) (w : World) :
    Calls Tryd.prog 5 #[s.val] w fun e w' => e = .returned (.tuple #[.string (stxT s), .bool s.ok]) ∧ Below w.heap.size w w' := by
  have hV := Lib.hid (l08Values_any s)
  have hO := Lib.hid (sStyleOk_any s)
  have hbA := (Below.refl w.heap.size w).alloc (Nat.le_refl _) (.cells #[.int .i64 s.r, .int .i64 s.q, .int .i64 s.c, .int .i64 s.h, .int .i64 s.g] 26)
  have hsA := SyAt.new w s 26
  unfold Sy.val at hV hO ⊢
  go_enter Tryd.func5, Tryd.ntmps5
  go_wp2_with fail
  refine (hO.out _).mono ?_
  rintro e w1 ⟨rfl, hb⟩
  have HB1 := Lib.hid (hbA.trans (hb.mono hbA.size))
  obtain ⟨c0, c1, c2, c3, c4, c5⟩ := hsA.below hb
  clear hb hbA hsA
  cases hs : s.ok
  · have HI := Lib.hid (stxT_no hs)
    have HF := Lib.hid hs
    clear hs
    go_wp2
    go_ret2
    rw [HI.out, HF.out]
    exact ⟨rfl, HB1.out⟩
  have HI := Lib.hid (stxT_yes hs)
  have HS := Lib.hid hs
  clear hs
  go_wp2_with fail
  refine (hV.out _).mono ?_
  rintro e w2 ⟨g, rfl, hk, hb⟩
  have HK := Lib.hid hk
  have HB2 := Lib.hid (HB1.out.trans (hb.mono HB1.out.size))
  clear hk hb c0 c1 c2 c3 c4 c5
  go_wp2
  go_loopw [4, 6] (fun o i wr => ∃ (k : Nat) (S : ByteArray), k ≤ 5 ∧ i = .int .i64 k ∧ o = .string S ∧ S.data.toList = jnN 32 (dgL s) k ∧ Below w2.heap.size w2 wr) (fun _ i _ => 5 - (intOf i).toNat)
  case atStart => exact ⟨0, ByteArray.empty, Nat.zero_le _, rfl, rfl, rfl, Below.refl _ _⟩
  case round =>
    obtain ⟨k, S, hk, rfl, rfl, hS, hb⟩ := hrel
    have HSS := Lib.hid hS
    have HB := Lib.hid hb
    have hsz : S.size ≤ 1000 := by
      have h3 : S.size = S.data.toList.length := Array.length_toList.symm
      have h4 : ∀ x ∈ dgL s, x.size ≤ 1 := by
        intro x hx
        obtain ⟨k, _, rfl⟩ := List.mem_map.1 hx
        rw [dgS_size]
        decide
      have h5 := (jnN_len (c := 32) h4 k (by rw [dgL_len]; exact hk)).1
      rw [← hS] at h5
      omega
    clear hS hb
    by_cases hlt : k < 5
    · obtain ⟨x, hx⟩ : ∃ x, s.vs[k]? = some x := ⟨_, List.getElem?_eq_getElem (show k < s.vs.length from hlt)⟩
      have hbd := vs_bd HS.out hx
      have hcx := ((HK.out.below HB.out HK.out.lt).cell k).trans (nums_at hx)
      have hdz := dgS_size x
      have hd := dgL_at hx
      cases k with
      | zero =>
        have HJ := Lib.hid (jnN_first (c := 32) hd)
        clear hx hd
        go_wp2_with fail
        refine (l01Num_any x hbd.1 hbd.2 _).mono ?_
        rintro e w3 ⟨rfl, hb3⟩
        have HB3 := Lib.hid (HB.out.trans (hb3.mono HB.out.size))
        clear hb3 hcx
        go_wp2
        go_roundw
        case rel => exact ⟨1, S ++ dgS x, by omega, by go_num, rfl, by rw [HJ.out]; have := HSS.out; simp [jnN] at this; simp [this], HB3.out⟩
        case measure => simp [intOf]
      | succ j =>
        have HJ := Lib.hid (jnN_next (c := 32) hd)
        have hz1 : (⟨#[32]⟩ : ByteArray).size = 1 := rfl
        clear hx hd
        go_wp2_with fail
        refine (l01Num_any x hbd.1 hbd.2 _).mono ?_
        rintro e w3 ⟨rfl, hb3⟩
        have HB3 := Lib.hid (HB.out.trans (hb3.mono HB.out.size))
        clear hb3 hcx
        go_wp2
        go_roundw
        case rel => exact ⟨j + 2, S ++ ⟨#[32]⟩ ++ dgS x, by omega, by go_num, rfl, by rw [HJ.out, ← HSS.out]; simp, HB3.out⟩
        case measure => simp [intOf] <;> omega
    · obtain rfl : k = 5 := by omega
      have HP := Lib.hid (show S = stxT s by
        rw [HI.out, ← HSS.out])
      go_wp2
      go_ret2
      rw [HP.out, HS.out]
      exact ⟨rfl, HB2.out.trans (HB.out.mono HB2.out.size)⟩
theorem infoStr : (Tryd.prog.info? 9).map (fun i => (i.zero, i.size, i.bytes)) = some (some (.string ByteArray.empty), 1, 16) := by kernel_rfl
theorem ownS_below {w w' : World} {B z n : Nat} {e : TypeId} {v : Value} {xs : List Value} (h : w.ownsRow B e z v n xs) (hb : Below w.heap.size w w') : w'.ownsRow B e z v n xs :=
  h.kept (row := none) ⟨hb.os, hb.tape, hb.output, hb.size, fun i hi _ => hb.block i hi⟩ (by cases v.ownBlock <;> simp)
theorem ownS_slice {w : World} {B z : Nat} {e : TypeId} {v : Value} {n : Nat} {xs : List Value} (h : w.ownsRow B e z v n xs) : ∃ A c, v = .slice A n c := by
  rcases h.2 with ⟨rfl, rfl⟩ | ⟨g, cap, cur, rfl, _⟩
  · exact ⟨none, 0, rfl⟩
  · exact ⟨_, _, rfl⟩
theorem one_str (s : ByteArray) : ∀ u ∈ [Value.string s], u.oneCell' = true := by
  intro u hu
  simp at hu
  subst hu
  rfl
def dgV (s : Sy) (k : Nat) : List Value := ((dgL s).take k).map Value.string
theorem dgV_succ {s : Sy} {k : Nat} {x : Int} (h : s.vs[k]? = some x) : dgV s (k + 1) = dgV s k ++ [.string (dgS x)] := by
  unfold dgV
  rw [List.take_add_one, dgL_at h]
  simp
set_option maxHeartbeats 1000000 in
set_option maxRecDepth 100000 in
theorem StyleText_any (s : Sy) (w : World) :
    Calls Tryd.prog 7 #[s.val] w fun e w' => e = .returned (.tuple #[.string (stxT s), .bool s.ok]) ∧ Below w.heap.size w w' := by
  obtain ⟨i0, hi0, hz0, hz1, hz2⟩ := info_parts infoStr
  have hO := Lib.hid (StyleOk_any s)
  have hbA := (Below.refl w.heap.size w).alloc (Nat.le_refl _) (.cells #[.int .i64 s.r, .int .i64 s.q, .int .i64 s.c, .int .i64 s.h, .int .i64 s.g] 26)
  have hsA := SyAt.new w s 26
  unfold Sy.val at hO ⊢
  go_enter Tryd.func7, Tryd.ntmps7
  go_wp2_with fail
  refine (hO.out _).mono ?_
  rintro e w1 ⟨rfl, hb⟩
  have HB1 := Lib.hid (hbA.trans (hb.mono hbA.size))
  obtain ⟨c0, c1, c2, c3, c4, c5⟩ := hsA.below hb
  clear hb hbA hsA
  cases hs : s.ok
  · have HI := Lib.hid (stxT_no hs)
    have HF := Lib.hid hs
    clear hs
    go_wp2
    go_ret2
    rw [HI.out, HF.out]
    exact ⟨rfl, HB1.out⟩
  have HI := Lib.hid (stxT_yes hs)
  have HS := Lib.hid hs
  clear hs
  have hk2 := lit5 w1 s 3
  have hb2 := (Below.refl w1.heap.size w1).alloc (Nat.le_refl _) (.cells #[.int .i64 s.r, .int .i64 s.q, .int .i64 s.c, .int .i64 s.h, .int .i64 s.g] 3)
  go_wp2
  have HK := Lib.hid hk2
  have HB2 := Lib.hid (HB1.out.trans (hb2.mono HB1.out.size))
  clear hk2 hb2
  change Code.wp _ _ _ _ (w1.alloc (.cells #[.int .i64 s.r, .int .i64 s.q, .int .i64 s.c, .int .i64 s.h, .int .i64 s.g] 3))
  generalize w1.alloc (.cells #[.int .i64 s.r, .int .i64 s.q, .int .i64 s.c, .int .i64 s.h, .int .i64 s.g] 3) = w2 at *
  go_loopw [4, 22] (fun v i wr => ∃ k : Nat, k ≤ 5 ∧ i = .int .i64 k ∧ wr.ownsRow w2.heap.size 9 1 v k (dgV s k) ∧ Below w2.heap.size w2 wr) (fun _ i _ => 5 - (intOf i).toNat)
  case atStart => exact ⟨0, Nat.zero_le _, rfl, ⟨rfl, .inl ⟨rfl, rfl⟩⟩, Below.refl _ _⟩
  case round =>
    obtain ⟨k, hk, rfl, hown, hb⟩ := hrel
    have HO := Lib.hid hown
    have HB := Lib.hid hb
    obtain ⟨Av, cv, hAv⟩ := ownS_slice hown
    subst hAv
    have hwz : w2.heap.size ≤ wr.heap.size := HB.out.size
    clear hown hb
    by_cases hlt : k < 5
    · obtain ⟨x, hx⟩ : ∃ x, s.vs[k]? = some x := ⟨_, List.getElem?_eq_getElem (show k < s.vs.length from hlt)⟩
      have hbd := vs_bd HS.out hx
      have hcx := ((HK.out.below HB.out HK.out.lt).cell k).trans (nums_at hx)
      have HST := Lib.hid (dgV_succ hx)
      have hS := BlkL.new wr 9 [.string (dgS x)]
      have hbS := (Below.refl wr.heap.size wr).alloc (Nat.le_refl _) (.cells #[.string (dgS x)] 9)
      have HOS := Lib.hid (ownS_below HO.out hbS)
      have HBS := Lib.hid (HB.out.trans (hbS.mono HB.out.size))
      have HSS := Lib.hid hS
      have hzS : w2.heap.size ≤ (wr.alloc (.cells #[.string (dgS x)] 9)).heap.size := HBS.out.size
      clear hx hS hbS
      go_wp2_with fail
      refine (Itoa_any x hbd.1 hbd.2 _).mono ?_
      rintro e w3 ⟨rfl, rfl⟩
      go_wp2_with (at_builtin; refine wpList_append_own_at _ rfl _ _ 37 rfl w2.heap.size 9 i0 (.string ByteArray.empty) 1 16 Tryd.underlying37 hi0 hz0 hz1 hz2 rfl (by decide) _ _ _ rfl HOS.out ⟨wr.heap.size, 0, none⟩ 1 1 [.string (dgS x)] rfl rfl (fun j u hj => by rw [Addr.add_lit, Nat.zero_add]; exact (HSS.out.cell j).trans hj) (one_str _) (by simp only [maxLen]; omega) (by omega) hzS ?_)
      intro v' w5 hown5 hgr5 _ _
      have HB5 := Lib.hid (HBS.out.grown hgr5 hzS (fun g hg => (HOS.out.lt g hg).1))
      obtain ⟨A5, c5, rfl⟩ := ownS_slice hown5
      have HO5 := Lib.hid hown5
      clear hown5 hgr5 HOS HBS HSS hcx
      go_wp2
      go_roundw
      case rel => exact ⟨k + 1, by omega, by go_num, by rw [HST.out]; exact HO5.out, HB5.out⟩
      case measure => simp [intOf] <;> omega
    · obtain rfl : k = 5 := by omega
      obtain ⟨g, cap, hA, hgl, hcap⟩ : ∃ g cap, (Value.slice Av 5 cv = .slice (some ⟨g, 0, none⟩) 5 cap) ∧ g < wr.heap.size ∧ 5 ≤ cap := by
        rcases HO.out.2 with ⟨_, h0⟩ | ⟨g, cap, cur, hv, _, hh, h1, _⟩
        · cases h0
        · exact ⟨g, cap, hv, (Array.getElem?_eq_some_iff.1 hh).1, h1⟩
      injection hA with hA1 _ hA2
      subst hA1 hA2
      have HCC := Lib.hid (show ∀ (j : Nat) (x : ByteArray), (dgL s)[j]? = some x → wr.cell? ⟨g, 0 + j, none⟩ = some (.string x) from fun j x hj => by
        have h5 := HO.out.cells (g := g) rfl j (.string x) (by unfold dgV; rw [List.take_of_length_le (by rw [dgL_len]; exact Nat.le_refl _)]; simp [hj])
        rwa [Addr.add_lit] at h5)
      go_wp2_with fail
      refine (Join_any 32 g 0 cv (dgL s) 5 wr (dgL_len s) (by omega) (by omega) (dgL_size s) hgl hcap HCC.out).mono ?_
      rintro e w6 ⟨rfl, hb6⟩
      have HB6 := Lib.hid (HB2.out.trans ((HB.out.trans (hb6.mono HB.out.size)).mono HB2.out.size))
      clear hb6
      go_wp2
      go_ret2
      rw [HI.out, HS.out]
      exact ⟨rfl, HB6.out⟩
end Go.Proofs.YtddbcifjjblkeabDoor
