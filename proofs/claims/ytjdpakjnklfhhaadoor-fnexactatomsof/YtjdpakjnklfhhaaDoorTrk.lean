/-
  AtomsOf on both sides.
-/
import Derived.Test.YtjdpakjnklfhhaaDoorTrj
import Derived.Test.YtjdpakjnklfhhaaDoorSsa
namespace Go.Proofs.YtjdpakjnklfhhaaDoor
open Go.RowKit
set_option linter.unusedVariables false

theorem infoS : (Tryd.prog.info? 9).map (fun i => (i.zero, i.size, i.bytes)) = some (some (.string ByteArray.empty), 1, 16) := by kernel_rfl
/-- the Texts of the atoms among the first k nodes. -/
def atN (l : List Nd) (k : Nat) : List ByteArray := ((l.take k).filter (fun x => x.k == 0)).map (fun x => x.s)
theorem atN_step {l : List Nd} {k : Nat} {x : Nd} (h : l[k]? = some x) : atN l (k + 1) = atN l k ++ (if x.k = 0 then [x.s] else []) := by
  unfold atN
  rw [List.take_add_one, h, List.filter_append, List.map_append]
  by_cases e : x.k = 0 <;> simp [e]
theorem atN_len (l : List Nd) (k : Nat) : (atN l k).length ≤ k := by
  unfold atN
  rw [List.length_map]
  have := List.length_filter_le (fun x : Nd => x.k == 0) (l.take k)
  simp at this
  omega
noncomputable def ats (l : List Nd) : List ByteArray := if treB l = true then atN l l.length else []
theorem ats_no {l : List Nd} (h : treB l = false) : ats l = [] := if_neg (by rw [h]; decide)
theorem ats_yes {l : List Nd} (h : treB l = true) : ats l = atN l l.length := if_pos h
theorem ats_le (l : List Nd) : (ats l).length ≤ 200 := by
  cases h : treB l
  · rw [ats_no h]; simp
  · rw [ats_yes h]; have := atN_len l l.length; have := (treB_ok h).len; omega
theorem str_one (s : ByteArray) : ∀ u ∈ [Value.string s], u.oneCell' = true := by
  intro u hu
  simp at hu
  subst hu
  rfl
theorem souts_nil (w w' : World) (hb : Below w.heap.size w w') : StrsOut w [] (.returned (.slice none 0 0)) w' := ⟨hb, none, 0, rfl, fun b hb => by simp at hb, .inl rfl⟩
set_option maxHeartbeats 1000000 in
set_option maxRecDepth 100000 in
theorem AtomsOf_out (A : Option Addr) (l : List Nd) (n c : Nat) (w : World) (hn : l.length = n) (hm : n ≤ 2097152) (hl : NS w A l) (hg : ErrV w) :
    Calls Tryd.prog 29 #[.slice A n c] w (StrsOut w (ats l)) := by
  obtain ⟨i0, hi0, hz0, hz1, hz2⟩ := info_parts infoS
  have HN := Lib.hid hn
  have HL := Lib.hid hl
  go_enter Tryd.func29, Tryd.ntmps29
  go_wp2_with fail
  refine (TreeOk_any A l n c w hn hm hl hg).mono ?_
  rintro e w1 ⟨rfl, hb⟩
  have HB1 := Lib.hid hb
  have HO1 := Lib.hid (show w1.ownsRow w.heap.size 9 1 (.slice none 0 0) 0 [] from ⟨rfl, .inl ⟨rfl, rfl⟩⟩)
  clear hb hl hg
  clear hn
  cases ht : treB l
  · have HI := Lib.hid (ats_no ht)
    clear ht
    go_wp2
    go_ret
    rw [HI.out]
    exact souts_nil _ _ HB1.out
  have HI := Lib.hid (show ats l = atN l n by rw [ats_yes ht, HN.out])
  have hlen := (treB_ok ht).len
  have hn200 : n ≤ 200 := by have := HN.out; omega
  clear ht hlen
  go_wp2
  go_loopw [3, 11] (fun v iv wr => ∃ k : Nat, k ≤ n ∧ iv = .int .i64 k ∧ wr.ownsRow w.heap.size 9 1 v (atN l k).length (fl fs (atN l k)) ∧ Below w.heap.size w wr) (fun _ iv _ => n - (intOf iv).toNat)
  case atStart => exact ⟨0, Nat.zero_le _, rfl, HO1.out, HB1.out⟩
  case round =>
    obtain ⟨k, hk, rfl, hown, hb⟩ := hrel
    clear HO1
    have HO := Lib.hid hown
    have HB := Lib.hid hb
    have hsz := hb.size
    obtain ⟨Av, cv, hAv⟩ := own_slice hown
    subst hAv
    have hal := atN_len l k
    clear hown hb
    by_cases hkl : k < n
    · obtain ⟨x, b, o, hx, rfl, hbl, _⟩ := HL.out.all (k := k) (by have := HN.out; omega)
      obtain ⟨hbl', c0, c1, c2⟩ := NS.get (HL.out.below HB.out) hx
      have HST := Lib.hid (atN_step hx)
      clear hx
      by_cases h0 : x.k = 0
      · have h0b : (x.k == 0) = true := by simpa using h0
        have HS1 := Lib.hid (show atN l (k + 1) = atN l k ++ [x.s] by rw [HST.out, if_pos h0])
        clear h0
        have hbW := (Below.refl wr.heap.size wr).alloc (Nat.le_refl _) (.cells #[.int .i64 x.d, .int .i64 x.k, .string x.s] 58)
        have hS := BlkL.new (wr.alloc (.cells #[.int .i64 x.d, .int .i64 x.k, .string x.s] 58)) 9 [.string x.s]
        have hb3 := hbW.alloc hbW.size (.cells #[.string x.s] 9)
        have HO3 := Lib.hid (own_below HO.out hb3)
        have HB3 := Lib.hid (HB.out.trans (hb3.mono hsz))
        rw [show (wr.alloc (.cells #[.int .i64 x.d, .int .i64 x.k, .string x.s] 58)).heap.size = wr.heap.size + 1 by simp] at hS
        have HS := Lib.hid hS
        have hz3 : w.heap.size ≤ ((wr.alloc (.cells #[.int .i64 x.d, .int .i64 x.k, .string x.s] 58)).alloc (.cells #[.string x.s] 9)).heap.size := HB3.out.size
        clear hS hb3 hbW
        go_wp2_with (at_builtin; refine wpList_append_own_at _ rfl _ _ 38 rfl w.heap.size 9 i0 (.string ByteArray.empty) 1 16 Tryd.underlying38 hi0 hz0 hz1 hz2 rfl (by decide) _ _ _ rfl HO3.out ⟨wr.heap.size + 1, 0, none⟩ 1 1 [.string x.s] rfl rfl (fun j u hj => by rw [Addr.add_lit, Nat.zero_add]; exact (HS.out.cell j).trans hj) (str_one _) (by simp only [maxLen]; omega) (by omega) hz3 ?_)
        intro v' w5 hown5 hgr5 _ _
        have HB5 := Lib.hid (HB3.out.grown hgr5 hz3 (fun g hg => (HO3.out.lt g hg).1))
        obtain ⟨A5, c5, rfl⟩ := own_slice hown5
        have HO5 := Lib.hid hown5
        clear hown5 hgr5 HO3 HB3 HS
        go_wp2
        go_roundw
        case rel => exact ⟨k + 1, by omega, by go_num, by rw [HS1.out, fl_append, List.length_append]; exact HO5.out, HB5.out⟩
        case measure => simp [intOf]; omega
      · have h0b : (x.k == 0) = false := by simpa using h0
        have HS1 := Lib.hid (show atN l (k + 1) = atN l k by rw [HST.out, if_neg h0, List.append_nil])
        clear h0
        go_wp2
        go_roundw
        case rel => exact ⟨k + 1, by omega, by go_num, by rw [HS1.out]; exact own_below HO.out ((Below.refl wr.heap.size wr).alloc (Nat.le_refl _) _), HB.out.alloc hsz _⟩
        case measure => simp [intOf]; omega
    · obtain rfl : k = n := by omega
      go_wp2
      go_ret
      rw [HI.out]
      exact strs_own rfl HO.out HB.out
set_option maxHeartbeats 1000000 in
set_option maxRecDepth 100000 in
theorem sAtomsOf_out (A : Option Addr) (l : List Nd) (n c : Nat) (w : World) (hn : l.length = n) (hm : n ≤ 2097152) (hl : NS w A l) (hs : ∀ (i : Nat) (x : Nd), l[i]? = some x → x.s.size ≤ 1048576) :
    Calls Tryd.prog 28 #[.slice A n c] w (StrsOut w (ats l)) := by
  obtain ⟨i0, hi0, hz0, hz1, hz2⟩ := info_parts infoS
  have HN := Lib.hid hn
  have HL := Lib.hid hl
  go_enter Tryd.func28, Tryd.ntmps28
  go_wp2_with fail
  have hb0 := (Below.refl w.heap.size w).alloc (Nat.le_refl _) (.cells #[] 9)
  have ho0 := own_lit0 w 9
  generalize w.alloc (.cells #[] 9) = w0 at *
  refine (sTreeOk_any A l n c w0 hn hm (hl.below hb0) hs).mono ?_
  rintro e w1 ⟨rfl, hb⟩
  have HB1 := Lib.hid (hb0.trans (hb.mono hb0.size))
  have HO1 := Lib.hid (own_below ho0 hb)
  clear hb hl hs hb0 ho0
  clear hn
  cases ht : treB l
  · have HI := Lib.hid (ats_no ht)
    clear ht
    go_wp2
    go_ret
    rw [HI.out]
    exact souts_nil _ _ HB1.out
  have HI := Lib.hid (show ats l = atN l n by rw [ats_yes ht, HN.out])
  have hlen := (treB_ok ht).len
  have hn200 : n ≤ 200 := by have := HN.out; omega
  clear ht hlen
  go_wp2
  go_loopw [3, 4] (fun v iv wr => ∃ k : Nat, k ≤ n ∧ iv = .int .i64 k ∧ wr.ownsRow w.heap.size 9 1 v (atN l k).length (fl fs (atN l k)) ∧ Below w.heap.size w wr) (fun _ iv _ => n - (intOf iv).toNat)
  case atStart => exact ⟨0, Nat.zero_le _, rfl, HO1.out, HB1.out⟩
  case round =>
    obtain ⟨k, hk, rfl, hown, hb⟩ := hrel
    clear HO1
    have HO := Lib.hid hown
    have HB := Lib.hid hb
    have hsz := hb.size
    obtain ⟨Av, cv, hAv⟩ := own_slice hown
    subst hAv
    have hal := atN_len l k
    clear hown hb
    by_cases hkl : k < n
    · obtain ⟨x, b, o, hx, rfl, hbl, _⟩ := HL.out.all (k := k) (by have := HN.out; omega)
      obtain ⟨hbl', c0, c1, c2⟩ := NS.get (HL.out.below HB.out) hx
      have HST := Lib.hid (atN_step hx)
      clear hx
      by_cases h0 : x.k = 0
      · have h0b : (x.k == 0) = true := by simpa using h0
        have HS1 := Lib.hid (show atN l (k + 1) = atN l k ++ [x.s] by rw [HST.out, if_pos h0])
        clear h0
        have hbW := Below.refl wr.heap.size wr
        have hS := BlkL.new wr 9 [.string x.s]
        have hb3 := hbW.alloc hbW.size (.cells #[.string x.s] 9)
        have HO3 := Lib.hid (own_below HO.out hb3)
        have HB3 := Lib.hid (HB.out.trans (hb3.mono hsz))
        have HS := Lib.hid hS
        have hz3 : w.heap.size ≤ (wr.alloc (.cells #[.string x.s] 9)).heap.size := HB3.out.size
        clear hS hb3 hbW
        go_wp2_with (at_builtin; refine wpList_append_own_at _ rfl _ _ 38 rfl w.heap.size 9 i0 (.string ByteArray.empty) 1 16 Tryd.underlying38 hi0 hz0 hz1 hz2 rfl (by decide) _ _ _ rfl HO3.out ⟨wr.heap.size, 0, none⟩ 1 1 [.string x.s] rfl rfl (fun j u hj => by rw [Addr.add_lit, Nat.zero_add]; exact (HS.out.cell j).trans hj) (str_one _) (by simp only [maxLen]; omega) (by omega) hz3 ?_)
        intro v' w5 hown5 hgr5 _ _
        have HB5 := Lib.hid (HB3.out.grown hgr5 hz3 (fun g hg => (HO3.out.lt g hg).1))
        obtain ⟨A5, c5, rfl⟩ := own_slice hown5
        have HO5 := Lib.hid hown5
        clear hown5 hgr5 HO3 HB3 HS
        go_wp2
        go_roundw
        case rel => exact ⟨k + 1, by omega, by go_num, by rw [HS1.out, fl_append, List.length_append]; exact HO5.out, HB5.out⟩
        case measure => simp [intOf]; omega
      · have h0b : (x.k == 0) = false := by simpa using h0
        have HS1 := Lib.hid (show atN l (k + 1) = atN l k by rw [HST.out, if_neg h0, List.append_nil])
        clear h0
        go_wp2
        go_roundw
        case rel => exact ⟨k + 1, by omega, by go_num, by rw [HS1.out]; exact HO.out, HB.out⟩
        case measure => simp [intOf]; omega
    · obtain rfl : k = n := by omega
      go_wp2
      go_ret
      rw [HI.out]
      exact strs_own rfl HO.out HB.out
end Go.Proofs.YtjdpakjnklfhhaaDoor
