/-
  Slices of strings that a call has made: how they are told, marked and looked at again.
-/
import Derived.Test.YtjdpakjnklfhhaaDoorMark
import Derived.Test.YtjdpakjnklfhhaaDoorRws
import Derived.Test.YtjdpakjnklfhhaaDoorBwd
namespace Go.Proofs.YtjdpakjnklfhhaaDoor
open Go.RowKit
set_option linter.unusedVariables false

def fs (s : ByteArray) : List Value := [.string s]
theorem fs_len (s : ByteArray) : (fs s).length = 1 := rfl
/-- the slice at A has these strings. -/
def SW (w : World) (A : Option Addr) (l : List ByteArray) : Prop := RS fs 1 w A l
theorem SW.at {w : World} {A : Option Addr} {l : List ByteArray} (h : SW w A l) {k : Nat} (hk : k < l.length) : ∃ s b o, l[k]? = some s ∧ A = some ⟨b, o, none⟩ ∧ b < w.heap.size ∧ w.cell? ⟨b, o + k, none⟩ = some (.string s) := by
  obtain ⟨s, b, o, hs, hA, hb, hc⟩ := RS.at h hk
  refine ⟨s, b, o, hs, hA, hb, ?_⟩
  have := hc 0 (by decide)
  simpa [fs] using this
theorem SW.below {w w' : World} {A : Option Addr} {l : List ByteArray} (h : SW w A l) (hb : Below w.heap.size w w') : SW w' A l := RS.below h hb
theorem fl_fs_set {l : List ByteArray} {k : Nat} (hk : k < l.length) (s : ByteArray) (rest : List Value) : (fl fs l ++ rest).set k (.string s) = fl fs (l.set k s) ++ rest := by
  have e : ∀ l : List ByteArray, fl fs l = l.map Value.string := by
    intro l
    induction l with
    | nil => rfl
    | cons x r ih => rw [fl_cons, ih]; rfl
  rw [e, e, List.set_append_left _ _ (by simpa using hk), List.map_set]
/-- strings of a call's own: nil and empty, or at the head of a block. -/
def StrRow (w : World) (A : Option Addr) (xs : List ByteArray) : Prop :=
  xs = [] ∨ ∃ g rest, A = some ⟨g, 0, none⟩ ∧ BlkL w g 9 (fl fs xs ++ rest)
theorem StrRow.is {w : World} {A : Option Addr} {xs : List ByteArray} (h : StrRow w A xs) : SW w A xs := by
  rcases h with rfl | ⟨g, rest, rfl, hb⟩
  · exact RS.nil _ _
  · exact RS.of_blkR fs_len hb
theorem StrRow.below {w w' : World} {A : Option Addr} {xs : List ByteArray} (h : StrRow w A xs) (hb : Below w.heap.size w w') : StrRow w' A xs := by
  rcases h with rfl | ⟨g, rest, rfl, hk⟩
  · exact .inl rfl
  · exact .inr ⟨g, rest, rfl, hk.below hb hk.lt⟩
theorem StrRow.grown {w w' : World} {A : Option Addr} {xs : List ByteArray} {row : Option Nat} (h : StrRow w A xs) (hg : w.grownBy w' row) (hne : ∀ b, A.map (·.block) = some b → some b ≠ row) : StrRow w' A xs := by
  rcases h with rfl | ⟨g, rest, rfl, hk⟩
  · exact .inl rfl
  · exact .inr ⟨g, rest, rfl, hk.grown hg (hne g rfl)⟩
/-- what a call hands back: strings of its own. -/
def StrsOut (w : World) (xs : List ByteArray) (e : Ending) (w' : World) : Prop :=
  Below w.heap.size w w' ∧ ∃ A c, e = .returned (.slice A xs.length c) ∧ (∀ b, A.map (·.block) = some b → w.heap.size ≤ b ∧ b < w'.heap.size) ∧ StrRow w' A xs
theorem strs_own {w w' : World} {v : Value} {n : Nat} {xs : List ByteArray} (hn : xs.length = n) (h : w'.ownsRow w.heap.size 9 1 v n (fl fs xs)) (hb : Below w.heap.size w w') : StrsOut w xs (.returned v) w' := by
  subst hn
  have hlt := h.lt
  rcases h.2 with ⟨rfl, h0⟩ | ⟨g, cap, cur, rfl, hB, hh, h1, h2, h3, h4⟩
  · have : xs = [] := List.eq_nil_of_length_eq_zero h0
    subst this
    exact ⟨hb, none, 0, rfl, fun b hb => by simp at hb, .inl rfl⟩
  · refine ⟨hb, some ⟨g, 0, none⟩, cap, rfl, fun b hb => ?_, .inr ⟨g, cur.toList.drop (xs.length * 1), rfl, ?_⟩⟩
    · simp at hb
      subst hb
      exact hlt g rfl
    · unfold BlkL
      rw [← h4, List.take_append_drop]
      simpa using hh
set_option maxHeartbeats 1000000 in
theorem eqStringS_same (A B : Option Addr) (l : List ByteArray) (n c d : Nat) (w : World) (hn : l.length = n) (hm : n ≤ 2097152) (ha : SW w A l) (hb0 : SW w B l) :
    Calls Tryd.prog 30 #[.slice A n c, .slice B n d] w fun e w' => e = .returned (.bool true) ∧ Below w.heap.size w w' := by
  have HN := Lib.hid hn
  clear hn
  go_enter Tryd.func30, Tryd.ntmps30
  go_wp2
  go_loopw [5] (fun i wr => ∃ k : Nat, k ≤ n ∧ i = .int .i64 k ∧ Below w.heap.size w wr) (fun i _ => n - (intOf i).toNat)
  case atStart => exact ⟨0, Nat.zero_le _, rfl, Below.refl _ _⟩
  case round =>
    obtain ⟨k, hk, rfl, hb⟩ := hrel
    have HB := Lib.hid hb
    clear hb
    by_cases hkl : k < n
    · obtain ⟨t, b, o, ht, rfl, hbl, c0⟩ := (ha.below HB.out).at (k := k) (by have := HN.out; omega)
      obtain ⟨u, b2, o2, hu, rfl, hbl2, d0⟩ := (hb0.below HB.out).at (k := k) (by have := HN.out; omega)
      obtain rfl : t = u := Option.some.inj (ht.symm.trans hu)
      have p0 := Bw.rd c0
      have q0 := Bw.rd d0
      clear ht hu c0 d0
      go_wp2_with fail
      refine wp_region_class (Bw wr) (by kernel_rfl) (by kernel_rfl) (Bw.start wr) (fun hne => ?_)
      repeat (go_big_quiet_step (fail))
      refine wpQuiet_nil ?_
      rintro w3 ⟨x, rfl⟩
      have HB3 := Lib.hid (HB.out.trans (Below.mono x.ok HB.out.size))
      generalize x.W = w3 at *
      clear p0 q0
      go_wp2
      go_roundw
      case rel => exact ⟨k + 1, by omega, by go_num, HB3.out⟩
      case measure => simp [intOf]; omega
    · go_wp2
      go_ret
      exact ⟨rfl, HB.out⟩
/-- the mark of place k. -/
def mkSt (x : Int) (k : Nat) : ByteArray := mtx (x + k)
def SMk (w : World) (A : Option Addr) (xs : List ByteArray) (x : Int) (e : Ending) (w' : World) : Prop :=
  e = .returned (.int .i64 (x + xs.length)) ∧ StrRow w' A (mkF (mkSt x) xs xs.length) ∧ w.grownBy w' (A.map (·.block))
set_option maxHeartbeats 1000000 in
theorem markStringS_blk (g : Nat) (l : List ByteArray) (rest : List Value) (n c : Nat) (x : Int) (w : World) (hn : l.length = n) (hm : n ≤ 2097152) (hx0 : 0 ≤ x) (hx1 : x ≤ 900000000) (hb : BlkL w g 9 (fl fs l ++ rest)) :
    Calls Tryd.prog 31 #[.slice (some ⟨g, 0, none⟩) n c, .int .i64 x] w fun e w' => e = .returned (.int .i64 (x + n)) ∧ BlkL w' g 9 (fl fs (mkF (mkSt x) l n) ++ rest) ∧ w.grownBy w' (some g) := by
  have HN := Lib.hid hn
  clear hn
  go_enter Tryd.func31, Tryd.ntmps31
  go_wp2
  go_loopw [1, 5] (fun y i wr => ∃ k : Nat, k ≤ n ∧ i = .int .i64 k ∧ y = .int .i64 (x + k) ∧ BlkL wr g 9 (fl fs (mkF (mkSt x) l k) ++ rest) ∧ w.grownBy wr (some g)) (fun _ i _ => n - (intOf i).toNat)
  case atStart => exact ⟨0, Nat.zero_le _, rfl, by simp, by rw [mkF_zero]; exact hb, World.grownBy.refl _ _⟩
  case round =>
    obtain ⟨k, hk, rfl, rfl, hbk, hgr⟩ := hrel
    have HK := Lib.hid hbk
    have HG := Lib.hid hgr
    clear hbk hgr
    by_cases hkl : k < n
    · have hkl2 : k < (mkF (mkSt x) l k).length := by rw [mkF_length, HN.out]; exact hkl
      go_wp2_with fail
      refine (markText_any _ _ (by omega)).mono ?_
      rintro e w2 ⟨rfl, hb2⟩
      have hK2 := HK.out.below hb2 HK.out.lt
      have HG2 := Lib.hid (grown_below HG.out hb2)
      obtain ⟨y0, r0⟩ := hK2.some_ (i := k) (by rw [List.length_append, fl_length fs_len, mkF_length, HN.out]; omega)
      have s0 := hK2.frozen k
      have HK2 := Lib.hid hK2
      clear hK2 hb2
      go_wp2
      go_roundw
      case rel =>
        have h1 := HK2.out.set k (.string (mtx (x + k)))
        rw [fl_fs_set hkl2, show mtx (x + (k : Int)) = mkSt x k from rfl, mkF_set _ _ (by rw [HN.out]; exact hkl)] at h1
        exact ⟨k + 1, by omega, by go_num, by go_num, h1, grown_setN [.string (mtx (x + k))] _ k HG2.out⟩
      case measure => simp [intOf]; omega
    · have HKN := Lib.hid (show k = n by omega)
      go_wp2
      go_ret
      have e := HKN.out
      subst e
      exact ⟨rfl, HK.out, HG.out⟩
theorem markStringS_nil (A : Option Addr) (c : Nat) (x : Int) (w : World) : Calls Tryd.prog 31 #[.slice A 0 c, .int .i64 x] w fun r w' => r = .returned (.int .i64 x) ∧ w = w' := by
  go_enter Tryd.func31, Tryd.ntmps31
  go_wp2
  go_loopw [1, 5] (fun y i wr => i = .int .i64 0 ∧ y = .int .i64 x ∧ w = wr) (fun _ i _ => 0)
  case atStart => exact ⟨rfl, rfl, rfl⟩
  case round =>
    obtain ⟨rfl, rfl, rfl⟩ := hrel
    go_wp2
    go_ret
    exact ⟨rfl, rfl⟩
theorem markStringS_any (A : Option Addr) (xs : List ByteArray) (c : Nat) (x : Int) (w : World) (hm : xs.length ≤ 2097152) (hx0 : 0 ≤ x) (hx1 : x ≤ 900000000) (h : StrRow w A xs) :
    Calls Tryd.prog 31 #[.slice A xs.length c, .int .i64 x] w (SMk w A xs x) := by
  rcases h with rfl | ⟨g, rest, rfl, hk⟩
  · refine (markStringS_nil A c x w).mono ?_
    rintro e w' ⟨rfl, rfl⟩
    exact ⟨by simp, .inl rfl, World.grownBy.refl _ _⟩
  · refine (markStringS_blk g xs rest _ c x w rfl hm hx0 hx1 hk).mono ?_
    rintro e w' ⟨rfl, h1, h2⟩
    exact ⟨rfl, .inr ⟨g, rest, rfl, h1⟩, h2⟩
set_option maxHeartbeats 1000000 in
theorem heldStringS_any (A : Option Addr) (l : List ByteArray) (n c : Nat) (x : Int) (w : World) (hn : l.length = n) (hm : n ≤ 2097152) (hx0 : 0 ≤ x) (hx1 : x ≤ 900000000) (ha : SW w A l) (hv : ∀ i, i < n → l[i]? = some (mkSt x i)) :
    Calls Tryd.prog 32 #[.slice A n c, .int .i64 x] w fun e w' => e = .returned (.int .i64 (x + n)) ∧ Below w.heap.size w w' := by
  have HN := Lib.hid hn
  have HV := Lib.hid hv
  clear hn hv
  go_enter Tryd.func32, Tryd.ntmps32
  go_wp2
  go_loopw [1, 5] (fun y i wr => ∃ k : Nat, k ≤ n ∧ i = .int .i64 k ∧ y = .int .i64 (x + k) ∧ Below w.heap.size w wr) (fun _ i _ => n - (intOf i).toNat)
  case atStart => exact ⟨0, Nat.zero_le _, rfl, by simp, Below.refl _ _⟩
  case round =>
    obtain ⟨k, hk, rfl, rfl, hb⟩ := hrel
    have HB := Lib.hid hb
    clear hb
    by_cases hkl : k < n
    · obtain ⟨t, b, o, ht, rfl, hbl, c0⟩ := (ha.below HB.out).at (k := k) (by have := HN.out; omega)
      obtain rfl : t = mkSt x k := by have := HV.out k hkl; rw [this] at ht; exact (Option.some.inj ht).symm
      have p0 := Bw.rd c0
      clear ht c0
      unfold mkSt at p0
      go_wp2_with fail
      refine wp_region_class (Bw wr) (by kernel_rfl) (by kernel_rfl) (Bw.start wr) (fun hne => ?_)
      repeat (go_big_quiet_step (fail))
      refine wpQuiet_step (fun K hK => ?_)
      go_simp
      refine ⟨.string (mtx (x + k)), fun y => calls_class y (Bw.keep wr) (markText_any _ y.W (by omega)), hK _ ?_⟩
      clear hK K
      repeat (go_big_quiet_step (fail))
      refine wpQuiet_nil ?_
      rintro w3 ⟨y, rfl⟩
      have HB3 := Lib.hid (HB.out.trans (Below.mono y.ok HB.out.size))
      generalize y.W = w3 at *
      clear p0
      go_wp2
      go_roundw
      case rel => exact ⟨k + 1, by omega, by go_num, by go_num, HB3.out⟩
      case measure => simp [intOf]; omega
    · have HKN := Lib.hid (show k = n by omega)
      go_wp2
      go_ret
      have e := HKN.out
      subst e
      exact ⟨rfl, HB.out⟩
end Go.Proofs.YtjdpakjnklfhhaaDoor
