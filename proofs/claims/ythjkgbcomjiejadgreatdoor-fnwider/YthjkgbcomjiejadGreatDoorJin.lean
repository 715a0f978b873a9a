/-
  strings.Join of two texts or more with one byte between.
-/
import Derived.Test.YthjkgbcomjiejadGreatDoorBlw
import Derived.Test.YthjkgbcomjiejadGreatDoorBwd
import Derived.Test.YthjkgbcomjiejadGreatDoorStm
import Derived.Lib.MakeNoZero
import Derived.RegionTactic
namespace Go.Proofs.YthjkgbcomjiejadGreatDoor
open Go.RowKit
set_option linter.unusedVariables false

set_option maxHeartbeats 2000000 in
set_option maxRecDepth 100000 in
theorem grow_new (B b n : Nat) (w : World) (hB : B ≤ b) (hbk : BlkL w b 78 [.pointer (some ⟨b, 0, none⟩), .slice none 0 0]) (hBw : B ≤ w.heap.size) (hn : n ≤ 1000000000) :
    Calls Tryz.prog 160 #[.pointer (some ⟨b, 0, none⟩), .int .i64 n] w fun e w' => e = .returned (.tuple #[]) ∧ (Lib.BuilderAt 78 5 B b (.pointer (some ⟨b, 0, none⟩)) [] w' ∧ Below B w w') := by
  obtain ⟨cs, hrun, hle, hmax⟩ := Lib.run_makeNoZero (P := Tryz.prog) w.drew #[3] 22 5 Tryz.underlying22 n (by omega)
  have hcall : (callFunc 186 #[.int .i64 n]).run Tryz.prog w.drew = .ok (.value (.slice (some ⟨w.heap.size, 0, none⟩) n cs.size)) (w.drew.drew.drew.alloc (.cells cs 5)) := by
    rw [run_callFunc_extern Tryz.func186 (by kernel_rfl) (by kernel_rfl) (by kernel_rfl) (e := Extern.BytealgMakeNoZero.makeNoZero #[3] #[22]) (by kernel_rfl), hrun]
    rfl
  have hcl := hmax (by unfold maxLen; omega)
  have HCL := Lib.hid hcl
  have c1 := (hbk.cell 1).trans rfl
  have r1 := Bw.rd c1
  have HBK := Lib.hid hbk
  have HCALL := Lib.hid hcall
  have hne : Nonempty (Cl (Bw w)) := ⟨⟨_, Bw.start w⟩⟩
  clear hcall hrun hmax hbk c1 hcl
  go_enter Tryz.func160, Tryz.ntmps160
  go_wp2
  refine wp_region_stages [0, 0, 0, 0, 0, 0, 0, 0, 1, 0, 0, 0, 0, 0, 2, 3] 1 (fun w' => ∃ y : Cl (Bw w), w' = y.W) (by kernel_rfl) (by kernel_rfl) ⟨⟨_, Bw.start w⟩, rfl⟩ ?_
  simp only [Stage.stages, Stage.pickC, Nat.reduceBEq, Nat.reduceMul, Nat.reduceAdd, cond_true, cond_false, List.map_cons, List.map_nil]
  refine stage_more ?_
  repeat (go_big_quiet_step (fail))
  refine wpQuiet_nil ?_
  intro K hK
  unfold Chain.mov
  go_simp
  rw [HCALL.out]
  simp only [Chain.movUpon]
  have hb5 : Below w.heap.size w (w.drew.drew.drew.alloc (.cells cs 5)) := (((Below.refl w.heap.size w).drew.drew).drew).alloc (Nat.le_refl _) _
  refine hK _ _ ⟨⟨⟨_, hb5⟩, rfl⟩, ?_⟩
  clear hK K r1
  have hk5 := HBK.out.below hb5 HBK.out.lt
  have hrow : (w.drew.drew.drew.alloc (.cells cs 5)).heap[w.heap.size]? = some (.cells cs 5 (0, 0)) := by
    show (w.heap.push _)[w.heap.size]? = _
    simp
  have hsz5 : w.heap.size < (w.drew.drew.drew.alloc (.cells cs 5)).heap.size := by simp
  have HB5 := Lib.hid (show Below B w (w.drew.drew.drew.alloc (.cells cs 5)) from (((Below.refl B w).drew.drew).drew).alloc hBw _)
  generalize w.drew.drew.drew.alloc (.cells cs 5) = W5 at *
  refine stage_last ?_
  repeat (go_big_quiet_step (fail))
  refine wpQuiet_nil ?_
  have c1 := (hk5.cell 1).trans rfl
  have f1 := hk5.frozen 1
  have hbl := hk5.lt
  have hc : ∀ V : World, (Builtin.copy_ #[22, 22] 3 #[.slice (some ⟨w.heap.size, 0, none⟩) 0 cs.size, .slice none 0 0]).run Tryz.prog V = .ok (goInt 0) V := fun V => run_copy_none V 22 22 3 5 _ _ 0 cs.size 0 0 Tryz.underlying22 (by kernel_rfl) rfl
  go_wp2
  go_end0
  have hown : W5.ownsRow B 5 1 (.slice (some ⟨w.heap.size, 0, none⟩) 0 cs.size) ([] : List Value).length [] :=
    ⟨rfl, .inr ⟨w.heap.size, cs.size, cs, rfl, hBw, hrow, Nat.zero_le _, HCL.out, by simp, by simp⟩⟩
  exact ⟨rfl, Lib.BuilderAt.put hB hk5 hown (by decide), HB5.out.setCell (p := ⟨b, 1, none⟩) hB _⟩
set_option maxHeartbeats 2000000 in
set_option maxRecDepth 100000 in
theorem Grow_new (B b n : Nat) (w : World) (hB : B ≤ b) (hbk : BlkL w b 78 [.pointer none, .slice none 0 0]) (hBw : B ≤ w.heap.size) (h0 : 0 < n) (hn : n ≤ 1000000000) :
    Calls Tryz.prog 127 #[.pointer (some ⟨b, 0, none⟩), .int .i64 n] w fun e w' => e = .returned (.tuple #[]) ∧ (Lib.BuilderAt 78 5 B b (.pointer (some ⟨b, 0, none⟩)) [] w' ∧ Below B w w') := by
  have hblt := hbk.lt
  have hk1 := hbk.set 0 (.pointer (some ⟨b, 0, none⟩))
  have hb1 := (Below.refl B w).setCell (p := ⟨b, 0, none⟩) hB (.pointer (some ⟨b, 0, none⟩))
  have hz1 : (w.setCell ⟨b, 0, none⟩ (.pointer (some ⟨b, 0, none⟩))).heap.size = w.heap.size := by simp [World.setCell]
  have hsh : w.shape? b = some (78, 2) := by
    unfold BlkL at hbk
    simp [World.shape?, hbk]
  go_enter Tryz.func127, Tryz.ntmps127
  go_wp2_with fail
  refine (copyCheck_new b w ((hbk.cell 0).trans rfl) hsh (hbk.frozen 0)).mono ?_
  rintro e w1 ⟨rfl, rfl⟩
  simp only [List.set_cons_zero] at hk1
  have HB1 := Lib.hid hb1
  have hW1 : B ≤ (w.setCell ⟨b, 0, none⟩ (.pointer (some ⟨b, 0, none⟩))).heap.size := by omega
  clear hb1 hsh hz1
  generalize w.setCell ⟨b, 0, none⟩ (.pointer (some ⟨b, 0, none⟩)) = W1 at *
  have r1 := Bw.rd ((hk1.cell 1).trans rfl)
  have hn0 : decide ((n : Int) < 0) = false := by simp
  have hlt0 : decide ((0 : Int) < (n : Int)) = true := by simp; omega
  have hlt1 : (0 : Int) < (n : Int) := by omega
  go_wp2_with fail
  refine wp_region_class (Bw W1) (by kernel_rfl) (by kernel_rfl) (Bw.start W1) (fun hne => ?_)
  repeat (go_big_quiet_step (fail))
  refine wpQuiet_nil ?_
  rintro w3 ⟨x, rfl⟩
  have hx : Below W1.heap.size W1 x.W := x.ok
  have hk3 := hk1.below hx hk1.lt
  have HB3 := Lib.hid (HB1.out.trans (hx.mono hW1))
  have hz3 : B ≤ x.W.heap.size := Nat.le_trans hW1 hx.size
  clear r1 hk1 hx
  generalize x.W = W3 at *
  go_wp2_with fail
  refine (grow_new B b n W3 hB hk3 hz3 hn).mono ?_
  rintro e w4 ⟨rfl, h4, hb4⟩
  have HB4 := Lib.hid (HB3.out.trans hb4)
  clear hb4
  go_wp2
  go_end0
  exact ⟨rfl, h4, HB4.out⟩
end Go.Proofs.YthjkgbcomjiejadGreatDoor
namespace Go.Proofs.YthjkgbcomjiejadGreatDoor
open Go.RowKit
set_option linter.unusedVariables false

/-- the bytes of the first k texts, c between each two. -/
def jnN (c : UInt8) (xs : List ByteArray) : Nat → List UInt8
  | 0 => []
  | k + 1 => match xs[k]? with
    | some x => (if k = 0 then [] else jnN c xs k ++ [c]) ++ x.data.toList
    | none => jnN c xs k
theorem jnN_first {c : UInt8} {xs : List ByteArray} {x : ByteArray} (h : xs[0]? = some x) : jnN c xs 1 = x.data.toList := by simp [jnN, h]
theorem jnN_next {c : UInt8} {xs : List ByteArray} {k : Nat} {x : ByteArray} (h : xs[k + 1]? = some x) : jnN c xs (k + 2) = jnN c xs (k + 1) ++ [c] ++ x.data.toList := by
  show (match xs[k + 1]? with | some x => (if k + 1 = 0 then [] else jnN c xs (k + 1) ++ [c]) ++ x.data.toList | none => jnN c xs (k + 1)) = _
  rw [h]
  simp
def szN (xs : List ByteArray) (k : Nat) : Nat := ((xs.take k).map (fun x : ByteArray => x.size)).sum
theorem szN_succ {xs : List ByteArray} {k : Nat} {x : ByteArray} (h : xs[k]? = some x) : szN xs (k + 1) = szN xs k + x.size := by
  unfold szN
  rw [List.take_add_one, h]
  simp
theorem jnN_len {c : UInt8} {xs : List ByteArray} {m : Nat} (h : ∀ x ∈ xs, x.size ≤ m) : ∀ k, k ≤ xs.length → (jnN c xs k).length ≤ k * (m + 1) ∧ szN xs k ≤ k * m
  | 0, _ => by simp [jnN, szN]
  | k + 1, hk => by
    have hx := List.getElem?_eq_getElem (show k < xs.length by omega)
    have h1 := jnN_len (c := c) h k (by omega)
    have h2 := h _ (List.getElem_mem (show k < xs.length by omega))
    have h3 : (xs[k]).size = (xs[k]).data.toList.length := Array.length_toList.symm
    rw [szN_succ hx, Nat.add_mul, Nat.one_mul, Nat.add_mul, Nat.one_mul]
    refine ⟨?_, by omega⟩
    show (match xs[k]? with | some x => (if k = 0 then [] else jnN c xs k ++ [c]) ++ x.data.toList | none => jnN c xs k).length ≤ _
    rw [hx]
    simp only [List.length_append]
    split
    · simp only [List.length_nil]; omega
    · simp only [List.length_append, List.length_cons, List.length_nil]; omega
theorem jnN_le {c : UInt8} {xs : List ByteArray} {n m : Nat} (h : ∀ x ∈ xs, x.size ≤ m) (hN : n * (m + 1) ≤ 1000000000) (hn : xs.length = n) : ∀ k, k ≤ n → (jnN c xs k).length ≤ 1000000000 ∧ szN xs k + k ≤ 1000000000 := by
  intro k hk
  have h1 := jnN_len (c := c) h k (by omega)
  have h2 : k * (m + 1) ≤ n * (m + 1) := Nat.mul_le_mul_right _ hk
  have h3 : k * (m + 1) = k * m + k := by rw [Nat.mul_add, Nat.mul_one]
  omega
set_option maxHeartbeats 4000000 in
set_option maxRecDepth 100000 in
theorem Join_gen (c : UInt8) (bk o cc : Nat) (xs : List ByteArray) (n m : Nat) (w : World) (hn : xs.length = n) (h2 : 2 ≤ n) (hN : n * (m + 1) ≤ 1000000000) (hs : ∀ x ∈ xs, x.size ≤ m) (hbk : bk < w.heap.size) (hcap : n ≤ cc)
    (hc : ∀ (j : Nat) (x : ByteArray), xs[j]? = some x → w.cell? ⟨bk, o + j, none⟩ = some (.string x)) :
    Calls Tryz.prog 87 #[.slice (some ⟨bk, o, none⟩) n cc, .string ⟨#[c]⟩] w fun e w' => e = .returned (.string ⟨(jnN c xs n).toArray⟩) ∧ Below w.heap.size w w' := by
  have HC := Lib.hid hc
  have HA := Lib.hid (jnN_le (c := c) hs hN hn)
  have hm9 : m ≤ 1000000000 := by
    have : 1 * (m + 1) ≤ n * (m + 1) := Nat.mul_le_mul_right _ (by omega)
    omega
  have hn9 : n ≤ 1000000000 := by
    have : n * 1 ≤ n * (m + 1) := Nat.mul_le_mul_left _ (by omega)
    omega
  have HN := Lib.hid hn
  have HS := Lib.hid hs
  clear hc hn hs hN
  have hsz : (⟨#[c]⟩ : ByteArray).size = 1 := rfl
  have hne0 : ((n : Int) == 0) = false := by simp; omega
  have hne1 : ((n : Int) == 1) = false := by simp; omega
  have hdv : (1 : Int) < 9223372036854775807 / ((n : Int) - 1) := by
    have : (2 : Int) ≤ 9223372036854775807 / ((n : Int) - 1) := (Int.le_ediv_iff_mul_le (by omega)).2 (by omega)
    omega
  go_enter Tryz.func87, Tryz.ntmps87
  go_wp2_with fail
  go_loop [5, 41] (fun m i => ∃ k : Nat, k ≤ n ∧ i = .int .i64 k ∧ m = .int .i64 ((n : Int) - 1 + (szN xs k : Int))) (fun _ i => n - (intOf i).toNat)
  case atStart => exact ⟨0, Nat.zero_le _, rfl, by simp [szN]⟩
  case round =>
    obtain ⟨k, hk, rfl, rfl⟩ := hrel
    have hl := (HA.out k hk).2
    by_cases hlt : k < n
    · obtain ⟨x, hx⟩ : ∃ x, xs[k]? = some x := ⟨_, List.getElem?_eq_getElem (by have := HN.out; omega)⟩
      have hcx := HC.out k x hx
      have HZ := Lib.hid (szN_succ hx)
      have hl1 := (HA.out (k + 1) (by omega)).2
      rw [szN_succ hx] at hl1
      clear hx
      obtain ⟨t, ht⟩ : ∃ t, szN xs k = t := ⟨_, rfl⟩
      rw [ht] at hl hl1 HZ ⊢
      clear ht
      go_wp2
      go_round
      case rel => exact ⟨k + 1, by omega, by go_num, by rw [HZ.out]; go_num⟩
      case measure => simp [intOf] <;> omega
    · obtain rfl : k = n := by omega
      obtain ⟨t, ht⟩ : ∃ t, szN xs k = t := ⟨_, rfl⟩
      rw [ht] at hl ⊢
      have hMT : ((k : Int) - 1 + (t : Int)) = ((k - 1 + t : Nat) : Int) := by omega
      rw [hMT]
      clear ht hMT
      obtain ⟨x0, hx0⟩ : ∃ x, xs[0]? = some x := ⟨_, List.getElem?_eq_getElem (by have := HN.out; omega)⟩
      have hs0 := HS.out x0 (List.mem_of_getElem? hx0)
      have hcx := HC.out 0 x0 hx0
      have HJ1 := Lib.hid (jnN_first (c := c) hx0)
      clear hx0
      have hk1 := BlkL.new w 78 [.pointer none, .slice none 0 0]
      have hb0 := (Below.refl w.heap.size w).alloc (Nat.le_refl _) (.cells #[.pointer none, .slice none 0 0] 78)
      go_wp2_with fail
      refine (Grow_new w.heap.size w.heap.size (k - 1 + t) _ (Nat.le_refl _) hk1 (by simp) (by omega) (by omega)).mono ?_
      rintro e w1 ⟨rfl, h1, hb1⟩
      have HB1 := Lib.hid (hb0.trans hb1)
      obtain ⟨hB1, v1, hbk1, hown1, hne1'⟩ := h1
      have H1 := Lib.hid (show Lib.IsBuilderF 78 5 w.heap.size w.heap.size [] w1 from .inr ⟨hB1, v1, hbk1, World.ownsRowF_of hown1, hne1'⟩)
      have hc0 : w1.cell? ⟨bk, o, none⟩ = some (.string x0) := ((HB1.out.cell (p := ⟨bk, o, none⟩) hbk)).trans hcx
      clear hB1 hbk1 hown1 hne1' hb1 hb0 hk1 hcx
      go_wp2_with fail
      refine (WriteStr_k w.heap.size w.heap.size [] x0 w1 H1.out (by simp; omega) HB1.out.size).mono ?_
      rintro e w2 ⟨rfl, h2', hb2, _⟩
      rw [show ([] : List Value) = Lib.byteCells [] from rfl, bld_app, List.nil_append, ← HJ1.out] at h2'
      have H2 := Lib.hid h2'
      have HB2 := Lib.hid (HB1.out.trans hb2)
      clear h2' hb2 hc0 H1
      go_wp2_with fail
      go_loopw [65] (fun i wr => ∃ j : Nat, j + 1 ≤ k ∧ i = .int .i64 j ∧ Lib.IsBuilderF 78 5 w.heap.size w.heap.size (Lib.byteCells (jnN c xs (j + 1))) wr ∧ Below w.heap.size w wr) (fun i _ => k - 1 - (intOf i).toNat)
      case atStart => exact ⟨0, by omega, rfl, H2.out, HB2.out⟩
      case round =>
        obtain ⟨j, hj, rfl, hbd, hbw⟩ := hrel
        have HBD := Lib.hid hbd
        have HBW := Lib.hid hbw
        have hzw := hbw.size
        have hjl := (HA.out (j + 1) (by omega)).1
        clear hbd hbw
        by_cases hjk : j + 1 < k
        · obtain ⟨x, hx⟩ : ∃ x, xs[j + 1]? = some x := ⟨_, List.getElem?_eq_getElem (by have := HN.out; omega)⟩
          have hj2 : (jnN c xs (j + 1)).length + 1 + x.size ≤ 1000000000 := by
            have h := (HA.out (j + 2) (by omega)).1
            rw [jnN_next hx] at h
            have h3 : x.size = x.data.toList.length := Array.length_toList.symm
            simp only [List.length_append, List.length_cons, List.length_nil] at h
            omega
          have hcx : wr.cell? ⟨bk, o + 1 + j, none⟩ = some (.string x) := by
            rw [HBW.out.cell (p := ⟨bk, o + 1 + j, none⟩) hbk, show o + 1 + j = o + (j + 1) by omega]
            exact HC.out (j + 1) x hx
          have HJ := Lib.hid (jnN_next (c := c) hx)
          clear hx
          go_wp2_with fail
          refine (WriteStr_k w.heap.size w.heap.size _ ⟨#[c]⟩ wr HBD.out (by rw [Lib.byteCells_length, hsz]; omega) hzw).mono ?_
          rintro e w4 ⟨rfl, h4, hb4, _⟩
          rw [bld_app] at h4
          have H4 := Lib.hid h4
          have HB4 := Lib.hid (HBW.out.trans hb4)
          have hz4 := HB4.out.size
          clear h4 hb4 hcx
          go_wp2_with fail
          refine (WriteStr_k w.heap.size w.heap.size _ x w4 H4.out (by rw [Lib.byteCells_length, List.length_append]; simp; omega) hz4).mono ?_
          rintro e w5 ⟨rfl, h5, hb5, _⟩
          rw [bld_app, show jnN c xs (j + 1) ++ (⟨#[c]⟩ : ByteArray).data.toList ++ x.data.toList = jnN c xs (j + 2) from HJ.out.symm] at h5
          have H5 := Lib.hid h5
          have HB5 := Lib.hid (HB4.out.trans hb5)
          clear h5 hb5
          go_wp2
          go_roundw
          case rel => exact ⟨j + 1, by omega, by go_num, H5.out, HB5.out⟩
          case measure => simp [intOf] <;> omega
        · obtain rfl : k = j + 1 := by omega
          go_wp2_with fail
          refine (Go.Proofs.Any.Builder_String_any_k Tryz.lays169 Tryz.Builder_Extra_169 w.heap.size w.heap.size _ _ HBD.out hzw).mono ?_
          rintro e w3 ⟨rfl, _, hb3, _⟩
          have HB3 := Lib.hid (HBW.out.trans hb3)
          clear hb3
          go_wp2
          go_ret
          exact ⟨rfl, HB3.out⟩
theorem Join_any (c : UInt8) (bk o cc : Nat) (xs : List ByteArray) (n : Nat) (w : World) (hn : xs.length = n) (h2 : 2 ≤ n) (hN : n ≤ 1000) (hs : ∀ x ∈ xs, x.size ≤ 100000) (hbk : bk < w.heap.size) (hcap : n ≤ cc)
    (hc : ∀ (j : Nat) (x : ByteArray), xs[j]? = some x → w.cell? ⟨bk, o + j, none⟩ = some (.string x)) :
    Calls Tryz.prog 87 #[.slice (some ⟨bk, o, none⟩) n cc, .string ⟨#[c]⟩] w fun e w' => e = .returned (.string ⟨(jnN c xs n).toArray⟩) ∧ Below w.heap.size w w' :=
  Join_gen c bk o cc xs n 100000 w hn h2 (by omega) hs hbk hcap hc
set_option maxHeartbeats 1000000 in
theorem Join_one (c : UInt8) (bk o cc : Nat) (x : ByteArray) (w : World) (hcx : w.cell? ⟨bk, o, none⟩ = some (.string x)) (hcap : 1 ≤ cc) :
    Calls Tryz.prog 87 #[.slice (some ⟨bk, o, none⟩) 1 cc, .string ⟨#[c]⟩] w fun e w' => e = .returned (.string x) ∧ w = w' := by
  go_enter Tryz.func87, Tryz.ntmps87
  go_wp2
  go_ret
  exact ⟨rfl, rfl⟩
end Go.Proofs.YthjkgbcomjiejadGreatDoor
