/-
  PlainLex on both sides.
-/
import Derived.Test.YthjkgbcomjiejaaDoorLl33
import Derived.Test.YthjkgbcomjiejaaDoorLl37
import Derived.Test.YthjkgbcomjiejaaDoorLl19
import Derived.Test.YthjkgbcomjiejaaDoorLl28
namespace Go.Proofs.YthjkgbcomjiejaaDoor
open Go.RowKit
set_option linter.unusedVariables false

/-- what stands between a lexeme of Kind a and one of Kind b. -/
def sepL (a b : Int) : List UInt8 := if a = 2 then [10] else if a = 3 ∨ a = 5 ∨ b = 4 then [] else [32]
theorem sepL_le (a b : Int) : (sepL a b).length ≤ 1 := by
  unfold sepL
  split
  · simp
  · split <;> simp
/-- what stands ahead of lexeme i, of Kind b. -/
def gapL (l : List Lx) (i : Nat) (b : Int) : List UInt8 := if i = 0 then [] else sepL (((l[i - 1]?).map Lx.k).getD 0) b
theorem gapL_le (l : List Lx) (i : Nat) (b : Int) : (gapL l i b).length ≤ 1 := by
  unfold gapL
  split
  · simp
  · exact sepL_le _ _
/-- the first i lexemes told plainly. -/
def pxN (l : List Lx) : Nat → List UInt8
  | 0 => []
  | i + 1 => match l[i]? with | some t => pxN l i ++ gapL l i t.k ++ t.s.data.toList | none => pxN l i
theorem pxN_succ {l : List Lx} {i : Nat} {t : Lx} (h : l[i]? = some t) : pxN l (i + 1) = pxN l i ++ gapL l i t.k ++ t.s.data.toList := by simp only [pxN, h]
theorem size_l (a : ByteArray) : a.size = a.data.toList.length := Array.length_toList.symm
theorem pxN_len (l : List Lx) (i : Nat) (hi : i ≤ l.length) : (pxN l i).length ≤ bulkN (txs l) i + i := by
  induction i with
  | zero => simp [pxN]
  | succ i ih =>
    have ht := List.getElem?_eq_getElem (show i < l.length by omega)
    rw [pxN_succ ht, bulkN_succ (txs_at ht)]
    have h1 := ih (by omega)
    have h2 := gapL_le l i l[i].k
    have h3 : (tkx l[i]).s.size = l[i].s.data.toList.length := size_l _
    simp only [List.length_append]
    omega
def pxB (l : List Lx) : ByteArray := ⟨(pxN l l.length).toArray⟩
theorem ext_l {a : ByteArray} {l : List UInt8} (h : a.data.toList = l) : a = ⟨l.toArray⟩ := by
  apply ByteArray.ext
  rw [← h]
theorem app_l (a b : ByteArray) : (a ++ b).data.toList = a.data.toList ++ b.data.toList := by simp
theorem bulkx_at {l : List Lx} {k : Nat} {t : Lx} (ht : l[k]? = some t) (hb : bulk (txs l) ≤ 1048576) : t.s.size ≤ 1048576 ∧ bulkN (txs l) (k + 1) + (k + 1) ≤ 1048576 := by
  have hk := (List.getElem?_eq_some_iff.1 ht).1
  have e1 := txs_length l
  have e2 := bulkN_mono (txs l) (show k + 1 ≤ (txs l).length by omega)
  have e3 := bulkN_succ (txs_at ht)
  have e4 : (tkx t).s.size = t.s.size := rfl
  unfold bulk at hb
  omega

set_option maxHeartbeats 400000 in
theorem between_any (a b : Int) (w : World) :
    Calls Tryd.prog 27 #[.int .i64 a, .int .i64 b] w fun e w' => e = .returned (.string ⟨(sepL a b).toArray⟩) ∧ w = w' := by
  by_cases h2 : a = 2
  · have hI := Lib.hid (show sepL a b = [10] by simp [sepL, h2])
    subst h2
    go_enter Tryd.func27, Tryd.ntmps27
    go_wp2
    go_ret
    rw [hI.out]
    exact ⟨rfl, rfl⟩
  · have b2 : (a == 2) = false := by simpa using h2
    by_cases h3 : a = 3
    · have hI := Lib.hid (show sepL a b = [] by simp [sepL, h3])
      subst h3
      go_enter Tryd.func27, Tryd.ntmps27
      go_wp2
      go_ret
      rw [hI.out]
      exact ⟨rfl, rfl⟩
    · have b3 : (a == 3) = false := by simpa using h3
      by_cases h5 : a = 5
      · have hI := Lib.hid (show sepL a b = [] by simp [sepL, h5])
        subst h5
        go_enter Tryd.func27, Tryd.ntmps27
        go_wp2
        go_ret
        rw [hI.out]
        exact ⟨rfl, rfl⟩
      · have b5 : (a == 5) = false := by simpa using h5
        by_cases h4 : b = 4
        · have hI := Lib.hid (show sepL a b = [] by simp [sepL, h2, h4])
          subst h4
          clear h2 h3 h5
          go_enter Tryd.func27, Tryd.ntmps27
          go_wp2
          go_ret
          rw [hI.out]
          exact ⟨rfl, rfl⟩
        · have b4 : (b == 4) = false := by simpa using h4
          have hI := Lib.hid (show sepL a b = [32] by simp [sepL, h2, h3, h4, h5])
          clear h2 h3 h4 h5
          go_enter Tryd.func27, Tryd.ntmps27
          go_wp2
          go_ret
          rw [hI.out]
          exact ⟨rfl, rfl⟩

theorem one_size (c : UInt8) : (⟨#[c]⟩ : ByteArray).size = 1 := rfl
set_option maxHeartbeats 1000000 in
set_option maxRecDepth 100000 in
theorem sPlainLex_any (A : Option Addr) (l : List Lx) (n c : Nat) (w : World) (hn : l.length = n) (hm : n ≤ 2097152) (hts : XS w A l) (hbk : bulk (txs l) ≤ 1048576) :
    Calls Tryd.prog 13 #[.slice A n c] w fun e w' => e = .returned (.string (pxB l)) ∧ Below w.heap.size w w' := by
  subst hn
  have HBK := Lib.hid hbk
  clear hbk
  go_enter Tryd.func13, Tryd.ntmps13
  go_wp2
  go_loop [3, 4] (fun o i => ∃ (k : Nat) (S : ByteArray), k ≤ l.length ∧ i = .int .i64 k ∧ o = .string S ∧ S.data.toList = pxN l k ∧ S.size ≤ bulkN (txs l) k + k) (fun _ i => l.length - (intOf i).toNat)
  case atStart => exact ⟨0, ByteArray.empty, Nat.zero_le _, rfl, rfl, rfl, Nat.zero_le _⟩
  case round =>
    obtain ⟨k, S, hk, rfl, rfl, hS, hz⟩ := hrel
    have HS := Lib.hid hS
    clear hS
    by_cases hlt : k < l.length
    · obtain ⟨t, b, o, ht, rfl, hbl, c0, c1, c2⟩ := hts.all (k := k) hlt
      have HT := Lib.hid (pxN_succ ht)
      obtain ⟨hsz, hbn⟩ := bulkx_at ht HBK.out
      have hbs : bulkN (txs l) (k + 1) = bulkN (txs l) k + t.s.size := bulkN_succ (txs_at ht)
      have hS1 : S.size ≤ 1048576 := by omega
      have hzz : S.size + t.s.size + 1 ≤ bulkN (txs l) (k + 1) + (k + 1) := by omega
      have HZ := Lib.hid hzz
      clear hz hbs hbn hzz
      cases k with
      | zero =>
        have HG := Lib.hid (show gapL l 0 t.k = [] from rfl)
        clear ht
        go_wp2
        go_round
        case rel => exact ⟨1, S ++ t.s, by omega, by go_num, rfl, by rw [app_l, HS.out, HT.out, HG.out, List.append_nil], by rw [ByteArray.size_append]; have := HZ.out; simp only [Nat.zero_add] at this; omega⟩
        case measure => simp [intOf] <;> omega
      | succ j =>
        obtain ⟨p, hp⟩ : ∃ p, l[j]? = some p := ⟨_, List.getElem?_eq_getElem (by omega)⟩
        obtain ⟨_, e0, _, _⟩ := XS.get hts hp
        have HG0 := Lib.hid (show gapL l (j + 1) t.k = sepL p.k t.k by simp [gapL, hp])
        clear ht hp c2
        by_cases h2 : p.k = 2
        · have HG := Lib.hid (show gapL l (j + 1) t.k = [10] by rw [HG0.out]; simp [sepL, h2])
          rw [h2] at e0
          clear h2
          go_wp2
          go_round
          case rel => exact ⟨j + 1 + 1, S ++ ⟨#[10]⟩ ++ t.s, by omega, by go_num, rfl, by rw [app_l, app_l, HS.out, HT.out, HG.out], by rw [ByteArray.size_append, ByteArray.size_append, one_size]; have := HZ.out; omega⟩
          case measure => simp [intOf] <;> omega
        by_cases h3 : p.k = 3
        · have HG := Lib.hid (show gapL l (j + 1) t.k = [] by rw [HG0.out]; simp [sepL, h3])
          rw [h3] at e0
          clear h2 h3
          go_wp2
          go_round
          case rel => exact ⟨j + 1 + 1, S ++ t.s, by omega, by go_num, rfl, by rw [app_l, HS.out, HT.out, HG.out, List.append_nil], by rw [ByteArray.size_append]; have := HZ.out; omega⟩
          case measure => simp [intOf] <;> omega
        by_cases h5 : p.k = 5
        · have HG := Lib.hid (show gapL l (j + 1) t.k = [] by rw [HG0.out]; simp [sepL, h5])
          rw [h5] at e0
          clear h2 h3 h5
          go_wp2
          go_round
          case rel => exact ⟨j + 1 + 1, S ++ t.s, by omega, by go_num, rfl, by rw [app_l, HS.out, HT.out, HG.out, List.append_nil], by rw [ByteArray.size_append]; have := HZ.out; omega⟩
          case measure => simp [intOf] <;> omega
        have b2 : (p.k == 2) = false := by simpa using h2
        have b3 : (p.k != 3) = true := by simpa using h3
        have b5 : (p.k != 5) = true := by simpa using h5
        by_cases h4 : t.k = 4
        · have HG := Lib.hid (show gapL l (j + 1) t.k = [] by rw [HG0.out]; simp [sepL, h2, h4])
          rw [h4] at c0
          clear h2 h3 h5 h4
          go_wp2
          go_round
          case rel => exact ⟨j + 1 + 1, S ++ t.s, by omega, by go_num, rfl, by rw [app_l, HS.out, HT.out, HG.out, List.append_nil], by rw [ByteArray.size_append]; have := HZ.out; omega⟩
          case measure => simp [intOf] <;> omega
        have b4 : (t.k != 4) = true := by simpa using h4
        have HG := Lib.hid (show gapL l (j + 1) t.k = [32] by rw [HG0.out]; simp [sepL, h2, h3, h5, h4])
        clear h2 h3 h5 h4
        go_wp2
        go_round
        case rel => exact ⟨j + 1 + 1, S ++ ⟨#[32]⟩ ++ t.s, by omega, by go_num, rfl, by rw [app_l, app_l, HS.out, HT.out, HG.out], by rw [ByteArray.size_append, ByteArray.size_append, one_size]; have := HZ.out; omega⟩
        case measure => simp [intOf] <;> omega
    · have hkn : k = l.length := by omega
      subst hkn
      have HP := Lib.hid (show S = pxB l from ext_l HS.out)
      go_wp2
      go_ret
      rw [HP.out]
      exact ⟨rfl, Below.refl _ _⟩
theorem blk_kept {w w' : World} {g b : Nat} {ty e : TypeId} {cs : List Value} (h : BlkL w g ty cs) (hk : Lib.OthersKept e (some b) w w') (hne : g ≠ b) (ht : ty ≠ e) : BlkL w' g ty cs :=
  hk g _ h (fun e' => hne (by injection e')) (fun c fz e' => ht (by injection e'))
set_option maxHeartbeats 1000000 in
set_option maxRecDepth 100000 in
theorem PlainLex_any (A : Option Addr) (l : List Lx) (n c : Nat) (w : World) (hn : l.length = n) (hm : n ≤ 2097152) (hts : XS w A l) (hbk : bulk (txs l) ≤ 1048576) :
    Calls Tryd.prog 12 #[.slice A n c] w fun e w' => e = .returned (.string (pxB l)) ∧ Below w.heap.size w w' := by
  subst hn
  have HBK := Lib.hid hbk
  clear hbk
  go_enter Tryd.func12, Tryd.ntmps12
  go_wp2
  go_loopw [8] (fun i wr => ∃ k : Nat, k ≤ l.length ∧ i = .int .i64 k ∧ Lib.IsBuilderF 58 5 w.heap.size w.heap.size (Lib.byteCells (pxN l k)) wr ∧ Below w.heap.size w wr) (fun i _ => l.length - (intOf i).toNat)
  case atStart => exact ⟨0, Nat.zero_le _, rfl, bld_new w, (Below.refl _ _).alloc (Nat.le_refl _) _⟩
  case round =>
    obtain ⟨k, hk, rfl, hbd, hbw⟩ := hrel
    have hzw := hbw.size
    have hzs : w.heap.size < wr.heap.size := by rcases hbd with h | h <;> exact h.lt
    have hpl := pxN_len l k hk
    by_cases hlt : k < l.length
    · obtain ⟨t, b, o, ht, rfl, hbl, _⟩ := hts.all (k := k) hlt
      obtain ⟨hbl', c0, c1, c2⟩ := XS.get (RS.below hts hbw) ht
      have HT := Lib.hid (pxN_succ ht)
      obtain ⟨hsz, hbn⟩ := bulkx_at ht HBK.out
      have hbs : bulkN (txs l) (k + 1) = bulkN (txs l) k + t.s.size := bulkN_succ (txs_at ht)
      have hzz : (pxN l k).length + t.s.size + 1 ≤ 1048576 := by omega
      clear hbs hbn hpl
      cases k with
      | zero =>
        have HG := Lib.hid (show gapL l 0 t.k = [] from rfl)
        have HBD := Lib.hid hbd
        have HBW := Lib.hid hbw
        clear ht hbd hbw
        simp only [Nat.zero_mul, Nat.add_zero] at c0 c1 c2
        go_wp2_with fail
        refine (WriteStr_k w.heap.size w.heap.size _ t.s _ (bld_alloc HBD.out _) (by rw [Lib.byteCells_length]; omega) (by simp; omega)).mono ?_
        rintro e w3 ⟨rfl, h3, hb3, _⟩
        rw [bld_app, show pxN l 0 ++ t.s.data.toList = pxN l (0 + 1) by rw [HT.out, HG.out, List.append_nil]] at h3
        have H3 := Lib.hid h3
        have HB3 := Lib.hid ((HBW.out.alloc hzw _).trans hb3)
        clear h3 hb3 c0 c1 c2
        go_wp2
        go_roundw
        case rel => exact ⟨1, by omega, by go_num, H3.out, HB3.out⟩
        case measure => simp [intOf] <;> omega
      | succ j =>
        obtain ⟨p, hp⟩ : ∃ p, l[j]? = some p := ⟨_, List.getElem?_eq_getElem (by omega)⟩
        obtain ⟨_, e0, _, _⟩ := XS.get (RS.below hts hbw) hp
        have HG := Lib.hid (show gapL l (j + 1) t.k = sepL p.k t.k by simp [gapL, hp])
        have HBD := Lib.hid hbd
        have HBW := Lib.hid hbw
        clear ht hp hbd hbw
        go_wp2_with fail
        have hbx := BlkL.new wr 32 [.int .i64 t.k, .string t.s, .int .i64 t.a]
        have hbe : ∀ v, wr.cell? ⟨b, o + j * 3, none⟩ = some v → (wr.alloc (.cells #[.int .i64 t.k, .string t.s, .int .i64 t.a] 32)).cell? ⟨b, o + j * 3, none⟩ = some v := fun v h => (((Below.refl _ wr).alloc (Nat.le_refl _) _).cell (p := ⟨b, o + j * 3, none⟩) hbl').trans h
        have e0 := hbe _ e0
        have HBD := Lib.hid (bld_alloc HBD.out (.cells #[.int .i64 t.k, .string t.s, .int .i64 t.a] 32))
        have HBW := Lib.hid (HBW.out.alloc hzw (.cells #[.int .i64 t.k, .string t.s, .int .i64 t.a] 32))
        have hz3 : (wr.alloc (.cells #[.int .i64 t.k, .string t.s, .int .i64 t.a] 32)).heap.size = wr.heap.size + 1 := by simp
        clear hbe c0 c1 c2
        generalize wr.alloc (.cells #[.int .i64 t.k, .string t.s, .int .i64 t.a] 32) = w3 at *
        have x0 := Bw.rd (show w3.cell? ⟨wr.heap.size, 0, none⟩ = some (.int .i64 t.k) from (hbx.cell 0).trans rfl)
        have x1 := Bw.rd (show w3.cell? ⟨wr.heap.size, 1, none⟩ = some (.string t.s) from (hbx.cell 1).trans rfl)
        have y0 := Bw.rd e0
        have HBX := Lib.hid hbx
        clear hbx e0
        refine wp_region_tail 9 (fun w' => ∃ x : Cl (Bw w3), w' = x.W) (by kernel_rfl) (by kernel_rfl) ⟨⟨_, Bw.start w3⟩, rfl⟩ ?_
        simp only [List.take_succ_cons, List.take_zero, List.drop_succ_cons, List.drop_zero]
        have hne : Nonempty (Cl (Bw w3)) := ⟨⟨_, Bw.start w3⟩⟩
        repeat (go_big_quiet_step (fail))
        refine wpQuiet_step (fun K hK => ?_)
        go_simp
        refine ⟨.string ⟨(sepL p.k t.k).toArray⟩, fun x => calls_class x (Bw.keep w3) (same_below (between_any p.k t.k) _), hK _ ?_⟩
        clear hK K
        repeat (go_big_quiet_step (fail))
        refine wpQuiet_nil ?_
        rintro w5 ⟨x, rfl⟩
        have hx := x.ok
        generalize x.W = w5 at *
        clear x0 x1 y0 hne x
        have hx5 : Below w3.heap.size w3 w5 := hx
        have hz5 := hx5.size
        have hb5 := bld_keep HBD.out hx5
        have HBX5 := Lib.hid (HBX.out.below hx5 HBX.out.lt)
        have HBW5 := Lib.hid (HBW.out.trans (hx5.mono (by omega)))
        have hsl := sepL_le p.k t.k
        have hssz : (⟨(sepL p.k t.k).toArray⟩ : ByteArray).size = (sepL p.k t.k).length := by simp [size_l]
        clear hx hx5
        go_wp2_with fail
        refine (WriteStr_k w.heap.size w.heap.size _ ⟨(sepL p.k t.k).toArray⟩ _ hb5 (by rw [Lib.byteCells_length]; omega) (by omega)).mono ?_
        rintro e w6 ⟨rfl, h6, hb6, hk6⟩
        have hbx6 := blk_kept HBX5.out hk6 (by omega) (by decide)
        have z1 : w6.cell? ⟨wr.heap.size, 1, none⟩ = some (.string t.s) := (hbx6.cell 1).trans rfl
        rw [bld_app, show pxN l (j + 1) ++ (⟨(sepL p.k t.k).toArray⟩ : ByteArray).data.toList = pxN l (j + 1) ++ gapL l (j + 1) t.k by rw [HG.out]] at h6
        have HB6 := Lib.hid (HBW5.out.trans hb6)
        have hz6 := HB6.out.size
        have H6 := Lib.hid h6
        have hgl := gapL_le l (j + 1) t.k
        clear h6 hb6 hk6 hbx6 hb5 hssz hsl
        go_wp2_with fail
        refine (WriteStr_k w.heap.size w.heap.size _ t.s _ H6.out (by rw [Lib.byteCells_length, List.length_append]; omega) (by omega)).mono ?_
        rintro e w7 ⟨rfl, h7, hb7, _⟩
        rw [bld_app, ← HT.out] at h7
        have H7 := Lib.hid h7
        have HB7 := Lib.hid (HB6.out.trans hb7)
        clear h7 hb7 z1
        go_wp2
        go_roundw
        case rel => exact ⟨j + 1 + 1, by omega, by go_num, H7.out, HB7.out⟩
        case measure => simp [intOf] <;> omega
    · have HBD := Lib.hid hbd
      have HBW := Lib.hid hbw
      clear hbd hbw hpl
      have hkn : k = l.length := by omega
      subst hkn
      go_wp2_with fail
      refine (Go.Proofs.Any.Builder_String_any_k Tryd.lays169 Tryd.Builder_Extra_169 w.heap.size w.heap.size _ _ HBD.out hzw).mono ?_
      rintro e w3 ⟨rfl, _, hb3, _⟩
      have HB3 := Lib.hid (HBW.out.trans hb3)
      clear hb3
      go_wp2
      go_ret
      exact ⟨rfl, HB3.out⟩
end Go.Proofs.YthjkgbcomjiejaaDoor
