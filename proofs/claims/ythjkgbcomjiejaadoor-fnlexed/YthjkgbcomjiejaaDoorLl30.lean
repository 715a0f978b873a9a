/-
  readLexeme of the program (made by gen_lxr.py).
-/
import Derived.Test.YthjkgbcomjiejaaDoorLl22
import Derived.Test.YthjkgbcomjiejaaDoorLl29
import Derived.WalkMore
import Derived.ScopeJumps
namespace Go.Proofs.YthjkgbcomjiejaaDoor
open Go.RowKit
set_option linter.unusedVariables false

/-- where reading at place a fails, cnt others being there. -/
def rdO (s : ByteArray) (a cnt : Nat) : Option Nat := if cnt = 200 then some a else (plO (fun i => bt s (a + i)) (s.size - a)).map (a + ·)
def rdZ (s : ByteArray) (a : Nat) : Nat := szO (fun i => bt s (a + i)) (s.size - a)
def RdP (s : ByteArray) (a cnt : Nat) (w : World) (e : Ending) (w' : World) : Prop :=
  ((∃ p : Nat, rdO s a cnt = some p ∧ e = .returned (.tuple #[.agg #[.int .i64 0, .string ⟨#[]⟩, .int .i64 0], .iface 47 (.agg #[.int .i64 p])])) ∨
   (rdO s a cnt = none ∧ rdZ s a ≤ 40 ∧ a + rdZ s a ≤ s.size ∧ e = .returned (.tuple #[.agg #[.int .i64 (kdI (bt s a)), .string (s.extract a (a + rdZ s a)), .int .i64 a], .nilIface]))) ∧ Below w.heap.size w w'
/-- what holds at the end by goto. -/
def AtF (s : ByteArray) (a cnt : Nat) (w : World) (a' : Act) (w' : World) : Prop :=
  ∃ (f p : Nat) (u3 u4 u5 u7 u8 u9 u10 u12 u13 u14 u15 u16 u17 u18 u19 u20 u21 u22 u23 u24 u25 u26 u27 u28 u29 u30 u31 u32 u33 u34 u35 u36 u37 u38 u39 u40 u41 u42 u43 : Value), a' = { tmps := #[.string s, .int .i64 a, .int .i64 cnt, u3, u4, u5, .pointer (some ⟨w.heap.size, 0, none⟩), u7, u8, u9, u10, .pointer (some ⟨f, 0, none⟩), u12, u13, u14, u15, u16, u17, u18, u19, u20, u21, u22, u23, u24, u25, u26, u27, u28, u29, u30, u31, u32, u33, u34, u35, u36, u37, u38, u39, u40, u41, u42, u43], defers := [] } ∧ rdO s a cnt = some p ∧ BlkL w' w.heap.size 32 [.int .i64 0, .string ⟨#[]⟩, .int .i64 0] ∧ BlkL w' f 47 [.int .i64 p] ∧ Below w.heap.size w w' ∧ w.heap.size < f
set_option maxHeartbeats 1000000 in
set_option maxRecDepth 100000 in
theorem readLexeme_any (s : ByteArray) (a cnt : Nat) (w : World) (hs : s.size ≤ 1048576) (ha : a < s.size) (hc : cnt ≤ 1048576) :
    Calls Tryd.prog 39 #[.string s, .int .i64 a, .int .i64 cnt] w (RdP s a cnt w) := by
  go_enter Tryd.func39, Tryd.ntmps39
  go_wp2_with fail
  refine wp_scope_jumps 0 (AtF s a cnt w) (fun _ _ => 0) rfl ?_ ?_
  · go_wp2_with fail
    refine (cutLexeme_any s a _ hs ha).mono ?_
    rintro e w2 ⟨⟨sz, en, rfl, hle, hcut⟩, hb2⟩
    have hX0 := BlkL.new w 32 [.int .i64 0, .string ⟨#[]⟩, .int .i64 0]
    have hX2 := hX0.below hb2 hX0.lt
    have hB2 := ((Below.refl w.heap.size w).alloc (Nat.le_refl _) (.cells #[.int .i64 0, .string ⟨#[]⟩, .int .i64 0] 32)).trans (hb2.mono (by simp))
    have hz2 := hX2.lt
    have HO := Lib.hid (hcut.out (by omega))
    have HX2 := Lib.hid hX2
    have HB2 := Lib.hid hB2
    clear hX0 hb2 hX2 hB2 hcut
    have hTz : (s.extract a (a + sz)).size = sz := by simp [ByteArray.size_extract]; omega
    have HFB := Lib.hid (show fbI (s.extract a (a + sz)) = if fbN (fun i => bt s (a + i)) sz < sz then (fbN (fun i => bt s (a + i)) sz : Int) else -1 by
      have e : fbN (bt (s.extract a (a + sz))) sz = fbN (fun i => bt s (a + i)) sz := fst_congr fun i hi => by rw [bt_extract s a (a + sz) i hle (by omega)]
      rw [fbI_fst, hTz, e])
    obtain ⟨T, hTE⟩ : ∃ T, s.extract a (a + sz) = T := ⟨_, rfl⟩
    rw [hTE] at hTz HFB ⊢
    have HTE := Lib.hid hTE
    clear hTE
    go_wp2_with fail
    refine (firstUnprintable_any T _).mono ?_
    rintro e w3 ⟨rfl, hb3⟩
    have hN0 := BlkL.new w2 32 [.int .i64 (kdI (bt s a)), .string T, .int .i64 a]
    have hN3 := hN0.below hb3 hN0.lt
    have hX3 := (HX2.out.alloc (.cells #[.int .i64 (kdI (bt s a)), .string T, .int .i64 a] 32)).below hb3 (HX2.out.alloc _).lt
    have hB3 := (HB2.out.alloc (by omega) (.cells #[.int .i64 (kdI (bt s a)), .string T, .int .i64 a] 32)).trans (hb3.mono (by simp; omega))
    clear hb3 hN0
    -- the fault's block
    have hF4 := BlkL.new w3 47 [.int .i64 a]
    have hN4 := hN3.alloc (.cells #[.int .i64 a] 47)
    have hX4 := hX3.alloc (.cells #[.int .i64 a] 47)
    have hB4 := hB3.alloc hB3.size (.cells #[.int .i64 a] 47)
    have hw23 : w2.heap.size < w3.heap.size := hN3.lt
    have hz4 : (w3.alloc (.cells #[.int .i64 a] 47)).heap.size = w3.heap.size + 1 := by simp
    have HX4 := Lib.hid hX4
    have HN4 := Lib.hid hN4
    have HF4 := Lib.hid hF4
    have HB4 := Lib.hid hB4
    have q1 : w3.cell? ⟨w2.heap.size, 1, none⟩ = some (.string T) := (hN3.cell 1).trans rfl
    clear hN3 hX3 hB3 hX4 hN4 hF4 hB4
    by_cases hcn : cnt = 200
    · have HR := Lib.hid (show rdO s a cnt = some a by simp [rdO, hcn])
      have bc : ((cnt : Int) == 200) = true := by simp; omega
      clear hcn
      go_wp2
      go_step3
      exact ⟨rfl, w3.heap.size, a, _, _, _, _, _, _, _, _, _, _, _, _, _, _, _, _, _, _, _, _, _, _, _, _, _, _, _, _, _, _, _, _, _, _, _, _, _, _, _, rfl, HR.out, HX4.out, HF4.out, HB4.out, by omega⟩
    · have bc : ((cnt : Int) == 200) = false := by simp; omega
      have HR0 := Lib.hid (show rdO s a cnt = (plO (fun i => bt s (a + i)) (s.size - a)).map (a + ·) by rw [rdO, if_neg hcn])
      clear hcn
      go_wp2_with fail
      refine (within_any _ _ _ _).mono ?_
      rintro e w4 ⟨rfl, hw4⟩
      rw [hw4] at HX4 HN4 HF4 HB4 hz4
      clear hw4 q1
      have n0 : w4.cell? ⟨w2.heap.size, 0, none⟩ = some (.int .i64 (kdI (bt s a))) := (HN4.out.cell 0).trans rfl
      have n1 : w4.cell? ⟨w2.heap.size, 1, none⟩ = some (.string T) := (HN4.out.cell 1).trans rfl
      have n2 : w4.cell? ⟨w2.heap.size, 2, none⟩ = some (.int .i64 a) := (HN4.out.cell 2).trans rfl
      have f0 : w4.cell? ⟨w3.heap.size, 0, none⟩ = some (.int .i64 a) := (HF4.out.cell 0).trans rfl
      have ff := HF4.out.frozen 0
      have fl4 := HF4.out.lt
      have x0 : w4.cell? ⟨w.heap.size, 0, none⟩ = some (.int .i64 0) := (HX4.out.cell 0).trans rfl
      have x1 : w4.cell? ⟨w.heap.size, 1, none⟩ = some (.string ⟨#[]⟩) := (HX4.out.cell 1).trans rfl
      have x2 : w4.cell? ⟨w.heap.size, 2, none⟩ = some (.int .i64 0) := (HX4.out.cell 2).trans rfl
      have xf := HX4.out.frozen
      cases hin : inB (fbI T) 0 40
      · have HNB := Lib.hid (show ¬ (fbN (fun i => bt s (a + i)) sz < sz ∧ fbN (fun i => bt s (a + i)) sz ≤ 40) by
          have h1 := inB_false.1 hin
          rw [HFB.out] at h1
          intro h2
          rw [if_pos h2.1] at h1
          omega)
        clear hin
        cases en
        · have HR := Lib.hid (show rdO s a cnt = some a by rw [HR0.out, HO.out.2.1 HNB.out (.inl rfl)]; rfl)
          go_wp2
          go_step3
          exact ⟨rfl, w3.heap.size, a, _, _, _, _, _, _, _, _, _, _, _, _, _, _, _, _, _, _, _, _, _, _, _, _, _, _, _, _, _, _, _, _, _, _, _, _, _, _, _, rfl, HR.out, HX4.out, HF4.out, HB4.out, by omega⟩
        · by_cases h40 : 40 < T.size
          · have HR := Lib.hid (show rdO s a cnt = some a by rw [HR0.out, HO.out.2.1 HNB.out (.inr (by omega))]; rfl)
            go_wp2
            go_step3
            exact ⟨rfl, w3.heap.size, a, _, _, _, _, _, _, _, _, _, _, _, _, _, _, _, _, _, _, _, _, _, _, _, _, _, _, _, _, _, _, _, _, _, _, _, _, _, _, _, rfl, HR.out, HX4.out, HF4.out, HB4.out, by omega⟩
          · obtain ⟨o1, o2⟩ := HO.out.2.2 HNB.out rfl (by omega)
            have HR := Lib.hid (show rdO s a cnt = none by rw [HR0.out, o1]; rfl)
            have HZ := Lib.hid (show rdZ s a = sz from o2)
            clear o1 o2
            go_wp2
            simp only [Exit.jump]
            have hK3 := BlkL.setN [.int .i64 (kdI (bt s a)), .string T, .int .i64 a] _ _ 0 HX4.out
            have hB3 := below_setN (g := w.heap.size) (Nat.le_refl _) [.int .i64 (kdI (bt s a)), .string T, .int .i64 a] _ 0 HB4.out
            change bodyPost _ _ _ _ _ (World.setN w4 w.heap.size 0 [.int .i64 (kdI (bt s a)), .string T, .int .i64 a])
            generalize World.setN w4 w.heap.size 0 [.int .i64 (kdI (bt s a)), .string T, .int .i64 a] = w5 at *
            have z0 : w5.cell? ⟨w.heap.size, 0, none⟩ = some (.int .i64 (kdI (bt s a))) := (hK3.cell 0).trans rfl
            have z1 : w5.cell? ⟨w.heap.size, 1, none⟩ = some (.string T) := (hK3.cell 1).trans rfl
            have z2 : w5.cell? ⟨w.heap.size, 2, none⟩ = some (.int .i64 a) := (hK3.cell 2).trans rfl
            refine bodyPost_ret (v := .tuple #[.agg #[.int .i64 (kdI (bt s a)), .string T, .int .i64 a], .nilIface]) (by simp [results, Tryd.results39, go_sem, z0, z1, z2]) rfl ?_
            refine ⟨.inr ⟨HR.out, by rw [HZ.out]; omega, by rw [HZ.out]; omega, ?_⟩, hB3⟩
            rw [HZ.out, HTE.out]
      · have h1 := inB_true.1 hin
        obtain ⟨q, hq⟩ := Int.eq_ofNat_of_zero_le h1.1
        have hqf : fbN (fun i => bt s (a + i)) sz < sz ∧ fbN (fun i => bt s (a + i)) sz = q := by
          have h2 := HFB.out
          by_cases h3 : fbN (fun i => bt s (a + i)) sz < sz
          · rw [if_pos h3] at h2; exact ⟨h3, by omega⟩
          · rw [if_neg h3] at h2; omega
        have HR := Lib.hid (show rdO s a cnt = some (a + q) by
          have h3 := HO.out.1 ⟨hqf.1, by omega⟩
          rw [HR0.out, h3, hqf.2]; rfl)
        have hq40 : q ≤ 40 := by omega
        have HQ := Lib.hid hq
        rw [hq]
        clear hin h1 hqf hq
        go_wp2
        go_step3
        have hF5 := HF4.out.set 0 (.int .i64 ((a + q : Nat) : Int))
        have hX5 := HX4.out.far (p := ⟨w3.heap.size, 0, none⟩) (by show w.heap.size ≠ w3.heap.size; omega) (.int .i64 ((a + q : Nat) : Int))
        have hB5 := HB4.out.setCell (p := ⟨w3.heap.size, 0, none⟩) (by show w.heap.size ≤ w3.heap.size; omega) (.int .i64 ((a + q : Nat) : Int))
        rw [show ((a + q : Nat) : Int) = (a : Int) + (q : Int) by omega] at hF5 hX5 hB5
        exact ⟨rfl, w3.heap.size, a + q, _, _, _, _, _, _, _, _, _, _, _, _, _, _, _, _, _, _, _, _, _, _, _, _, _, _, _, _, _, _, _, _, _, _, _, _, _, _, _, rfl, HR.out, hX5, hF5, hB5, by omega⟩
  · rintro a' w' ⟨f, p, u3, u4, u5, u7, u8, u9, u10, u12, u13, u14, u15, u16, u17, u18, u19, u20, u21, u22, u23, u24, u25, u26, u27, u28, u29, u30, u31, u32, u33, u34, u35, u36, u37, u38, u39, u40, u41, u42, u43, rfl, hp, hX, hF, hb, hwf⟩
    have HP := Lib.hid hp
    have HX := Lib.hid hX
    have HF := Lib.hid hF
    have HB := Lib.hid hb
    have x0 : w'.cell? ⟨w.heap.size, 0, none⟩ = some (.int .i64 0) := (hX.cell 0).trans rfl
    have x1 : w'.cell? ⟨w.heap.size, 1, none⟩ = some (.string ⟨#[]⟩) := (hX.cell 1).trans rfl
    have x2 : w'.cell? ⟨w.heap.size, 2, none⟩ = some (.int .i64 0) := (hX.cell 2).trans rfl
    have xf := hX.frozen
    have xl := hX.lt
    have y0 : w'.cell? ⟨f, 0, none⟩ = some (.int .i64 p) := (hF.cell 0).trans rfl
    have yl := hF.lt
    clear hp hX hF hb
    go_wp2_with fail
    first
      | go_region_with (fail)
      | fail
    all_goals
      go_wp2
      simp only [Exit.jump]
      have hK3 := BlkL.setN [.int .i64 0, .string ⟨#[]⟩, .int .i64 0] _ _ 0 HX.out
      have hB3 := below_setN (g := w.heap.size) (Nat.le_refl _) [.int .i64 0, .string ⟨#[]⟩, .int .i64 0] _ 0 HB.out
      change bodyPost _ _ _ _ _ (World.setN w' w.heap.size 0 [.int .i64 0, .string ⟨#[]⟩, .int .i64 0]).drew
      generalize World.setN w' w.heap.size 0 [.int .i64 0, .string ⟨#[]⟩, .int .i64 0] = w3 at *
      have z0 : w3.cell? ⟨w.heap.size, 0, none⟩ = some (.int .i64 0) := (hK3.cell 0).trans rfl
      have z1 : w3.cell? ⟨w.heap.size, 1, none⟩ = some (.string ⟨#[]⟩) := (hK3.cell 1).trans rfl
      have z2 : w3.cell? ⟨w.heap.size, 2, none⟩ = some (.int .i64 0) := (hK3.cell 2).trans rfl
      refine bodyPost_ret (v := .tuple #[.agg #[.int .i64 0, .string ⟨#[]⟩, .int .i64 0], .iface 47 (.agg #[.int .i64 p])]) (by simp [results, Tryd.results39, go_sem, z0, z1, z2]) rfl ?_
      exact ⟨.inl ⟨p, HP.out, rfl⟩, hB3.drew⟩
end Go.Proofs.YthjkgbcomjiejaaDoor
