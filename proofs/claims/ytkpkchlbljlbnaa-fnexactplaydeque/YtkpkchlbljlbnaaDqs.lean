/-
  The model's deques: whether it is one, and its copy.
-/
import Derived.Test.YtkpkchlbljlbnaaRgq
namespace Go.Proofs.Ytkpkchlbljlbnaa
open Go.RowKit
set_option linter.unusedVariables false

theorem plc_mod {n h k : Nat} (hn : 1 ≤ n) (hh : h < n) (hk : k ≤ 64) (h64 : n ≤ 64) : IntKind.i64.wrap (((h : Int) + k).tmod n) = (plc n h k : Nat) := by
  have e : ((h : Int) + k).tmod n = ((plc n h k : Nat) : Int) := by
    rw [Int.tmod_eq_emod_of_nonneg (by omega)]; unfold plc; simp
  rw [e]
  have := plc_lt h k hn
  exact IntWalk.i64_in _ (by omega)
theorem restB_true {s : List Int} {h q : Nat} : restB s h q = true ↔ ∀ k, k < s.length → q ≤ k → s.getD (plc s.length h k) 0 = 0 := by
  unfold restB
  rw [List.all_eq_true]
  constructor
  · intro H k hk hq
    have := H k (List.mem_range.2 hk)
    simpa [show ¬ k < q by omega] using this
  · intro H k hk
    by_cases hq : k < q
    · simp [hq]
    · simp only [hq, decide_false, Bool.false_or, beq_iff_eq]
      exact H k (List.mem_range.1 hk) (by omega)

set_option maxHeartbeats 1000000 in
theorem sDequeOk_no (A : Option Addr) (s : List Int) (c : Nat) (H Q : Int) (w : World) (hm : s.length ≤ 2097152) (hno : inR s H Q = false) :
    Calls Try.prog 21 #[.agg #[.slice A s.length c, .int .i64 H, .int .i64 Q]] w fun e w' => e = .returned (.bool false) ∧ Below w.heap.size w w' := by
  cases h1 : inB (s.length : Int) 1 64
  · have H1 := Lib.hid h1
    clear h1 hno
    go_enter Try.func21, Try.ntmps21
    go_wp2_with (go_at_call 55; refine (l01In_any _ _ _ _).mono ?_; rintro e w' ⟨rfl, rfl⟩; rw [H1.out])
    go_ret
    exact ⟨rfl, (Below.refl _ _).alloc (Nat.le_refl _) _⟩
  · cases h2 : inB H 0 ((s.length : Int) - 1)
    · have H1 := Lib.hid h1
      have H2 := Lib.hid h2
      clear h1 h2 hno
      go_enter Try.func21, Try.ntmps21
      go_wp2_with (go_at_call 55; refine (l01In_any _ _ _ _).mono ?_; rintro e w' ⟨rfl, rfl⟩; first | rw [H1.out] | rw [H2.out])
      go_ret
      exact ⟨rfl, (Below.refl _ _).alloc (Nat.le_refl _) _⟩
    · have H1 := Lib.hid h1
      have H2 := Lib.hid h2
      have H3 := Lib.hid (show inB Q 0 (s.length : Int) = false by simpa [inR, h1, h2] using hno)
      clear h1 h2 hno
      go_enter Try.func21, Try.ntmps21
      go_wp2_with (go_at_call 55; refine (l01In_any _ _ _ _).mono ?_; rintro e w' ⟨rfl, rfl⟩; first | rw [H1.out] | rw [H2.out] | rw [H3.out])
      go_ret
      exact ⟨rfl, (Below.refl _ _).alloc (Nat.le_refl _) _⟩
set_option maxHeartbeats 1000000 in
theorem sDequeOk_in (A : Option Addr) (s : List Int) (c : Nat) (h q : Nat) (w : World) (B : RgB s h q) (HI : IS w A s) :
    Calls Try.prog 21 #[.agg #[.slice A s.length c, .int .i64 h, .int .i64 q]] w fun e w' => e = .returned (.bool (restB s h q)) ∧ Below w.heap.size w w' := by
  have h123 := inR_of B
  simp only [inR, Bool.and_eq_true] at h123
  have H1 := Lib.hid h123.1
  have H2 := Lib.hid h123.2.1
  have H3 := Lib.hid h123.2.2
  obtain ⟨n1, n2, h1, q1⟩ := B
  have HRT := Lib.hid (restB_true (s := s) (h := h) (q := q))
  have hsn : ∀ p, p < s.length → s[p]? = some (s.getD p 0) := fun p hp => by rw [List.getD_eq_getElem?_getD, List.getElem?_eq_getElem hp]; rfl
  have HSN := Lib.hid hsn
  clear h123 hsn
  generalize s.length = n at *
  have HB1 := Lib.hid ((Below.refl w.heap.size w).alloc (Nat.le_refl _) (.cells #[.slice A n c, .int .i64 h, .int .i64 q] 28))
  have HK1 := Lib.hid (BlkL.new w 28 [.slice A n c, .int .i64 h, .int .i64 q])
  have HI0 := Lib.hid HI
  have x3 : ((n : Int) == 0) = false := by simp; omega
  clear HI
  go_enter Try.func21, Try.ntmps21
  go_wp2_with (go_at_call 55; refine (l01In_any _ _ _ _).mono ?_; rintro e w' ⟨rfl, rfl⟩; first | rw [H1.out] | rw [H2.out] | rw [H3.out])
  go_loopw [4] (fun i wr => ∃ k : Nat, q ≤ k ∧ k ≤ n ∧ i = .int .i64 k ∧ (∀ j, q ≤ j → j < k → s.getD (plc n h j) 0 = 0) ∧ Below (w.heap.size + 1) (w.alloc (.cells #[.slice A n c, .int .i64 h, .int .i64 q] 28)) wr) (fun i _ => n - (intOf i).toNat)
  case atStart => exact ⟨q, Nat.le_refl _, q1, rfl, fun j a b => absurd b (Nat.not_lt.2 a), Below.refl _ _⟩
  case round =>
    obtain ⟨k, hk0, hk, rfl, hz, hbw⟩ := hrel
    have HZ := Lib.hid hz
    have HBW := Lib.hid hbw
    have K1 := HK1.out.below hbw (by omega)
    have a0 := K1.cell 0
    have a1 := K1.cell 1
    have a2 := K1.cell 2
    simp only [List.getElem?_cons_zero, List.getElem?_cons_succ] at a0 a1 a2
    clear hz hbw K1
    by_cases hlt : k < n
    · have hpl := plc_lt h k n1
      have x1 : IntKind.i64.wrap ((h : Int) + k) = h + k := IntWalk.i64_in _ (by omega)
      have x2 := plc_mod (k := k) n1 h1 (by omega) n2
      have x4 : ((h : Int) + k) % n = (plc n h k : Nat) := by unfold plc; simp
      have hx := HSN.out _ hpl
      obtain ⟨b, rfl, hbl, hcell⟩ := ((HI0.out.below HB1.out).below (HBW.out.mono (by simp))) (plc n h k) _ hx
      have HG := Lib.hid (show s.getD (plc n h k) 0 ≠ 0 → restB s h q = false from fun hne => by
        cases hr : restB s h q
        · rfl
        · exact absurd (HRT.out.1 hr k hlt hk0) hne)
      have HG2 := Lib.hid (show s.getD (plc n h k) 0 = 0 → ∀ j, q ≤ j → j < k + 1 → s.getD (plc n h j) 0 = 0 from fun hy j h2 h3 => by
        by_cases e : j = k
        · subst e; exact hy
        · exact HZ.out j h2 (by omega))
      clear hx
      generalize s.getD (plc n h k) 0 = y at *
      generalize plc n h k = p at *
      have hp1 : (p : Int) < (n : Int) := by omega
      by_cases h0 : y = 0
      · subst h0
        go_wp2
        go_quiet (fail)
        go_wp2
        go_roundw
        case rel => exact ⟨k + 1, by omega, by omega, by go_num, HG2.out (by trivial), below_drewN HBW.out _⟩
        case measure => simp [intOf]; omega
      · have h0' : (y != 0) = true := by simpa using h0
        have HF := Lib.hid (HG.out h0)
        clear h0
        go_wp2
        go_quiet (fail)
        go_wp2
        go_ret
        rw [HF.out]
        exact ⟨rfl, below_drewN (HB1.out.trans (HBW.out.mono (by omega))) _⟩
    · obtain rfl : k = n := by omega
      have HT := Lib.hid (show restB s h q = true from HRT.out.2 (fun j h2 h3 => HZ.out j h3 h2))
      go_wp2
      go_ret
      rw [HT.out]
      exact ⟨rfl, HB1.out.trans (HBW.out.mono (by omega))⟩
theorem sDequeOk_any (A : Option Addr) (s : List Int) (c : Nat) (H Q : Int) (w : World) (hm : s.length ≤ 2097152) (HI : IS w A s) :
    Calls Try.prog 21 #[.agg #[.slice A s.length c, .int .i64 H, .int .i64 Q]] w fun e w' => e = .returned (.bool (dqB s H Q)) ∧ Below w.heap.size w w' := by
  cases hR : inR s H Q
  · rw [show dqB s H Q = false by simp [dqB, hR]]
    exact sDequeOk_no A s c H Q w hm hR
  · obtain ⟨h, q, rfl, rfl, B⟩ := inR_true hR
    rw [dqB_of B]
    exact sDequeOk_in A s c h q w B HI

set_option maxHeartbeats 1000000 in
set_option maxRecDepth 100000 in
theorem l01Copy_any (A : Option Addr) (xs : List Int) (c : Nat) (w : World) (hm : xs.length ≤ 2097152) (h : IS w A xs) :
    Calls Try.prog 71 #[.slice A xs.length c] w (IntsOut w xs) := by
  have hmk : ∀ w : World, (Instr.buildSlice 24 0 #[]).run Try.prog w = .ok (.slice (some ⟨w.heap.size, 0, none⟩) 0 0) (w.alloc (.cells #[] 3)) := fun _ => by kernel_rfl
  obtain ⟨i0, hi, hz0, hz1, hz2⟩ := info_parts infoInt
  have HI := Lib.hid h
  clear h
  go_enter Try.func71, Try.ntmps71
  go_wp2
  go_loopw [3, 4] (fun v i wr => ∃ k : Nat, k ≤ xs.length ∧ i = .int .i64 k ∧ wr.ownsRow w.heap.size 3 1 v k (nums (xs.take k)) ∧ Below w.heap.size w wr) (fun _ i _ => xs.length - (intOf i).toNat)
  case atStart => exact ⟨0, Nat.zero_le _, rfl, by simpa [nums] using World.ownsRow_lit (base := w.heap.size) (e := 3) (size := 1) w #[] 0 (Nat.le_refl _) (Nat.zero_le _) rfl, (Below.refl _ _).alloc (Nat.le_refl _) _⟩
  case round =>
    obtain ⟨k, hk, rfl, hown, hbw⟩ := hrel
    clear hmk
    have HB := Lib.hid hbw
    have HO := Lib.hid hown
    have hzz := hbw.size
    clear hbw hown
    by_cases hlt : k < xs.length
    · obtain ⟨x, b, hx, rfl, hbl, hc⟩ := (HI.out.below HB.out).at hlt
      have HX := Lib.hid hx
      clear hx
      go_wp2_with (at_builtin; refine wpList_append_own _ rfl _ _ 24 rfl w.heap.size 3 i0 (.int .i64 0) 1 8 Try.underlying24 hi hz0 hz1 hz2 rfl (by decide) _ _ _ rfl (HO.out.alloc _) ⟨wr.heap.size, 0, none⟩ 1 1 [_] rfl rfl (cell_one_new _ _ _) (by simp [Value.oneCell']) (by simp only [maxLen]; omega) (by omega) (by simp; omega) ?_; intro v' w3 hown3 hgrow3 _; have HB3 := Lib.hid (lev_below HB.out HO.out hgrow3); have HO3 := Lib.hid hown3; clear hown3 hgrow3)
      go_roundw
      case rel =>
        refine ⟨k + 1, by omega, by go_num, ?_, HB3.out⟩
        have e : nums (xs.take k) ++ [Value.int .i64 x] = nums (xs.take (k + 1)) := by rw [List.take_add_one, HX.out]; simp [nums]
        rw [← e]; exact HO3.out
      case measure => simp [intOf]; omega
    · obtain rfl : k = xs.length := by omega
      go_wp2
      go_ret
      have ho := HO.out
      rw [List.take_of_length_le (Nat.le_refl _)] at ho
      obtain ⟨A1, c1, rfl, _⟩ := own_slice ho
      obtain ⟨r1, r2, r3⟩ := row_of_own ho
      exact ⟨HB.out, A1, c1, rfl, r2, r3, r1⟩

set_option maxHeartbeats 1000000 in
theorem l04Copy_any (A : Option Addr) (s : List Int) (c : Nat) (H Q : Int) (w : World) (hm : s.length ≤ 2097152) (HI : IS w A s) :
    Calls Try.prog 57 #[.agg #[.slice A s.length c, .int .i64 H, .int .i64 Q]] w (DqOut w s H Q id) := by
  have HI1 := Lib.hid ((HI.below ((Below.refl _ _).alloc (Nat.le_refl _) (.cells #[.slice A s.length c, .int .i64 H, .int .i64 Q] 28))).below ((Below.refl _ _).alloc (Nat.le_refl _) (.cells #[.slice none 0 0, .int .i64 0, .int .i64 0] 28)))
  have HB1 := Lib.hid (((Below.refl w.heap.size w).alloc (Nat.le_refl _) (.cells #[.slice A s.length c, .int .i64 H, .int .i64 Q] 28)).alloc (by simp) (.cells #[.slice none 0 0, .int .i64 0, .int .i64 0] 28))
  have HK0 := Lib.hid ((BlkL.new w 28 [.slice A s.length c, .int .i64 H, .int .i64 Q]).alloc (.cells #[.slice none 0 0, .int .i64 0, .int .i64 0] 28))
  have HK1' := BlkL.new (w.alloc (.cells #[.slice A s.length c, .int .i64 H, .int .i64 Q] 28)) 28 [.slice none 0 0, .int .i64 0, .int .i64 0]
  rw [World.size_alloc] at HK1'
  have HK1 := Lib.hid HK1'
  clear HI HK1'
  go_enter Try.func57, Try.ntmps57
  go_wp2_with fail
  generalize hw1 : (w.alloc (.cells #[.slice A s.length c, .int .i64 H, .int .i64 Q] 28)).alloc (.cells #[.slice none 0 0, .int .i64 0, .int .i64 0] 28) = w1 at *
  have hz1 : w1.heap.size = w.heap.size + 1 + 1 := by rw [← hw1]; simp
  clear hw1
  have a0 := HK0.out.cell 0
  have a1 := HK0.out.cell 1
  have a2 := HK0.out.cell 2
  simp only [List.getElem?_cons_zero, List.getElem?_cons_succ] at a0 a1 a2
  have r0 := Kept.rd a0
  have r1 := Kept.rd a1
  have r2 := Kept.rd a2
  have hne : Nonempty (Kept w1) := ⟨⟨w1, Below.refl _ _⟩⟩
  clear a0 a1 a2
  refine wp_region_chain [true, true, false, true, true, true, true, false, false] (fun w' => ∃ x : Kept w1, w' = x.W) (by kernel_rfl) (by kernel_rfl) (Kept.start w1) ?_
  simp only [Chain.pickM, List.map_cons, List.map_nil, Bool.not_true, Bool.not_false]
  repeat (go_big_quiet_step (fail))
  refine wpQuiet_nil ?_
  refine chain_step (fun K hK => ?_)
  unfold Chain.mov
  go_simp
  simp only [Chain.movUpon]
  refine (l01Copy_any A s c w1.drew hm HI1.out).mono ?_
  rintro e w2 ⟨hb2, A1, c1, rfl, hlo, hc, hr⟩
  have HB2 := Lib.hid (show Below w1.heap.size w1 w2 from (Below.refl _ w1).drew.trans (hb2.mono (Nat.le_refl _)))
  have HLO := Lib.hid (show ∀ b, A1.map (·.block) = some b → w1.heap.size ≤ b from hlo)
  have HCC := Lib.hid hc
  have HR := Lib.hid hr
  refine ⟨_, rfl, hK _ _ ⟨Kept.mk' HB2.out, ?_⟩⟩
  clear hK K hb2 hlo hc hr r0 r1 r2
  refine chain_step (fun K hK => ?_)
  unfold Chain.mov
  go_simp
  simp only [Chain.movUpon]
  refine hK _ _ ⟨Kept.mk' HB2.out, ?_⟩
  clear hK K hne
  unfold Chain.chainW
  have K3 := HK1.out.below HB2.out (by omega)
  have d0 := K3.cell 0
  have d1 := K3.cell 1
  have d2 := K3.cell 2
  have y0 := K3.frozen 0
  have y1 := K3.frozen 1
  have y2 := K3.frozen 2
  simp only [List.getElem?_cons_zero, List.getElem?_cons_succ] at d0 d1 d2
  clear K3
  go_wp2
  refine bodyPost_ret (v := .agg #[.slice A1 s.length c1, .int .i64 H, .int .i64 Q]) (by simp [results, Try.results57, go_sem, d0, d1, d2]) rfl ?_
  refine ⟨(((HB1.out.trans (HB2.out.mono (by omega))).setCell (p := ⟨w.heap.size + 1, 0, none⟩) (by simp) _).setCell (p := ⟨w.heap.size + 1, 1, none⟩) (by simp) _).setCell (p := ⟨w.heap.size + 1, 2, none⟩) (by simp) _, A1, c1, rfl, fun b hb => by have := HLO.out b hb; omega, HCC.out, ?_⟩
  exact ((HR.out.set (fun b hb => by have := HLO.out b hb; simp; omega) _).set (fun b hb => by have := HLO.out b hb; simp; omega) _).set (fun b hb => by have := HLO.out b hb; simp; omega) _
end Go.Proofs.Ytkpkchlbljlbnaa
