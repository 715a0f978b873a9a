/-
  The model's TreeOk.
-/
import Derived.Test.YthjkgbcomjiejaaGreatDoorKk31
import Derived.Test.YthjkgbcomjiejaaGreatDoorKk27
import Derived.Test.YthjkgbcomjiejaaGreatDoorKk32
namespace Go.Proofs.YthjkgbcomjiejaaGreatDoor
open Go.RowKit
set_option linter.unusedVariables false

theorem l07Kids_node (A : Option Addr) (l : List Nd) (n c : Nat) (j : Nat) (w : World) (hn : l.length = n) (hm : n ≤ 2097152) (hl : NS w A l) (hup : UpTo l l.length) (hj : j < n) :
    Calls Tryz.prog 31 #[.slice A n c, .int .i64 (j : Int)] w (PcOut w (kidsN l (j + 1) n)) := by
  have := l07Kids_any A l n c (j + 1) w hn hm hl hup (by omega)
  rw [show (((j + 1 : Nat) : Int) - 1) = (j : Int) by omega] at this
  exact this
theorem lxG_bad (s : ByteArray) (f : Nat) : ∀ (a : Nat) (out : List Lx), (lxG s f a out).2 = -1 ∨ (0 ≤ (lxG s f a out).2 ∧ (lxG s f a out).1 = []) := by
  induction f with
  | zero => intro a out; exact .inl rfl
  | succ f ih =>
    intro a out
    simp only [lxG]
    split
    · exact .inl rfl
    · split
      · exact ih _ _
      · cases hr : rdO s a out.length with
        | some p => exact .inr ⟨by simp, rfl⟩
        | none => exact ih _ _
theorem lxA_bad (s : ByteArray) : (lxA s).2 = -1 ∨ (0 ≤ (lxA s).2 ∧ (lxA s).1 = []) := by
  unfold lxA
  split
  · exact .inr ⟨by simp, rfl⟩
  · exact lxG_bad _ _ _ _
theorem hld_zero (l : List Nd) : hld l 0 = true := by simp [hld, knd_zero]
theorem hld_node {l : List Nd} {k : Nat} (h : UpTo l k) {i : Nat} (hi : i < k) : hld l (i + 1) = decide (3 ≤ knd l (i + 1)) := by
  obtain ⟨⟨x, hx, hn⟩, _⟩ := h i hi
  have hb := (nodB_bd hn).1
  rw [hld, knd_succ hx]
  by_cases h3 : 3 ≤ x.k
  · have : inB x.k 3 6 = true := inB_true.2 ⟨h3, hb.2⟩
    simp [this, h3]
  · have : inB x.k 3 6 = false := by
      cases e : inB x.k 3 6
      · rfl
      · exact (h3 (inB_true.1 e).1).elim
    simp [this, h3]; omega
theorem whl_zero (l : List Nd) (n : Nat) : whl l 0 n = true := by simp [whl, knd_zero]
set_option maxHeartbeats 8000000 in
set_option maxRecDepth 100000 in
theorem sTreeOk_any (A : Option Addr) (l : List Nd) (n c : Nat) (w : World) (hn : l.length = n) (hm : n ≤ 2097152) (hl : NS w A l) (hs : ∀ (i : Nat) (x : Nd), l[i]? = some x → x.s.size ≤ 1048576) :
    Calls Tryz.prog 18 #[.slice A n c] w fun e w' => e = .returned (.bool (treB l)) ∧ Below w.heap.size w w' := by
  have HN := Lib.hid hn
  have HL := Lib.hid hl
  have HS := Lib.hid hs
  clear hn hl hs
  by_cases h200 : 200 < n
  · have HI := Lib.hid (show treB l = false from treB_no fun t => by have := t.len; have := HN.out; omega)
    go_enter Tryz.func18, Tryz.ntmps18
    go_wp2
    go_ret
    rw [HI.out]
    exact ⟨rfl, Below.refl _ _⟩
  go_enter Tryz.func18, Tryz.ntmps18
  go_wp2
  go_loopw [3] (fun iv wr => ∃ k : Nat, k ≤ n ∧ iv = .int .i64 k ∧ UpTo l k ∧ Below w.heap.size w wr) (fun iv _ => n - (intOf iv).toNat)
  case atStart => exact ⟨0, Nat.zero_le _, rfl, UpTo.zero l, Below.refl _ _⟩
  case round =>
    obtain ⟨k, hk, rfl, hup, hb⟩ := hrel
    have HUP := Lib.hid hup
    have HB := Lib.hid hb
    have hsz := hb.size
    clear hup hb
    by_cases hkl : k < n
    · obtain ⟨x, b, o, hx, rfl, hbl, _⟩ := HL.out.all (k := k) (by have := HN.out; omega)
      obtain ⟨hbl', c0, c1, c2⟩ := NS.get (HL.out.below HB.out) hx
      have HX := Lib.hid hx
      have hxs := HS.out k x hx
      have hX3 := BlkL.new wr 31 [.int .i64 x.d, .int .i64 x.k, .string x.s]
      change BlkL (wr.alloc (.cells #[.int .i64 x.d, .int .i64 x.k, .string x.s] 31)) _ _ _ at hX3
      have hB3 := (Below.refl wr.heap.size wr).alloc (Nat.le_refl _) (.cells #[.int .i64 x.d, .int .i64 x.k, .string x.s] 31)
      have HB3 := Lib.hid (HB.out.trans (hB3.mono hsz))
      have HX3 := Lib.hid hX3
      have hlk : k < l.length := by have := HN.out; omega
      clear hx hX3 hB3
      cases q1 : inB x.k 0 6
      · have HI := Lib.hid (no_node HX.out (show nodB x = false by simp [nodB, q1]))
        go_wp2_with (go_at_call 36; refine (l01In_any _ _ _ _).mono ?_; rintro e w' ⟨rfl, rfl⟩; rw [q1])
        go_ret
        rw [HI.out]
        exact ⟨rfl, HB3.out⟩
      cases q2 : inB x.d 0 12
      · have HI := Lib.hid (no_node HX.out (show nodB x = false by simp [nodB, q2]))
        go_wp2_with (go_at_call 36; refine (l01In_any _ _ _ _).mono ?_; rintro e w' ⟨rfl, rfl⟩; first | rw [q1] | rw [q2])
        go_ret
        rw [HI.out]
        exact ⟨rfl, HB3.out⟩
      have Q1 := Lib.hid q1
      have Q2 := Lib.hid q2
      have hk6 := inB_true.1 q1
      have hd12 := inB_true.1 q2
      clear q1 q2
      have HH := Lib.hid (hang_iff (l := l) (i := k) (fun j hj => (HUP.out j hj).2) (by rw [dep_succ HX.out]; exact hd12.1))
      have hw3 : (wr.alloc (.cells #[.int .i64 x.d, .int .i64 x.k, .string x.s] 31)).heap.size = wr.heap.size + 1 := by simp
      by_cases hk0 : k = 0
      · have b0 : ((k : Int) == 0) = true := by simp; omega
        have b1 : decide ((0 : Int) < (k : Int)) = false := by simp; omega
        have b1' : decide (0 < k) = false := by simp; omega
        have HK0 := Lib.hid hk0
        clear hk0
        by_cases hd0 : x.d = 0
        · have HHG := Lib.hid (show hang l k from HH.out.2 (by
            have e := HK0.out
            subst e
            rw [dep_succ HX.out, dep_zero]
            exact ⟨by omega, fun _ => hld_zero l⟩))
          have d0 : (x.d == 0) = true := by simpa using hd0
          have d1 : (x.d != 0) = false := by simpa using hd0
          clear hd0 HH
          go_wp2_with (go_at_call 36; refine (l01In_any _ _ _ _).mono ?_; rintro e w' ⟨rfl, rfl⟩; first | rw [Q1.out] | rw [Q2.out])
          generalize wr.alloc (.cells #[.int .i64 x.d, .int .i64 x.k, .string x.s] 31) = w3 at *
          have r0 := Bw.rd (show w3.cell? ⟨wr.heap.size, 0, none⟩ = some (.int .i64 x.d) from (HX3.out.cell 0).trans rfl)
          have r1 := Bw.rd (show w3.cell? ⟨wr.heap.size, 1, none⟩ = some (.int .i64 x.k) from (HX3.out.cell 1).trans rfl)
          have r2 := Bw.rd (show w3.cell? ⟨wr.heap.size, 2, none⟩ = some (.string x.s) from (HX3.out.cell 2).trans rfl)
          refine wp_region_class (Bw w3) (by kernel_rfl) (by kernel_rfl) (Bw.start w3) (fun hne => ?_)
          repeat (go_big_quiet_step (fail))
          refine wpQuiet_nil ?_
          rintro w4 ⟨y, rfl⟩
          have HB4 := Lib.hid (HB3.out.trans (Below.mono y.ok HB3.out.size))
          have HX4 := Lib.hid (HX3.out.below y.ok HX3.out.lt)
          generalize y.W = w4 at *
          clear r0 r1 r2 hne
          have x0 : w4.cell? ⟨wr.heap.size, 0, none⟩ = some (.int .i64 x.d) := (HX4.out.cell 0).trans rfl
          have x1 : w4.cell? ⟨wr.heap.size, 1, none⟩ = some (.int .i64 x.k) := (HX4.out.cell 1).trans rfl
          have x2 : w4.cell? ⟨wr.heap.size, 2, none⟩ = some (.string x.s) := (HX4.out.cell 2).trans rfl
          have xl := HX4.out.lt
          clear c0 c1 c2 HX3
          by_cases h3 : 3 ≤ x.k
          · have h3b : decide (3 ≤ x.k) = true := by simpa using h3
            have h3c : decide (x.k < 3) = false := by simp; omega
            have HNN := Lib.hid (show nodB x = (x.s.toList == []) by unfold nodB; rw [Q1.out, Q2.out, if_pos h3]; rfl)
            clear h3
            cases he : (x.s.toList == [])
            · have HI := Lib.hid (no_node HX.out (HNN.out.trans he))
              have he' : (x.s.toList != []) = true := by unfold bne; rw [he]; rfl
              have he2 : x.s.toList.isEmpty = false := by revert he; cases x.s.toList <;> simp
              clear he
              go_wp2
              go_ret
              rw [HI.out]
              exact ⟨rfl, HB4.out⟩
            · have HUP5 := Lib.hid (HUP.out.succ HX.out (HNN.out.trans he) HHG.out)
              have he' : (x.s.toList != []) = false := by unfold bne; rw [he]; rfl
              have he2 : x.s.toList.isEmpty = true := by revert he; cases x.s.toList <;> simp
              clear he
              go_wp2
              go_roundw
              case rel => exact ⟨k + 1, by omega, by go_num, HUP5.out, HB4.out⟩
              case measure => simp [intOf]; omega
          · have h3b : decide (3 ≤ x.k) = false := by simpa using h3
            have h3c : decide (x.k < 3) = true := by simp; omega
            have HNN := Lib.hid (show nodB x = oneB x.k x.s (lxA x.s).1 by unfold nodB; rw [Q1.out, Q2.out, if_neg h3]; rfl)
            clear h3
            go_wp2_with fail
            refine (sLexText_any x.s w4 hxs).mono ?_
            rintro e w5 ⟨v5, rfl, ho5, hb5⟩
            obtain ⟨A5, c5, rfl⟩ := own_slice ho5
            have HX5 := Lib.hid (HX4.out.below hb5 HX4.out.lt)
            have HB5 := Lib.hid (HB4.out.trans (hb5.mono HB4.out.size))
            have HQ := Lib.hid (show XS w5 A5 (lxA x.s).1 from (OR.of_own fx_len rfl ho5).rs fx_len)
            have hbad := lxA_bad x.s
            have hlq := lxA_len x.s
            obtain ⟨q, hq⟩ : ∃ q, (lxA x.s).1 = q := ⟨_, rfl⟩
            obtain ⟨r, hr⟩ : ∃ r, (lxA x.s).2 = r := ⟨_, rfl⟩
            rw [hq] at HNN HQ hbad hlq ⊢
            rw [hr] at hbad ⊢
            clear ho5 hb5 HX4 HB4 hq hr x0 x1 x2 xl
            have r1 := Bw.rd (show w5.cell? ⟨wr.heap.size, 1, none⟩ = some (.int .i64 x.k) from (HX5.out.cell 1).trans rfl)
            have r2 := Bw.rd (show w5.cell? ⟨wr.heap.size, 2, none⟩ = some (.string x.s) from (HX5.out.cell 2).trans rfl)
            by_cases hr0 : 0 ≤ r
            · have hrb : decide (0 ≤ r) = true := by simpa using hr0
              have HI := Lib.hid (no_node HX.out (HNN.out.trans (by rcases hbad with h | h; omega; rw [h.2]; rfl)))
              clear hr0 hbad
              go_wp2_with fail
              refine wp_region_class (Bw w5) (by kernel_rfl) (by kernel_rfl) (Bw.start w5) (fun hne => ?_)
              repeat (go_big_quiet_step (fail))
              refine wpQuiet_nil ?_
              rintro w6 ⟨y, rfl⟩
              have HB6 := Lib.hid (HB5.out.trans (Below.mono y.ok HB5.out.size))
              generalize y.W = w6 at *
              clear r1 r2 hne
              go_wp2
              go_ret
              rw [HI.out]
              exact ⟨rfl, HB6.out⟩
            have hrb : decide (0 ≤ r) = false := by simpa using hr0
            clear hr0 hbad
            by_cases hq1 : q.length = 1
            · match q, hq1 with
              | [z], _ =>
                obtain ⟨t, b5, o5, ht, rfl, hbl5, p0, p1, p2⟩ := HQ.out.all (k := 0) (by simp)
                simp at ht
                subst ht
                simp only [Nat.zero_mul, Nat.add_zero] at p0 p1
                simp only [List.length_cons, List.length_nil, Nat.zero_add]
                have s0 := Bw.rd p0
                have s1 := Bw.rd p1
                clear p0 p1 p2 hlq
                have HN1 := Lib.hid (show nodB x = (z.k == x.k && z.s.toList == x.s.toList) from HNN.out)
                cases e1 : (z.k == x.k)
                · have HI := Lib.hid (no_node HX.out (HN1.out.trans (by rw [e1]; rfl)))
                  have e1' : (z.k != x.k) = true := by unfold bne; rw [e1]; rfl
                  go_wp2_with fail
                  refine wp_region_class (Bw w5) (by kernel_rfl) (by kernel_rfl) (Bw.start w5) (fun hne => ?_)
                  repeat (go_big_quiet_step (fail))
                  refine wpQuiet_nil ?_
                  rintro w6 ⟨y, rfl⟩
                  have HB6 := Lib.hid (HB5.out.trans (Below.mono y.ok HB5.out.size))
                  generalize y.W = w6 at *
                  clear r1 r2 s0 s1 hne
                  go_wp2
                  go_ret
                  rw [HI.out]
                  exact ⟨rfl, HB6.out⟩
                · cases e2 : (z.s.toList == x.s.toList)
                  · have HI := Lib.hid (no_node HX.out (HN1.out.trans (by rw [e1, e2]; rfl)))
                    have e1' : (z.k != x.k) = false := by unfold bne; rw [e1]; rfl
                    have e2' : (z.s.toList != x.s.toList) = true := by unfold bne; rw [e2]; rfl
                    go_wp2_with fail
                    refine wp_region_class (Bw w5) (by kernel_rfl) (by kernel_rfl) (Bw.start w5) (fun hne => ?_)
                    repeat (go_big_quiet_step (fail))
                    refine wpQuiet_nil ?_
                    rintro w6 ⟨y, rfl⟩
                    have HB6 := Lib.hid (HB5.out.trans (Below.mono y.ok HB5.out.size))
                    generalize y.W = w6 at *
                    clear r1 r2 s0 s1 hne
                    go_wp2
                    go_ret
                    rw [HI.out]
                    exact ⟨rfl, HB6.out⟩
                  · have HUP5 := Lib.hid (HUP.out.succ HX.out (HN1.out.trans (by rw [e1, e2]; rfl)) HHG.out)
                    have e1' : (z.k != x.k) = false := by unfold bne; rw [e1]; rfl
                    have e2' : (z.s.toList != x.s.toList) = false := by unfold bne; rw [e2]; rfl
                    go_wp2_with fail
                    refine wp_region_class (Bw w5) (by kernel_rfl) (by kernel_rfl) (Bw.start w5) (fun hne => ?_)
                    repeat (go_big_quiet_step (fail))
                    refine wpQuiet_nil ?_
                    rintro w6 ⟨y, rfl⟩
                    have HB6 := Lib.hid (HB5.out.trans (Below.mono y.ok HB5.out.size))
                    generalize y.W = w6 at *
                    clear r1 r2 s0 s1 hne
                    go_wp2
                    go_roundw
                    case rel => exact ⟨k + 1, by omega, by go_num, HUP5.out, HB6.out⟩
                    case measure => simp [intOf]; omega
            · have HI := Lib.hid (no_node HX.out (HNN.out.trans (by
                unfold oneB
                split
                · simp at hq1
                · rfl)))
              have b1 : ((q.length : Int) == 1) = false := by simp; omega
              have b2 : ((q.length : Int) != 1) = true := by simp; omega
              clear hq1
              go_wp2_with fail
              refine wp_region_class (Bw w5) (by kernel_rfl) (by kernel_rfl) (Bw.start w5) (fun hne => ?_)
              repeat (go_big_quiet_step (fail))
              refine wpQuiet_nil ?_
              rintro w6 ⟨y, rfl⟩
              have HB6 := Lib.hid (HB5.out.trans (Below.mono y.ok HB5.out.size))
              generalize y.W = w6 at *
              clear r1 r2 hne
              go_wp2
              go_ret
              rw [HI.out]
              exact ⟨rfl, HB6.out⟩
        · have HI := Lib.hid (no_hang hlk (fun t => by
            have e := HK0.out
            have t2 := (HH.out.1 t).1
            subst e
            rw [dep_succ HX.out, dep_zero] at t2
            omega))
          have d0 : (x.d == 0) = false := by simpa using hd0
          have d1 : (x.d != 0) = true := by simpa using hd0
          clear hd0 HH
          go_wp2_with (go_at_call 36; refine (l01In_any _ _ _ _).mono ?_; rintro e w' ⟨rfl, rfl⟩; first | rw [Q1.out] | rw [Q2.out])
          go_ret
          rw [HI.out]
          exact ⟨rfl, HB3.out⟩
      · obtain ⟨j, hj⟩ : ∃ j, k = j + 1 := ⟨k - 1, by omega⟩
        have b0 : ((k : Int) == 0) = false := by simp; omega
        have b1 : decide ((0 : Int) < (k : Int)) = true := by simp; omega
        have b1' : decide (0 < k) = true := by simp; omega
        have hkj : (k : Int) - 1 = (j : Int) := by omega
        have HJ := Lib.hid hj
        have hjn : j < n := by omega
        obtain ⟨u, b', o', hu, hA, _, _⟩ := HL.out.all (k := j) (by have := HN.out; omega)
        injection hA with hA
        injection hA with e1 e2 _
        subst e1 e2
        obtain ⟨_, f0, f1, f2⟩ := NS.get (HL.out.below HB3.out) hu
        have hud := HUP.out.dep (i := k) (Nat.le_refl _)
        have HU1 := Lib.hid (show dep l k = u.d by rw [hj]; exact dep_succ hu)
        have HU2 := Lib.hid (show hld l k = decide (3 ≤ u.k) by
          have h := hld_node HUP.out (i := j) (by omega)
          rw [hj, h, knd_succ hu])
        rw [HU1.out] at hud
        clear hk0 hj hu
        go_wp2_with (go_at_call 36; refine (l01In_any _ _ _ _).mono ?_; rintro e w' ⟨rfl, rfl⟩; first | rw [Q1.out] | rw [Q2.out])
        generalize wr.alloc (.cells #[.int .i64 x.d, .int .i64 x.k, .string x.s] 31) = w3 at *
        have r0 := Bw.rd (show w3.cell? ⟨wr.heap.size, 0, none⟩ = some (.int .i64 x.d) from (HX3.out.cell 0).trans rfl)
        have r1 := Bw.rd (show w3.cell? ⟨wr.heap.size, 1, none⟩ = some (.int .i64 x.k) from (HX3.out.cell 1).trans rfl)
        have r2 := Bw.rd (show w3.cell? ⟨wr.heap.size, 2, none⟩ = some (.string x.s) from (HX3.out.cell 2).trans rfl)
        have r3 := Bw.rd f0
        have r4 := Bw.rd f1
        clear f0 f1 f2
        by_cases hgt : u.d + 1 < x.d
        · have HI := Lib.hid (no_hang hlk (fun t => by
            have t2 := (HH.out.1 t).1
            rw [dep_succ HX.out, HU1.out] at t2
            omega))
          have g1 : decide (u.d + 1 < x.d) = true := by simpa using hgt
          clear hgt HH
          refine wp_region_class (Bw w3) (by kernel_rfl) (by kernel_rfl) (Bw.start w3) (fun hne => ?_)
          repeat (go_big_quiet_step (fail))
          refine wpQuiet_nil ?_
          rintro w4 ⟨y, rfl⟩
          have HB4 := Lib.hid (HB3.out.trans (Below.mono y.ok HB3.out.size))
          have HX4 := Lib.hid (HX3.out.below y.ok HX3.out.lt)
          generalize y.W = w4 at *
          clear r0 r1 r2 hne r3 r4
          go_wp2
          go_ret
          rw [HI.out]
          exact ⟨rfl, HB4.out⟩
        have g1 : decide (u.d + 1 < x.d) = false := by simpa using hgt
        by_cases heq : x.d = u.d + 1
        · have g2 : (x.d == u.d + 1) = true := by simpa using heq
          by_cases hk3 : u.k < 3
          · have HI := Lib.hid (no_hang hlk (fun t => by
              have t2 := (HH.out.1 t).2 (by rw [dep_succ HX.out, HU1.out]; exact heq)
              rw [HU2.out] at t2
              simp at t2
              omega))
            have g3 : decide (u.k < 3) = true := by simpa using hk3
            clear hgt HH heq hk3
            refine wp_region_class (Bw w3) (by kernel_rfl) (by kernel_rfl) (Bw.start w3) (fun hne => ?_)
            repeat (go_big_quiet_step (fail))
            refine wpQuiet_nil ?_
            rintro w4 ⟨y, rfl⟩
            have HB4 := Lib.hid (HB3.out.trans (Below.mono y.ok HB3.out.size))
            have HX4 := Lib.hid (HX3.out.below y.ok HX3.out.lt)
            generalize y.W = w4 at *
            clear r0 r1 r2 hne r3 r4
            go_wp2
            go_ret
            rw [HI.out]
            exact ⟨rfl, HB4.out⟩
          · have HHG := Lib.hid (show hang l k from HH.out.2 (by
              rw [dep_succ HX.out, HU1.out, HU2.out]
              exact ⟨by omega, fun _ => by simp; omega⟩))
            have g3 : decide (u.k < 3) = false := by simpa using hk3
            clear hgt HH heq hk3
            refine wp_region_class (Bw w3) (by kernel_rfl) (by kernel_rfl) (Bw.start w3) (fun hne => ?_)
            repeat (go_big_quiet_step (fail))
            refine wpQuiet_nil ?_
            rintro w4 ⟨y, rfl⟩
            have HB4 := Lib.hid (HB3.out.trans (Below.mono y.ok HB3.out.size))
            have HX4 := Lib.hid (HX3.out.below y.ok HX3.out.lt)
            generalize y.W = w4 at *
            clear r0 r1 r2 hne r3 r4
            have x0 : w4.cell? ⟨wr.heap.size, 0, none⟩ = some (.int .i64 x.d) := (HX4.out.cell 0).trans rfl
            have x1 : w4.cell? ⟨wr.heap.size, 1, none⟩ = some (.int .i64 x.k) := (HX4.out.cell 1).trans rfl
            have x2 : w4.cell? ⟨wr.heap.size, 2, none⟩ = some (.string x.s) := (HX4.out.cell 2).trans rfl
            have xl := HX4.out.lt
            clear c0 c1 c2 HX3
            by_cases h3 : 3 ≤ x.k
            · have h3b : decide (3 ≤ x.k) = true := by simpa using h3
              have h3c : decide (x.k < 3) = false := by simp; omega
              have HNN := Lib.hid (show nodB x = (x.s.toList == []) by unfold nodB; rw [Q1.out, Q2.out, if_pos h3]; rfl)
              clear h3
              cases he : (x.s.toList == [])
              · have HI := Lib.hid (no_node HX.out (HNN.out.trans he))
                have he' : (x.s.toList != []) = true := by unfold bne; rw [he]; rfl
                have he2 : x.s.toList.isEmpty = false := by revert he; cases x.s.toList <;> simp
                clear he
                go_wp2
                go_ret
                rw [HI.out]
                exact ⟨rfl, HB4.out⟩
              · have HUP5 := Lib.hid (HUP.out.succ HX.out (HNN.out.trans he) HHG.out)
                have he' : (x.s.toList != []) = false := by unfold bne; rw [he]; rfl
                have he2 : x.s.toList.isEmpty = true := by revert he; cases x.s.toList <;> simp
                clear he
                go_wp2
                go_roundw
                case rel => exact ⟨k + 1, by omega, by go_num, HUP5.out, HB4.out⟩
                case measure => simp [intOf]; omega
            · have h3b : decide (3 ≤ x.k) = false := by simpa using h3
              have h3c : decide (x.k < 3) = true := by simp; omega
              have HNN := Lib.hid (show nodB x = oneB x.k x.s (lxA x.s).1 by unfold nodB; rw [Q1.out, Q2.out, if_neg h3]; rfl)
              clear h3
              go_wp2_with fail
              refine (sLexText_any x.s w4 hxs).mono ?_
              rintro e w5 ⟨v5, rfl, ho5, hb5⟩
              obtain ⟨A5, c5, rfl⟩ := own_slice ho5
              have HX5 := Lib.hid (HX4.out.below hb5 HX4.out.lt)
              have HB5 := Lib.hid (HB4.out.trans (hb5.mono HB4.out.size))
              have HQ := Lib.hid (show XS w5 A5 (lxA x.s).1 from (OR.of_own fx_len rfl ho5).rs fx_len)
              have hbad := lxA_bad x.s
              have hlq := lxA_len x.s
              obtain ⟨q, hq⟩ : ∃ q, (lxA x.s).1 = q := ⟨_, rfl⟩
              obtain ⟨r, hr⟩ : ∃ r, (lxA x.s).2 = r := ⟨_, rfl⟩
              rw [hq] at HNN HQ hbad hlq ⊢
              rw [hr] at hbad ⊢
              clear ho5 hb5 HX4 HB4 hq hr x0 x1 x2 xl
              have r1 := Bw.rd (show w5.cell? ⟨wr.heap.size, 1, none⟩ = some (.int .i64 x.k) from (HX5.out.cell 1).trans rfl)
              have r2 := Bw.rd (show w5.cell? ⟨wr.heap.size, 2, none⟩ = some (.string x.s) from (HX5.out.cell 2).trans rfl)
              by_cases hr0 : 0 ≤ r
              · have hrb : decide (0 ≤ r) = true := by simpa using hr0
                have HI := Lib.hid (no_node HX.out (HNN.out.trans (by rcases hbad with h | h; omega; rw [h.2]; rfl)))
                clear hr0 hbad
                go_wp2_with fail
                refine wp_region_class (Bw w5) (by kernel_rfl) (by kernel_rfl) (Bw.start w5) (fun hne => ?_)
                repeat (go_big_quiet_step (fail))
                refine wpQuiet_nil ?_
                rintro w6 ⟨y, rfl⟩
                have HB6 := Lib.hid (HB5.out.trans (Below.mono y.ok HB5.out.size))
                generalize y.W = w6 at *
                clear r1 r2 hne
                go_wp2
                go_ret
                rw [HI.out]
                exact ⟨rfl, HB6.out⟩
              have hrb : decide (0 ≤ r) = false := by simpa using hr0
              clear hr0 hbad
              by_cases hq1 : q.length = 1
              · match q, hq1 with
                | [z], _ =>
                  obtain ⟨t, b5, o5, ht, rfl, hbl5, p0, p1, p2⟩ := HQ.out.all (k := 0) (by simp)
                  simp at ht
                  subst ht
                  simp only [Nat.zero_mul, Nat.add_zero] at p0 p1
                  simp only [List.length_cons, List.length_nil, Nat.zero_add]
                  have s0 := Bw.rd p0
                  have s1 := Bw.rd p1
                  clear p0 p1 p2 hlq
                  have HN1 := Lib.hid (show nodB x = (z.k == x.k && z.s.toList == x.s.toList) from HNN.out)
                  cases e1 : (z.k == x.k)
                  · have HI := Lib.hid (no_node HX.out (HN1.out.trans (by rw [e1]; rfl)))
                    have e1' : (z.k != x.k) = true := by unfold bne; rw [e1]; rfl
                    go_wp2_with fail
                    refine wp_region_class (Bw w5) (by kernel_rfl) (by kernel_rfl) (Bw.start w5) (fun hne => ?_)
                    repeat (go_big_quiet_step (fail))
                    refine wpQuiet_nil ?_
                    rintro w6 ⟨y, rfl⟩
                    have HB6 := Lib.hid (HB5.out.trans (Below.mono y.ok HB5.out.size))
                    generalize y.W = w6 at *
                    clear r1 r2 s0 s1 hne
                    go_wp2
                    go_ret
                    rw [HI.out]
                    exact ⟨rfl, HB6.out⟩
                  · cases e2 : (z.s.toList == x.s.toList)
                    · have HI := Lib.hid (no_node HX.out (HN1.out.trans (by rw [e1, e2]; rfl)))
                      have e1' : (z.k != x.k) = false := by unfold bne; rw [e1]; rfl
                      have e2' : (z.s.toList != x.s.toList) = true := by unfold bne; rw [e2]; rfl
                      go_wp2_with fail
                      refine wp_region_class (Bw w5) (by kernel_rfl) (by kernel_rfl) (Bw.start w5) (fun hne => ?_)
                      repeat (go_big_quiet_step (fail))
                      refine wpQuiet_nil ?_
                      rintro w6 ⟨y, rfl⟩
                      have HB6 := Lib.hid (HB5.out.trans (Below.mono y.ok HB5.out.size))
                      generalize y.W = w6 at *
                      clear r1 r2 s0 s1 hne
                      go_wp2
                      go_ret
                      rw [HI.out]
                      exact ⟨rfl, HB6.out⟩
                    · have HUP5 := Lib.hid (HUP.out.succ HX.out (HN1.out.trans (by rw [e1, e2]; rfl)) HHG.out)
                      have e1' : (z.k != x.k) = false := by unfold bne; rw [e1]; rfl
                      have e2' : (z.s.toList != x.s.toList) = false := by unfold bne; rw [e2]; rfl
                      go_wp2_with fail
                      refine wp_region_class (Bw w5) (by kernel_rfl) (by kernel_rfl) (Bw.start w5) (fun hne => ?_)
                      repeat (go_big_quiet_step (fail))
                      refine wpQuiet_nil ?_
                      rintro w6 ⟨y, rfl⟩
                      have HB6 := Lib.hid (HB5.out.trans (Below.mono y.ok HB5.out.size))
                      generalize y.W = w6 at *
                      clear r1 r2 s0 s1 hne
                      go_wp2
                      go_roundw
                      case rel => exact ⟨k + 1, by omega, by go_num, HUP5.out, HB6.out⟩
                      case measure => simp [intOf]; omega
              · have HI := Lib.hid (no_node HX.out (HNN.out.trans (by
                  unfold oneB
                  split
                  · simp at hq1
                  · rfl)))
                have b1 : ((q.length : Int) == 1) = false := by simp; omega
                have b2 : ((q.length : Int) != 1) = true := by simp; omega
                clear hq1
                go_wp2_with fail
                refine wp_region_class (Bw w5) (by kernel_rfl) (by kernel_rfl) (Bw.start w5) (fun hne => ?_)
                repeat (go_big_quiet_step (fail))
                refine wpQuiet_nil ?_
                rintro w6 ⟨y, rfl⟩
                have HB6 := Lib.hid (HB5.out.trans (Below.mono y.ok HB5.out.size))
                generalize y.W = w6 at *
                clear r1 r2 hne
                go_wp2
                go_ret
                rw [HI.out]
                exact ⟨rfl, HB6.out⟩
        · have HHG := Lib.hid (show hang l k from HH.out.2 (by
            rw [dep_succ HX.out, HU1.out, HU2.out]
            exact ⟨by omega, fun e => (heq e).elim⟩))
          have g2 : (x.d == u.d + 1) = false := by simpa using heq
          clear hgt HH heq
          refine wp_region_class (Bw w3) (by kernel_rfl) (by kernel_rfl) (Bw.start w3) (fun hne => ?_)
          repeat (go_big_quiet_step (fail))
          refine wpQuiet_nil ?_
          rintro w4 ⟨y, rfl⟩
          have HB4 := Lib.hid (HB3.out.trans (Below.mono y.ok HB3.out.size))
          have HX4 := Lib.hid (HX3.out.below y.ok HX3.out.lt)
          generalize y.W = w4 at *
          clear r0 r1 r2 hne r3 r4
          have x0 : w4.cell? ⟨wr.heap.size, 0, none⟩ = some (.int .i64 x.d) := (HX4.out.cell 0).trans rfl
          have x1 : w4.cell? ⟨wr.heap.size, 1, none⟩ = some (.int .i64 x.k) := (HX4.out.cell 1).trans rfl
          have x2 : w4.cell? ⟨wr.heap.size, 2, none⟩ = some (.string x.s) := (HX4.out.cell 2).trans rfl
          have xl := HX4.out.lt
          clear c0 c1 c2 HX3
          by_cases h3 : 3 ≤ x.k
          · have h3b : decide (3 ≤ x.k) = true := by simpa using h3
            have h3c : decide (x.k < 3) = false := by simp; omega
            have HNN := Lib.hid (show nodB x = (x.s.toList == []) by unfold nodB; rw [Q1.out, Q2.out, if_pos h3]; rfl)
            clear h3
            cases he : (x.s.toList == [])
            · have HI := Lib.hid (no_node HX.out (HNN.out.trans he))
              have he' : (x.s.toList != []) = true := by unfold bne; rw [he]; rfl
              have he2 : x.s.toList.isEmpty = false := by revert he; cases x.s.toList <;> simp
              clear he
              go_wp2
              go_ret
              rw [HI.out]
              exact ⟨rfl, HB4.out⟩
            · have HUP5 := Lib.hid (HUP.out.succ HX.out (HNN.out.trans he) HHG.out)
              have he' : (x.s.toList != []) = false := by unfold bne; rw [he]; rfl
              have he2 : x.s.toList.isEmpty = true := by revert he; cases x.s.toList <;> simp
              clear he
              go_wp2
              go_roundw
              case rel => exact ⟨k + 1, by omega, by go_num, HUP5.out, HB4.out⟩
              case measure => simp [intOf]; omega
          · have h3b : decide (3 ≤ x.k) = false := by simpa using h3
            have h3c : decide (x.k < 3) = true := by simp; omega
            have HNN := Lib.hid (show nodB x = oneB x.k x.s (lxA x.s).1 by unfold nodB; rw [Q1.out, Q2.out, if_neg h3]; rfl)
            clear h3
            go_wp2_with fail
            refine (sLexText_any x.s w4 hxs).mono ?_
            rintro e w5 ⟨v5, rfl, ho5, hb5⟩
            obtain ⟨A5, c5, rfl⟩ := own_slice ho5
            have HX5 := Lib.hid (HX4.out.below hb5 HX4.out.lt)
            have HB5 := Lib.hid (HB4.out.trans (hb5.mono HB4.out.size))
            have HQ := Lib.hid (show XS w5 A5 (lxA x.s).1 from (OR.of_own fx_len rfl ho5).rs fx_len)
            have hbad := lxA_bad x.s
            have hlq := lxA_len x.s
            obtain ⟨q, hq⟩ : ∃ q, (lxA x.s).1 = q := ⟨_, rfl⟩
            obtain ⟨r, hr⟩ : ∃ r, (lxA x.s).2 = r := ⟨_, rfl⟩
            rw [hq] at HNN HQ hbad hlq ⊢
            rw [hr] at hbad ⊢
            clear ho5 hb5 HX4 HB4 hq hr x0 x1 x2 xl
            have r1 := Bw.rd (show w5.cell? ⟨wr.heap.size, 1, none⟩ = some (.int .i64 x.k) from (HX5.out.cell 1).trans rfl)
            have r2 := Bw.rd (show w5.cell? ⟨wr.heap.size, 2, none⟩ = some (.string x.s) from (HX5.out.cell 2).trans rfl)
            by_cases hr0 : 0 ≤ r
            · have hrb : decide (0 ≤ r) = true := by simpa using hr0
              have HI := Lib.hid (no_node HX.out (HNN.out.trans (by rcases hbad with h | h; omega; rw [h.2]; rfl)))
              clear hr0 hbad
              go_wp2_with fail
              refine wp_region_class (Bw w5) (by kernel_rfl) (by kernel_rfl) (Bw.start w5) (fun hne => ?_)
              repeat (go_big_quiet_step (fail))
              refine wpQuiet_nil ?_
              rintro w6 ⟨y, rfl⟩
              have HB6 := Lib.hid (HB5.out.trans (Below.mono y.ok HB5.out.size))
              generalize y.W = w6 at *
              clear r1 r2 hne
              go_wp2
              go_ret
              rw [HI.out]
              exact ⟨rfl, HB6.out⟩
            have hrb : decide (0 ≤ r) = false := by simpa using hr0
            clear hr0 hbad
            by_cases hq1 : q.length = 1
            · match q, hq1 with
              | [z], _ =>
                obtain ⟨t, b5, o5, ht, rfl, hbl5, p0, p1, p2⟩ := HQ.out.all (k := 0) (by simp)
                simp at ht
                subst ht
                simp only [Nat.zero_mul, Nat.add_zero] at p0 p1
                simp only [List.length_cons, List.length_nil, Nat.zero_add]
                have s0 := Bw.rd p0
                have s1 := Bw.rd p1
                clear p0 p1 p2 hlq
                have HN1 := Lib.hid (show nodB x = (z.k == x.k && z.s.toList == x.s.toList) from HNN.out)
                cases e1 : (z.k == x.k)
                · have HI := Lib.hid (no_node HX.out (HN1.out.trans (by rw [e1]; rfl)))
                  have e1' : (z.k != x.k) = true := by unfold bne; rw [e1]; rfl
                  go_wp2_with fail
                  refine wp_region_class (Bw w5) (by kernel_rfl) (by kernel_rfl) (Bw.start w5) (fun hne => ?_)
                  repeat (go_big_quiet_step (fail))
                  refine wpQuiet_nil ?_
                  rintro w6 ⟨y, rfl⟩
                  have HB6 := Lib.hid (HB5.out.trans (Below.mono y.ok HB5.out.size))
                  generalize y.W = w6 at *
                  clear r1 r2 s0 s1 hne
                  go_wp2
                  go_ret
                  rw [HI.out]
                  exact ⟨rfl, HB6.out⟩
                · cases e2 : (z.s.toList == x.s.toList)
                  · have HI := Lib.hid (no_node HX.out (HN1.out.trans (by rw [e1, e2]; rfl)))
                    have e1' : (z.k != x.k) = false := by unfold bne; rw [e1]; rfl
                    have e2' : (z.s.toList != x.s.toList) = true := by unfold bne; rw [e2]; rfl
                    go_wp2_with fail
                    refine wp_region_class (Bw w5) (by kernel_rfl) (by kernel_rfl) (Bw.start w5) (fun hne => ?_)
                    repeat (go_big_quiet_step (fail))
                    refine wpQuiet_nil ?_
                    rintro w6 ⟨y, rfl⟩
                    have HB6 := Lib.hid (HB5.out.trans (Below.mono y.ok HB5.out.size))
                    generalize y.W = w6 at *
                    clear r1 r2 s0 s1 hne
                    go_wp2
                    go_ret
                    rw [HI.out]
                    exact ⟨rfl, HB6.out⟩
                  · have HUP5 := Lib.hid (HUP.out.succ HX.out (HN1.out.trans (by rw [e1, e2]; rfl)) HHG.out)
                    have e1' : (z.k != x.k) = false := by unfold bne; rw [e1]; rfl
                    have e2' : (z.s.toList != x.s.toList) = false := by unfold bne; rw [e2]; rfl
                    go_wp2_with fail
                    refine wp_region_class (Bw w5) (by kernel_rfl) (by kernel_rfl) (Bw.start w5) (fun hne => ?_)
                    repeat (go_big_quiet_step (fail))
                    refine wpQuiet_nil ?_
                    rintro w6 ⟨y, rfl⟩
                    have HB6 := Lib.hid (HB5.out.trans (Below.mono y.ok HB5.out.size))
                    generalize y.W = w6 at *
                    clear r1 r2 s0 s1 hne
                    go_wp2
                    go_roundw
                    case rel => exact ⟨k + 1, by omega, by go_num, HUP5.out, HB6.out⟩
                    case measure => simp [intOf]; omega
            · have HI := Lib.hid (no_node HX.out (HNN.out.trans (by
                unfold oneB
                split
                · simp at hq1
                · rfl)))
              have b1 : ((q.length : Int) == 1) = false := by simp; omega
              have b2 : ((q.length : Int) != 1) = true := by simp; omega
              clear hq1
              go_wp2_with fail
              refine wp_region_class (Bw w5) (by kernel_rfl) (by kernel_rfl) (Bw.start w5) (fun hne => ?_)
              repeat (go_big_quiet_step (fail))
              refine wpQuiet_nil ?_
              rintro w6 ⟨y, rfl⟩
              have HB6 := Lib.hid (HB5.out.trans (Below.mono y.ok HB5.out.size))
              generalize y.W = w6 at *
              clear r1 r2 hne
              go_wp2
              go_ret
              rw [HI.out]
              exact ⟨rfl, HB6.out⟩
    · obtain rfl : k = n := by omega
      have HUPN := Lib.hid (show UpTo l l.length by rw [HN.out]; exact HUP.out)
      go_wp2
      go_loopw [7] (fun iv wr => ∃ j : Nat, j ≤ k ∧ iv = .int .i64 j ∧ (∀ i, i < j + 1 → whl l i k = true) ∧ Below w.heap.size w wr) (fun iv _ => k - (intOf iv).toNat)
      case atStart => exact ⟨0, Nat.zero_le _, rfl, fun i hi => (show i = 0 by omega) ▸ whl_zero l k, HB.out⟩
      case round =>
        clear HB hsz
        obtain ⟨j, hj, rfl, hw, hb⟩ := hrel
        have HW := Lib.hid hw
        have HB := Lib.hid hb
        clear hw hb
        by_cases hjl : j < k
        · go_wp2_with fail
          refine (l07Kids_node A l k c j wr HN.out hm (HL.out.below HB.out) HUPN.out hjl).mono ?_
          rintro e w3 ⟨v3, rfl, ho3, hb3⟩
          obtain ⟨A3, c3, rfl⟩ := own_slice ho3
          have HO3 := Lib.hid ho3
          have HB3 := Lib.hid (HB.out.trans (hb3.mono HB.out.size))
          have HL3 := Lib.hid (HL.out.below HB3.out)
          obtain ⟨x, b, o, hx, rfl, hbl, c0, c1, c2⟩ := HL3.out.all (k := j) (by have := HN.out; omega)
          have hkx := knd_succ hx
          have hlen := kidsN_len l (j + 1) k
          have hpl := plainN_le l (kidsN l (j + 1) k)
          have HPL := Lib.hid (show ∀ V : World, Below w3.heap.size w3 V → Calls Tryz.prog 30 #[.slice (some ⟨b, o, none⟩) k c, .slice A3 (kidsN l (j + 1) k).length c3] V fun e w' => e = .returned (.int .i64 (plainN l (kidsN l (j + 1) k))) ∧ V = w' from fun V hV => l07Plain_any _ l k c A3 (kidsN l (j + 1) k) _ _ c3 V HN.out hm (HL3.out.below hV) (fun x hx => (kidsN_mem hx).1) (by omega) rfl (own_below HO3.out hV))
          obtain ⟨m, hm1⟩ : ∃ m, (kidsN l (j + 1) k).length = m := ⟨_, rfl⟩
          obtain ⟨p, hp1⟩ : ∃ p, plainN l (kidsN l (j + 1) k) = p := ⟨_, rfl⟩
          rw [hm1] at hlen hpl HPL ⊢
          rw [hp1] at hpl HPL
          have HWH := Lib.hid (show whl l (j + 1) k = (if x.k = 6 then decide (m = 1) && decide (p = 1) else if x.k = 5 then decide (p % 2 = 0) else true) by unfold whl; rw [hkx, hm1, hp1])
          clear ho3 hb3 hx c0 c2 hkx hm1 hp1 HO3
          have HNO := Lib.hid (show whl l (j + 1) k = false → treB l = false from fun h => treB_no fun t => by
            have := t.whole (j + 1) (by have := HN.out; omega)
            rw [HN.out, h] at this
            cases this)
          have HYES := Lib.hid (show whl l (j + 1) k = true → ∀ i, i < j + 1 + 1 → whl l i k = true from fun h i hi => by
            by_cases e : i = j + 1
            · subst e; exact h
            · exact HW.out i (by omega))
          by_cases h6 : x.k = 6
          · have HW6 := Lib.hid (show whl l (j + 1) k = (decide (m = 1) && decide (p = 1)) by rw [HWH.out, if_pos h6])
            rw [h6] at c1
            clear HWH h6
            by_cases e1 : m = 1
            · have f1 : ((m : Int) == 1) = true := by simp; omega
              have f2 : ((m : Int) != 1) = false := by simp; omega
              have E1 := Lib.hid e1
              clear e1
              by_cases e2 : p = 1
              · have f3 : ((p : Int) == 1) = true := by simp; omega
                have f4 : ((p : Int) != 1) = false := by simp; omega
                have HI := Lib.hid (HYES.out (by rw [HW6.out, E1.out, e2]; rfl))
                clear e2
                go_wp2_with (go_at_call 30; refine (HPL.out _ (Below.refl _ _)).mono ?_; rintro e w' ⟨rfl, rfl⟩)
                go_roundw
                case rel => exact ⟨j + 1, by omega, by go_num, HI.out, HB3.out⟩
                case measure => simp [intOf]; omega
              · have f3 : ((p : Int) == 1) = false := by simp; omega
                have f4 : ((p : Int) != 1) = true := by simp; omega
                have HI := Lib.hid (HNO.out (by rw [HW6.out]; simp [e2]))
                clear e2
                go_wp2_with (go_at_call 30; refine (HPL.out _ (Below.refl _ _)).mono ?_; rintro e w' ⟨rfl, rfl⟩)
                go_ret
                rw [HI.out]
                exact ⟨rfl, HB3.out⟩
            · have f1 : ((m : Int) == 1) = false := by simp; omega
              have f2 : ((m : Int) != 1) = true := by simp; omega
              have HI := Lib.hid (HNO.out (by rw [HW6.out]; simp [e1]))
              clear e1
              go_wp2_with (go_at_call 30; refine (HPL.out _ (Below.refl _ _)).mono ?_; rintro e w' ⟨rfl, rfl⟩)
              go_ret
              rw [HI.out]
              exact ⟨rfl, HB3.out⟩
          · have g6 : (x.k == 6) = false := by simpa using h6
            by_cases h5 : x.k = 5
            · have HW6 := Lib.hid (show whl l (j + 1) k = decide (p % 2 = 0) by rw [HWH.out, if_neg h6, if_pos h5])
              rw [h5] at c1 g6
              have hmod : (p : Int).tmod 2 = ((p % 2 : Nat) : Int) := (Int.ofNat_tmod p 2).symm
              clear HWH h6 h5
              by_cases e2 : p % 2 = 0
              · have HI := Lib.hid (HYES.out (by rw [HW6.out]; simp [e2]))
                rw [e2] at hmod
                clear e2
                go_wp2_with (go_at_call 30; refine (HPL.out _ (Below.refl _ _)).mono ?_; rintro e w' ⟨rfl, rfl⟩)
                go_roundw
                case rel => exact ⟨j + 1, by omega, by go_num, HI.out, HB3.out⟩
                case measure => simp [intOf]; omega
              · have HI := Lib.hid (HNO.out (by rw [HW6.out]; simp [e2]))
                have e3 : p % 2 = 1 := by omega
                rw [e3] at hmod
                clear e2 e3
                go_wp2_with (go_at_call 30; refine (HPL.out _ (Below.refl _ _)).mono ?_; rintro e w' ⟨rfl, rfl⟩)
                go_ret
                rw [HI.out]
                exact ⟨rfl, HB3.out⟩
            · have g5 : (x.k == 5) = false := by simpa using h5
              have HI := Lib.hid (HYES.out (by rw [HWH.out, if_neg h6, if_neg h5]))
              clear HWH h6 h5
              go_wp2
              go_roundw
              case rel => exact ⟨j + 1, by omega, by go_num, HI.out, HB3.out⟩
              case measure => simp [intOf]; omega
        · have HI := Lib.hid (treB_yes (UpTo.ok (by have := HN.out; omega) HUPN.out (fun i hi => by rw [HN.out]; exact HW.out i (by have := HN.out; omega))))
          go_wp2
          go_ret
          rw [HI.out]
          exact ⟨rfl, HB.out⟩
end Go.Proofs.YthjkgbcomjiejaaGreatDoor
