/-
  The tokens of branches, as the program gathers them.
-/
import Derived.Test.YtlcplgfjicifeaaGreatDoorQt22
import Derived.Test.YtlcplgfjicifeaaGreatDoorQt27
import Derived.Test.YtlcplgfjicifeaaGreatDoorQt28
import Derived.Test.YtlcplgfjicifeaaGreatDoorQt08
import Derived.Test.YtlcplgfjicifeaaGreatDoorQt26
import Derived.Laws.EntriesVeiled
namespace Go.Proofs.YtlcplgfjicifeaaGreatDoor
open Go.RowKit
set_option linter.unusedVariables false

def ft (t : Tk) : List Value := [.int .i64 t.k, .string t.s, .int .i64 t.d, .int .i64 t.o]
theorem ft_len (t : Tk) : (ft t).length = 4 := rfl
theorem fl_flat (l : List Tk) : fl ft l = flat l := by
  induction l with
  | nil => rfl
  | cons t r ih => rw [fl_cons, ih]; rfl
theorem ft_all (l : List Tk) : ∀ u ∈ fl ft l, u.oneCell' = true := by
  intro u hu
  unfold fl at hu
  obtain ⟨x, _, hx⟩ := List.mem_flatMap.1 hu
  simp [ft] at hx
  rcases hx with rfl | rfl | rfl | rfl <;> rfl
theorem infoTk : (Tryz.prog.info? 48).map (fun i => (i.zero, i.size, i.bytes)) = some (some (.agg #[.int .i64 0, .string ByteArray.empty, .int .i64 0, .int .i64 0]), 4, 40) := by kernel_rfl
/-- tokens of a call's own. -/
def TkO (w : World) (xs : List Tk) (e : Ending) (w' : World) : Prop := ∃ v, e = .returned v ∧ w'.ownsRow w.heap.size 48 4 v xs.length (fl ft xs) ∧ Below w.heap.size w w'
def tkV (t : Tk) : Value := .agg #[.int .i64 t.k, .string t.s, .int .i64 t.d, .int .i64 t.o]
set_option maxHeartbeats 400000 in
theorem textToken_any (s : ByteArray) (w : World) :
    Calls Tryz.prog 181 #[.string s] w fun e w' => e = .returned (.agg #[.int .i64 0, .string s, .int .i64 0, .int .i64 0]) ∧ w' = w.alloc (.cells #[.int .i64 0, .string s, .int .i64 0, .int .i64 0] 48) := by
  go_enter Tryz.func181, Tryz.ntmps181
  go_wp2
  refine bodyPost_ret (v := .agg #[.int .i64 0, .string s, .int .i64 0, .int .i64 0]) (by simp [results, Tryz.results181, go_sem]) rfl ⟨rfl, ?_⟩
  rfl
theorem tightBit_any (k : Int) (h0 : 0 ≤ k) (h1 : k ≤ 3) (w : World) :
    Calls Tryz.prog 182 #[.int .i64 k] w fun e w' => e = .returned (.int .i64 (k % 2)) ∧ w = w' := by
  obtain h | h | h | h : k = 0 ∨ k = 1 ∨ k = 2 ∨ k = 3 := by omega
  all_goals
    subst h
    go_enter Tryz.func182, Tryz.ntmps182
    go_wp2
    go_ret
    exact ⟨by kernel_rfl, rfl⟩
theorem own_lit (w : World) (t : TypeId) (z n : Nat) (cs : List Value) (hl : cs.length = n * z) (hm : n ≤ maxLen) : (w.alloc (.cells cs.toArray t)).ownsRow w.heap.size t z (.slice (some ⟨w.heap.size, 0, none⟩) n n) n cs :=
  ⟨hl, .inr ⟨w.heap.size, n, cs.toArray, rfl, Nat.le_refl _, BlkL.new w t cs, Nat.le_refl _, hm, by simpa using hl, by simp [← hl]⟩⟩
theorem own_low {w : World} {B C z n : Nat} {e : TypeId} {v : Value} {xs : List Value} (h : w.ownsRow B e z v n xs) (hc : C ≤ B) : w.ownsRow C e z v n xs := by
  rcases h.2 with hn | ⟨g, cap, cur, hv, hbg, rest⟩
  · exact ⟨h.1, .inl hn⟩
  · exact ⟨h.1, .inr ⟨g, cap, cur, hv, Nat.le_trans hc hbg, rest⟩⟩
set_option maxHeartbeats 1000000 in
set_option maxRecDepth 100000 in
theorem tokensOfText_any (s : Sy) (b : Nat) (T : ByteArray) (w : World) (h2 : w.cell? ⟨b, 2, none⟩ = some (.string T)) (hl : b < w.heap.size) :
    Calls Tryz.prog 138 #[s.val, .pointer (some ⟨b, 0, none⟩)] w (TkO w [tT T]) := by
  unfold Sy.val
  go_enter Tryz.func138, Tryz.ntmps138
  have hb := (((Below.refl w.heap.size w).alloc (Nat.le_refl _) (.cells #[.int .i64 s.r, .int .i64 s.q, .int .i64 s.c, .int .i64 s.h, .int .i64 s.g] 29)).alloc (by simp) (.cells #[.int .i64 0, .string T, .int .i64 0, .int .i64 0] 48)).alloc (by simp; omega) (.cells #[.int .i64 0, .string T, .int .i64 0, .int .i64 0] 48)
  go_wp2_with fail
  refine (textToken_any _ _).mono ?_
  rintro e w1 ⟨rfl, rfl⟩
  go_wp2
  go_ret
  refine ⟨_, rfl, ?_, hb⟩
  have hk := own_lit ((w.alloc (.cells #[.int .i64 s.r, .int .i64 s.q, .int .i64 s.c, .int .i64 s.h, .int .i64 s.g] 29)).alloc (.cells #[.int .i64 0, .string T, .int .i64 0, .int .i64 0] 48)) 48 4 1 [.int .i64 0, .string T, .int .i64 0, .int .i64 0] rfl (by unfold maxLen; omega)
  have hz : ((w.alloc (.cells #[.int .i64 s.r, .int .i64 s.q, .int .i64 s.c, .int .i64 s.h, .int .i64 s.g] 29)).alloc (.cells #[.int .i64 0, .string T, .int .i64 0, .int .i64 0] 48)).heap.size = w.heap.size + 1 + 1 := by simp
  rw [hz] at hk
  exact own_low hk (by omega)
/-- tokensOfNode hands on to the one that its Kind has. -/
theorem tkO_lift {w V : World} {xs : List Tk} {e : Ending} {w' : World} (hV : Below w.heap.size w V) (h : TkO V xs e w') : TkO w xs e w' := by
  obtain ⟨v, rfl, ho, hb⟩ := h
  exact ⟨v, rfl, own_low ho hV.size, hV.trans (hb.mono hV.size)⟩
set_option maxHeartbeats 1000000 in
set_option maxRecDepth 100000 in
theorem tokensOfNode_0 (s : Sy) (b : Nat) (xs : List Tk) (w : World) (h1 : w.cell? ⟨b, 1, none⟩ = some (.int .i64 0)) (hl : b < w.heap.size)
    (hC : ∀ V, Below w.heap.size w V → Calls Tryz.prog 138 #[s.val, .pointer (some ⟨b, 0, none⟩)] V (TkO V xs)) :
    Calls Tryz.prog 71 #[s.val, .pointer (some ⟨b, 0, none⟩)] w (TkO w xs) := by
  have HC := Lib.hid hC
  clear hC
  unfold Sy.val at HC ⊢
  go_enter Tryz.func71, Tryz.ntmps71
  go_wp2_with fail
  have hbA := ((Below.refl w.heap.size w).alloc (Nat.le_refl _) (.cells #[.int .i64 s.r, .int .i64 s.q, .int .i64 s.c, .int .i64 s.h, .int .i64 s.g] 29)).alloc (by simp) (.cells #[.func (.func 138) #[] #[], .func (.func 138) #[] #[], .func (.func 138) #[] #[], .func (.func 139) #[] #[], .func (.func 140) #[] #[], .func (.func 141) #[] #[], .func (.func 142) #[] #[]] 182)
  have hs := (SyAt.new w s 29).below ((Below.refl _ _).alloc (Nat.le_refl _) (.cells #[.func (.func 138) #[] #[], .func (.func 138) #[] #[], .func (.func 138) #[] #[], .func (.func 139) #[] #[], .func (.func 140) #[] #[], .func (.func 141) #[] #[], .func (.func 142) #[] #[]] 182))
  have hk := BlkL.new (w.alloc (.cells #[.int .i64 s.r, .int .i64 s.q, .int .i64 s.c, .int .i64 s.h, .int .i64 s.g] 29)) 182 [.func (.func 138) #[] #[], .func (.func 138) #[] #[], .func (.func 138) #[] #[], .func (.func 139) #[] #[], .func (.func 140) #[] #[], .func (.func 141) #[] #[], .func (.func 142) #[] #[]]
  rw [show (w.alloc (.cells #[.int .i64 s.r, .int .i64 s.q, .int .i64 s.c, .int .i64 s.h, .int .i64 s.g] 29)).heap.size = w.heap.size + 1 by simp] at hk
  have hkc := (hk.cell 0).trans rfl
  have h1' := (hbA.cell (p := ⟨b, 1, none⟩) hl).trans h1
  change Code.wp _ _ _ _ ((w.alloc (.cells #[.int .i64 s.r, .int .i64 s.q, .int .i64 s.c, .int .i64 s.h, .int .i64 s.g] 29)).alloc (.cells #[.func (.func 138) #[] #[], .func (.func 138) #[] #[], .func (.func 138) #[] #[], .func (.func 139) #[] #[], .func (.func 140) #[] #[], .func (.func 141) #[] #[], .func (.func 142) #[] #[]] 182))
  clear hk h1
  generalize ((w.alloc (.cells #[.int .i64 s.r, .int .i64 s.q, .int .i64 s.c, .int .i64 s.h, .int .i64 s.g] 29)).alloc (.cells #[.func (.func 138) #[] #[], .func (.func 138) #[] #[], .func (.func 138) #[] #[], .func (.func 139) #[] #[], .func (.func 140) #[] #[], .func (.func 141) #[] #[], .func (.func 142) #[] #[]] 182)) = W1 at *
  obtain ⟨c0, c1, c2, c3, c4, c5⟩ := hs
  have r1 := Bw.rd h1'
  have r2 := Bw.rd hkc
  have q0 := Bw.rd c0
  have q1 := Bw.rd c1
  have q2 := Bw.rd c2
  have q3 := Bw.rd c3
  have q4 := Bw.rd c4
  have hne : Nonempty (Cl (Bw W1)) := ⟨⟨_, Bw.start W1⟩⟩
  have HA := Lib.hid hbA
  clear c0 c1 c2 c3 c4 hbA h1' hkc
  refine wp_region_stages [0, 0, 0, 0, 0, 0, 0, 0, 0, 1, 3] 1 (fun w' => ∃ y : Cl (Bw W1), w' = y.W) (by kernel_rfl) (by kernel_rfl) ⟨⟨_, Bw.start W1⟩, rfl⟩ ?_
  simp only [Stage.stages, Stage.pickC, Nat.reduceBEq, Nat.reduceMul, Nat.reduceAdd, cond_true, cond_false, List.map_cons, List.map_nil]
  refine stage_more ?_
  repeat (go_big_quiet_step (fail))
  refine wpQuiet_nil ?_
  intro K hK
  unfold Chain.mov
  go_simp
  simp only [Chain.movUpon]
  refine (HC.out _ (HA.out.drew)).mono ?_
  rintro r w5 h5
  obtain ⟨v5, rfl, ho5, hb5⟩ := h5
  have HB5 := Lib.hid (show Bw W1 w5 from (Below.refl _ W1).drew.trans (hb5.mono (Nat.le_refl _)))
  refine ⟨_, rfl, hK _ _ ⟨⟨⟨_, HB5.out⟩, rfl⟩, ?_⟩⟩
  clear hK K
  refine stage_last ?_
  repeat (go_big_quiet_step (fail))
  refine wpQuiet_nil ?_
  go_wp2
  go_ret
  exact tkO_lift HA.out.drew ⟨_, rfl, ho5, hb5⟩
set_option maxHeartbeats 1000000 in
set_option maxRecDepth 100000 in
theorem tokensOfNode_1 (s : Sy) (b : Nat) (xs : List Tk) (w : World) (h1 : w.cell? ⟨b, 1, none⟩ = some (.int .i64 1)) (hl : b < w.heap.size)
    (hC : ∀ V, Below w.heap.size w V → Calls Tryz.prog 138 #[s.val, .pointer (some ⟨b, 0, none⟩)] V (TkO V xs)) :
    Calls Tryz.prog 71 #[s.val, .pointer (some ⟨b, 0, none⟩)] w (TkO w xs) := by
  have HC := Lib.hid hC
  clear hC
  unfold Sy.val at HC ⊢
  go_enter Tryz.func71, Tryz.ntmps71
  go_wp2_with fail
  have hbA := ((Below.refl w.heap.size w).alloc (Nat.le_refl _) (.cells #[.int .i64 s.r, .int .i64 s.q, .int .i64 s.c, .int .i64 s.h, .int .i64 s.g] 29)).alloc (by simp) (.cells #[.func (.func 138) #[] #[], .func (.func 138) #[] #[], .func (.func 138) #[] #[], .func (.func 139) #[] #[], .func (.func 140) #[] #[], .func (.func 141) #[] #[], .func (.func 142) #[] #[]] 182)
  have hs := (SyAt.new w s 29).below ((Below.refl _ _).alloc (Nat.le_refl _) (.cells #[.func (.func 138) #[] #[], .func (.func 138) #[] #[], .func (.func 138) #[] #[], .func (.func 139) #[] #[], .func (.func 140) #[] #[], .func (.func 141) #[] #[], .func (.func 142) #[] #[]] 182))
  have hk := BlkL.new (w.alloc (.cells #[.int .i64 s.r, .int .i64 s.q, .int .i64 s.c, .int .i64 s.h, .int .i64 s.g] 29)) 182 [.func (.func 138) #[] #[], .func (.func 138) #[] #[], .func (.func 138) #[] #[], .func (.func 139) #[] #[], .func (.func 140) #[] #[], .func (.func 141) #[] #[], .func (.func 142) #[] #[]]
  rw [show (w.alloc (.cells #[.int .i64 s.r, .int .i64 s.q, .int .i64 s.c, .int .i64 s.h, .int .i64 s.g] 29)).heap.size = w.heap.size + 1 by simp] at hk
  have hkc := (hk.cell 1).trans rfl
  have h1' := (hbA.cell (p := ⟨b, 1, none⟩) hl).trans h1
  change Code.wp _ _ _ _ ((w.alloc (.cells #[.int .i64 s.r, .int .i64 s.q, .int .i64 s.c, .int .i64 s.h, .int .i64 s.g] 29)).alloc (.cells #[.func (.func 138) #[] #[], .func (.func 138) #[] #[], .func (.func 138) #[] #[], .func (.func 139) #[] #[], .func (.func 140) #[] #[], .func (.func 141) #[] #[], .func (.func 142) #[] #[]] 182))
  clear hk h1
  generalize ((w.alloc (.cells #[.int .i64 s.r, .int .i64 s.q, .int .i64 s.c, .int .i64 s.h, .int .i64 s.g] 29)).alloc (.cells #[.func (.func 138) #[] #[], .func (.func 138) #[] #[], .func (.func 138) #[] #[], .func (.func 139) #[] #[], .func (.func 140) #[] #[], .func (.func 141) #[] #[], .func (.func 142) #[] #[]] 182)) = W1 at *
  obtain ⟨c0, c1, c2, c3, c4, c5⟩ := hs
  have r1 := Bw.rd h1'
  have r2 := Bw.rd hkc
  have q0 := Bw.rd c0
  have q1 := Bw.rd c1
  have q2 := Bw.rd c2
  have q3 := Bw.rd c3
  have q4 := Bw.rd c4
  have hne : Nonempty (Cl (Bw W1)) := ⟨⟨_, Bw.start W1⟩⟩
  have HA := Lib.hid hbA
  clear c0 c1 c2 c3 c4 hbA h1' hkc
  refine wp_region_stages [0, 0, 0, 0, 0, 0, 0, 0, 0, 1, 3] 1 (fun w' => ∃ y : Cl (Bw W1), w' = y.W) (by kernel_rfl) (by kernel_rfl) ⟨⟨_, Bw.start W1⟩, rfl⟩ ?_
  simp only [Stage.stages, Stage.pickC, Nat.reduceBEq, Nat.reduceMul, Nat.reduceAdd, cond_true, cond_false, List.map_cons, List.map_nil]
  refine stage_more ?_
  repeat (go_big_quiet_step (fail))
  refine wpQuiet_nil ?_
  intro K hK
  unfold Chain.mov
  go_simp
  simp only [Chain.movUpon]
  refine (HC.out _ (HA.out.drew)).mono ?_
  rintro r w5 h5
  obtain ⟨v5, rfl, ho5, hb5⟩ := h5
  have HB5 := Lib.hid (show Bw W1 w5 from (Below.refl _ W1).drew.trans (hb5.mono (Nat.le_refl _)))
  refine ⟨_, rfl, hK _ _ ⟨⟨⟨_, HB5.out⟩, rfl⟩, ?_⟩⟩
  clear hK K
  refine stage_last ?_
  repeat (go_big_quiet_step (fail))
  refine wpQuiet_nil ?_
  go_wp2
  go_ret
  exact tkO_lift HA.out.drew ⟨_, rfl, ho5, hb5⟩
set_option maxHeartbeats 1000000 in
set_option maxRecDepth 100000 in
theorem tokensOfNode_2 (s : Sy) (b : Nat) (xs : List Tk) (w : World) (h1 : w.cell? ⟨b, 1, none⟩ = some (.int .i64 2)) (hl : b < w.heap.size)
    (hC : ∀ V, Below w.heap.size w V → Calls Tryz.prog 138 #[s.val, .pointer (some ⟨b, 0, none⟩)] V (TkO V xs)) :
    Calls Tryz.prog 71 #[s.val, .pointer (some ⟨b, 0, none⟩)] w (TkO w xs) := by
  have HC := Lib.hid hC
  clear hC
  unfold Sy.val at HC ⊢
  go_enter Tryz.func71, Tryz.ntmps71
  go_wp2_with fail
  have hbA := ((Below.refl w.heap.size w).alloc (Nat.le_refl _) (.cells #[.int .i64 s.r, .int .i64 s.q, .int .i64 s.c, .int .i64 s.h, .int .i64 s.g] 29)).alloc (by simp) (.cells #[.func (.func 138) #[] #[], .func (.func 138) #[] #[], .func (.func 138) #[] #[], .func (.func 139) #[] #[], .func (.func 140) #[] #[], .func (.func 141) #[] #[], .func (.func 142) #[] #[]] 182)
  have hs := (SyAt.new w s 29).below ((Below.refl _ _).alloc (Nat.le_refl _) (.cells #[.func (.func 138) #[] #[], .func (.func 138) #[] #[], .func (.func 138) #[] #[], .func (.func 139) #[] #[], .func (.func 140) #[] #[], .func (.func 141) #[] #[], .func (.func 142) #[] #[]] 182))
  have hk := BlkL.new (w.alloc (.cells #[.int .i64 s.r, .int .i64 s.q, .int .i64 s.c, .int .i64 s.h, .int .i64 s.g] 29)) 182 [.func (.func 138) #[] #[], .func (.func 138) #[] #[], .func (.func 138) #[] #[], .func (.func 139) #[] #[], .func (.func 140) #[] #[], .func (.func 141) #[] #[], .func (.func 142) #[] #[]]
  rw [show (w.alloc (.cells #[.int .i64 s.r, .int .i64 s.q, .int .i64 s.c, .int .i64 s.h, .int .i64 s.g] 29)).heap.size = w.heap.size + 1 by simp] at hk
  have hkc := (hk.cell 2).trans rfl
  have h1' := (hbA.cell (p := ⟨b, 1, none⟩) hl).trans h1
  change Code.wp _ _ _ _ ((w.alloc (.cells #[.int .i64 s.r, .int .i64 s.q, .int .i64 s.c, .int .i64 s.h, .int .i64 s.g] 29)).alloc (.cells #[.func (.func 138) #[] #[], .func (.func 138) #[] #[], .func (.func 138) #[] #[], .func (.func 139) #[] #[], .func (.func 140) #[] #[], .func (.func 141) #[] #[], .func (.func 142) #[] #[]] 182))
  clear hk h1
  generalize ((w.alloc (.cells #[.int .i64 s.r, .int .i64 s.q, .int .i64 s.c, .int .i64 s.h, .int .i64 s.g] 29)).alloc (.cells #[.func (.func 138) #[] #[], .func (.func 138) #[] #[], .func (.func 138) #[] #[], .func (.func 139) #[] #[], .func (.func 140) #[] #[], .func (.func 141) #[] #[], .func (.func 142) #[] #[]] 182)) = W1 at *
  obtain ⟨c0, c1, c2, c3, c4, c5⟩ := hs
  have r1 := Bw.rd h1'
  have r2 := Bw.rd hkc
  have q0 := Bw.rd c0
  have q1 := Bw.rd c1
  have q2 := Bw.rd c2
  have q3 := Bw.rd c3
  have q4 := Bw.rd c4
  have hne : Nonempty (Cl (Bw W1)) := ⟨⟨_, Bw.start W1⟩⟩
  have HA := Lib.hid hbA
  clear c0 c1 c2 c3 c4 hbA h1' hkc
  refine wp_region_stages [0, 0, 0, 0, 0, 0, 0, 0, 0, 1, 3] 1 (fun w' => ∃ y : Cl (Bw W1), w' = y.W) (by kernel_rfl) (by kernel_rfl) ⟨⟨_, Bw.start W1⟩, rfl⟩ ?_
  simp only [Stage.stages, Stage.pickC, Nat.reduceBEq, Nat.reduceMul, Nat.reduceAdd, cond_true, cond_false, List.map_cons, List.map_nil]
  refine stage_more ?_
  repeat (go_big_quiet_step (fail))
  refine wpQuiet_nil ?_
  intro K hK
  unfold Chain.mov
  go_simp
  simp only [Chain.movUpon]
  refine (HC.out _ (HA.out.drew)).mono ?_
  rintro r w5 h5
  obtain ⟨v5, rfl, ho5, hb5⟩ := h5
  have HB5 := Lib.hid (show Bw W1 w5 from (Below.refl _ W1).drew.trans (hb5.mono (Nat.le_refl _)))
  refine ⟨_, rfl, hK _ _ ⟨⟨⟨_, HB5.out⟩, rfl⟩, ?_⟩⟩
  clear hK K
  refine stage_last ?_
  repeat (go_big_quiet_step (fail))
  refine wpQuiet_nil ?_
  go_wp2
  go_ret
  exact tkO_lift HA.out.drew ⟨_, rfl, ho5, hb5⟩
set_option maxHeartbeats 1000000 in
set_option maxRecDepth 100000 in
theorem tokensOfNode_3 (s : Sy) (b : Nat) (xs : List Tk) (w : World) (h1 : w.cell? ⟨b, 1, none⟩ = some (.int .i64 3)) (hl : b < w.heap.size)
    (hC : ∀ V, Below w.heap.size w V → Calls Tryz.prog 139 #[s.val, .pointer (some ⟨b, 0, none⟩)] V (TkO V xs)) :
    Calls Tryz.prog 71 #[s.val, .pointer (some ⟨b, 0, none⟩)] w (TkO w xs) := by
  have HC := Lib.hid hC
  clear hC
  unfold Sy.val at HC ⊢
  go_enter Tryz.func71, Tryz.ntmps71
  go_wp2_with fail
  have hbA := ((Below.refl w.heap.size w).alloc (Nat.le_refl _) (.cells #[.int .i64 s.r, .int .i64 s.q, .int .i64 s.c, .int .i64 s.h, .int .i64 s.g] 29)).alloc (by simp) (.cells #[.func (.func 138) #[] #[], .func (.func 138) #[] #[], .func (.func 138) #[] #[], .func (.func 139) #[] #[], .func (.func 140) #[] #[], .func (.func 141) #[] #[], .func (.func 142) #[] #[]] 182)
  have hs := (SyAt.new w s 29).below ((Below.refl _ _).alloc (Nat.le_refl _) (.cells #[.func (.func 138) #[] #[], .func (.func 138) #[] #[], .func (.func 138) #[] #[], .func (.func 139) #[] #[], .func (.func 140) #[] #[], .func (.func 141) #[] #[], .func (.func 142) #[] #[]] 182))
  have hk := BlkL.new (w.alloc (.cells #[.int .i64 s.r, .int .i64 s.q, .int .i64 s.c, .int .i64 s.h, .int .i64 s.g] 29)) 182 [.func (.func 138) #[] #[], .func (.func 138) #[] #[], .func (.func 138) #[] #[], .func (.func 139) #[] #[], .func (.func 140) #[] #[], .func (.func 141) #[] #[], .func (.func 142) #[] #[]]
  rw [show (w.alloc (.cells #[.int .i64 s.r, .int .i64 s.q, .int .i64 s.c, .int .i64 s.h, .int .i64 s.g] 29)).heap.size = w.heap.size + 1 by simp] at hk
  have hkc := (hk.cell 3).trans rfl
  have h1' := (hbA.cell (p := ⟨b, 1, none⟩) hl).trans h1
  change Code.wp _ _ _ _ ((w.alloc (.cells #[.int .i64 s.r, .int .i64 s.q, .int .i64 s.c, .int .i64 s.h, .int .i64 s.g] 29)).alloc (.cells #[.func (.func 138) #[] #[], .func (.func 138) #[] #[], .func (.func 138) #[] #[], .func (.func 139) #[] #[], .func (.func 140) #[] #[], .func (.func 141) #[] #[], .func (.func 142) #[] #[]] 182))
  clear hk h1
  generalize ((w.alloc (.cells #[.int .i64 s.r, .int .i64 s.q, .int .i64 s.c, .int .i64 s.h, .int .i64 s.g] 29)).alloc (.cells #[.func (.func 138) #[] #[], .func (.func 138) #[] #[], .func (.func 138) #[] #[], .func (.func 139) #[] #[], .func (.func 140) #[] #[], .func (.func 141) #[] #[], .func (.func 142) #[] #[]] 182)) = W1 at *
  obtain ⟨c0, c1, c2, c3, c4, c5⟩ := hs
  have r1 := Bw.rd h1'
  have r2 := Bw.rd hkc
  have q0 := Bw.rd c0
  have q1 := Bw.rd c1
  have q2 := Bw.rd c2
  have q3 := Bw.rd c3
  have q4 := Bw.rd c4
  have hne : Nonempty (Cl (Bw W1)) := ⟨⟨_, Bw.start W1⟩⟩
  have HA := Lib.hid hbA
  clear c0 c1 c2 c3 c4 hbA h1' hkc
  refine wp_region_stages [0, 0, 0, 0, 0, 0, 0, 0, 0, 1, 3] 1 (fun w' => ∃ y : Cl (Bw W1), w' = y.W) (by kernel_rfl) (by kernel_rfl) ⟨⟨_, Bw.start W1⟩, rfl⟩ ?_
  simp only [Stage.stages, Stage.pickC, Nat.reduceBEq, Nat.reduceMul, Nat.reduceAdd, cond_true, cond_false, List.map_cons, List.map_nil]
  refine stage_more ?_
  repeat (go_big_quiet_step (fail))
  refine wpQuiet_nil ?_
  intro K hK
  unfold Chain.mov
  go_simp
  simp only [Chain.movUpon]
  refine (HC.out _ (HA.out.drew)).mono ?_
  rintro r w5 h5
  obtain ⟨v5, rfl, ho5, hb5⟩ := h5
  have HB5 := Lib.hid (show Bw W1 w5 from (Below.refl _ W1).drew.trans (hb5.mono (Nat.le_refl _)))
  refine ⟨_, rfl, hK _ _ ⟨⟨⟨_, HB5.out⟩, rfl⟩, ?_⟩⟩
  clear hK K
  refine stage_last ?_
  repeat (go_big_quiet_step (fail))
  refine wpQuiet_nil ?_
  go_wp2
  go_ret
  exact tkO_lift HA.out.drew ⟨_, rfl, ho5, hb5⟩
set_option maxHeartbeats 1000000 in
set_option maxRecDepth 100000 in
theorem tokensOfNode_4 (s : Sy) (b : Nat) (xs : List Tk) (w : World) (h1 : w.cell? ⟨b, 1, none⟩ = some (.int .i64 4)) (hl : b < w.heap.size)
    (hC : ∀ V, Below w.heap.size w V → Calls Tryz.prog 140 #[s.val, .pointer (some ⟨b, 0, none⟩)] V (TkO V xs)) :
    Calls Tryz.prog 71 #[s.val, .pointer (some ⟨b, 0, none⟩)] w (TkO w xs) := by
  have HC := Lib.hid hC
  clear hC
  unfold Sy.val at HC ⊢
  go_enter Tryz.func71, Tryz.ntmps71
  go_wp2_with fail
  have hbA := ((Below.refl w.heap.size w).alloc (Nat.le_refl _) (.cells #[.int .i64 s.r, .int .i64 s.q, .int .i64 s.c, .int .i64 s.h, .int .i64 s.g] 29)).alloc (by simp) (.cells #[.func (.func 138) #[] #[], .func (.func 138) #[] #[], .func (.func 138) #[] #[], .func (.func 139) #[] #[], .func (.func 140) #[] #[], .func (.func 141) #[] #[], .func (.func 142) #[] #[]] 182)
  have hs := (SyAt.new w s 29).below ((Below.refl _ _).alloc (Nat.le_refl _) (.cells #[.func (.func 138) #[] #[], .func (.func 138) #[] #[], .func (.func 138) #[] #[], .func (.func 139) #[] #[], .func (.func 140) #[] #[], .func (.func 141) #[] #[], .func (.func 142) #[] #[]] 182))
  have hk := BlkL.new (w.alloc (.cells #[.int .i64 s.r, .int .i64 s.q, .int .i64 s.c, .int .i64 s.h, .int .i64 s.g] 29)) 182 [.func (.func 138) #[] #[], .func (.func 138) #[] #[], .func (.func 138) #[] #[], .func (.func 139) #[] #[], .func (.func 140) #[] #[], .func (.func 141) #[] #[], .func (.func 142) #[] #[]]
  rw [show (w.alloc (.cells #[.int .i64 s.r, .int .i64 s.q, .int .i64 s.c, .int .i64 s.h, .int .i64 s.g] 29)).heap.size = w.heap.size + 1 by simp] at hk
  have hkc := (hk.cell 4).trans rfl
  have h1' := (hbA.cell (p := ⟨b, 1, none⟩) hl).trans h1
  change Code.wp _ _ _ _ ((w.alloc (.cells #[.int .i64 s.r, .int .i64 s.q, .int .i64 s.c, .int .i64 s.h, .int .i64 s.g] 29)).alloc (.cells #[.func (.func 138) #[] #[], .func (.func 138) #[] #[], .func (.func 138) #[] #[], .func (.func 139) #[] #[], .func (.func 140) #[] #[], .func (.func 141) #[] #[], .func (.func 142) #[] #[]] 182))
  clear hk h1
  generalize ((w.alloc (.cells #[.int .i64 s.r, .int .i64 s.q, .int .i64 s.c, .int .i64 s.h, .int .i64 s.g] 29)).alloc (.cells #[.func (.func 138) #[] #[], .func (.func 138) #[] #[], .func (.func 138) #[] #[], .func (.func 139) #[] #[], .func (.func 140) #[] #[], .func (.func 141) #[] #[], .func (.func 142) #[] #[]] 182)) = W1 at *
  obtain ⟨c0, c1, c2, c3, c4, c5⟩ := hs
  have r1 := Bw.rd h1'
  have r2 := Bw.rd hkc
  have q0 := Bw.rd c0
  have q1 := Bw.rd c1
  have q2 := Bw.rd c2
  have q3 := Bw.rd c3
  have q4 := Bw.rd c4
  have hne : Nonempty (Cl (Bw W1)) := ⟨⟨_, Bw.start W1⟩⟩
  have HA := Lib.hid hbA
  clear c0 c1 c2 c3 c4 hbA h1' hkc
  refine wp_region_stages [0, 0, 0, 0, 0, 0, 0, 0, 0, 1, 3] 1 (fun w' => ∃ y : Cl (Bw W1), w' = y.W) (by kernel_rfl) (by kernel_rfl) ⟨⟨_, Bw.start W1⟩, rfl⟩ ?_
  simp only [Stage.stages, Stage.pickC, Nat.reduceBEq, Nat.reduceMul, Nat.reduceAdd, cond_true, cond_false, List.map_cons, List.map_nil]
  refine stage_more ?_
  repeat (go_big_quiet_step (fail))
  refine wpQuiet_nil ?_
  intro K hK
  unfold Chain.mov
  go_simp
  simp only [Chain.movUpon]
  refine (HC.out _ (HA.out.drew)).mono ?_
  rintro r w5 h5
  obtain ⟨v5, rfl, ho5, hb5⟩ := h5
  have HB5 := Lib.hid (show Bw W1 w5 from (Below.refl _ W1).drew.trans (hb5.mono (Nat.le_refl _)))
  refine ⟨_, rfl, hK _ _ ⟨⟨⟨_, HB5.out⟩, rfl⟩, ?_⟩⟩
  clear hK K
  refine stage_last ?_
  repeat (go_big_quiet_step (fail))
  refine wpQuiet_nil ?_
  go_wp2
  go_ret
  exact tkO_lift HA.out.drew ⟨_, rfl, ho5, hb5⟩
set_option maxHeartbeats 1000000 in
set_option maxRecDepth 100000 in
theorem tokensOfNode_5 (s : Sy) (b : Nat) (xs : List Tk) (w : World) (h1 : w.cell? ⟨b, 1, none⟩ = some (.int .i64 5)) (hl : b < w.heap.size)
    (hC : ∀ V, Below w.heap.size w V → Calls Tryz.prog 141 #[s.val, .pointer (some ⟨b, 0, none⟩)] V (TkO V xs)) :
    Calls Tryz.prog 71 #[s.val, .pointer (some ⟨b, 0, none⟩)] w (TkO w xs) := by
  have HC := Lib.hid hC
  clear hC
  unfold Sy.val at HC ⊢
  go_enter Tryz.func71, Tryz.ntmps71
  go_wp2_with fail
  have hbA := ((Below.refl w.heap.size w).alloc (Nat.le_refl _) (.cells #[.int .i64 s.r, .int .i64 s.q, .int .i64 s.c, .int .i64 s.h, .int .i64 s.g] 29)).alloc (by simp) (.cells #[.func (.func 138) #[] #[], .func (.func 138) #[] #[], .func (.func 138) #[] #[], .func (.func 139) #[] #[], .func (.func 140) #[] #[], .func (.func 141) #[] #[], .func (.func 142) #[] #[]] 182)
  have hs := (SyAt.new w s 29).below ((Below.refl _ _).alloc (Nat.le_refl _) (.cells #[.func (.func 138) #[] #[], .func (.func 138) #[] #[], .func (.func 138) #[] #[], .func (.func 139) #[] #[], .func (.func 140) #[] #[], .func (.func 141) #[] #[], .func (.func 142) #[] #[]] 182))
  have hk := BlkL.new (w.alloc (.cells #[.int .i64 s.r, .int .i64 s.q, .int .i64 s.c, .int .i64 s.h, .int .i64 s.g] 29)) 182 [.func (.func 138) #[] #[], .func (.func 138) #[] #[], .func (.func 138) #[] #[], .func (.func 139) #[] #[], .func (.func 140) #[] #[], .func (.func 141) #[] #[], .func (.func 142) #[] #[]]
  rw [show (w.alloc (.cells #[.int .i64 s.r, .int .i64 s.q, .int .i64 s.c, .int .i64 s.h, .int .i64 s.g] 29)).heap.size = w.heap.size + 1 by simp] at hk
  have hkc := (hk.cell 5).trans rfl
  have h1' := (hbA.cell (p := ⟨b, 1, none⟩) hl).trans h1
  change Code.wp _ _ _ _ ((w.alloc (.cells #[.int .i64 s.r, .int .i64 s.q, .int .i64 s.c, .int .i64 s.h, .int .i64 s.g] 29)).alloc (.cells #[.func (.func 138) #[] #[], .func (.func 138) #[] #[], .func (.func 138) #[] #[], .func (.func 139) #[] #[], .func (.func 140) #[] #[], .func (.func 141) #[] #[], .func (.func 142) #[] #[]] 182))
  clear hk h1
  generalize ((w.alloc (.cells #[.int .i64 s.r, .int .i64 s.q, .int .i64 s.c, .int .i64 s.h, .int .i64 s.g] 29)).alloc (.cells #[.func (.func 138) #[] #[], .func (.func 138) #[] #[], .func (.func 138) #[] #[], .func (.func 139) #[] #[], .func (.func 140) #[] #[], .func (.func 141) #[] #[], .func (.func 142) #[] #[]] 182)) = W1 at *
  obtain ⟨c0, c1, c2, c3, c4, c5⟩ := hs
  have r1 := Bw.rd h1'
  have r2 := Bw.rd hkc
  have q0 := Bw.rd c0
  have q1 := Bw.rd c1
  have q2 := Bw.rd c2
  have q3 := Bw.rd c3
  have q4 := Bw.rd c4
  have hne : Nonempty (Cl (Bw W1)) := ⟨⟨_, Bw.start W1⟩⟩
  have HA := Lib.hid hbA
  clear c0 c1 c2 c3 c4 hbA h1' hkc
  refine wp_region_stages [0, 0, 0, 0, 0, 0, 0, 0, 0, 1, 3] 1 (fun w' => ∃ y : Cl (Bw W1), w' = y.W) (by kernel_rfl) (by kernel_rfl) ⟨⟨_, Bw.start W1⟩, rfl⟩ ?_
  simp only [Stage.stages, Stage.pickC, Nat.reduceBEq, Nat.reduceMul, Nat.reduceAdd, cond_true, cond_false, List.map_cons, List.map_nil]
  refine stage_more ?_
  repeat (go_big_quiet_step (fail))
  refine wpQuiet_nil ?_
  intro K hK
  unfold Chain.mov
  go_simp
  simp only [Chain.movUpon]
  refine (HC.out _ (HA.out.drew)).mono ?_
  rintro r w5 h5
  obtain ⟨v5, rfl, ho5, hb5⟩ := h5
  have HB5 := Lib.hid (show Bw W1 w5 from (Below.refl _ W1).drew.trans (hb5.mono (Nat.le_refl _)))
  refine ⟨_, rfl, hK _ _ ⟨⟨⟨_, HB5.out⟩, rfl⟩, ?_⟩⟩
  clear hK K
  refine stage_last ?_
  repeat (go_big_quiet_step (fail))
  refine wpQuiet_nil ?_
  go_wp2
  go_ret
  exact tkO_lift HA.out.drew ⟨_, rfl, ho5, hb5⟩
set_option maxHeartbeats 1000000 in
set_option maxRecDepth 100000 in
theorem tokensOfNode_6 (s : Sy) (b : Nat) (xs : List Tk) (w : World) (h1 : w.cell? ⟨b, 1, none⟩ = some (.int .i64 6)) (hl : b < w.heap.size)
    (hC : ∀ V, Below w.heap.size w V → Calls Tryz.prog 142 #[s.val, .pointer (some ⟨b, 0, none⟩)] V (TkO V xs)) :
    Calls Tryz.prog 71 #[s.val, .pointer (some ⟨b, 0, none⟩)] w (TkO w xs) := by
  have HC := Lib.hid hC
  clear hC
  unfold Sy.val at HC ⊢
  go_enter Tryz.func71, Tryz.ntmps71
  go_wp2_with fail
  have hbA := ((Below.refl w.heap.size w).alloc (Nat.le_refl _) (.cells #[.int .i64 s.r, .int .i64 s.q, .int .i64 s.c, .int .i64 s.h, .int .i64 s.g] 29)).alloc (by simp) (.cells #[.func (.func 138) #[] #[], .func (.func 138) #[] #[], .func (.func 138) #[] #[], .func (.func 139) #[] #[], .func (.func 140) #[] #[], .func (.func 141) #[] #[], .func (.func 142) #[] #[]] 182)
  have hs := (SyAt.new w s 29).below ((Below.refl _ _).alloc (Nat.le_refl _) (.cells #[.func (.func 138) #[] #[], .func (.func 138) #[] #[], .func (.func 138) #[] #[], .func (.func 139) #[] #[], .func (.func 140) #[] #[], .func (.func 141) #[] #[], .func (.func 142) #[] #[]] 182))
  have hk := BlkL.new (w.alloc (.cells #[.int .i64 s.r, .int .i64 s.q, .int .i64 s.c, .int .i64 s.h, .int .i64 s.g] 29)) 182 [.func (.func 138) #[] #[], .func (.func 138) #[] #[], .func (.func 138) #[] #[], .func (.func 139) #[] #[], .func (.func 140) #[] #[], .func (.func 141) #[] #[], .func (.func 142) #[] #[]]
  rw [show (w.alloc (.cells #[.int .i64 s.r, .int .i64 s.q, .int .i64 s.c, .int .i64 s.h, .int .i64 s.g] 29)).heap.size = w.heap.size + 1 by simp] at hk
  have hkc := (hk.cell 6).trans rfl
  have h1' := (hbA.cell (p := ⟨b, 1, none⟩) hl).trans h1
  change Code.wp _ _ _ _ ((w.alloc (.cells #[.int .i64 s.r, .int .i64 s.q, .int .i64 s.c, .int .i64 s.h, .int .i64 s.g] 29)).alloc (.cells #[.func (.func 138) #[] #[], .func (.func 138) #[] #[], .func (.func 138) #[] #[], .func (.func 139) #[] #[], .func (.func 140) #[] #[], .func (.func 141) #[] #[], .func (.func 142) #[] #[]] 182))
  clear hk h1
  generalize ((w.alloc (.cells #[.int .i64 s.r, .int .i64 s.q, .int .i64 s.c, .int .i64 s.h, .int .i64 s.g] 29)).alloc (.cells #[.func (.func 138) #[] #[], .func (.func 138) #[] #[], .func (.func 138) #[] #[], .func (.func 139) #[] #[], .func (.func 140) #[] #[], .func (.func 141) #[] #[], .func (.func 142) #[] #[]] 182)) = W1 at *
  obtain ⟨c0, c1, c2, c3, c4, c5⟩ := hs
  have r1 := Bw.rd h1'
  have r2 := Bw.rd hkc
  have q0 := Bw.rd c0
  have q1 := Bw.rd c1
  have q2 := Bw.rd c2
  have q3 := Bw.rd c3
  have q4 := Bw.rd c4
  have hne : Nonempty (Cl (Bw W1)) := ⟨⟨_, Bw.start W1⟩⟩
  have HA := Lib.hid hbA
  clear c0 c1 c2 c3 c4 hbA h1' hkc
  refine wp_region_stages [0, 0, 0, 0, 0, 0, 0, 0, 0, 1, 3] 1 (fun w' => ∃ y : Cl (Bw W1), w' = y.W) (by kernel_rfl) (by kernel_rfl) ⟨⟨_, Bw.start W1⟩, rfl⟩ ?_
  simp only [Stage.stages, Stage.pickC, Nat.reduceBEq, Nat.reduceMul, Nat.reduceAdd, cond_true, cond_false, List.map_cons, List.map_nil]
  refine stage_more ?_
  repeat (go_big_quiet_step (fail))
  refine wpQuiet_nil ?_
  intro K hK
  unfold Chain.mov
  go_simp
  simp only [Chain.movUpon]
  refine (HC.out _ (HA.out.drew)).mono ?_
  rintro r w5 h5
  obtain ⟨v5, rfl, ho5, hb5⟩ := h5
  have HB5 := Lib.hid (show Bw W1 w5 from (Below.refl _ W1).drew.trans (hb5.mono (Nat.le_refl _)))
  refine ⟨_, rfl, hK _ _ ⟨⟨⟨_, HB5.out⟩, rfl⟩, ?_⟩⟩
  clear hK K
  refine stage_last ?_
  repeat (go_big_quiet_step (fail))
  refine wpQuiet_nil ?_
  go_wp2
  go_ret
  exact tkO_lift HA.out.drew ⟨_, rfl, ho5, hb5⟩
end Go.Proofs.YtlcplgfjicifeaaGreatDoor
