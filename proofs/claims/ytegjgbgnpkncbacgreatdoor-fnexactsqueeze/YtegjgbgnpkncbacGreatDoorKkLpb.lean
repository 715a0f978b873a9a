/-
  The lexemes of branches, as the program gathers them.
-/
import Derived.Test.YtegjgbgnpkncbacGreatDoorKkLpa
import Derived.Test.YtegjgbgnpkncbacGreatDoorKk24
import Derived.Test.YtegjgbgnpkncbacGreatDoorKk23
import Derived.Test.YtegjgbgnpkncbacGreatDoorKk33
import Derived.Laws.AppendOwnNone
import Derived.Deep.Cut
namespace Go.Proofs.YtegjgbgnpkncbacGreatDoor
open Go.RowKit
set_option linter.unusedVariables false

/-- 'append(x, y...)' onto a row of one's own, y another row of one's own, nil or not. -/
theorem wpList_append_row {P : Program} (w : World) {ops : Array Oper} {rest : List Oper} {o : Oper} {a : Act} {Q : Exit → Act → World → Prop} (hgd : o.guard = none) (s x : Operand) (t : TypeId)
    (ho : o.op = .call { callee := .builtin .append, args := #[s, x], argTypes := #[t, t] })
    (base : Nat) (e : TypeId) (i : TypeInfo) (z : Value) (size bytes : Nat) (ht : P.underlying t = some (.slice e)) (hi : P.info? e = some i) (hz : i.zero = some z)
    (hsize : i.size = size) (hby : i.bytes = bytes) (hzs : z.cells.size = size) (hsz : 0 < size)
    (v : Value) (n : Nat) (xs : List Value) (hs : a.eval s = v) (hown : w.ownsRow base e size v n xs)
    (v2 : Value) (B2 m : Nat) (ys : List Value) (hx : a.eval x = v2) (hown2 : w.ownsRow B2 e size v2 m ys) (h1 : ∀ u ∈ ys, u.oneCell' = true)
    (h63 : n + m ≤ maxLen) (hbytes : (n + m) * bytes ≤ 140737488355328) (hbase : base ≤ w.heap.size)
    (h : ∀ v' w', w'.ownsRow base e size v' (n + m) (xs ++ ys) → w.grownBy w' v.ownBlock → wpList P ops Q rest (a.put o.dst v') w') :
    wpList P ops Q (o :: rest) a w := by
  rcases hown2.2 with ⟨rfl, rfl⟩ | ⟨g, cap, cur, rfl, _⟩
  · have hy : ys = [] := List.eq_nil_of_length_eq_zero (by simpa using hown2.1)
    subst hy
    refine wpList_append_own_none hgd s x t ho base e i size ht hi v n xs hs hown hx ?_
    exact h v w (by simpa using hown) (World.grownBy.refl _ _)
  · refine wpList_append_own_at w hgd s x t ho base e i z size bytes ht hi hz hsize hby hzs hsz v n xs hs hown ⟨g, 0, none⟩ m cap ys hx hown2.1 (hown2.cells (g := g) rfl) h1 h63 hbytes hbase ?_
    intro v' w' h2 h3 _ _
    exact h v' w' h2 h3
theorem own_n {w : World} {B z n n' : Nat} {e : TypeId} {v : Value} {xs : List Value} (h : n = n') (ho : w.ownsRow B e z v n xs) : w.ownsRow B e z v n' xs := h ▸ ho
theorem fx_all (l : List Lx) : ∀ u ∈ fl fx l, u.oneCell' = true := by
  intro u hu
  unfold fl at hu
  obtain ⟨x, _, hx⟩ := List.mem_flatMap.1 hu
  simp [fx] at hx
  rcases hx with rfl | rfl | rfl <;> rfl
/-- lexemes of a call's own. -/
def LxO (w : World) (xs : List Lx) (e : Ending) (w' : World) : Prop := ∃ v, e = .returned v ∧ w'.ownsRow w.heap.size 36 3 v xs.length (fl fx xs) ∧ Below w.heap.size w w'
theorem upTo_leaf {l : List Nd} (hup : UpTo l l.length) {i : Nat} (hi : i < l.length) (hk : knd l (i + 1) ≤ 2) : lexK l (i + 1) l.length = [] := by
  have : kidsN l (i + 1) l.length = [] := by
    apply List.eq_nil_iff_forall_not_mem.2
    intro x hx
    obtain ⟨h1, h2, _⟩ := kidsN_mem hx
    have h3 := (hup x h1).2.2
    rw [h2] at h3
    obtain ⟨⟨y, hy, hn⟩, _⟩ := hup i hi
    have hb := (nodB_bd hn).1
    rw [hld, knd_succ hy] at h3
    rw [knd_succ hy] at hk
    simp only [Bool.or_eq_true, decide_eq_true_eq] at h3
    rcases h3 with h3 | h3
    · omega
    · have := (inB_true.1 h3).1; omega
  unfold lexK
  rw [this]
  rfl
set_option maxHeartbeats 4000000 in
set_option maxRecDepth 100000 in
theorem lexemesOf_any {w0 : World} {B : Nat} {l : List Nd} {n : Nat} {ps : Nat → Nat} {vs : Nat → Value} (hfo : Fo w0 B l n ps vs) (hlen : l.length = n) (hn200 : n ≤ 200) (hup : UpTo l l.length) :
    ∀ (f i : Nat), i ≤ n → n - i ≤ f → ∀ (w : World), Below w0.heap.size w0 w → Calls Tryz.prog 43 #[vs i] w (LxO w (lexK l i n)) := by
  obtain ⟨i0, hi0, hz0, hz1, hz2⟩ := info_parts infoLx
  have HFO := Lib.hid hfo
  have HUP := Lib.hid hup
  clear hfo hup
  intro f
  induction f using Nat.strongRecOn with
  | _ f ih =>
    intro i h2 hf w hw
    have IH := Lib.hid ih
    have HW := Lib.hid hw
    clear ih hw
    obtain ⟨A9, c9, hv, _⟩ := HFO.out.kid h2
    rw [hv]
    have HVV := Lib.hid hv
    have hkl := kidsN_len l i n
    clear hv
    go_enter Tryz.func43, Tryz.ntmps43
    go_wp2
    have hfirst := HUP.out.first (i := i) (by omega)
    go_loopw [3, 9] (fun lv iv wr => ∃ j a : Nat, iv = .int .i64 j ∧ i ≤ a ∧ a ≤ n ∧ j = (kidsN l i a).length ∧ ((a < n ∧ par l a = i) ∨ (kidsN l i a = kidsN l i n ∧ a + 1 = endp l i)) ∧ wr.ownsRow w.heap.size 36 3 lv (lexK l i a).length (fl fx (lexK l i a)) ∧ Below w.heap.size w wr) (fun _ iv _ => (kidsN l i n).length - (intOf iv).toNat)
    case atStart =>
      refine ⟨0, i, rfl, Nat.le_refl _, h2, by rw [kidsN_low]; rfl, ?_, by rw [lexK_zero]; exact ⟨rfl, .inl ⟨rfl, rfl⟩⟩, Below.refl _ _⟩
      rw [hlen] at hfirst
      rcases hfirst with h | h
      · exact .inl h
      · exact .inr ⟨by rw [h.1, kidsN_low], h.2.symm⟩
    case round =>
      clear hfirst
      obtain ⟨j, a, rfl, hia, han, hj, hcase, hown, hb⟩ := hrel
      have HJ := Lib.hid hj
      have HO := Lib.hid hown
      have HB := Lib.hid hb
      obtain ⟨Av, cv, hAv⟩ := own_slice hown
      subst hAv
      have hll := HUP.out.lexK_le (i := i) (a := a) (by omega) (by omega)
      clear hj hown hb
      by_cases hjl : j < (kidsN l i n).length
      · have hkid : a < n ∧ par l a = i := by
          rcases hcase with h | h
          · exact h
          · have := HJ.out; rw [h.1] at this; omega
        have hat := kids_at hkid.1 hkid.2
        rw [← HJ.out] at hat
        have HF2 := Lib.hid (HFO.out.below (HW.out.trans (HB.out.mono HW.out.size)))
        have hrow := HF2.out.row i h2
        rw [HVV.out] at hrow
        obtain ⟨g, hgA, hgl, cg⟩ := own_cells hrow hjl
        have cg' : wr.cell? ⟨g, j, none⟩ = some (.pointer (some ⟨ps (a + 1), 0, none⟩)) := by rw [cg]; simp [kps, hat, ptr]
        subst hgA
        have hnext := HUP.out.next (i := i) (a := a) (by omega) hkid.2
        rw [hlen] at hnext
        have hge := endp_gt l (a + 1)
        have hgle := endp_le (l := l) (i := a + 1) (by omega)
        have HNX := Lib.hid hnext
        have HY := Lib.hid (kidsN_yes hkid.2)
        have HLS := Lib.hid (lexK_step hkid.2)
        have HPE := Lib.hid (lexP_eq (l := l) (i := a + 1) (by omega))
        have HBK := Lib.hid (HUP.out.knd (i := a + 1) (by omega))
        have HREL := Lib.hid (show ∀ (V : World) (lv : Value), V.ownsRow w.heap.size 36 3 lv (lexK l i a ++ lexP l (a + 1)).length (fl fx (lexK l i a ++ lexP l (a + 1))) → Below w.heap.size w V → ∃ j' a' : Nat, Value.int .i64 ((j : Int) + 1) = .int .i64 j' ∧ i ≤ a' ∧ a' ≤ n ∧ j' = (kidsN l i a').length ∧ ((a' < n ∧ par l a' = i) ∨ (kidsN l i a' = kidsN l i n ∧ a' + 1 = endp l i)) ∧ V.ownsRow w.heap.size 36 3 lv (lexK l i a').length (fl fx (lexK l i a')) ∧ Below w.heap.size w V by
          intro V lv hO hBb
          obtain ⟨n1, n2⟩ := HNX.out
          refine ⟨j + 1, endp l (a + 1) - 1, by go_num, by omega, by omega, by rw [n1, HY.out, HJ.out]; simp, ?_, by rw [lexK_same n1, HLS.out]; exact hO, hBb⟩
          rcases n2 with n2 | n2
          · exact .inl n2
          · exact .inr ⟨n2.1, by rw [← n2.2]; omega⟩)
        obtain ⟨⟨x, hx, hnb⟩, _⟩ := HUP.out a (by omega)
        have hxk := (nodB_bd hnb).1
        rw [nAt_succ hx] at HPE
        obtain ⟨_, d1, d2, _, _, d5, dl⟩ := HF2.out.cells (show a + 1 ≤ n by omega)
        have HLEAF := Lib.hid (upTo_leaf HUP.out (i := a) (by omega))
        rw [knd_succ hx] at d1 HLEAF
        rw [nAt_succ hx] at d2
        obtain ⟨A7, c7, hv7, _⟩ := HFO.out.kid (show a + 1 ≤ n by omega)
        have HV7 := Lib.hid hv7
        rw [hv7] at d5
        have HCALL := Lib.hid (show ∀ V, Below w.heap.size w V → Calls Tryz.prog 43 #[.slice A7 (kidsN l (a + 1) n).length c7] V (LxO V (lexK l (a + 1) n)) from fun V hV => by
          have := IH.out (n - (a + 1)) (by omega) (a + 1) (by omega) (Nat.le_refl _) V (HW.out.trans (hV.mono HW.out.size))
          rw [HV7.out] at this
          exact this)
        have hl7 := HUP.out.lexK_le (i := a + 1) (a := n) (by omega) (by omega)
        have HXX := Lib.hid hx
        clear hat hrow cg hcase hkid hnext hx hnb hv7
        go_wp2_with fail
        refine (marksOf_any _ _).mono ?_
        rintro e w' ⟨rfl, rfl⟩
        obtain ⟨T, hT⟩ : ∃ T, x.s = T := ⟨_, rfl⟩
        obtain ⟨K0, hK0⟩ : ∃ K0, x.k = K0 := ⟨_, rfl⟩
        by_cases hleaf : x.k ≤ 2
        · have HPX := Lib.hid (show lexP l (a + 1) = [⟨x.k, x.s, 0⟩] by
            rw [HPE.out, HLEAF.out hleaf]
            unfold hdL tlL
            rw [if_pos hleaf, if_neg (by omega)]
            rfl)
          rw [hT, hK0] at HPX
          rw [hT] at d2
          rw [hK0] at d1 hleaf hxk ⊢
          clear hT hK0 HPE HLEAF
          obtain h | h | h : K0 = 0 ∨ K0 = 1 ∨ K0 = 2 := by omega
          all_goals subst h
          · have s0 : (fun w' => w'.cell? ⟨ps (a + 1), 1, none⟩ = some (.int .i64 0) ∧ w'.cell? ⟨ps (a + 1), 2, none⟩ = some (.string T)) wr.drew := ⟨d1, d2⟩
            have r1 : ∀ x : Cl (fun w' => w'.cell? ⟨ps (a + 1), 1, none⟩ = some (.int .i64 0) ∧ w'.cell? ⟨ps (a + 1), 2, none⟩ = some (.string T)), x.W.cell? ⟨ps (a + 1), 1, none⟩ = some (.int .i64 0) := fun x => x.ok.1
            have r2 : ∀ x : Cl (fun w' => w'.cell? ⟨ps (a + 1), 1, none⟩ = some (.int .i64 0) ∧ w'.cell? ⟨ps (a + 1), 2, none⟩ = some (.string T)), x.W.cell? ⟨ps (a + 1), 2, none⟩ = some (.string T) := fun x => x.ok.2
            have hne : Nonempty (Cl (fun w' => w'.cell? ⟨ps (a + 1), 1, none⟩ = some (.int .i64 0) ∧ w'.cell? ⟨ps (a + 1), 2, none⟩ = some (.string T))) := ⟨⟨_, s0⟩⟩
            go_wp2_with fail
            refine wp_region_stages [0, 0, 0, 0, 0, 0, 0, 0, 0, 0, 0, 0, 1, 3, 5] 2 (fun w' => ∃ y : Cl (fun w' => w'.cell? ⟨ps (a + 1), 1, none⟩ = some (.int .i64 0) ∧ w'.cell? ⟨ps (a + 1), 2, none⟩ = some (.string T)), w' = y.W) (by kernel_rfl) (by kernel_rfl) ⟨⟨_, s0⟩, rfl⟩ ?_
            simp only [Stage.stages, Stage.pickC, Nat.reduceBEq, Nat.reduceMul, Nat.reduceAdd, cond_true, cond_false, List.map_cons, List.map_nil]
            refine stage_more ?_
            repeat (go_big_quiet_step (fail))
            refine wpQuiet_nil ?_
            intro K hK
            unfold Chain.mov
            go_simp
            have hb5 : Below wr.heap.size wr (wr.alloc (.cells #[.int .i64 0, .string T, .int .i64 0] 36)).drew := ((Below.refl _ wr).alloc (Nat.le_refl _) _).drew
            have s1 : (fun w' => w'.cell? ⟨ps (a + 1), 1, none⟩ = some (.int .i64 0) ∧ w'.cell? ⟨ps (a + 1), 2, none⟩ = some (.string T)) (wr.alloc (.cells #[.int .i64 0, .string T, .int .i64 0] 36)).drew := ⟨(hb5.cell (p := ⟨ps (a + 1), 1, none⟩) dl).trans d1, (hb5.cell (p := ⟨ps (a + 1), 2, none⟩) dl).trans d2⟩
            refine hK _ _ ⟨⟨⟨_, s1⟩, rfl⟩, ?_⟩
            clear hK K r1 r2
            have hN5 : BlkL (wr.alloc (.cells #[.int .i64 0, .string T, .int .i64 0] 36)).drew wr.heap.size 36 (fl fx [⟨0, T, 0⟩]) := BlkL.new wr 36 _
            have HO5 := Lib.hid (own_below HO.out hb5)
            have HB5 := Lib.hid (HB.out.trans (hb5.mono HB.out.size))
            have HF5 := Lib.hid (HF2.out.below hb5)
            have hz5 : w.heap.size ≤ (wr.alloc (.cells #[.int .i64 0, .string T, .int .i64 0] 36)).drew.heap.size := HB5.out.size
            change Stage.stageW _ _ _ _ _ _ (wr.alloc (.cells #[.int .i64 0, .string T, .int .i64 0] 36)).drew
            generalize (wr.alloc (.cells #[.int .i64 0, .string T, .int .i64 0] 36)).drew = V5 at *
            obtain ⟨v', V6, hrun, how6, hgr6, _, _⟩ := run_append_own_at (P := Tryz.prog) V5 w.heap.size 31 31 36 i0 (.agg #[.int .i64 0, .string ByteArray.empty, .int .i64 0]) 3 32 Tryz.underlying31 hi0 hz0 hz1 hz2 rfl (by decide) _ (lexK l i a).length _ HO5.out ⟨wr.heap.size, 0, none⟩ 1 1 (fl fx [⟨0, T, 0⟩]) rfl (fun j u hj => by rw [Addr.add_lit, Nat.zero_add]; exact (hN5.cell j).trans hj) (fx_one _) (by simp only [maxLen]; omega) (by omega) hz5
            rw [← fl_append] at how6
            obtain ⟨A6, c6, rfl⟩ := own_slice how6
            have HRUN := Lib.hid hrun
            have hnb5 : (Value.slice Av (lexK l i a).length cv).ownBlock ≠ some (ps (a + 1)) := fo_blk HO5.out (HF5.out.blk (a + 1) (by omega)) (by decide)
            have s6 : (fun w' => w'.cell? ⟨ps (a + 1), 1, none⟩ = some (.int .i64 0) ∧ w'.cell? ⟨ps (a + 1), 2, none⟩ = some (.string T)) V6 := ⟨(World.cell?_of_block (a := ⟨ps (a + 1), 1, none⟩) (hgr6.block _ (HF5.out.lt (by omega)) (fun e => hnb5 e.symm))).trans s1.1, (World.cell?_of_block (a := ⟨ps (a + 1), 2, none⟩) (hgr6.block _ (HF5.out.lt (by omega)) (fun e => hnb5 e.symm))).trans s1.2⟩
            have HO6 := Lib.hid (show V6.ownsRow w.heap.size 36 3 (.slice A6 ((lexK l i a).length + 1) c6) (lexK l i a ++ lexP l (a + 1)).length (fl fx (lexK l i a ++ lexP l (a + 1))) by rw [HPX.out, List.length_append]; exact how6)
            have HB6 := Lib.hid (HB5.out.grown hgr6 hz5 (fun g hg => (HO5.out.lt g hg).1))
            clear hrun how6 hgr6 hnb5 s1 s0 hN5
            refine stage_more ?_
            refine wpQuiet_nil ?_
            intro K hK
            refine mov_append rfl rfl rfl HRUN.out ?_
            go_simp
            refine hK _ _ ⟨⟨⟨_, s6⟩, rfl⟩, ?_⟩
            clear hK K s6 hne
            refine stage_last ?_
            repeat (go_big_quiet_step (fail))
            refine wpQuiet_nil ?_
            go_wp2
            go_roundw
            case rel => exact HREL.out V6 _ HO6.out HB6.out
            case measure => simp [intOf]; omega
          · have s0 : (fun w' => w'.cell? ⟨ps (a + 1), 1, none⟩ = some (.int .i64 1) ∧ w'.cell? ⟨ps (a + 1), 2, none⟩ = some (.string T)) wr.drew := ⟨d1, d2⟩
            have r1 : ∀ x : Cl (fun w' => w'.cell? ⟨ps (a + 1), 1, none⟩ = some (.int .i64 1) ∧ w'.cell? ⟨ps (a + 1), 2, none⟩ = some (.string T)), x.W.cell? ⟨ps (a + 1), 1, none⟩ = some (.int .i64 1) := fun x => x.ok.1
            have r2 : ∀ x : Cl (fun w' => w'.cell? ⟨ps (a + 1), 1, none⟩ = some (.int .i64 1) ∧ w'.cell? ⟨ps (a + 1), 2, none⟩ = some (.string T)), x.W.cell? ⟨ps (a + 1), 2, none⟩ = some (.string T) := fun x => x.ok.2
            have hne : Nonempty (Cl (fun w' => w'.cell? ⟨ps (a + 1), 1, none⟩ = some (.int .i64 1) ∧ w'.cell? ⟨ps (a + 1), 2, none⟩ = some (.string T))) := ⟨⟨_, s0⟩⟩
            go_wp2_with fail
            refine wp_region_stages [0, 0, 0, 0, 0, 0, 0, 0, 0, 0, 0, 0, 1, 3, 5] 2 (fun w' => ∃ y : Cl (fun w' => w'.cell? ⟨ps (a + 1), 1, none⟩ = some (.int .i64 1) ∧ w'.cell? ⟨ps (a + 1), 2, none⟩ = some (.string T)), w' = y.W) (by kernel_rfl) (by kernel_rfl) ⟨⟨_, s0⟩, rfl⟩ ?_
            simp only [Stage.stages, Stage.pickC, Nat.reduceBEq, Nat.reduceMul, Nat.reduceAdd, cond_true, cond_false, List.map_cons, List.map_nil]
            refine stage_more ?_
            repeat (go_big_quiet_step (fail))
            refine wpQuiet_nil ?_
            intro K hK
            unfold Chain.mov
            go_simp
            have hb5 : Below wr.heap.size wr (wr.alloc (.cells #[.int .i64 1, .string T, .int .i64 0] 36)).drew := ((Below.refl _ wr).alloc (Nat.le_refl _) _).drew
            have s1 : (fun w' => w'.cell? ⟨ps (a + 1), 1, none⟩ = some (.int .i64 1) ∧ w'.cell? ⟨ps (a + 1), 2, none⟩ = some (.string T)) (wr.alloc (.cells #[.int .i64 1, .string T, .int .i64 0] 36)).drew := ⟨(hb5.cell (p := ⟨ps (a + 1), 1, none⟩) dl).trans d1, (hb5.cell (p := ⟨ps (a + 1), 2, none⟩) dl).trans d2⟩
            refine hK _ _ ⟨⟨⟨_, s1⟩, rfl⟩, ?_⟩
            clear hK K r1 r2
            have hN5 : BlkL (wr.alloc (.cells #[.int .i64 1, .string T, .int .i64 0] 36)).drew wr.heap.size 36 (fl fx [⟨1, T, 0⟩]) := BlkL.new wr 36 _
            have HO5 := Lib.hid (own_below HO.out hb5)
            have HB5 := Lib.hid (HB.out.trans (hb5.mono HB.out.size))
            have HF5 := Lib.hid (HF2.out.below hb5)
            have hz5 : w.heap.size ≤ (wr.alloc (.cells #[.int .i64 1, .string T, .int .i64 0] 36)).drew.heap.size := HB5.out.size
            change Stage.stageW _ _ _ _ _ _ (wr.alloc (.cells #[.int .i64 1, .string T, .int .i64 0] 36)).drew
            generalize (wr.alloc (.cells #[.int .i64 1, .string T, .int .i64 0] 36)).drew = V5 at *
            obtain ⟨v', V6, hrun, how6, hgr6, _, _⟩ := run_append_own_at (P := Tryz.prog) V5 w.heap.size 31 31 36 i0 (.agg #[.int .i64 0, .string ByteArray.empty, .int .i64 0]) 3 32 Tryz.underlying31 hi0 hz0 hz1 hz2 rfl (by decide) _ (lexK l i a).length _ HO5.out ⟨wr.heap.size, 0, none⟩ 1 1 (fl fx [⟨1, T, 0⟩]) rfl (fun j u hj => by rw [Addr.add_lit, Nat.zero_add]; exact (hN5.cell j).trans hj) (fx_one _) (by simp only [maxLen]; omega) (by omega) hz5
            rw [← fl_append] at how6
            obtain ⟨A6, c6, rfl⟩ := own_slice how6
            have HRUN := Lib.hid hrun
            have hnb5 : (Value.slice Av (lexK l i a).length cv).ownBlock ≠ some (ps (a + 1)) := fo_blk HO5.out (HF5.out.blk (a + 1) (by omega)) (by decide)
            have s6 : (fun w' => w'.cell? ⟨ps (a + 1), 1, none⟩ = some (.int .i64 1) ∧ w'.cell? ⟨ps (a + 1), 2, none⟩ = some (.string T)) V6 := ⟨(World.cell?_of_block (a := ⟨ps (a + 1), 1, none⟩) (hgr6.block _ (HF5.out.lt (by omega)) (fun e => hnb5 e.symm))).trans s1.1, (World.cell?_of_block (a := ⟨ps (a + 1), 2, none⟩) (hgr6.block _ (HF5.out.lt (by omega)) (fun e => hnb5 e.symm))).trans s1.2⟩
            have HO6 := Lib.hid (show V6.ownsRow w.heap.size 36 3 (.slice A6 ((lexK l i a).length + 1) c6) (lexK l i a ++ lexP l (a + 1)).length (fl fx (lexK l i a ++ lexP l (a + 1))) by rw [HPX.out, List.length_append]; exact how6)
            have HB6 := Lib.hid (HB5.out.grown hgr6 hz5 (fun g hg => (HO5.out.lt g hg).1))
            clear hrun how6 hgr6 hnb5 s1 s0 hN5
            refine stage_more ?_
            refine wpQuiet_nil ?_
            intro K hK
            refine mov_append rfl rfl rfl HRUN.out ?_
            go_simp
            refine hK _ _ ⟨⟨⟨_, s6⟩, rfl⟩, ?_⟩
            clear hK K s6 hne
            refine stage_last ?_
            repeat (go_big_quiet_step (fail))
            refine wpQuiet_nil ?_
            go_wp2
            go_roundw
            case rel => exact HREL.out V6 _ HO6.out HB6.out
            case measure => simp [intOf]; omega
          · have s0 : (fun w' => w'.cell? ⟨ps (a + 1), 1, none⟩ = some (.int .i64 2) ∧ w'.cell? ⟨ps (a + 1), 2, none⟩ = some (.string T)) wr.drew := ⟨d1, d2⟩
            have r1 : ∀ x : Cl (fun w' => w'.cell? ⟨ps (a + 1), 1, none⟩ = some (.int .i64 2) ∧ w'.cell? ⟨ps (a + 1), 2, none⟩ = some (.string T)), x.W.cell? ⟨ps (a + 1), 1, none⟩ = some (.int .i64 2) := fun x => x.ok.1
            have r2 : ∀ x : Cl (fun w' => w'.cell? ⟨ps (a + 1), 1, none⟩ = some (.int .i64 2) ∧ w'.cell? ⟨ps (a + 1), 2, none⟩ = some (.string T)), x.W.cell? ⟨ps (a + 1), 2, none⟩ = some (.string T) := fun x => x.ok.2
            have hne : Nonempty (Cl (fun w' => w'.cell? ⟨ps (a + 1), 1, none⟩ = some (.int .i64 2) ∧ w'.cell? ⟨ps (a + 1), 2, none⟩ = some (.string T))) := ⟨⟨_, s0⟩⟩
            go_wp2_with fail
            refine wp_region_stages [0, 0, 0, 0, 0, 0, 0, 0, 0, 0, 0, 0, 1, 3, 5] 2 (fun w' => ∃ y : Cl (fun w' => w'.cell? ⟨ps (a + 1), 1, none⟩ = some (.int .i64 2) ∧ w'.cell? ⟨ps (a + 1), 2, none⟩ = some (.string T)), w' = y.W) (by kernel_rfl) (by kernel_rfl) ⟨⟨_, s0⟩, rfl⟩ ?_
            simp only [Stage.stages, Stage.pickC, Nat.reduceBEq, Nat.reduceMul, Nat.reduceAdd, cond_true, cond_false, List.map_cons, List.map_nil]
            refine stage_more ?_
            repeat (go_big_quiet_step (fail))
            refine wpQuiet_nil ?_
            intro K hK
            unfold Chain.mov
            go_simp
            have hb5 : Below wr.heap.size wr (wr.alloc (.cells #[.int .i64 2, .string T, .int .i64 0] 36)).drew := ((Below.refl _ wr).alloc (Nat.le_refl _) _).drew
            have s1 : (fun w' => w'.cell? ⟨ps (a + 1), 1, none⟩ = some (.int .i64 2) ∧ w'.cell? ⟨ps (a + 1), 2, none⟩ = some (.string T)) (wr.alloc (.cells #[.int .i64 2, .string T, .int .i64 0] 36)).drew := ⟨(hb5.cell (p := ⟨ps (a + 1), 1, none⟩) dl).trans d1, (hb5.cell (p := ⟨ps (a + 1), 2, none⟩) dl).trans d2⟩
            refine hK _ _ ⟨⟨⟨_, s1⟩, rfl⟩, ?_⟩
            clear hK K r1 r2
            have hN5 : BlkL (wr.alloc (.cells #[.int .i64 2, .string T, .int .i64 0] 36)).drew wr.heap.size 36 (fl fx [⟨2, T, 0⟩]) := BlkL.new wr 36 _
            have HO5 := Lib.hid (own_below HO.out hb5)
            have HB5 := Lib.hid (HB.out.trans (hb5.mono HB.out.size))
            have HF5 := Lib.hid (HF2.out.below hb5)
            have hz5 : w.heap.size ≤ (wr.alloc (.cells #[.int .i64 2, .string T, .int .i64 0] 36)).drew.heap.size := HB5.out.size
            change Stage.stageW _ _ _ _ _ _ (wr.alloc (.cells #[.int .i64 2, .string T, .int .i64 0] 36)).drew
            generalize (wr.alloc (.cells #[.int .i64 2, .string T, .int .i64 0] 36)).drew = V5 at *
            obtain ⟨v', V6, hrun, how6, hgr6, _, _⟩ := run_append_own_at (P := Tryz.prog) V5 w.heap.size 31 31 36 i0 (.agg #[.int .i64 0, .string ByteArray.empty, .int .i64 0]) 3 32 Tryz.underlying31 hi0 hz0 hz1 hz2 rfl (by decide) _ (lexK l i a).length _ HO5.out ⟨wr.heap.size, 0, none⟩ 1 1 (fl fx [⟨2, T, 0⟩]) rfl (fun j u hj => by rw [Addr.add_lit, Nat.zero_add]; exact (hN5.cell j).trans hj) (fx_one _) (by simp only [maxLen]; omega) (by omega) hz5
            rw [← fl_append] at how6
            obtain ⟨A6, c6, rfl⟩ := own_slice how6
            have HRUN := Lib.hid hrun
            have hnb5 : (Value.slice Av (lexK l i a).length cv).ownBlock ≠ some (ps (a + 1)) := fo_blk HO5.out (HF5.out.blk (a + 1) (by omega)) (by decide)
            have s6 : (fun w' => w'.cell? ⟨ps (a + 1), 1, none⟩ = some (.int .i64 2) ∧ w'.cell? ⟨ps (a + 1), 2, none⟩ = some (.string T)) V6 := ⟨(World.cell?_of_block (a := ⟨ps (a + 1), 1, none⟩) (hgr6.block _ (HF5.out.lt (by omega)) (fun e => hnb5 e.symm))).trans s1.1, (World.cell?_of_block (a := ⟨ps (a + 1), 2, none⟩) (hgr6.block _ (HF5.out.lt (by omega)) (fun e => hnb5 e.symm))).trans s1.2⟩
            have HO6 := Lib.hid (show V6.ownsRow w.heap.size 36 3 (.slice A6 ((lexK l i a).length + 1) c6) (lexK l i a ++ lexP l (a + 1)).length (fl fx (lexK l i a ++ lexP l (a + 1))) by rw [HPX.out, List.length_append]; exact how6)
            have HB6 := Lib.hid (HB5.out.grown hgr6 hz5 (fun g hg => (HO5.out.lt g hg).1))
            clear hrun how6 hgr6 hnb5 s1 s0 hN5
            refine stage_more ?_
            refine wpQuiet_nil ?_
            intro K hK
            refine mov_append rfl rfl rfl HRUN.out ?_
            go_simp
            refine hK _ _ ⟨⟨⟨_, s6⟩, rfl⟩, ?_⟩
            clear hK K s6 hne
            refine stage_last ?_
            repeat (go_big_quiet_step (fail))
            refine wpQuiet_nil ?_
            go_wp2
            go_roundw
            case rel => exact HREL.out V6 _ HO6.out HB6.out
            case measure => simp [intOf]; omega
        · have HK0 := Lib.hid hK0
          rw [hK0] at d1 hxk hleaf ⊢
          clear hT hK0 HLEAF d2
          obtain h | h | h | h : K0 = 6 ∨ K0 = 3 ∨ K0 = 4 ∨ K0 = 5 := by omega
          · subst h
            have HPX := Lib.hid (show lexP l (a + 1) = [(⟨5, ⟨#[39]⟩, 0⟩ : Lx)] ++ lexK l (a + 1) n by
              rw [HPE.out, hlen]
              unfold hdL tlL
              rw [HK0.out, if_neg (by decide), if_pos rfl, if_neg (by decide), List.append_nil])
            rw [show mkS 6 = ⟨#[39]⟩ from rfl]
            have hS := BlkL.new wr 36 [.int .i64 5, .string ⟨#[39]⟩, .int .i64 0]
            have hbS := (Below.refl wr.heap.size wr).alloc (Nat.le_refl _) (.cells #[.int .i64 5, .string ⟨#[39]⟩, .int .i64 0] 36)
            have HOS := Lib.hid (own_below HO.out hbS)
            have HBS := Lib.hid (HB.out.trans (hbS.mono HB.out.size))
            have HSS := Lib.hid hS
            have hzS : w.heap.size ≤ (wr.alloc (.cells #[.int .i64 5, .string ⟨#[39]⟩, .int .i64 0] 36)).heap.size := HBS.out.size
            have hbl1 : (lexK l i a).length ≤ 100000 := by (try simp only [List.length_append, List.length_cons, List.length_nil]); omega
            clear hS hbS
            go_wp2_with (at_builtin; refine wpList_append_own_at _ rfl _ _ 31 rfl w.heap.size 36 i0 (.agg #[.int .i64 0, .string ByteArray.empty, .int .i64 0]) 3 32 Tryz.underlying31 hi0 hz0 hz1 hz2 rfl (by decide) _ _ _ rfl HOS.out ⟨wr.heap.size, 0, none⟩ 1 1 [.int .i64 5, .string ⟨#[39]⟩, .int .i64 0] rfl rfl (fun j u hj => by rw [Addr.add_lit, Nat.zero_add]; exact (HSS.out.cell j).trans hj) (fx_one (⟨5, ⟨#[39]⟩, 0⟩ : Lx)) (by simp only [maxLen]; omega) (by omega) hzS ?_)
            intro v' w5 howS hgrS _ _
            have howS' : w5.ownsRow w.heap.size 36 3 v' ((lexK l i a).length + 1) (fl fx (lexK l i a) ++ fl fx [(⟨5, ⟨#[39]⟩, 0⟩ : Lx)]) := by first | exact howS | (rw [List.append_assoc]; exact howS)
            rw [← fl_append] at howS'
            have HB5 := Lib.hid (HBS.out.grown hgrS hzS (fun g hg => (HOS.out.lt g hg).1))
            obtain ⟨A1, c1, rfl⟩ := own_slice howS
            have HO5 := Lib.hid (show w5.ownsRow w.heap.size 36 3 (.slice A1 ((lexK l i a).length + 1) c1) ((lexK l i a).length + 1) (fl fx (lexK l i a ++ [(⟨5, ⟨#[39]⟩, 0⟩ : Lx)])) from howS')
            clear howS howS' hgrS HOS HBS HSS hzS
            have HFW := Lib.hid (HFO.out.below (HW.out.trans (HB5.out.mono HW.out.size)))
            have hcW := HFW.out.cells (show a + 1 ≤ n by omega)
            rw [HV7.out] at hcW
            obtain ⟨_, _, _, _, _, dW5, dWl⟩ := hcW
            clear HFW
            go_wp2_with fail
            refine (HCALL.out w5 HB5.out).mono ?_
            rintro e w7 ⟨v7, rfl, ho7, hb7⟩
            have HO7 := Lib.hid (own_below HO5.out hb7)
            have HB7 := Lib.hid (HB5.out.trans (hb7.mono HB5.out.size))
            have HR7 := Lib.hid ho7
            obtain ⟨A7', c7', rfl⟩ := own_slice ho7
            have hz7 : w.heap.size ≤ w7.heap.size := HB7.out.size
            have hbl2 : (lexK l i a ++ [(⟨5, ⟨#[39]⟩, 0⟩ : Lx)]).length ≤ 100000 := by (try simp only [List.length_append, List.length_cons, List.length_nil]); omega
            clear ho7 hb7 dW5 dWl
            go_wp2_with (at_builtin; refine wpList_append_row _ rfl _ _ 31 rfl w.heap.size 36 i0 (.agg #[.int .i64 0, .string ByteArray.empty, .int .i64 0]) 3 32 Tryz.underlying31 hi0 hz0 hz1 hz2 rfl (by decide) _ _ _ rfl HO7.out _ _ _ _ rfl HR7.out (fx_all _) (by simp only [maxLen]; omega) (by omega) hz7 ?_)
            intro v' w8 howS hgrS
            rw [← fl_append] at howS
            have HB8 := Lib.hid (HB7.out.grown hgrS hz7 (fun g hg => (HO7.out.lt g hg).1))
            obtain ⟨A2, c2, rfl⟩ := own_slice howS
            have HO8 := Lib.hid (show w8.ownsRow w.heap.size 36 3 (.slice A2 (((lexK l i a).length + 1) + (lexK l (a + 1) n).length) c2) (((lexK l i a).length + 1) + (lexK l (a + 1) n).length) (fl fx (lexK l i a ++ [(⟨5, ⟨#[39]⟩, 0⟩ : Lx)] ++ lexK l (a + 1) n)) from howS)
            clear howS hgrS HO7 HB7 HR7 hz7
            go_wp2
            go_roundw
            case rel => exact HREL.out w8 _ (by rw [HPX.out, ← List.append_assoc]; exact own_n (by simp only [List.length_append, List.length_cons, List.length_nil]) HO8.out) HB8.out
            case measure => simp [intOf]; omega
          · subst h
            have HPX := Lib.hid (show lexP l (a + 1) = [(⟨3, ⟨#[40]⟩, 0⟩ : Lx)] ++ (lexK l (a + 1) n ++ [(⟨4, ⟨#[41]⟩, 0⟩ : Lx)]) by
              rw [HPE.out, hlen]
              unfold hdL tlL
              rw [HK0.out, if_neg (by decide), if_neg (by decide), if_pos (by decide)]
              rfl)
            rw [show mkS 3 = ⟨#[40, 41]⟩ from rfl]
            have hex1 : (⟨#[40, 41]⟩ : ByteArray).extract 0 1 = ⟨#[40]⟩ := rfl
            have hex2 : (⟨#[40, 41]⟩ : ByteArray).extract 1 2 = ⟨#[41]⟩ := rfl
            have hS := BlkL.new wr 36 [.int .i64 3, .string ⟨#[40]⟩, .int .i64 0]
            have hbS := (Below.refl wr.heap.size wr).alloc (Nat.le_refl _) (.cells #[.int .i64 3, .string ⟨#[40]⟩, .int .i64 0] 36)
            have HOS := Lib.hid (own_below HO.out hbS)
            have HBS := Lib.hid (HB.out.trans (hbS.mono HB.out.size))
            have HSS := Lib.hid hS
            have hzS : w.heap.size ≤ (wr.alloc (.cells #[.int .i64 3, .string ⟨#[40]⟩, .int .i64 0] 36)).heap.size := HBS.out.size
            have hbl1 : (lexK l i a).length ≤ 100000 := by (try simp only [List.length_append, List.length_cons, List.length_nil]); omega
            clear hS hbS
            go_wp2_with (at_builtin; refine wpList_append_own_at _ rfl _ _ 31 rfl w.heap.size 36 i0 (.agg #[.int .i64 0, .string ByteArray.empty, .int .i64 0]) 3 32 Tryz.underlying31 hi0 hz0 hz1 hz2 rfl (by decide) _ _ _ rfl HOS.out ⟨wr.heap.size, 0, none⟩ 1 1 [.int .i64 3, .string ⟨#[40]⟩, .int .i64 0] rfl rfl (fun j u hj => by rw [Addr.add_lit, Nat.zero_add]; exact (HSS.out.cell j).trans hj) (fx_one (⟨3, ⟨#[40]⟩, 0⟩ : Lx)) (by simp only [maxLen]; omega) (by omega) hzS ?_)
            intro v' w5 howS hgrS _ _
            have howS' : w5.ownsRow w.heap.size 36 3 v' ((lexK l i a).length + 1) (fl fx (lexK l i a) ++ fl fx [(⟨3, ⟨#[40]⟩, 0⟩ : Lx)]) := by first | exact howS | (rw [List.append_assoc]; exact howS)
            rw [← fl_append] at howS'
            have HB5 := Lib.hid (HBS.out.grown hgrS hzS (fun g hg => (HOS.out.lt g hg).1))
            obtain ⟨A1, c1, rfl⟩ := own_slice howS
            have HO5 := Lib.hid (show w5.ownsRow w.heap.size 36 3 (.slice A1 ((lexK l i a).length + 1) c1) ((lexK l i a).length + 1) (fl fx (lexK l i a ++ [(⟨3, ⟨#[40]⟩, 0⟩ : Lx)])) from howS')
            clear howS howS' hgrS HOS HBS HSS hzS
            have HFW := Lib.hid (HFO.out.below (HW.out.trans (HB5.out.mono HW.out.size)))
            have hcW := HFW.out.cells (show a + 1 ≤ n by omega)
            rw [HV7.out] at hcW
            obtain ⟨_, _, _, _, _, dW5, dWl⟩ := hcW
            clear HFW
            go_wp2_with fail
            refine (HCALL.out w5 HB5.out).mono ?_
            rintro e w7 ⟨v7, rfl, ho7, hb7⟩
            have HO7 := Lib.hid (own_below HO5.out hb7)
            have HB7 := Lib.hid (HB5.out.trans (hb7.mono HB5.out.size))
            have HR7 := Lib.hid ho7
            obtain ⟨A7', c7', rfl⟩ := own_slice ho7
            have hz7 : w.heap.size ≤ w7.heap.size := HB7.out.size
            have hbl2 : (lexK l i a ++ [(⟨3, ⟨#[40]⟩, 0⟩ : Lx)]).length ≤ 100000 := by (try simp only [List.length_append, List.length_cons, List.length_nil]); omega
            clear ho7 hb7 dW5 dWl
            go_wp2_with (at_builtin; refine wpList_append_row _ rfl _ _ 31 rfl w.heap.size 36 i0 (.agg #[.int .i64 0, .string ByteArray.empty, .int .i64 0]) 3 32 Tryz.underlying31 hi0 hz0 hz1 hz2 rfl (by decide) _ _ _ rfl HO7.out _ _ _ _ rfl HR7.out (fx_all _) (by simp only [maxLen]; omega) (by omega) hz7 ?_)
            intro v' w8 howS hgrS
            rw [← fl_append] at howS
            have HB8 := Lib.hid (HB7.out.grown hgrS hz7 (fun g hg => (HO7.out.lt g hg).1))
            obtain ⟨A2, c2, rfl⟩ := own_slice howS
            have HO8 := Lib.hid (show w8.ownsRow w.heap.size 36 3 (.slice A2 (((lexK l i a).length + 1) + (lexK l (a + 1) n).length) c2) (((lexK l i a).length + 1) + (lexK l (a + 1) n).length) (fl fx (lexK l i a ++ [(⟨3, ⟨#[40]⟩, 0⟩ : Lx)] ++ lexK l (a + 1) n)) from howS)
            clear howS hgrS HO7 HB7 HR7 hz7
            have hS := BlkL.new w8 36 [.int .i64 4, .string ⟨#[41]⟩, .int .i64 0]
            have hbS := (Below.refl w8.heap.size w8).alloc (Nat.le_refl _) (.cells #[.int .i64 4, .string ⟨#[41]⟩, .int .i64 0] 36)
            have HOS := Lib.hid (own_below HO8.out hbS)
            have HBS := Lib.hid (HB8.out.trans (hbS.mono HB8.out.size))
            have HSS := Lib.hid hS
            have hzS : w.heap.size ≤ (w8.alloc (.cells #[.int .i64 4, .string ⟨#[41]⟩, .int .i64 0] 36)).heap.size := HBS.out.size
            have hbl3 : (lexK l i a ++ [(⟨3, ⟨#[40]⟩, 0⟩ : Lx)] ++ lexK l (a + 1) n).length ≤ 100000 := by (try simp only [List.length_append, List.length_cons, List.length_nil]); omega
            clear hS hbS
            go_wp2_with (at_builtin; refine wpList_append_own_at _ rfl _ _ 31 rfl w.heap.size 36 i0 (.agg #[.int .i64 0, .string ByteArray.empty, .int .i64 0]) 3 32 Tryz.underlying31 hi0 hz0 hz1 hz2 rfl (by decide) _ _ _ rfl HOS.out ⟨w8.heap.size, 0, none⟩ 1 1 [.int .i64 4, .string ⟨#[41]⟩, .int .i64 0] rfl rfl (fun j u hj => by rw [Addr.add_lit, Nat.zero_add]; exact (HSS.out.cell j).trans hj) (fx_one (⟨4, ⟨#[41]⟩, 0⟩ : Lx)) (by simp only [maxLen]; omega) (by omega) hzS ?_)
            intro v' w9 howS hgrS _ _
            have howS' : w9.ownsRow w.heap.size 36 3 v' (((lexK l i a).length + 1 + (lexK l (a + 1) n).length) + 1) (fl fx (lexK l i a ++ [(⟨3, ⟨#[40]⟩, 0⟩ : Lx)] ++ lexK l (a + 1) n) ++ fl fx [(⟨4, ⟨#[41]⟩, 0⟩ : Lx)]) := by first | exact howS | (rw [List.append_assoc]; exact howS)
            rw [← fl_append] at howS'
            have HB9 := Lib.hid (HBS.out.grown hgrS hzS (fun g hg => (HOS.out.lt g hg).1))
            obtain ⟨A3, c3, rfl⟩ := own_slice howS
            have HO9 := Lib.hid (show w9.ownsRow w.heap.size 36 3 (.slice A3 (((lexK l i a).length + 1 + (lexK l (a + 1) n).length) + 1) c3) (((lexK l i a).length + 1 + (lexK l (a + 1) n).length) + 1) (fl fx (lexK l i a ++ [(⟨3, ⟨#[40]⟩, 0⟩ : Lx)] ++ lexK l (a + 1) n ++ [(⟨4, ⟨#[41]⟩, 0⟩ : Lx)])) from howS')
            clear howS howS' hgrS HOS HBS HSS hzS
            go_wp2
            go_roundw
            case rel => exact HREL.out w9 _ (by rw [HPX.out, ← List.append_assoc, ← List.append_assoc]; exact own_n (by simp only [List.length_append, List.length_cons, List.length_nil]) HO9.out) HB9.out
            case measure => simp [intOf]; omega
          · subst h
            have HPX := Lib.hid (show lexP l (a + 1) = [(⟨3, ⟨#[91]⟩, 0⟩ : Lx)] ++ (lexK l (a + 1) n ++ [(⟨4, ⟨#[93]⟩, 0⟩ : Lx)]) by
              rw [HPE.out, hlen]
              unfold hdL tlL
              rw [HK0.out, if_neg (by decide), if_neg (by decide), if_pos (by decide)]
              rfl)
            rw [show mkS 4 = ⟨#[91, 93]⟩ from rfl]
            have hex1 : (⟨#[91, 93]⟩ : ByteArray).extract 0 1 = ⟨#[91]⟩ := rfl
            have hex2 : (⟨#[91, 93]⟩ : ByteArray).extract 1 2 = ⟨#[93]⟩ := rfl
            have hS := BlkL.new wr 36 [.int .i64 3, .string ⟨#[91]⟩, .int .i64 0]
            have hbS := (Below.refl wr.heap.size wr).alloc (Nat.le_refl _) (.cells #[.int .i64 3, .string ⟨#[91]⟩, .int .i64 0] 36)
            have HOS := Lib.hid (own_below HO.out hbS)
            have HBS := Lib.hid (HB.out.trans (hbS.mono HB.out.size))
            have HSS := Lib.hid hS
            have hzS : w.heap.size ≤ (wr.alloc (.cells #[.int .i64 3, .string ⟨#[91]⟩, .int .i64 0] 36)).heap.size := HBS.out.size
            have hbl1 : (lexK l i a).length ≤ 100000 := by (try simp only [List.length_append, List.length_cons, List.length_nil]); omega
            clear hS hbS
            go_wp2_with (at_builtin; refine wpList_append_own_at _ rfl _ _ 31 rfl w.heap.size 36 i0 (.agg #[.int .i64 0, .string ByteArray.empty, .int .i64 0]) 3 32 Tryz.underlying31 hi0 hz0 hz1 hz2 rfl (by decide) _ _ _ rfl HOS.out ⟨wr.heap.size, 0, none⟩ 1 1 [.int .i64 3, .string ⟨#[91]⟩, .int .i64 0] rfl rfl (fun j u hj => by rw [Addr.add_lit, Nat.zero_add]; exact (HSS.out.cell j).trans hj) (fx_one (⟨3, ⟨#[91]⟩, 0⟩ : Lx)) (by simp only [maxLen]; omega) (by omega) hzS ?_)
            intro v' w5 howS hgrS _ _
            have howS' : w5.ownsRow w.heap.size 36 3 v' ((lexK l i a).length + 1) (fl fx (lexK l i a) ++ fl fx [(⟨3, ⟨#[91]⟩, 0⟩ : Lx)]) := by first | exact howS | (rw [List.append_assoc]; exact howS)
            rw [← fl_append] at howS'
            have HB5 := Lib.hid (HBS.out.grown hgrS hzS (fun g hg => (HOS.out.lt g hg).1))
            obtain ⟨A1, c1, rfl⟩ := own_slice howS
            have HO5 := Lib.hid (show w5.ownsRow w.heap.size 36 3 (.slice A1 ((lexK l i a).length + 1) c1) ((lexK l i a).length + 1) (fl fx (lexK l i a ++ [(⟨3, ⟨#[91]⟩, 0⟩ : Lx)])) from howS')
            clear howS howS' hgrS HOS HBS HSS hzS
            have HFW := Lib.hid (HFO.out.below (HW.out.trans (HB5.out.mono HW.out.size)))
            have hcW := HFW.out.cells (show a + 1 ≤ n by omega)
            rw [HV7.out] at hcW
            obtain ⟨_, _, _, _, _, dW5, dWl⟩ := hcW
            clear HFW
            go_wp2_with fail
            refine (HCALL.out w5 HB5.out).mono ?_
            rintro e w7 ⟨v7, rfl, ho7, hb7⟩
            have HO7 := Lib.hid (own_below HO5.out hb7)
            have HB7 := Lib.hid (HB5.out.trans (hb7.mono HB5.out.size))
            have HR7 := Lib.hid ho7
            obtain ⟨A7', c7', rfl⟩ := own_slice ho7
            have hz7 : w.heap.size ≤ w7.heap.size := HB7.out.size
            have hbl2 : (lexK l i a ++ [(⟨3, ⟨#[91]⟩, 0⟩ : Lx)]).length ≤ 100000 := by (try simp only [List.length_append, List.length_cons, List.length_nil]); omega
            clear ho7 hb7 dW5 dWl
            go_wp2_with (at_builtin; refine wpList_append_row _ rfl _ _ 31 rfl w.heap.size 36 i0 (.agg #[.int .i64 0, .string ByteArray.empty, .int .i64 0]) 3 32 Tryz.underlying31 hi0 hz0 hz1 hz2 rfl (by decide) _ _ _ rfl HO7.out _ _ _ _ rfl HR7.out (fx_all _) (by simp only [maxLen]; omega) (by omega) hz7 ?_)
            intro v' w8 howS hgrS
            rw [← fl_append] at howS
            have HB8 := Lib.hid (HB7.out.grown hgrS hz7 (fun g hg => (HO7.out.lt g hg).1))
            obtain ⟨A2, c2, rfl⟩ := own_slice howS
            have HO8 := Lib.hid (show w8.ownsRow w.heap.size 36 3 (.slice A2 (((lexK l i a).length + 1) + (lexK l (a + 1) n).length) c2) (((lexK l i a).length + 1) + (lexK l (a + 1) n).length) (fl fx (lexK l i a ++ [(⟨3, ⟨#[91]⟩, 0⟩ : Lx)] ++ lexK l (a + 1) n)) from howS)
            clear howS hgrS HO7 HB7 HR7 hz7
            have hS := BlkL.new w8 36 [.int .i64 4, .string ⟨#[93]⟩, .int .i64 0]
            have hbS := (Below.refl w8.heap.size w8).alloc (Nat.le_refl _) (.cells #[.int .i64 4, .string ⟨#[93]⟩, .int .i64 0] 36)
            have HOS := Lib.hid (own_below HO8.out hbS)
            have HBS := Lib.hid (HB8.out.trans (hbS.mono HB8.out.size))
            have HSS := Lib.hid hS
            have hzS : w.heap.size ≤ (w8.alloc (.cells #[.int .i64 4, .string ⟨#[93]⟩, .int .i64 0] 36)).heap.size := HBS.out.size
            have hbl3 : (lexK l i a ++ [(⟨3, ⟨#[91]⟩, 0⟩ : Lx)] ++ lexK l (a + 1) n).length ≤ 100000 := by (try simp only [List.length_append, List.length_cons, List.length_nil]); omega
            clear hS hbS
            go_wp2_with (at_builtin; refine wpList_append_own_at _ rfl _ _ 31 rfl w.heap.size 36 i0 (.agg #[.int .i64 0, .string ByteArray.empty, .int .i64 0]) 3 32 Tryz.underlying31 hi0 hz0 hz1 hz2 rfl (by decide) _ _ _ rfl HOS.out ⟨w8.heap.size, 0, none⟩ 1 1 [.int .i64 4, .string ⟨#[93]⟩, .int .i64 0] rfl rfl (fun j u hj => by rw [Addr.add_lit, Nat.zero_add]; exact (HSS.out.cell j).trans hj) (fx_one (⟨4, ⟨#[93]⟩, 0⟩ : Lx)) (by simp only [maxLen]; omega) (by omega) hzS ?_)
            intro v' w9 howS hgrS _ _
            have howS' : w9.ownsRow w.heap.size 36 3 v' (((lexK l i a).length + 1 + (lexK l (a + 1) n).length) + 1) (fl fx (lexK l i a ++ [(⟨3, ⟨#[91]⟩, 0⟩ : Lx)] ++ lexK l (a + 1) n) ++ fl fx [(⟨4, ⟨#[93]⟩, 0⟩ : Lx)]) := by first | exact howS | (rw [List.append_assoc]; exact howS)
            rw [← fl_append] at howS'
            have HB9 := Lib.hid (HBS.out.grown hgrS hzS (fun g hg => (HOS.out.lt g hg).1))
            obtain ⟨A3, c3, rfl⟩ := own_slice howS
            have HO9 := Lib.hid (show w9.ownsRow w.heap.size 36 3 (.slice A3 (((lexK l i a).length + 1 + (lexK l (a + 1) n).length) + 1) c3) (((lexK l i a).length + 1 + (lexK l (a + 1) n).length) + 1) (fl fx (lexK l i a ++ [(⟨3, ⟨#[91]⟩, 0⟩ : Lx)] ++ lexK l (a + 1) n ++ [(⟨4, ⟨#[93]⟩, 0⟩ : Lx)])) from howS')
            clear howS howS' hgrS HOS HBS HSS hzS
            go_wp2
            go_roundw
            case rel => exact HREL.out w9 _ (by rw [HPX.out, ← List.append_assoc, ← List.append_assoc]; exact own_n (by simp only [List.length_append, List.length_cons, List.length_nil]) HO9.out) HB9.out
            case measure => simp [intOf]; omega
          · subst h
            have HPX := Lib.hid (show lexP l (a + 1) = [(⟨3, ⟨#[123]⟩, 0⟩ : Lx)] ++ (lexK l (a + 1) n ++ [(⟨4, ⟨#[125]⟩, 0⟩ : Lx)]) by
              rw [HPE.out, hlen]
              unfold hdL tlL
              rw [HK0.out, if_neg (by decide), if_neg (by decide), if_pos (by decide)]
              rfl)
            rw [show mkS 5 = ⟨#[123, 125]⟩ from rfl]
            have hex1 : (⟨#[123, 125]⟩ : ByteArray).extract 0 1 = ⟨#[123]⟩ := rfl
            have hex2 : (⟨#[123, 125]⟩ : ByteArray).extract 1 2 = ⟨#[125]⟩ := rfl
            have hS := BlkL.new wr 36 [.int .i64 3, .string ⟨#[123]⟩, .int .i64 0]
            have hbS := (Below.refl wr.heap.size wr).alloc (Nat.le_refl _) (.cells #[.int .i64 3, .string ⟨#[123]⟩, .int .i64 0] 36)
            have HOS := Lib.hid (own_below HO.out hbS)
            have HBS := Lib.hid (HB.out.trans (hbS.mono HB.out.size))
            have HSS := Lib.hid hS
            have hzS : w.heap.size ≤ (wr.alloc (.cells #[.int .i64 3, .string ⟨#[123]⟩, .int .i64 0] 36)).heap.size := HBS.out.size
            have hbl1 : (lexK l i a).length ≤ 100000 := by (try simp only [List.length_append, List.length_cons, List.length_nil]); omega
            clear hS hbS
            go_wp2_with (at_builtin; refine wpList_append_own_at _ rfl _ _ 31 rfl w.heap.size 36 i0 (.agg #[.int .i64 0, .string ByteArray.empty, .int .i64 0]) 3 32 Tryz.underlying31 hi0 hz0 hz1 hz2 rfl (by decide) _ _ _ rfl HOS.out ⟨wr.heap.size, 0, none⟩ 1 1 [.int .i64 3, .string ⟨#[123]⟩, .int .i64 0] rfl rfl (fun j u hj => by rw [Addr.add_lit, Nat.zero_add]; exact (HSS.out.cell j).trans hj) (fx_one (⟨3, ⟨#[123]⟩, 0⟩ : Lx)) (by simp only [maxLen]; omega) (by omega) hzS ?_)
            intro v' w5 howS hgrS _ _
            have howS' : w5.ownsRow w.heap.size 36 3 v' ((lexK l i a).length + 1) (fl fx (lexK l i a) ++ fl fx [(⟨3, ⟨#[123]⟩, 0⟩ : Lx)]) := by first | exact howS | (rw [List.append_assoc]; exact howS)
            rw [← fl_append] at howS'
            have HB5 := Lib.hid (HBS.out.grown hgrS hzS (fun g hg => (HOS.out.lt g hg).1))
            obtain ⟨A1, c1, rfl⟩ := own_slice howS
            have HO5 := Lib.hid (show w5.ownsRow w.heap.size 36 3 (.slice A1 ((lexK l i a).length + 1) c1) ((lexK l i a).length + 1) (fl fx (lexK l i a ++ [(⟨3, ⟨#[123]⟩, 0⟩ : Lx)])) from howS')
            clear howS howS' hgrS HOS HBS HSS hzS
            have HFW := Lib.hid (HFO.out.below (HW.out.trans (HB5.out.mono HW.out.size)))
            have hcW := HFW.out.cells (show a + 1 ≤ n by omega)
            rw [HV7.out] at hcW
            obtain ⟨_, _, _, _, _, dW5, dWl⟩ := hcW
            clear HFW
            go_wp2_with fail
            refine (HCALL.out w5 HB5.out).mono ?_
            rintro e w7 ⟨v7, rfl, ho7, hb7⟩
            have HO7 := Lib.hid (own_below HO5.out hb7)
            have HB7 := Lib.hid (HB5.out.trans (hb7.mono HB5.out.size))
            have HR7 := Lib.hid ho7
            obtain ⟨A7', c7', rfl⟩ := own_slice ho7
            have hz7 : w.heap.size ≤ w7.heap.size := HB7.out.size
            have hbl2 : (lexK l i a ++ [(⟨3, ⟨#[123]⟩, 0⟩ : Lx)]).length ≤ 100000 := by (try simp only [List.length_append, List.length_cons, List.length_nil]); omega
            clear ho7 hb7 dW5 dWl
            go_wp2_with (at_builtin; refine wpList_append_row _ rfl _ _ 31 rfl w.heap.size 36 i0 (.agg #[.int .i64 0, .string ByteArray.empty, .int .i64 0]) 3 32 Tryz.underlying31 hi0 hz0 hz1 hz2 rfl (by decide) _ _ _ rfl HO7.out _ _ _ _ rfl HR7.out (fx_all _) (by simp only [maxLen]; omega) (by omega) hz7 ?_)
            intro v' w8 howS hgrS
            rw [← fl_append] at howS
            have HB8 := Lib.hid (HB7.out.grown hgrS hz7 (fun g hg => (HO7.out.lt g hg).1))
            obtain ⟨A2, c2, rfl⟩ := own_slice howS
            have HO8 := Lib.hid (show w8.ownsRow w.heap.size 36 3 (.slice A2 (((lexK l i a).length + 1) + (lexK l (a + 1) n).length) c2) (((lexK l i a).length + 1) + (lexK l (a + 1) n).length) (fl fx (lexK l i a ++ [(⟨3, ⟨#[123]⟩, 0⟩ : Lx)] ++ lexK l (a + 1) n)) from howS)
            clear howS hgrS HO7 HB7 HR7 hz7
            have hS := BlkL.new w8 36 [.int .i64 4, .string ⟨#[125]⟩, .int .i64 0]
            have hbS := (Below.refl w8.heap.size w8).alloc (Nat.le_refl _) (.cells #[.int .i64 4, .string ⟨#[125]⟩, .int .i64 0] 36)
            have HOS := Lib.hid (own_below HO8.out hbS)
            have HBS := Lib.hid (HB8.out.trans (hbS.mono HB8.out.size))
            have HSS := Lib.hid hS
            have hzS : w.heap.size ≤ (w8.alloc (.cells #[.int .i64 4, .string ⟨#[125]⟩, .int .i64 0] 36)).heap.size := HBS.out.size
            have hbl3 : (lexK l i a ++ [(⟨3, ⟨#[123]⟩, 0⟩ : Lx)] ++ lexK l (a + 1) n).length ≤ 100000 := by (try simp only [List.length_append, List.length_cons, List.length_nil]); omega
            clear hS hbS
            go_wp2_with (at_builtin; refine wpList_append_own_at _ rfl _ _ 31 rfl w.heap.size 36 i0 (.agg #[.int .i64 0, .string ByteArray.empty, .int .i64 0]) 3 32 Tryz.underlying31 hi0 hz0 hz1 hz2 rfl (by decide) _ _ _ rfl HOS.out ⟨w8.heap.size, 0, none⟩ 1 1 [.int .i64 4, .string ⟨#[125]⟩, .int .i64 0] rfl rfl (fun j u hj => by rw [Addr.add_lit, Nat.zero_add]; exact (HSS.out.cell j).trans hj) (fx_one (⟨4, ⟨#[125]⟩, 0⟩ : Lx)) (by simp only [maxLen]; omega) (by omega) hzS ?_)
            intro v' w9 howS hgrS _ _
            have howS' : w9.ownsRow w.heap.size 36 3 v' (((lexK l i a).length + 1 + (lexK l (a + 1) n).length) + 1) (fl fx (lexK l i a ++ [(⟨3, ⟨#[123]⟩, 0⟩ : Lx)] ++ lexK l (a + 1) n) ++ fl fx [(⟨4, ⟨#[125]⟩, 0⟩ : Lx)]) := by first | exact howS | (rw [List.append_assoc]; exact howS)
            rw [← fl_append] at howS'
            have HB9 := Lib.hid (HBS.out.grown hgrS hzS (fun g hg => (HOS.out.lt g hg).1))
            obtain ⟨A3, c3, rfl⟩ := own_slice howS
            have HO9 := Lib.hid (show w9.ownsRow w.heap.size 36 3 (.slice A3 (((lexK l i a).length + 1 + (lexK l (a + 1) n).length) + 1) c3) (((lexK l i a).length + 1 + (lexK l (a + 1) n).length) + 1) (fl fx (lexK l i a ++ [(⟨3, ⟨#[123]⟩, 0⟩ : Lx)] ++ lexK l (a + 1) n ++ [(⟨4, ⟨#[125]⟩, 0⟩ : Lx)])) from howS')
            clear howS howS' hgrS HOS HBS HSS hzS
            go_wp2
            go_roundw
            case rel => exact HREL.out w9 _ (by rw [HPX.out, ← List.append_assoc, ← List.append_assoc]; exact own_n (by simp only [List.length_append, List.length_cons, List.length_nil]) HO9.out) HB9.out
            case measure => simp [intOf]; omega
      · have hend : kidsN l i a = kidsN l i n := by
          rcases hcase with h | h
          · have := kids_at h.1 h.2
            rw [← HJ.out] at this
            have := (List.getElem?_eq_some_iff.1 this).1
            omega
          · exact h.1
        have ho := HO.out
        rw [lexK_same hend] at ho
        have HO9 := Lib.hid ho
        rw [lexK_same hend]
        clear hcase ho
        go_wp2
        go_ret
        exact ⟨_, rfl, HO9.out, HB.out⟩
end Go.Proofs.YtegjgbgnpkncbacGreatDoor
