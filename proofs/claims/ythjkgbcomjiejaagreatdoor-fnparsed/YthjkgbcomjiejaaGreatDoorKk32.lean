/-
  A list planted.
-/
import Derived.Test.YthjkgbcomjiejaaGreatDoorKk30
namespace Go.Proofs.YthjkgbcomjiejaaGreatDoor
open Go.RowKit
set_option linter.unusedVariables false

/-- pointers to all branches, the root's first. -/
def aps (ps : Nat → Nat) (k : Nat) : List Value := (List.range (k + 1)).map (fun i => ptr (ps i))
theorem aps_len (ps : Nat → Nat) (k : Nat) : (aps ps k).length = k + 1 := by simp [aps]
theorem aps_at {ps : Nat → Nat} {k i : Nat} (h : i ≤ k) : (aps ps k)[i]? = some (ptr (ps i)) := by
  unfold aps
  rw [List.getElem?_map, List.getElem?_range (by omega)]
  rfl
theorem aps_succ {ps : Nat → Nat} {k p : Nat} : aps (upd ps (k + 1) p) (k + 1) = aps ps k ++ [ptr p] := by
  unfold aps
  rw [List.range_succ, List.map_append, List.map_cons, List.map_nil, upd_self]
  congr 1
  apply List.map_congr_left
  intro i hi
  have := List.mem_range.1 hi
  rw [upd_ne (by omega)]
theorem own_new1 (w : World) (B : Nat) (e : TypeId) (v : Value) (hB : B ≤ w.heap.size) : (w.alloc (.cells #[v] e)).ownsRow B e 1 (.slice (some ⟨w.heap.size, 0, none⟩) 1 1) 1 [v] := by
  refine ⟨rfl, .inr ⟨w.heap.size, 1, #[v], rfl, hB, BlkL.new w e [v], Nat.le_refl _, by unfold maxLen; omega, rfl, ?_⟩⟩
  rfl
theorem own_pos {w : World} {B z n : Nat} {e : TypeId} {v : Value} {xs : List Value} (h : w.ownsRow B e z v n xs) (hn : 0 < n) : ∃ g c, v = .slice (some ⟨g, 0, none⟩) n c ∧ B ≤ g ∧ g < w.heap.size := by
  rcases h.2 with ⟨_, h0⟩ | ⟨g, cap, cur, hv, hb, hg, _⟩
  · omega
  · refine ⟨g, cap, hv, hb, ?_⟩
    rcases Nat.lt_or_ge g w.heap.size with hlt | hge
    · exact hlt
    · rw [Array.getElem?_eq_none hge] at hg; cases hg
theorem own_same {w w' : World} {B z n : Nat} {e : TypeId} {v : Value} {xs : List Value} (h : w.ownsRow B e z v n xs) (hs : ∀ g, v.ownBlock = some g → w'.heap[g]? = w.heap[g]?) : w'.ownsRow B e z v n xs := by
  refine ⟨h.1, ?_⟩
  rcases h.2 with h2 | ⟨g, cap, cur, hv, hb, hg, h3⟩
  · exact .inl h2
  · exact .inr ⟨g, cap, cur, hv, hb, (hs g (by rw [hv]; rfl)).trans hg, h3⟩
def PlP (w : World) (l : List Nd) (e : Ending) (w' : World) : Prop := Below w.heap.size w w' ∧
  ((treB l = false ∧ e = .returned (.slice none 0 0)) ∨
   (TrOk l ∧ ∃ g c ps vs, e = .returned (.slice (some ⟨g, 0, none⟩) (l.length + 1) c) ∧ Fo w' w.heap.size l l.length ps vs ∧ g < w'.heap.size ∧ ∀ i, i ≤ l.length → w'.cell? ⟨g, i, none⟩ = some (ptr (ps i))))
theorem no_hang {l : List Nd} {k : Nat} (hk : k < l.length) (h : ¬ hang l k) : treB l = false := treB_no fun t => h (t.hang k hk)
theorem no_node {l : List Nd} {k : Nat} {x : Nd} (hx : l[k]? = some x) (h : nodB x = false) : treB l = false := treB_no fun t => by have := t.node k x hx; rw [h] at this; cases this
set_option maxHeartbeats 4000000 in
set_option maxRecDepth 100000 in
theorem planted_any (A : Option Addr) (l : List Nd) (n c : Nat) (w : World) (hn : l.length = n) (hm : n ≤ 2097152) (hl : NS w A l) (hg : ErrV w) :
    Calls Tryz.prog 42 #[.slice A n c] w (PlP w l) := by
  have HN := Lib.hid hn
  have HL := Lib.hid hl
  have HG := Lib.hid hg
  clear hn hl hg
  by_cases h200 : 200 < n
  · have HI := Lib.hid (show treB l = false from treB_no fun t => by have := t.len; have := HN.out; omega)
    go_enter Tryz.func42, Tryz.ntmps42
    go_wp2
    go_ret
    exact ⟨Below.refl _ _, .inl ⟨HI.out, rfl⟩⟩
  obtain ⟨i0, hi0, hz0, hz1, hz2⟩ := info_parts infoBr
  go_enter Tryz.func42, Tryz.ntmps42
  go_wp2_with fail
  refine (newRoot_any w).mono ?_
  rintro e w1 ⟨rfl, hroot, hb1⟩
  have HR := Lib.hid hroot
  have HB1 := Lib.hid hb1
  have hz1' := hb1.size
  clear hroot hb1
  unfold ptr
  go_wp2_with fail
  have hB2 := (Below.refl w1.heap.size w1).alloc (Nat.le_refl _) (.cells #[ptr w.heap.size] 68)
  have HF2 := Lib.hid ((Fo.root (l := l) HR.out (Nat.le_refl _)).below hB2)
  have HO2 := Lib.hid (own_new1 w1 w.heap.size 68 (ptr w.heap.size) hz1')
  have HB2 := Lib.hid (HB1.out.trans (hB2.mono hz1'))
  clear hB2
  change Code.wp _ _ _ _ (w1.alloc (.cells #[ptr w.heap.size] 68))
  generalize w1.alloc (.cells #[ptr w.heap.size] 68) = w2 at *
  go_loopw [3, 16] (fun av iv wr => ∃ (k : Nat) (ps : Nat → Nat) (vs : Nat → Value), k ≤ n ∧ iv = .int .i64 k ∧ UpTo l k ∧ Fo wr w.heap.size l k ps vs ∧ wr.ownsRow w.heap.size 68 1 av (k + 1) (aps ps k) ∧ (∀ i g, i ≤ k → (vs i).ownBlock = some g → av.ownBlock ≠ some g) ∧ Below w.heap.size w wr) (fun _ iv _ => n - (intOf iv).toNat)
  case atStart => exact ⟨0, _, _, Nat.zero_le _, rfl, UpTo.zero l, HF2.out, HO2.out, fun i g _ e => by simp [Value.ownBlock] at e, HB2.out⟩
  case round =>
    clear HF2 HO2 HB2 HR HB1
    obtain ⟨k, ps, vs, hk, rfl, hup, hfo, hown, hdf, hb⟩ := hrel
    have HUP := Lib.hid hup
    have HF := Lib.hid hfo
    have HO := Lib.hid hown
    have HD := Lib.hid hdf
    have HB := Lib.hid hb
    obtain ⟨Av, cv, rfl⟩ := own_slice hown
    clear hup hfo hown hdf hb
    by_cases hkl : k < n
    · obtain ⟨x, b, o, hx, rfl, hbl, _⟩ := HL.out.all (k := k) (by have := HN.out; omega)
      obtain ⟨hbl', c0, c1, c2⟩ := NS.get (HL.out.below HB.out) hx
      have HX := Lib.hid hx
      clear hx
      have hX3 := BlkL.new wr 31 [.int .i64 x.d, .int .i64 x.k, .string x.s]
      have hB3 := (Below.refl wr.heap.size wr).alloc (Nat.le_refl _) (.cells #[.int .i64 x.d, .int .i64 x.k, .string x.s] 31)
      change BlkL (wr.alloc (.cells #[.int .i64 x.d, .int .i64 x.k, .string x.s] 31)) _ _ _ at hX3
      obtain ⟨gA, cA, hvA, hbA, hlA⟩ := own_pos HO.out (by omega)
      injection hvA with hvA _ hvc
      subst hvA hvc
      have a3 := (HO.out.cellAt k (by omega)).trans (aps_at (Nat.le_refl k))
      unfold ptr at a3
      go_wp2_with fail
      have a3' := (hB3.cell (p := ⟨gA, k, none⟩) hlA).trans a3
      have HF3 := Lib.hid (HF.out.below hB3)
      have HO3 := Lib.hid (own_below HO.out hB3)
      have HB3 := Lib.hid (HB.out.trans (hB3.mono HB.out.size))
      generalize wr.alloc (.cells #[.int .i64 x.d, .int .i64 x.k, .string x.s] 31) = w3 at *
      have HX3 := Lib.hid hX3
      have hsz3 : wr.heap.size < w3.heap.size := hX3.lt
      have r0 := Bw.rd a3'
      have r1 := Bw.rd (show w3.cell? ⟨wr.heap.size, 0, none⟩ = some (.int .i64 x.d) from (hX3.cell 0).trans rfl)
      have hpar : climb l x.d k = par l k := by unfold par; rw [dep_succ HX.out]
      have HPAR := Lib.hid hpar
      clear c0 c1 c2 a3 a3' hX3 hB3 HF HO HB hpar
      refine wp_region_class (Bw w3) (by kernel_rfl) (by kernel_rfl) (Bw.start w3) (fun hne => ?_)
      repeat (go_big_quiet_step (fail))
      refine wpQuiet_step (fun K hK => ?_)
      go_simp
      refine ⟨ptr (ps (par l k)), fun y => calls_class y (Bw.keep w3) (((climbed_any (HF3.out.below y.ok) k (Nat.le_refl k) x.d).mono (by rintro e w' ⟨rfl, rfl⟩; exact ⟨by rw [HPAR.out], Below.refl _ _⟩))), hK _ ?_⟩
      clear hK K
      repeat (go_big_quiet_step (fail))
      refine wpQuiet_nil ?_
      rintro w4 ⟨y, rfl⟩
      have hB4 := y.ok
      generalize y.W = w4 at *
      clear r0 r1 hne
      have hB4' : Below w3.heap.size w3 w4 := hB4
      have HF4 := Lib.hid (HF3.out.below hB4')
      have HO4 := Lib.hid (own_below HO3.out hB4')
      have HX4 := Lib.hid (HX3.out.below hB4' HX3.out.lt)
      have HB4 := Lib.hid (HB3.out.trans (hB4'.mono HB3.out.size))
      have hsz4 : w3.heap.size ≤ w4.heap.size := hB4'.size
      clear hB4 hB4' HF3 HO3 HX3 HB3
      have hpk := par_le l k
      obtain ⟨d0, _, _, _, _, _, dl⟩ := HF4.out.cells hpk
      have r0 := Bw.rd (show w4.cell? ⟨wr.heap.size, 0, none⟩ = some (.int .i64 x.d) from (HX4.out.cell 0).trans rfl)
      have r1 := Bw.rd (show w4.cell? ⟨wr.heap.size, 1, none⟩ = some (.int .i64 x.k) from (HX4.out.cell 1).trans rfl)
      have r2 := Bw.rd (show w4.cell? ⟨wr.heap.size, 2, none⟩ = some (.string x.s) from (HX4.out.cell 2).trans rfl)
      have r3 := Bw.rd d0
      clear d0
      unfold ptr
      go_wp2_with fail
      refine wp_region_class (Bw w4) (by kernel_rfl) (by kernel_rfl) (Bw.start w4) (fun hne => ?_)
      repeat (go_big_quiet_step (fail))
      refine wpQuiet_step (fun K hK => ?_)
      go_simp
      refine ⟨.bool (nodB x), fun y => calls_class y (Bw.keep w4) (nodeOk_any x y.W (HG.out.belowB (HB4.out.trans (Below.mono y.ok HB4.out.size)) HG.out.pos)), hK _ ?_⟩
      clear hK K
      cases hnb : nodB x
      · have HI := Lib.hid (no_node HX.out hnb)
        clear hnb
        repeat (go_big_quiet_step (fail))
        refine wpQuiet_nil ?_
        rintro w5 ⟨y, rfl⟩
        have HB5 := Lib.hid (HB4.out.trans (Below.mono y.ok HB4.out.size))
        generalize y.W = w5 at *
        clear r0 r1 r2 r3 hne
        go_wp2
        go_ret
        exact ⟨HB5.out, .inl ⟨HI.out, rfl⟩⟩
      have HNB := Lib.hid hnb
      have hbd := (nodB_bd hnb).2
      have hdp := HUP.out.dep (i := par l k) hpk
      clear hnb
      by_cases hd : x.d = dep l (par l k) + 1
      · have hdb : (x.d != dep l (par l k) + 1) = false := by simp [hd]
        have HDD := Lib.hid hd
        clear hd
        have hkn := Lib.hid ((HF4.out.cells hpk).2.1)
        repeat (go_big_quiet_step (fail))
        refine wpQuiet_step (fun K hK => ?_)
        go_simp
        refine ⟨.bool (hld l (par l k)), fun y => calls_class y (Bw.keep w4) ((holds_any _ _ y.W (Bw.rd hkn.out y)).mono (by rintro e w' ⟨rfl, rfl⟩; exact ⟨rfl, Below.refl _ _⟩)), hK _ ?_⟩
        clear hK K
        cases hh : hld l (par l k)
        · have HI := Lib.hid (no_hang (l := l) (k := k) (by have := HN.out; omega) (fun t => by have := t.2; rw [hh] at this; cases this))
          clear hh
          repeat (go_big_quiet_step (fail))
          refine wpQuiet_nil ?_
          rintro w5 ⟨y, rfl⟩
          have HB5 := Lib.hid (HB4.out.trans (Below.mono y.ok HB4.out.size))
          generalize y.W = w5 at *
          clear r0 r1 r2 r3 hne
          go_wp2
          go_ret
          exact ⟨HB5.out, .inl ⟨HI.out, rfl⟩⟩
        have HUP5 := Lib.hid (HUP.out.succ HX.out HNB.out ⟨by rw [dep_succ HX.out]; exact HDD.out, hh⟩)
        clear hh
        repeat (go_big_quiet_step (fail))
        refine wpQuiet_nil ?_
        rintro w5 ⟨y, rfl⟩
        have hB5 := y.ok
        generalize y.W = w5 at *
        clear r0 r1 r2 r3 hne hkn hdb
        have hB5' : Below w4.heap.size w4 w5 := hB5
        have HF5 := Lib.hid (HF4.out.below hB5')
        have HO5 := Lib.hid (own_below HO4.out hB5')
        have hX5 := HX4.out.below hB5' HX4.out.lt
        have HB5 := Lib.hid (HB4.out.trans (hB5'.mono HB4.out.size))
        have x0 : w5.cell? ⟨wr.heap.size, 0, none⟩ = some (.int .i64 x.d) := (hX5.cell 0).trans rfl
        have x1 : w5.cell? ⟨wr.heap.size, 1, none⟩ = some (.int .i64 x.k) := (hX5.cell 1).trans rfl
        have x2 : w5.cell? ⟨wr.heap.size, 2, none⟩ = some (.string x.s) := (hX5.cell 2).trans rfl
        have xl := hX5.lt
        clear hB5 hB5' HF4 HO4 HX4 HB4 hX5
        have hsz5 := HB5.out.size
        go_wp2_with fail
        refine (grow_any HF5.out x HX.out hsz5 (by omega)).mono ?_
        rintro e w6 ⟨p, v, rfl, hp, hfo6, hat6, hos, htape, hout, hsz6, hkeep⟩
        clear x0 x1 x2 xl
        have hgA5 := (HO5.out.lt gA rfl).2
        have hnA1 : gA ≠ ps (par l k) := fun e => fo_blk HO5.out (HF5.out.blk _ hpk) (by decide) (by rw [← e]; rfl)
        have hnA2 : ∀ i, i ≤ k → (vs i).ownBlock ≠ some gA := fun i hi e => HD.out i gA hi e rfl
        have HO6 := Lib.hid (own_same HO5.out (w' := w6) (fun g e => by
          obtain rfl : gA = g := by simpa [Value.ownBlock] using e
          exact hkeep gA hgA5 hnA1 (fun e' => hnA2 _ hpk e'.symm)))
        have HB6 := Lib.hid (show Below w.heap.size w w6 from HB5.out.trans ⟨hos, htape, hout, hsz6, fun q hq => hkeep q (by omega) (fun e => by have := HF5.out.base _ hpk; omega) (fun e => by have := ((HF5.out.row _ hpk).lt q e.symm).1; omega)⟩)
        have HF6 := Lib.hid hfo6
        have hgA6 : gA < w6.heap.size := by omega
        have HNB6 := Lib.hid (show ∀ j, j ≤ k + 1 → ((upd (upd vs (par l k) v) (k + 1) (.slice none 0 0)) j).ownBlock ≠ some gA by
          intro j hj e
          by_cases h1 : j = k + 1
          · rw [h1, upd_self] at e; simp [Value.ownBlock] at e
          · rw [upd_ne h1] at e
            by_cases h2 : j = par l k
            · rw [h2, upd_self] at e
              rcases hat6 with h | ⟨g, h, hge⟩
              · rw [h] at e; exact hnA2 _ hpk e
              · rw [h] at e; injection e with e; omega
            · rw [upd_ne h2] at e; exact hnA2 j (by omega) e)
        clear hos htape hout hkeep hfo6 hat6 HF5 HO5 HB5 hnA1 hnA2
        have hS7 := BlkL.new w6 68 [ptr p]
        have hb7 := (Below.refl w6.heap.size w6).alloc (Nat.le_refl _) (.cells #[ptr p] 68)
        have hz7 : (w6.alloc (.cells #[ptr p] 68)).heap.size = w6.heap.size + 1 := by simp
        have HF7 := Lib.hid (HF6.out.below hb7)
        have HO7 := Lib.hid (own_below HO6.out hb7)
        have HB7 := Lib.hid (HB6.out.trans (hb7.mono HB6.out.size))
        have HS7 := Lib.hid hS7
        have hB7 : w.heap.size ≤ (w6.alloc (.cells #[ptr p] 68)).heap.size := HB7.out.size
        clear hS7 hb7 HF6 HO6 HB6
        unfold ptr at HS7 HF7 HO7 HB7 hz7 hB7 ⊢
        go_wp2_with (at_builtin; refine wpList_append_own_at _ rfl _ _ 64 rfl w.heap.size 68 i0 (.pointer none) 1 8 Tryz.underlying64 hi0 hz0 hz1 hz2 rfl (by decide) _ _ _ rfl HO7.out ⟨w6.heap.size, 0, none⟩ 1 1 [.pointer (some ⟨p, 0, none⟩)] rfl rfl (fun j u hj => by rw [Addr.add_lit, Nat.zero_add]; exact (HS7.out.cell j).trans hj) (ptr_one _) (by simp only [maxLen]; omega) (by omega) hB7 ?_)
        intro v' w8 hown8 hgr8 _ hat8
        obtain ⟨A8, c8, rfl⟩ := own_slice hown8
        have hgA7 : gA < (w6.alloc (.cells #[.pointer (some ⟨p, 0, none⟩)] 68)).heap.size := by omega
        have HF8 := Lib.hid (HF7.out.grown hgr8 (fun i hi e => fo_blk HO7.out (HF7.out.blk i hi) (by decide) e.symm) (fun i g hi e e' => HNB6.out i hi (by rw [e, e']; rfl)))
        have HB8 := Lib.hid (HB7.out.grown hgr8 hB7 (fun g hg => (HO7.out.lt g hg).1))
        have HO8 := Lib.hid (show w8.ownsRow w.heap.size 68 1 (.slice A8 (k + 1 + 1) c8) (k + 1 + 1) (aps (upd ps (k + 1) p) (k + 1)) by rw [aps_succ]; exact hown8)
        have HD8 := Lib.hid (show ∀ i g, i ≤ k + 1 → ((upd (upd vs (par l k) v) (k + 1) (.slice none 0 0)) i).ownBlock = some g → (Value.slice A8 (k + 1 + 1) c8).ownBlock ≠ some g by
          intro i g hi e e'
          rcases hat8 with h | h
          · rw [h] at e'
            obtain rfl : gA = g := by simpa [Value.ownBlock] using e'
            exact HNB6.out i hi e
          · rw [h] at e'
            injection e' with e'
            have := ((HF7.out.row i hi).lt g e).2
            omega)
        clear hown8 hgr8 hat8 HF7 HO7 HB7 HS7 HNB6
        go_wp2
        go_roundw
        case rel => exact ⟨k + 1, upd ps (k + 1) p, _, by omega, by go_num, HUP5.out, HF8.out, HO8.out, HD8.out, HB8.out⟩
        case measure => simp [intOf]; omega
      · have HI := Lib.hid (no_hang (l := l) (k := k) (by have := HN.out; omega) (fun t => hd (by have := t.1; rw [dep_succ HX.out] at this; exact this)))
        have hdb : (x.d != dep l (par l k) + 1) = true := by simpa using hd
        clear hd
        repeat (go_big_quiet_step (fail))
        refine wpQuiet_nil ?_
        rintro w5 ⟨y, rfl⟩
        have HB5 := Lib.hid (HB4.out.trans (Below.mono y.ok HB4.out.size))
        generalize y.W = w5 at *
        clear r0 r1 r2 r3 hne
        go_wp2
        go_ret
        exact ⟨HB5.out, .inl ⟨HI.out, rfl⟩⟩
    · obtain rfl : k = n := by omega
      obtain ⟨gA, cA, hvA, hbA, hlA⟩ := own_pos HO.out (by omega)
      injection hvA with hvA _ hvc
      subst hvA hvc
      have HC := Lib.hid (show ∀ i, i ≤ k → wr.cell? ⟨gA, i, none⟩ = some (ptr (ps i)) from fun i hi => (HO.out.cellAt i (by omega)).trans (aps_at hi))
      go_wp2
      generalize wr = wz at *
      go_loopw [57] (fun iv wy => ∃ j : Nat, j ≤ k + 1 ∧ iv = .int .i64 j ∧ (∀ i, i < j → whl l i k = true) ∧ wy = wz) (fun iv _ => k + 1 - (intOf iv).toNat)
      case atStart => exact ⟨0, Nat.zero_le _, rfl, fun i hi => by omega, rfl⟩
      case round =>
        obtain ⟨j, hj, rfl, hw, rfl⟩ := hrel
        have HW := Lib.hid hw
        clear hw
        by_cases hjl : j < k + 1
        · have cj := HC.out j (by omega)
          unfold ptr at cj
          go_wp2_with fail
          refine (whole_any HF.out j (by omega) (by omega)).mono ?_
          rintro e w' ⟨rfl, rfl⟩
          cases hh : whl l j k
          · have HI := Lib.hid (show treB l = false from treB_no fun t => by
              have := t.whole j (by have := HN.out; omega)
              rw [HN.out, hh] at this
              cases this)
            clear hh
            go_wp2
            go_ret
            exact ⟨HB.out, .inl ⟨HI.out, rfl⟩⟩
          · have HW2 := Lib.hid (show ∀ i, i < j + 1 → whl l i k = true by
              intro i hi
              by_cases e : i = j
              · subst e; exact hh
              · exact HW.out i (by omega))
            clear hh
            go_wp2
            go_roundw
            case rel => exact ⟨j + 1, by omega, by go_num, HW2.out, trivial⟩
            case measure => simp [intOf]; omega
        · have HT := Lib.hid (show TrOk l from UpTo.ok (by have := HN.out; omega) (by rw [HN.out]; exact HUP.out) (fun i hi => by rw [HN.out]; exact HW.out i (by have := HN.out; omega)))
          go_wp2
          go_ret
          refine ⟨HB.out, .inr ⟨HT.out, gA, cv, ps, vs, by rw [HN.out]; rfl, by rw [HN.out]; exact HF.out, hlA, fun i hi => HC.out i (by have := HN.out; omega)⟩⟩
end Go.Proofs.YthjkgbcomjiejaaGreatDoor
