/-
  ParseTree of the model: the three rows at the beginning; what is there behind a push.
-/
import Derived.Test.YthjkgbcomjiejaaGreatDoorKk46
import Derived.Test.YthjkgbcomjiejaaGreatDoorKk31
import Derived.WalkSmall
import Derived.Test.YthjkgbcomjiejaaGreatDoorKk41
namespace Go.Proofs.YthjkgbcomjiejaaGreatDoor
open Go.RowKit
set_option linter.unusedVariables false

def fj (j : Nat) : List Value := [.int .i64 (j : Int)]
def fw (q : List Int) (j : Nat) : List Value := [.int .i64 (q.getD j 0)]
theorem fj_len (j : Nat) : (fj j).length = 1 := rfl
theorem fw_len (q : List Int) (j : Nat) : (fw q j).length = 1 := rfl
structure Mz (W : World) (B : Nat) (l : List Nd) (q : List Int) (t gO cO gP cP gW cW : Nat) : Prop where
  out : W.ownsRow B 31 3 (.slice (some ⟨gO, 0, none⟩) l.length cO) l.length (fl fn l)
  opn : W.ownsRow B 3 1 (.slice (some ⟨gP, 0, none⟩) (anc l t).length cP) (anc l t).length (fl fj (anc l t))
  whr : W.ownsRow B 3 1 (.slice (some ⟨gW, 0, none⟩) (anc l t).length cW) (anc l t).length (fl (fw q) (anc l t))
  dif : gP ≠ gW
theorem Mz.below {W W' : World} {B : Nat} {l : List Nd} {q : List Int} {t gO cO gP cP gW cW : Nat} (h : Mz W B l q t gO cO gP cP gW cW) (hb : Below W.heap.size W W') : Mz W' B l q t gO cO gP cP gW cW :=
  ⟨own_below h.out hb, own_below h.opn hb, own_below h.whr hb, h.dif⟩
theorem Mz.drew {W : World} {B : Nat} {l : List Nd} {q : List Int} {t gO cO gP cP gW cW : Nat} (h : Mz W B l q t gO cO gP cP gW cW) : Mz W.drew B l q t gO cO gP cP gW cW := ⟨h.out, h.opn, h.whr, h.dif⟩
theorem Mz.lts {W : World} {B : Nat} {l : List Nd} {q : List Int} {t gO cO gP cP gW cW : Nat} (h : Mz W B l q t gO cO gP cP gW cW) : gO < W.heap.size ∧ gP < W.heap.size ∧ gW < W.heap.size :=
  ⟨(h.out.lt gO rfl).2, (h.opn.lt gP rfl).2, (h.whr.lt gW rfl).2⟩
theorem anc_len_succ (l : List Nd) (t : Nat) : (anc l (t + 1)).length = (anc l (par l t)).length + 1 := by rw [anc_succ]; simp
/-- what stands on top. -/
theorem Mz.top {W : World} {B : Nat} {l : List Nd} {q : List Int} {t gO cO gP cP gW cW : Nat} (h : Mz W B l q (t + 1) gO cO gP cP gW cW) (ht : t + 1 ≤ l.length) :
    W.cell? ⟨gP, (anc l (par l t)).length, none⟩ = some (.int .i64 (t : Int)) ∧ W.cell? ⟨gO, t * 3 + 1, none⟩ = some (.int .i64 (knd l (t + 1))) ∧ W.cell? ⟨gW, (anc l (par l t)).length, none⟩ = some (.int .i64 (q.getD t 0)) := by
  have e : (anc l (t + 1))[(anc l (par l t)).length]? = some t := by rw [anc_succ]; simp
  have hx : l[t]? = some l[t] := List.getElem?_eq_getElem (by omega)
  refine ⟨?_, ?_, ?_⟩
  · have := ((RS.of_own fj_len rfl h.opn).get e).2 0 (by omega)
    simpa [fj] using this
  · have := ((RS.of_own fn_len rfl h.out).get hx).2 1 (by omega)
    rw [knd_succ hx]
    simpa [fn] using this
  · have := ((RS.of_own (fw_len q) rfl h.whr).get e).2 0 (by omega)
    simpa [fw] using this
theorem Mz.pop {W : World} {B : Nat} {l : List Nd} {q : List Int} {t gO cO gP cP gW cW : Nat} (h : Mz W B l q (t + 1) gO cO gP cP gW cW) : Mz W B l q (par l t) gO cO gP cP gW cW := by
  have h1 := h.opn
  have h2 := h.whr
  rw [anc_len_succ, anc_succ, fl_append] at h1 h2
  exact ⟨h.out, ownsRow_pop (by rw [fl_length fj_len]) h1, ownsRow_pop (by rw [fl_length (fw_len q)]) h2, h.dif⟩
theorem cap_own {w : World} {B z : Nat} {e : TypeId} {A : Option Addr} {m n c : Nat} {xs : List Value} (h : w.ownsRow B e z (.slice A m c) n xs) : n ≤ c := by
  rcases h.2 with ⟨h0, rfl⟩ | ⟨g', cap', cur, hv, hg, hh, hn, _⟩
  · exact Nat.zero_le _
  · injection hv with _ _ e3
    omega
theorem Mz.caps {W : World} {B : Nat} {l : List Nd} {q : List Int} {t gO cO gP cP gW cW : Nat} (h : Mz W B l q t gO cO gP cP gW cW) : (anc l t).length ≤ cP ∧ (anc l t).length ≤ cW := ⟨cap_own h.opn, cap_own h.whr⟩
theorem own_empty_of (w : World) (e : TypeId) (z : Nat) : (w.alloc (.cells #[] e)).ownsRow w.heap.size e z (.slice (some ⟨w.heap.size, 0, none⟩) 0 0) 0 [] := by
  refine ⟨by simp, .inr ⟨w.heap.size, 0, #[], rfl, Nat.le_refl _, ?_, ?_⟩⟩
  · exact BlkL.new w e []
  · simp
/-- a row that was appended to is no nil. -/
theorem own_some {w' : World} {B z n : Nat} {e : TypeId} {v : Value} {xs : List Value} (h : w'.ownsRow B e z v n xs) (hv : ¬ v = .slice none 0 0) : ∃ g' c', v = .slice (some ⟨g', 0, none⟩) n c' := by
  rcases h.2 with ⟨rfl, rfl⟩ | ⟨g', cap, cur, rfl, _⟩
  · exact absurd rfl hv
  · exact ⟨_, _, rfl⟩
def conZ (R : Except (Int × Int) Pz) : Except (Int × Int) (List Nd) := match R with | .error e => .error e | .ok z => endZ z
theorem prsZ_go {s : ByteArray} (h : (lxA s).2 = -1) : prsZ s = conZ (runZ (lxA s).1 pz0) := by
  unfold prsZ
  rw [if_pos h]
  cases runZ (lxA s).1 pz0 <;> rfl
theorem prsZ_no {s : ByteArray} (h : (lxA s).2 ≠ -1) : prsZ s = .error (1, (lxA s).2) := by
  unfold prsZ
  rw [if_neg h]
theorem PtP.err {s : ByteArray} {w w' : World} {c a : Int} (h : prsZ s = .error (c, a)) (hb : Below w.heap.size w w') : PtP s w (.returned (.tuple #[.slice none 0 0, .int .i64 c, .int .i64 a])) w' := by
  have e := prsA_eq s
  rw [h] at e
  simp only at e
  refine ⟨.slice none 0 0, by rw [e], ?_, hb⟩
  rw [e]
  exact own_nil _ _ _
theorem PtP.fine {s : ByteArray} {w w' : World} {l : List Nd} {v : Value} (h : prsZ s = .ok l) (ho : w'.ownsRow w.heap.size 31 3 v l.length (fl fn l)) (hb : Below w.heap.size w w') : PtP s w (.returned (.tuple #[v, .int .i64 0, .int .i64 (-1)])) w' := by
  have e := prsA_eq s
  rw [h] at e
  simp only at e
  refine ⟨v, by rw [e], ?_, hb⟩
  rw [e]
  exact ho
end Go.Proofs.YthjkgbcomjiejaaGreatDoor
namespace Go.Proofs.YthjkgbcomjiejaaGreatDoor
open Go.RowKit
set_option linter.unusedVariables false
set_option maxHeartbeats 2000000 in
set_option maxRecDepth 100000 in
theorem l07Shut_any (k : Int) (h3 : 3 ≤ k) (h5 : k ≤ 5) (w : World) :
    Calls Tryz.prog 29 #[.int .i64 k] w fun e w' => e = .returned (.int .u8 (shI k)) ∧ w = w' := by
  obtain h | h | h : k = 3 ∨ k = 4 ∨ k = 5 := by omega
  all_goals subst h
  all_goals go_enter Tryz.func29, Tryz.ntmps29
  all_goals go_wp2_with fail
  all_goals go_ret
  all_goals exact ⟨rfl, rfl⟩
set_option maxHeartbeats 2000000 in
set_option maxRecDepth 100000 in
theorem l07OpenKind_any (s : ByteArray) (hz : s.size = 1) (w : World) :
    Calls Tryz.prog 32 #[.string s] w fun e w' => e = .returned (.int .i64 (opK (bt s 0))) ∧ w = w' := by
  rw [one_byte hz, bt_one]
  generalize s[0] = c
  unfold opK
  by_cases e1 : c.toNat = 40
  · have q1 : (c == 40) = true := by rw [UInt8.toNat_inj.1 (show c.toNat = (40 : UInt8).toNat from e1)]; rfl
    rw [if_pos (by omega)]
    go_enter Tryz.func32, Tryz.ntmps32
    go_wp2_with fail
    go_ret
    exact ⟨rfl, rfl⟩
  have q1 : (c == 40) = false := beq_eq_false_iff_ne.2 fun h => e1 (by rw [h]; rfl)
  rw [if_neg (by omega)]
  by_cases e2 : c.toNat = 91
  · have q2 : (c == 91) = true := by rw [UInt8.toNat_inj.1 (show c.toNat = (91 : UInt8).toNat from e2)]; rfl
    rw [if_pos (by omega)]
    go_enter Tryz.func32, Tryz.ntmps32
    go_wp2_with fail
    go_ret
    exact ⟨rfl, rfl⟩
  have q2 : (c == 91) = false := beq_eq_false_iff_ne.2 fun h => e2 (by rw [h]; rfl)
  rw [if_neg (by omega)]
  go_enter Tryz.func32, Tryz.ntmps32
  go_wp2_with fail
  go_ret
  exact ⟨rfl, rfl⟩
end Go.Proofs.YthjkgbcomjiejaaGreatDoor
namespace Go.Proofs.YthjkgbcomjiejaaGreatDoor
open Go.RowKit
set_option linter.unusedVariables false
theorem fw_app {q : List Int} (a : Int) : ∀ (ks : List Nat), (∀ j ∈ ks, j < q.length) → fl (fw (q ++ [a])) ks = fl (fw q) ks := by
  intro ks
  induction ks with
  | nil => intro _; rfl
  | cons j r ih =>
    intro h
    rw [fl_cons, fl_cons, ih fun k hk => h k (by simp [hk])]
    have hj := h j (by simp)
    congr 1
    unfold fw
    rw [List.getD_eq_getElem?_getD, List.getD_eq_getElem?_getD, List.getElem?_append_left hj]
theorem ct_ne {w : World} {B B' : Nat} {e e' : TypeId} {z z' n n' c c' g g' : Nat} {xs xs' : List Value} (h : w.ownsRow B e z (.slice (some ⟨g, 0, none⟩) n c) n xs) (h' : w.ownsRow B' e' z' (.slice (some ⟨g', 0, none⟩) n' c') n' xs') (hne : e ≠ e') : g ≠ g' := by
  obtain ⟨cur, hc⟩ := fo_type h (g := g) rfl
  obtain ⟨cur', hc'⟩ := fo_type h' (g := g') rfl
  intro e0
  subst e0
  rw [hc] at hc'
  injection hc' with hc'
  injection hc' with _ e1
  exact hne e1
theorem Mz.app {W W2 : World} {B : Nat} {l : List Nd} {q : List Int} {t gO cO gP cP gW cW gO2 cO2 : Nat} (h : Mz W B l q t gO cO gP cP gW cW) (hg : W.grownBy W2 (some gO)) (nd : Nd) (a : Int)
    (how : W2.ownsRow B 31 3 (.slice (some ⟨gO2, 0, none⟩) (l.length + 1) cO2) (l.length + 1) (fl fn l ++ fl fn [nd])) (ht : t ≤ l.length) (hq : q.length = l.length) :
    Mz W2 B (l ++ [nd]) (q ++ [a]) t gO2 cO2 gP cP gW cW := by
  have e1 : (l ++ [nd]).length = l.length + 1 := by simp
  refine ⟨?_, ?_, ?_, h.dif⟩
  · rw [e1, fl_append]; exact how
  · rw [anc_app t ht]
    exact fo_kept h.opn hg fun g e => by
      injection e with e; subst e
      intro e2; injection e2 with e2
      exact ct_ne h.opn h.out (by decide) e2
  · rw [anc_app t ht, fw_app a _ fun j hj => by have := anc_lt _ j hj; omega]
    exact fo_kept h.whr hg fun g e => by
      injection e with e; subst e
      intro e2; injection e2 with e2
      exact ct_ne h.whr h.out (by decide) e2
theorem Mz.push {W W2 W3 W4 : World} {B : Nat} {l : List Nd} {q : List Int} {t k gO cO gP cP gW cW gP2 cP2 gW2 cW2 : Nat} (h : Mz W B l q t gO cO gP cP gW cW) (hl : l.length = k + 1) (hp : par l k = t)
    (hg : W.grownBy W2 (some gP)) (how : W2.ownsRow B 3 1 (.slice (some ⟨gP2, 0, none⟩) ((anc l t).length + 1) cP2) ((anc l t).length + 1) (fl fj (anc l t) ++ [.int .i64 (k : Int)])) (hP : gP2 = gP ∨ W.heap.size ≤ gP2)
    (hb : Below W2.heap.size W2 W3)
    (hg2 : W3.grownBy W4 (some gW)) (how2 : W4.ownsRow B 3 1 (.slice (some ⟨gW2, 0, none⟩) ((anc l t).length + 1) cW2) ((anc l t).length + 1) (fl (fw q) (anc l t) ++ [.int .i64 (q.getD k 0)])) (hW : gW2 = gW ∨ W3.heap.size ≤ gW2) :
    Mz W4 B l q (k + 1) gO cO gP2 cP2 gW2 cW2 := by
  obtain ⟨lO, lP, lW⟩ := h.lts
  have hsz := hb.size
  have hP2 : gP2 < W2.heap.size := (how.lt gP2 rfl).2
  have n1 : gP2 ≠ gW := by
    rcases hP with e | e
    · rw [e]; exact h.dif
    · omega
  have o2 : W2.ownsRow B 31 3 (.slice (some ⟨gO, 0, none⟩) l.length cO) l.length (fl fn l) := fo_kept h.out hg fun g e => by
    injection e with e; subst e
    intro e2; injection e2 with e2
    exact ct_ne h.out h.opn (by decide) e2
  have o3 := own_below o2 hb
  have p3 := own_below how hb
  have ow3 : W3.ownsRow B 3 1 (.slice (some ⟨gW, 0, none⟩) (anc l t).length cW) (anc l t).length (fl (fw q) (anc l t)) := own_below (fo_kept h.whr hg fun g e => by
    injection e with e; subst e
    intro e2; injection e2 with e2
    exact h.dif e2.symm) hb
  refine ⟨?_, ?_, ?_, ?_⟩
  · exact fo_kept o3 hg2 fun g e => by
      injection e with e; subst e
      intro e2; injection e2 with e2
      exact ct_ne o3 ow3 (by decide) e2
  · rw [anc_len_succ, anc_succ, hp, fl_append]
    exact fo_kept p3 hg2 fun g e => by
      injection e with e; subst e
      intro e2; injection e2 with e2
      exact n1 e2
  · rw [anc_len_succ, anc_succ, hp, fl_append]
    exact how2
  · rcases hW with e | e
    · rw [e]; exact n1
    · omega
end Go.Proofs.YthjkgbcomjiejaaGreatDoor
namespace Go.Proofs.YthjkgbcomjiejaaGreatDoor
open Go.RowKit
set_option linter.unusedVariables false
theorem Mz.zero (w1 : World) : Mz (((w1.alloc (.cells #[] 31)).alloc (.cells #[] 3)).alloc (.cells #[] 3)) w1.heap.size [] [] 0 w1.heap.size 0 (w1.heap.size + 1) 0 (w1.heap.size + 2) 0 := by
  have s1 : (w1.alloc (.cells #[] 31)).heap.size = w1.heap.size + 1 := by simp
  have s2 : ((w1.alloc (.cells #[] 31)).alloc (.cells #[] 3)).heap.size = w1.heap.size + 2 := by simp
  have hA := own_empty_of w1 31 3
  have hP := own_empty_of (w1.alloc (.cells #[] 31)) 3 1
  have hW := own_empty_of ((w1.alloc (.cells #[] 31)).alloc (.cells #[] 3)) 3 1
  have b1 := (Below.refl (w1.alloc (.cells #[] 31)).heap.size (w1.alloc (.cells #[] 31))).alloc (Nat.le_refl _) (.cells #[] 3)
  have b2 := (Below.refl ((w1.alloc (.cells #[] 31)).alloc (.cells #[] 3)).heap.size ((w1.alloc (.cells #[] 31)).alloc (.cells #[] 3))).alloc (Nat.le_refl _) (.cells #[] 3)
  have hA2 := own_below (own_below hA b1) b2
  have hP2 := own_below hP b2
  rw [s1] at hP2
  rw [s2] at hW
  refine ⟨hA2, ?_, ?_, by omega⟩
  · rw [anc_zero]
    exact Joins.ownsRow_le hP2 (by omega)
  · rw [anc_zero]
    exact Joins.ownsRow_le hW (by omega)
theorem Mz.open_ {W : World} {B N : Nat} {l : List Nd} {q : List Int} {nd : Nd} {a : Int} {t gO cO gP cP gW cW : Nat} (h : Mz W B (l ++ [nd]) (q ++ [a]) t gO cO gP cP gW cW) (ht : t ≤ l.length) (hn : N = (anc l t).length) :
    W.ownsRow B 3 1 (.slice (some ⟨gP, 0, none⟩) N cP) N (fl fj (anc l t)) := by
  have h1 := h.opn
  rw [anc_app _ ht, ← hn] at h1
  exact h1
theorem Mz.where_ {W W2 W3 : World} {B N : Nat} {l : List Nd} {q : List Int} {nd : Nd} {a : Int} {t gO cO gP cP gW cW : Nat} (h : Mz W B (l ++ [nd]) (q ++ [a]) t gO cO gP cP gW cW) (ht : t ≤ l.length) (hn : N = (anc l t).length)
    (hg : W.grownBy W2 (some gP)) (hb : Below W2.heap.size W2 W3) :
    W3.ownsRow B 3 1 (.slice (some ⟨gW, 0, none⟩) N cW) N (fl (fw (q ++ [a])) (anc l t)) := by
  have h1 := h.whr
  rw [anc_app _ ht, ← hn] at h1
  exact own_below (fo_kept h1 hg fun g e => by
    injection e with e; subst e
    intro e2; injection e2 with e2
    exact h.dif e2.symm) hb
theorem Mz.pushN {W W2 W3 W4 : World} {B N : Nat} {l : List Nd} {q : List Int} {nd : Nd} {a : Int} {t gO cO gP cP gW cW gP2 cP2 gW2 cW2 : Nat} (h : Mz W B (l ++ [nd]) (q ++ [a]) t gO cO gP cP gW cW) (ht : t ≤ l.length) (hq : q.length = l.length) (hn : N = (anc l t).length)
    (hp : par (l ++ [nd]) l.length = t)
    (hg : W.grownBy W2 (some gP)) (how : W2.ownsRow B 3 1 (.slice (some ⟨gP2, 0, none⟩) (N + 1) cP2) (N + 1) (fl fj (anc l t) ++ [.int .i64 (l.length : Int)])) (hP : (Value.slice (some ⟨gP2, 0, none⟩) (N + 1) cP2).ownBlock = some gP ∨ (Value.slice (some ⟨gP2, 0, none⟩) (N + 1) cP2).ownBlock = some W.heap.size)
    (hb : Below W2.heap.size W2 W3)
    (hg2 : W3.grownBy W4 (some gW)) (how2 : W4.ownsRow B 3 1 (.slice (some ⟨gW2, 0, none⟩) (N + 1) cW2) (N + 1) (fl (fw (q ++ [a])) (anc l t) ++ [.int .i64 a])) (hW : (Value.slice (some ⟨gW2, 0, none⟩) (N + 1) cW2).ownBlock = some gW ∨ (Value.slice (some ⟨gW2, 0, none⟩) (N + 1) cW2).ownBlock = some W3.heap.size) :
    Mz W4 B (l ++ [nd]) (q ++ [a]) (l.length + 1) gO cO gP2 cP2 gW2 cW2 := by
  subst hn
  have e1 : anc (l ++ [nd]) t = anc l t := anc_app _ ht
  have e2 : (q ++ [a]).getD l.length 0 = a := by rw [← hq]; simp
  have k1 : gP2 = gP ∨ gP2 = W.heap.size := by
    rcases hP with e | e
    · exact .inl (Option.some.inj e)
    · exact .inr (Option.some.inj e)
  have k2 : gW2 = gW ∨ gW2 = W3.heap.size := by
    rcases hW with e | e
    · exact .inl (Option.some.inj e)
    · exact .inr (Option.some.inj e)
  refine h.push (W2 := W2) (W3 := W3) (t := t) (k := l.length) (by simp) hp hg (by rw [e1]; exact how) (by omega) hb hg2 (by rw [e1, e2]; exact how2) (by omega)
theorem anc_new {l : List Nd} {nd : Nd} {t : Nat} (ht : t ≤ l.length) (hp : par (l ++ [nd]) l.length = t) : (anc (l ++ [nd]) (l.length + 1)).length = (anc l t).length + 1 := by
  rw [anc_len_succ, hp, anc_app _ ht]
end Go.Proofs.YthjkgbcomjiejaaGreatDoor
