/-
  Stages of a region, opened one by one; a class of worlds in which all below a bound stays.
-/
import Derived.BigQuiet
import Derived.Below
import Derived.Deep.Draws
namespace Go.Proofs.YthjkgbcomjiejadGreatDoor
open Go Go.RowKit
set_option linter.unusedVariables false

namespace Tail
variable {P : Program} {ops : Array Oper} {C : World → Prop}

def notDS : Op → Bool
  | .defer _ => false
  | .select _ _ => false
  | _ => true
theorem notDS_select {o : Op} (h : notDS o = true) : ∀ cs b, o ≠ .select cs b := by intro cs b e; subst e; cases h
def bindB (o : Oper) (j : Nat) : Bool := o.after.any fun e => Region.binds .any e && decide (e.on = j)
def seesB (ops : Array Oper) (o : Oper) (x : Operand) : Bool :=
  match x with
  | .tmp s => (List.range (ops.size - 1)).all fun j => match ops[j]? with
    | some oj => !decide (oj.dst = some s) || bindB o j
    | none => true
  | _ => true
def apartB (ops : Array Oper) (i : Nat) (o : Oper) : Bool :=
  (List.range ops.size).all fun j => decide (j = i) || (match ops[j]? with
    | some oj => oj.dst.isNone || !decide (oj.dst = o.dst)
    | none => true)
/-- somebody behind place i waits for it. -/
def waitB (ops : Array Oper) (i : Nat) : Bool :=
  decide (i + 1 = ops.size) || ((List.range ops.size).any fun k => decide (i < k) && (match ops[k]? with | some ok => bindB ok i | none => false))
structure At (ops : Array Oper) (i : Nat) (o : Oper) : Prop where
  guard : o.guard = none
  plain : notDS o.op = true
  back : (o.after.all fun e => !Region.binds .any e || decide (e.on < i)) = true
  sees : (o.op.operands.all (seesB ops o)) = true
  apart : apartB ops i o = true
  wait : waitB ops i = true
def okB (ops : Array Oper) : Bool := (List.range ops.size).all fun i => match ops[i]? with
  | some o => o.guard.isNone && (notDS o.op && ((o.after.all fun e => !Region.binds .any e || decide (e.on < i)) && (o.op.operands.all (seesB ops o) && (apartB ops i o && waitB ops i))))
  | none => true
theorem ok_at (h : okB ops = true) {i : Nat} {o : Oper} (ho : ops[i]? = some o) : At ops i o := by
  have hlt : i < ops.size := (Array.getElem?_eq_some_iff.1 ho).1
  have h1 := List.all_eq_true.1 h i (List.mem_range.2 hlt)
  simp only [ho, Bool.and_eq_true, Option.isNone_iff_eq_none] at h1
  exact ⟨h1.1, h1.2.1, h1.2.2.1, h1.2.2.2.1, h1.2.2.2.2.1, h1.2.2.2.2.2⟩
theorem bindB_true {o : Oper} {j : Nat} (h : bindB o j = true) : ∃ e ∈ o.after, Region.binds .any e = true ∧ e.on = j := by
  obtain ⟨e, he, hb⟩ := Array.any_eq_true'.1 h
  simp only [Bool.and_eq_true, decide_eq_true_eq] at hb
  exact ⟨e, he, hb.1, hb.2⟩
theorem wait_true {i : Nat} (h : waitB ops i = true) (hi : i + 1 < ops.size) : ∃ k ok, i < k ∧ ops[k]? = some ok ∧ bindB ok i = true := by
  unfold waitB at h
  simp only [Bool.or_eq_true, decide_eq_true_eq] at h
  rcases h with h | h
  · omega
  · obtain ⟨k, hk, h2⟩ := List.any_eq_true.1 h
    simp only [Bool.and_eq_true, decide_eq_true_eq] at h2
    cases ho : ops[k]? with
    | none => rw [ho] at h2; simp at h2
    | some ok => rw [ho] at h2; exact ⟨k, ok, h2.1, ho, h2.2⟩

theorem listed_ne {listed : Array Bool} {i j : Nat} (h : i ≠ j) (d : Bool) : (listed.setIfInBounds i true).getD j d = listed.getD j d := by
  simp only [Array.getD_eq_getD_getElem?, Array.getElem?_setIfInBounds_ne h]
theorem listed_eq {listed : Array Bool} (i : Nat) : (listed.setIfInBounds i true).getD i true = true := by
  simp only [Array.getD_eq_getD_getElem?]
  by_cases h : i < listed.size
  · simp [h]
  · rw [Array.getElem?_eq_none (by simp; omega)]; rfl
theorem listed_in {listed : Array Bool} {j : Nat} (h : listed.getD j false = true) : listed.getD j true = true := by
  simp only [Array.getD_eq_getD_getElem?] at *
  cases e : listed[j]? <;> simp_all
theorem listed_out {listed : Array Bool} {j : Nat} (hj : j < listed.size) (h : listed.getD j true = true) : listed.getD j false = true := by
  simp only [Array.getD_eq_getD_getElem?] at *
  rw [Array.getElem?_eq_getElem hj] at *
  exact h

def putAll : List Oper → List Value → Act → Act
  | o :: os, v :: vs, a => putAll os vs (a.put o.dst v)
  | _, _, a => a
theorem putAll_defers (os : List Oper) (vs : List Value) (a : Act) : (putAll os vs a).defers = a.defers := by
  induction os generalizing vs a with
  | nil => rfl
  | cons o os ih =>
    cases vs with
    | nil => rfl
    | cons v vs => rw [putAll, ih]; cases o.dst <;> rfl
theorem putAll_size (os : List Oper) (vs : List Value) (a : Act) : (putAll os vs a).tmps.size = a.tmps.size := by
  induction os generalizing vs a with
  | nil => rfl
  | cons o os ih =>
    cases vs with
    | nil => rfl
    | cons v vs => rw [putAll, ih]; cases o.dst <;> simp [Act.put]
theorem putAll_other (os : List Oper) (vs : List Value) (a : Act) (s : Nat) (h : ∀ o ∈ os, o.dst ≠ some s) : (putAll os vs a).tmps[s]? = a.tmps[s]? := by
  induction os generalizing vs a with
  | nil => rfl
  | cons o os ih =>
    cases vs with
    | nil => rfl
    | cons v vs =>
      rw [putAll, ih _ _ (fun o' ho' => h o' (List.mem_cons_of_mem _ ho'))]
      have := h o (List.mem_cons_self)
      cases hd : o.dst with
      | none => rfl
      | some d => simp only [Act.put]; exact Array.getElem?_setIfInBounds_ne (fun e => this (by rw [hd, e]))
theorem putAll_val (os : List Oper) (vs : List Value) (a : Act) (i : Nat) (o : Oper) (v : Value) (s : Nat) (ho : os[i]? = some o) (hv : vs[i]? = some v) (hd : o.dst = some s) (hs : s < a.tmps.size)
    (hap : ∀ j oj, os[j]? = some oj → oj.dst = some s → j = i) : (putAll os vs a).tmps[s]? = some v := by
  induction os generalizing vs a i with
  | nil => simp at ho
  | cons o' os ih =>
    cases vs with
    | nil => simp at hv
    | cons v' vs =>
      cases i with
      | zero =>
        simp at ho hv
        subst ho hv
        rw [putAll, putAll_other]
        · rw [hd]; simp only [Act.put]; rw [Array.getElem?_setIfInBounds_self, if_pos hs]
        · intro o2 h2 hd2
          obtain ⟨j, hj⟩ := List.mem_iff_getElem?.1 h2
          have := hap (j + 1) o2 (by simpa using hj) hd2
          omega
      | succ i =>
        rw [putAll]
        refine ih vs _ i (by simpa using ho) (by simpa using hv) (by cases o'.dst <;> simpa [Act.put] using hs) ?_
        intro j oj hj hdj
        have := hap (j + 1) oj (by simpa using hj) hdj
        omega
theorem putAll_append (os os2 : List Oper) (vs vs2 : List Value) (a : Act) (h : os.length = vs.length) : putAll (os ++ os2) (vs ++ vs2) a = putAll os2 vs2 (putAll os vs a) := by
  induction os generalizing vs a with
  | nil => cases vs with
    | nil => rfl
    | cons v vs => simp at h
  | cons o os ih =>
    cases vs with
    | nil => simp at h
    | cons v vs => exact ih vs _ (by simpa using h)

/-- the values that a quiet walk has found. -/
theorem vals {Qf : Act → Prop} : ∀ (l : List Oper) (a : Act), (∀ o ∈ l, o.guard = none) → wpQuiet P ops C Qf l a →
    ∃ vs : List Value, vs.length = l.length ∧ (∀ (i : Nat) (o : Oper) (v : Value), l[i]? = some o → vs[i]? = some v → ∀ w, C w → o.quietAt P (putAll (l.take i) (vs.take i) a) C w v) ∧ Qf (putAll l vs a)
  | [], a, _, h => ⟨[], rfl, fun i o v ho => by simp at ho, h⟩
  | o :: l, a, hg, h => by
    unfold wpQuiet at h
    rw [if_pos (by simp [Region.wanted, hg o List.mem_cons_self])] at h
    obtain ⟨v, h1, h2⟩ := h
    obtain ⟨vs, e, h3, h4⟩ := vals l _ (fun o' ho' => hg o' (List.mem_cons_of_mem _ ho')) h2
    refine ⟨v :: vs, by simp [e], fun i o' v' ho hv => ?_, h4⟩
    cases i with
    | zero => simp at ho hv; subst ho hv; exact h1
    | succ i => exact h3 i o' v' (by simpa using ho) (by simpa using hv)

structure Inv (ops : Array Oper) (aF : Act) (listed : Array Bool) (a' : Act) : Prop where
  defers : a'.defers = aF.defers
  size : a'.tmps.size = aF.tmps.size
  slot : ∀ s : Nat, a'.tmps[s]? = aF.tmps[s]? ∨ ∃ (j : Nat) (oj : Oper), j + 1 < ops.size ∧ ops[j]? = some oj ∧ oj.dst = some s ∧ listed.getD j true = false
  shut : ∀ (j : Nat) (oj : Oper), j + 1 < ops.size → ops[j]? = some oj → listed.getD j true = true → ∀ e ∈ oj.after, Region.binds .any e = true → listed.getD e.on true = true

theorem Inv.done {aF a' : Act} {listed : Array Bool} (h : Inv ops aF listed a') (hall : ∀ j, j + 1 < ops.size → listed.getD j true = true) : a' = aF := by
  obtain ⟨h1, h2, h3, _⟩ := h
  cases a'; cases aF
  simp only at h1 h2 h3
  subst h1
  congr
  apply Array.ext_getElem?
  intro s
  rcases h3 s with e | ⟨j, oj, hj, _, _, hl⟩
  · exact e
  · rw [hall j hj] at hl; cases hl
theorem Inv.exec (hd : okB ops = true) {aF a' : Act} {listed : Array Bool} (h : Inv ops aF listed a') {i : Nat} {o : Oper} (ho : ops[i]? = some o) (hr : ∀ e ∈ o.after, Region.binds .any e = true → listed.getD e.on false = true) : execOp a'.eval o = execOp aF.eval o := by
  have hd' := ok_at hd ho
  refine execOp_congr o (notDS_select hd'.plain) fun x hx => ?_
  cases x with
  | tmp s =>
    have hs := Array.all_eq_true'.1 hd'.sees _ hx
    simp only [Act.eval, Array.getD_eq_getD_getElem?]
    rcases h.slot s with e | ⟨j, oj, hjl, hj, hdj, hl⟩
    · rw [e]
    · exfalso
      have := List.all_eq_true.1 hs j (List.mem_range.2 (by omega))
      simp only [hj, hdj, decide_true, Bool.not_true, Bool.false_or] at this
      obtain ⟨e, he, hb, rfl⟩ := bindB_true this
      rw [listed_in (hr e he hb)] at hl
      cases hl
  | _ => rfl
/-- when the last one is ready, all others are done. -/
theorem Inv.all (hd : okB ops = true) {aF a' : Act} {listed : Array Bool} (h : Inv ops aF listed a') {z : Oper} (hz : ops[ops.size - 1]? = some z) (hr : ∀ e ∈ z.after, Region.binds .any e = true → listed.getD e.on true = true) :
    ∀ j, j + 1 < ops.size → listed.getD j true = true := by
  intro j hj
  suffices H : ∀ n j, ops.size - 1 - j ≤ n → j + 1 < ops.size → listed.getD j true = true from H _ j (Nat.le_refl _) hj
  intro n
  induction n with
  | zero => intro j h1 h2; omega
  | succ n ih =>
    intro j h1 h2
    have hoj : ops[j]? = some ops[j] := Array.getElem?_eq_getElem (by omega)
    obtain ⟨k, ok, hk, hok, hb⟩ := wait_true (ok_at hd hoj).wait h2
    have hks : k < ops.size := (Array.getElem?_eq_some_iff.1 hok).1
    obtain ⟨e, he, hbb, rfl⟩ := bindB_true hb
    by_cases hkl : k + 1 < ops.size
    · exact h.shut k ok hkl hok (ih k (by omega) hkl) e he hbb
    · have ek : k = ops.size - 1 := by omega
      subst ek
      rw [hz] at hok
      injection hok with hok
      subst hok
      exact hr e he hbb
theorem Inv.step (hd : okB ops = true) {aF a' : Act} {listed : Array Bool} (h : Inv ops aF listed a') {i : Nat} {o : Oper} {v : Value} (hi : i + 1 < ops.size) (ho : ops[i]? = some o) (hr : ∀ e ∈ o.after, Region.binds .any e = true → listed.getD e.on false = true)
    (hv : ∀ s, o.dst = some s → s < aF.tmps.size → aF.tmps[s]? = some v) : Inv ops aF (listed.setIfInBounds i true) (a'.put o.dst v) := by
  have shut : ∀ (j : Nat) (oj : Oper), j + 1 < ops.size → ops[j]? = some oj → (listed.setIfInBounds i true).getD j true = true → ∀ e ∈ oj.after, Region.binds .any e = true → (listed.setIfInBounds i true).getD e.on true = true := by
    intro j oj hj hoj hl e he hb
    by_cases e1 : i = e.on
    · rw [← e1]; exact listed_eq _
    · rw [listed_ne e1]
      by_cases e2 : i = j
      · subst e2
        rw [ho] at hoj
        injection hoj with hoj
        subst hoj
        exact listed_in (hr e he hb)
      · rw [listed_ne e2] at hl
        exact h.shut j oj hj hoj hl e he hb
  have keep : ∀ (s j : Nat) (oj : Oper), o.dst ≠ some s → ops[j]? = some oj → oj.dst = some s → listed.getD j true = false → (listed.setIfInBounds i true).getD j true = false := by
    intro s j oj hne hj hdj hl
    rw [listed_ne (fun e => hne (by subst e; rw [ho] at hj; injection hj with hj; rw [hj]; exact hdj))]
    exact hl
  cases hds : o.dst with
  | none =>
    refine ⟨h.defers, h.size, fun s => ?_, shut⟩
    rcases h.slot s with e | ⟨j, oj, hj0, hj, hdj, hl⟩
    · exact .inl e
    · exact .inr ⟨j, oj, hj0, hj, hdj, keep s j oj (by rw [hds]; simp) hj hdj hl⟩
  | some d =>
    refine ⟨h.defers, by simp only [Act.put, Array.size_setIfInBounds]; exact h.size, fun s => ?_, shut⟩
    by_cases e : d = s
    · subst e
      left
      by_cases hlt : d < aF.tmps.size
      · rw [hv d hds hlt]
        simp only [Act.put, Array.getElem?_setIfInBounds_self]
        rw [if_pos (by rw [h.size]; exact hlt)]
      · have hlt' : aF.tmps.size ≤ d := Nat.le_of_not_lt hlt
        rw [Array.getElem?_eq_none (by simp only [Act.put, Array.size_setIfInBounds]; rw [h.size]; exact hlt'), Array.getElem?_eq_none hlt']
    · have e1 : (a'.put (some d) v).tmps[s]? = a'.tmps[s]? := by simp only [Act.put]; exact Array.getElem?_setIfInBounds_ne e
      rw [e1]
      rcases h.slot s with e2 | ⟨j, oj, hj0, hj, hdj, hl⟩
      · exact .inl e2
      · exact .inr ⟨j, oj, hj0, hj, hdj, keep s j oj (by rw [hds]; simpa using e) hj hdj hl⟩

theorem any_tail {aF : Act} {vs : List Value} {Q : Exit → Act → World → Prop} {z : Oper} (hd : okB ops = true) (hz : ops[ops.size - 1]? = some z)
    (hvl : vs.length + 1 = ops.size)
    (hval : ∀ (i : Nat) (o : Oper) (v : Value) (s : Nat), i + 1 < ops.size → ops[i]? = some o → vs[i]? = some v → o.dst = some s → s < aF.tmps.size → aF.tmps[s]? = some v)
    (hv : ∀ (i : Nat) (o : Oper) (v : Value), i + 1 < ops.size → ops[i]? = some o → vs[i]? = some v → ∀ w', C w' → o.quietAt P aF C w' v)
    (hlast : ∀ w', C w' → z.wp P aF w' (fun a w => Q .normal a w) Q ∨ (z.asks P aF w' ∧ LetsOut Q)) :
    ∀ (fuel : Nat) (listed : Array Bool) (a' : Act) (w' : World), listed.size = ops.size → Inv ops aF listed a' → ((List.range ops.size).countP fun j => !listed.getD j true) ≤ fuel →
      listed.getD (ops.size - 1) true = false → C w' → wpAny P .any ops Q fuel listed a' w' := by
  have hpos : 0 < ops.size := by omega
  intro fuel
  induction fuel with
  | zero =>
    intro listed a' w' hs hi hc hm hC
    have := List.countP_eq_zero.1 (Nat.le_zero.1 hc) (ops.size - 1) (List.mem_range.2 (by omega))
    simp [hm] at this
  | succ fuel ih =>
    intro listed a' w' hs hi hc hm hC
    have hready : Region.ready .any ops listed = [] → False := by
      intro hnil
      -- the least unlisted operation is ready
      have H : ∀ n j, j < n → j < ops.size → listed.getD j true = true := by
        intro n
        induction n with
        | zero => intro j h; omega
        | succ n ihn =>
          intro j hj hjs
          cases hl : listed.getD j true
          · exfalso
            have ho : ops[j]? = some ops[j] := Array.getElem?_eq_getElem hjs
            have : j ∈ Region.ready .any ops listed := mem_ready.2 ⟨hl, _, ho, fun e he hb => by
              have hb' := Array.all_eq_true'.1 (ok_at hd ho).back e he
              simp only [hb, Bool.not_true, Bool.false_or, decide_eq_true_eq] at hb'
              exact listed_out (by omega) (ihn e.on (by omega) (by omega))⟩
            rw [hnil] at this
            cases this
          · rfl
      have := H ops.size (ops.size - 1) (by omega) (by omega)
      rw [hm] at this; cases this
    refine ⟨fun hnil => (hready hnil).elim, fun i hir => ?_⟩
    obtain ⟨hl, o, ho, hr⟩ := mem_ready.1 hir
    have hlt : i < ops.size := (Array.getElem?_eq_some_iff.1 ho).1
    have hd' := ok_at hd ho
    have hex := hi.exec hd ho hr
    unfold wpOp
    simp only [ho]
    rw [if_pos (by simp [Region.wanted, hd'.guard])]
    by_cases e : i + 1 = ops.size
    · have ei : i = ops.size - 1 := by omega
      subst ei
      rw [hz] at ho
      injection ho with ho
      subst ho
      have hall := hi.all hd hz (fun e he hb => listed_in (hr e he hb))
      have ha := hi.done hall
      subst ha
      rcases hlast w' hC with hlast | hlast
      case inr => exact .inr hlast
      refine .inl (Oper.wp_mono (fun a'' w'' hq => ?_) hlast)
      have hnil : Region.ready .any ops (listed.setIfInBounds (ops.size - 1) true) = [] := by
        apply List.eq_nil_iff_forall_not_mem.2
        intro j hj
        obtain ⟨hlj, oj, hoj, _⟩ := mem_ready.1 hj
        have hjs := (Array.getElem?_eq_some_iff.1 hoj).1
        by_cases ej : ops.size - 1 = j
        · subst ej; rw [listed_eq] at hlj; cases hlj
        · rw [listed_ne ej, hall j (by omega)] at hlj; cases hlj
      cases fuel with
      | zero => exact ⟨hnil, hq⟩
      | succ f => exact ⟨fun _ => hq, fun k hk => by rw [hnil] at hk; cases hk⟩
    · obtain ⟨v, hvi⟩ : ∃ v, vs[i]? = some v := ⟨_, List.getElem?_eq_getElem (by omega)⟩
      left
      refine Oper.wp_of_quiet (K := fun a'' => a'' = a'.put o.dst v) hC (fun a'' w'' hC2 ha => ?_) ⟨v, fun w1 hw1 => ?_, rfl⟩
      · subst ha
        refine ih _ _ _ (by simp [hs]) (hi.step hd (by omega) ho hr (fun s hds hs => hval i o v s (by omega) ho hvi hds hs)) ?_ (by rw [listed_ne (by omega)]; exact hm) hC2
        have hcnt : ((List.range ops.size).countP fun j => !(listed.setIfInBounds i true).getD j true) < ((List.range ops.size).countP fun j => !listed.getD j true) := by
          have h1 : ∀ j, (!(listed.setIfInBounds i true).getD j true) = true → (!listed.getD j true) = true := by
            intro j hj
            by_cases ej : i = j
            · subst ej; rw [listed_eq] at hj; simp at hj
            · rw [listed_ne ej] at hj; exact hj
          have h2 : ∀ (l : List Nat), i ∈ l → l.countP (fun j => !(listed.setIfInBounds i true).getD j true) < l.countP (fun j => !listed.getD j true) := by
            intro l
            induction l with
            | nil => intro h; cases h
            | cons x l ihl =>
              intro hx
              have hle : l.countP (fun j => !(listed.setIfInBounds i true).getD j true) ≤ l.countP (fun j => !listed.getD j true) := List.countP_mono_left (fun j _ hj => h1 j hj)
              rw [List.countP_cons, List.countP_cons]
              by_cases ex : x = i
              · subst ex
                rw [listed_eq, hl]
                simp only [Bool.not_true, Bool.not_false, if_true, Bool.false_eq_true, if_false]
                omega
              · have hil : i ∈ l := by
                  rcases List.mem_cons.1 hx with h | h
                  · exact absurd h.symm ex
                  · exact h
                have := ihl hil
                rw [listed_ne (fun h => ex h.symm)]
                omega
          exact h2 _ (List.mem_range.2 hlt)
        omega
      · have := hv i o v (by omega) ho hvi w1 hw1
        unfold Oper.quietAt at this ⊢
        rw [hex]
        exact this
end Tail

/-- a region that draws, with a last operation that may write: the others are walked in the text's order, over the class C of worlds; then the last one is met in whatever world of C. -/
theorem wp_region_tail {P : Program} {id : Nat} {Q : Exit → Act → World → Prop} {a : Act} {w : World} {l : List Oper} (n : Nat) (C : World → Prop) (hm : P.follows .mixedOrders = true) (hB : (Tail.okB l.toArray && decide (n + 1 = l.length)) = true) (hC : C w.drew)
    (h : wpQuiet P l.toArray C (fun a' => ∀ w', C w' → wpList P l.toArray Q (l.drop n) a' w') (l.take n) a) : (Code.region id l.toArray true).wp P Q a w := by
  simp only [Bool.and_eq_true, decide_eq_true_eq] at hB
  obtain ⟨hd, hn⟩ := hB
  have hoz : l[n]? = some l[n] := List.getElem?_eq_getElem (by omega)
  have hg : ∀ o ∈ l.take n, o.guard = none := by
    intro o ho
    obtain ⟨i, hi⟩ := List.mem_iff_getElem?.1 (List.mem_of_mem_take ho)
    exact (Tail.ok_at hd (i := i) (o := o) (by simpa using hi)).guard
  obtain ⟨vs, e, h3, h4⟩ := Tail.vals (l.take n) a hg h
  have hlen : (l.take n).length = n := by simp; omega
  have htk : ∀ i, i < n → (l.take n)[i]? = l[i]? := fun i hi => by rw [List.getElem?_take, if_pos hi]
  have hval : ∀ (i : Nat) (o : Oper) (v : Value) (s : Nat), i < n → l[i]? = some o → vs[i]? = some v → o.dst = some s → s < a.tmps.size → (Tail.putAll (l.take n) vs a).tmps[s]? = some v := by
    intro i o v s hi ho hv hds hs
    refine Tail.putAll_val _ _ _ i o v s (by rw [htk i hi]; exact ho) hv hds hs ?_
    intro j oj hj hdj
    have hjn : j < n := by have := (List.getElem?_eq_some_iff.1 hj).1; omega
    rw [htk j hjn] at hj
    have h1 := List.all_eq_true.1 (Tail.ok_at hd (i := i) (o := o) (by simpa using ho)).apart j (List.mem_range.2 (by simp; omega))
    have hj' : (l.toArray)[j]? = some oj := by simpa using hj
    simp only [hj', hdj, hds, decide_true, Bool.not_true, Bool.or_false, Option.isNone_some, decide_eq_true_eq] at h1
    exact h1
  refine wp_region_any hm (Tail.any_tail (C := C) (aF := Tail.putAll (l.take n) vs a) (vs := vs) (z := l[n]) hd (by simp [← hn]) (by simp; omega) ?_ ?_ ?_ _ _ _ _ (by simp) ⟨(Tail.putAll_defers _ _ _).symm, (Tail.putAll_size _ _ _).symm, fun s => ?_, fun j oj hj hoj hl => ?_⟩ ?_ ?_ hC)
  · intro i o v s hi ho hv hds hs
    rw [Tail.putAll_size] at hs
    exact hval i o v s (by simp at hi; omega) (by simpa using ho) hv hds hs
  · intro i o v hi ho hv w' hw'
    have hin : i < n := by simp at hi; omega
    have ho' : l[i]? = some o := by simpa using ho
    have hq := h3 i o v (by rw [htk i hin]; exact ho') hv w' hw'
    unfold Oper.quietAt at hq ⊢
    have hd' := Tail.ok_at hd ho
    have hex : execOp (Tail.putAll (l.take n) vs a).eval o = execOp (Tail.putAll ((l.take n).take i) (vs.take i) a).eval o := by
      refine execOp_congr o (Tail.notDS_select hd'.plain) fun x hx => ?_
      cases x with
      | tmp s =>
        have hs := Array.all_eq_true'.1 hd'.sees _ hx
        simp only [Act.eval, Array.getD_eq_getD_getElem?]
        congr 1
        have hsplit : Tail.putAll (l.take n) vs a = Tail.putAll ((l.take n).drop i) (vs.drop i) (Tail.putAll ((l.take n).take i) (vs.take i) a) := by
          rw [← Tail.putAll_append _ _ _ _ _ (by simp; omega), List.take_append_drop, List.take_append_drop]
        rw [hsplit]
        refine Tail.putAll_other _ _ _ s ?_
        intro o2 ho2 hd2
        obtain ⟨j, hj⟩ := List.mem_iff_getElem?.1 ho2
        rw [List.getElem?_drop] at hj
        have hjn : i + j < n := by have := (List.getElem?_eq_some_iff.1 hj).1; omega
        rw [htk _ hjn] at hj
        have hj' : (l.toArray)[i + j]? = some o2 := by simpa using hj
        have := List.all_eq_true.1 hs (i + j) (List.mem_range.2 (by simp; omega))
        simp only [hj', hd2, decide_true, Bool.not_true, Bool.false_or] at this
        obtain ⟨e, he, hb, e2⟩ := Tail.bindB_true this
        have hb' := Array.all_eq_true'.1 hd'.back e he
        simp only [hb, Bool.not_true, Bool.false_or, decide_eq_true_eq] at hb'
        omega
      | _ => rfl
    rw [hex]
    exact hq
  · intro w' hw'
    have := h4 w' hw'
    have hdrop : l.drop n = [l[n]] := by
      rw [List.drop_eq_getElem_cons (by omega), List.drop_eq_nil_of_le (by omega)]
    rw [hdrop] at this
    have hgz := (Tail.ok_at hd (i := n) (o := l[n]) (by simp)).guard
    simp only [wpList, Region.wanted, hgz] at this
    simpa using this
  · by_cases hex : ∃ (j : Nat) (oj : Oper), j < n ∧ l[j]? = some oj ∧ oj.dst = some s
    · obtain ⟨j, oj, hj, hoj, hdj⟩ := hex
      refine .inr ⟨j, oj, by simp; omega, by simpa using hoj, hdj, ?_⟩
      simp [Array.getD_eq_getD_getElem?, show j < l.length by omega]
    · left
      rw [Tail.putAll_other]
      intro o ho hds
      obtain ⟨j, hj⟩ := List.mem_iff_getElem?.1 ho
      have hjn : j < n := by have := (List.getElem?_eq_some_iff.1 hj).1; omega
      rw [htk j hjn] at hj
      exact hex ⟨j, o, hjn, hj, hds⟩
  · have : j < l.length := by simp at hj; omega
    simp [Array.getD_eq_getD_getElem?, this] at hl
  · exact Nat.le_trans (List.countP_le_length) (by simp)
  · simp [Array.getD_eq_getD_getElem?, show l.length - 1 < l.length by omega]
end Go.Proofs.YthjkgbcomjiejadGreatDoor
namespace Go.Proofs.YthjkgbcomjiejadGreatDoor
open Go Go.RowKit
set_option linter.unusedVariables false

namespace Chain
open Tail
variable {P : Program} {ops : Array Oper} {S : World → Prop}
/-- each operand's slot is written by no operation that may come behind (the last one included). -/
def seesS (ops : Array Oper) (o : Oper) (x : Operand) : Bool :=
  match x with
  | .tmp s => (List.range ops.size).all fun j => match ops[j]? with
    | some oj => !decide (oj.dst = some s) || bindB o j
    | none => true
  | _ => true
def okS (ops : Array Oper) : Bool := okB ops && (List.range ops.size).all fun i => match ops[i]? with
  | some o => o.op.operands.all (seesS ops o)
  | none => true
theorem okS_ok (h : okS ops = true) : okB ops = true := (Bool.and_eq_true_iff.1 h).1
theorem okS_sees (h : okS ops = true) {i : Nat} {o : Oper} (ho : ops[i]? = some o) : (o.op.operands.all (seesS ops o)) = true := by
  have h1 := List.all_eq_true.1 (Bool.and_eq_true_iff.1 h).2 i (List.mem_range.2 (Array.getElem?_eq_some_iff.1 ho).1)
  simpa only [ho] using h1

def simpleB : Op → Bool
  | .move _ | .assign _ | .build .. | .load .. | .nilCheck _ | .binOp .. | .unOp .. | .convert .. | .slice .. | .fieldAddr .. | .field .. | .indexAddr .. | .index .. | .extract .. => true
  | .call c => match c.callee with | .builtin .min => true | .builtin .len => true | .builtin .cap => true | _ => false
  | _ => false
theorem run_v {P : Program} {s : Sem Value} {w w' : World} {n : Next} (h : Sem.run P (do pure (Next.value (← s))) w = .ok n w') : ∃ v, n = .value v := by
  rw [Sem.run_bind] at h
  cases hr : Sem.run P s w with
  | ok x w1 => rw [hr] at h; simp at h; exact ⟨x, h.1.symm⟩
  | halt x w1 => rw [hr] at h; simp [Result.andThen] at h
theorem simple_val {P : Program} {ρ : Operand → Value} {o : Oper} {w w' : World} {n : Next} (hs : simpleB o.op = true) (h : Sem.run P (execOp ρ o) w = .ok n w') : ∃ v, n = .value v := by
  unfold execOp at h
  cases ho : o.op <;> rw [ho] at hs h <;> first | (exfalso; simp [simpleB] at hs; done) | skip
  case move => simp at h; exact ⟨_, h.1.symm⟩
  case assign => simp at h; exact ⟨_, h.1.symm⟩
  case call c =>
    obtain ⟨cal, args, ats⟩ := c
    cases cal with
    | builtin b =>
      cases b <;> first | (exfalso; simp [simpleB] at hs; done) | skip
      all_goals exact run_v h
    | _ => simp [simpleB] at hs
  case nilCheck x =>
    simp only at h
    split at h
    · simp [runtimePanic] at h
    · simp [runtimePanic] at h
    · simp [runtimePanic] at h
    · split at h
      · simp [runtimePanic] at h
      · simp only [Sem.run_bind] at h
        cases hr : Sem.run P program w with
        | ok x1 w1 =>
          simp only [hr, Result.andThen_ok] at h
          generalize Sem.run P (nilAhead _ _ _ _) w1 = r at h
          cases r with
          | ok x2 w2 =>
            simp only [Result.andThen_ok] at h
            split at h
            · simp [unsupported, Result.andThen] at h
            · simp at h; exact ⟨_, h.1.symm⟩
          | halt x2 w2 => simp [Result.andThen] at h
        | halt x1 w1 => simp [hr, Result.andThen] at h
      · simp at h; exact ⟨_, h.1.symm⟩
    · simp at h; exact ⟨_, h.1.symm⟩
  all_goals exact run_v h

def pickM : List Bool → Nat → List Oper → List (Nat × Oper)
  | true :: m, k, o :: l => (k, o) :: pickM m (k + 1) l
  | false :: m, k, _ :: l => pickM m (k + 1) l
  | _, _, _ => []
theorem pick_mem : ∀ {m : List Bool} {k : Nat} {l : List Oper} {i : Nat} {o : Oper}, (i, o) ∈ pickM m k l ↔ k ≤ i ∧ l[i - k]? = some o ∧ m[i - k]? = some true
  | [], k, l, i, o => by simp [pickM]
  | b :: m, k, [], i, o => by cases b <;> simp [pickM]
  | true :: m, k, o' :: l, i, o => by
    simp only [pickM, List.mem_cons, Prod.mk.injEq, pick_mem]
    constructor
    · rintro (⟨rfl, rfl⟩ | ⟨h1, h2, h3⟩)
      · simp
      · have e : i - k = (i - (k + 1)) + 1 := by omega
        rw [e]; exact ⟨by omega, by simpa using h2, by simpa using h3⟩
    · rintro ⟨h1, h2, h3⟩
      by_cases e : i = k
      · subst e; simp at h2; exact .inl ⟨rfl, h2.symm⟩
      · have e2 : i - k = (i - (k + 1)) + 1 := by omega
        rw [e2] at h2 h3
        exact .inr ⟨by omega, by simpa using h2, by simpa using h3⟩
  | false :: m, k, o' :: l, i, o => by
    simp only [pickM, pick_mem]
    constructor
    · rintro ⟨h1, h2, h3⟩
      have e : i - k = (i - (k + 1)) + 1 := by omega
      rw [e]; exact ⟨by omega, by simpa using h2, by simpa using h3⟩
    · rintro ⟨h1, h2, h3⟩
      by_cases e : i = k
      · subst e; simp at h3
      · have e2 : i - k = (i - (k + 1)) + 1 := by omega
        rw [e2] at h2 h3
        exact ⟨by omega, by simpa using h2, by simpa using h3⟩
theorem pick_sorted : ∀ (m : List Bool) (k : Nat) (l : List Oper), (pickM m k l).Pairwise fun a b => a.1 < b.1
  | [], k, l => by simp [pickM]
  | b :: m, k, [] => by cases b <;> simp [pickM]
  | true :: m, k, o' :: l => by
    simp only [pickM]
    refine List.Pairwise.cons ?_ (pick_sorted m (k + 1) l)
    rintro ⟨i, o⟩ h
    have := (pick_mem.1 h).1
    simp; omega
  | false :: m, k, o' :: l => by simp only [pickM]; exact pick_sorted m (k + 1) l

/-- one operation of the chain. -/
def movUpon (P : Program) (G : Value → World → Prop) : Result Next → Prop
  | .ok (.value v) w2 => G v w2
  | .ok .skip w2 => G undef w2
  | .ok (.enter f args) w2 => Calls P f args w2 (fun e w3 => ∃ v, e = .returned v ∧ G v w3)
  | _ => False
def mov (P : Program) (o : Oper) (a : Act) (w : World) (G : Value → World → Prop) : Prop := movUpon P G ((execOp a.eval o).run P w)
theorem movUpon_mono {G G' : Value → World → Prop} (h : ∀ v w, G v w → G' v w) {r : Result Next} (hh : movUpon P G r) : movUpon P G' r := by
  cases r with
  | ok n w =>
    cases n <;> simp only [movUpon] at hh ⊢
    case value v => exact h _ _ hh
    case skip => exact h _ _ hh
    case enter f args => exact hh.mono fun e w3 ⟨v, he, hg⟩ => ⟨v, he, h _ _ hg⟩
  | halt x w => exact hh
theorem movUpon_upon {G : Value → World → Prop} {o : Oper} {a : Act} {K : Act → World → Prop} {Q : Exit → Act → World → Prop} (h : ∀ v w, G v w → K (a.put o.dst v) w) {r : Result Next} (hh : movUpon P G r) : o.upon P a K Q r := by
  cases r with
  | ok n w =>
    cases n <;> simp only [movUpon] at hh <;> simp only [Oper.upon]
    case value v => exact h _ _ hh
    case skip => exact h _ _ hh
    case enter f args => exact hh.mono fun e w3 ⟨v, he, hg⟩ => by subst he; exact h _ _ hg
  | halt x w => exact hh.elim

def chainW (P : Program) (S : World → Prop) (ops : Array Oper) (Q : Exit → Act → World → Prop) : List Oper → Act → World → Prop
  | [], a, w => Q .normal a w
  | [z], a, w => wpList P ops Q [z] a w
  | o :: o2 :: T, a, w => mov P o a w (fun v w2 => S w2 ∧ chainW P S ops Q (o2 :: T) (a.put o.dst v) w2)

/-- each of the chain waits for the one ahead of it; the last one is the region's last. -/
def chainB (ops : Array Oper) : List (Nat × Oper) → Bool
  | [] => false
  | [(i, _)] => decide (i + 1 = ops.size)
  | (i, _) :: (j, o) :: T => bindB o i && chainB ops ((j, o) :: T)
def headB (ops : Array Oper) (m : List Bool) : Bool := (List.range ops.size).all fun i => match ops[i]? with
  | some o => !(m.getD i false) || (simpleB o.op && (o.after.all fun e => !Region.binds .any e || m.getD e.on false))
  | none => true
theorem head_at {m : List Bool} (h : headB ops m = true) {i : Nat} {o : Oper} (ho : ops[i]? = some o) (hm : m.getD i false = true) : simpleB o.op = true ∧ ∀ e ∈ o.after, Region.binds .any e = true → m.getD e.on false = true := by
  have hlt : i < ops.size := (Array.getElem?_eq_some_iff.1 ho).1
  have h1 := List.all_eq_true.1 h i (List.mem_range.2 hlt)
  simp only [ho, hm, Bool.not_true, Bool.false_or, Bool.and_eq_true] at h1
  refine ⟨h1.1, fun e he hb => ?_⟩
  have := Array.all_eq_true'.1 h1.2 e he
  simpa [hb] using this

structure Inv (ops : Array Oper) (m : List Bool) (aF : Act) (listed : Array Bool) (a' : Act) : Prop where
  defers : a'.defers = aF.defers
  size : a'.tmps.size = aF.tmps.size
  slot : ∀ s : Nat, a'.tmps[s]? = aF.tmps[s]? ∨ ∃ (j : Nat) (oj : Oper), m.getD j false = true ∧ ops[j]? = some oj ∧ oj.dst = some s ∧ listed.getD j true = false
  shut : ∀ (j : Nat) (oj : Oper), j + 1 < ops.size → ops[j]? = some oj → listed.getD j true = true → ∀ e ∈ oj.after, Region.binds .any e = true → listed.getD e.on true = true

theorem Inv.done {m : List Bool} {aF a' : Act} {listed : Array Bool} (h : Inv ops m aF listed a') (hall : ∀ j, j + 1 < ops.size → listed.getD j true = true) (hlast : m.getD (ops.size - 1) false = false) : a' = aF := by
  obtain ⟨h1, h2, h3, _⟩ := h
  cases a'; cases aF
  simp only at h1 h2 h3
  subst h1
  congr
  apply Array.ext_getElem?
  intro s
  rcases h3 s with e | ⟨j, oj, hm, hj, _, hl⟩
  · exact e
  · have hjs := (Array.getElem?_eq_some_iff.1 hj).1
    by_cases e : j + 1 < ops.size
    · rw [hall j e] at hl; cases hl
    · have : j = ops.size - 1 := by omega
      subst this; rw [hlast] at hm; cases hm
theorem Inv.exec {m : List Bool} (hd : okS ops = true) {aF a' : Act} {listed : Array Bool} (h : Inv ops m aF listed a') {i : Nat} {o : Oper} (ho : ops[i]? = some o) (hr : ∀ e ∈ o.after, Region.binds .any e = true → listed.getD e.on false = true) : execOp a'.eval o = execOp aF.eval o := by
  have hd' := ok_at (okS_ok hd) ho
  refine execOp_congr o (notDS_select hd'.plain) fun x hx => ?_
  cases x with
  | tmp s =>
    have hs := Array.all_eq_true'.1 (okS_sees hd ho) _ hx
    simp only [Act.eval, Array.getD_eq_getD_getElem?]
    rcases h.slot s with e | ⟨j, oj, _, hj, hdj, hl⟩
    · rw [e]
    · exfalso
      have := List.all_eq_true.1 hs j (List.mem_range.2 (Array.getElem?_eq_some_iff.1 hj).1)
      simp only [hj, hdj, decide_true, Bool.not_true, Bool.false_or] at this
      obtain ⟨e, he, hb, rfl⟩ := bindB_true this
      rw [listed_in (hr e he hb)] at hl
      cases hl
  | _ => rfl
theorem shut_step {listed : Array Bool} (shut : ∀ (j : Nat) (oj : Oper), j + 1 < ops.size → ops[j]? = some oj → listed.getD j true = true → ∀ e ∈ oj.after, Region.binds .any e = true → listed.getD e.on true = true)
    {i : Nat} {o : Oper} (ho : ops[i]? = some o) (hr : ∀ e ∈ o.after, Region.binds .any e = true → listed.getD e.on false = true) :
    ∀ (j : Nat) (oj : Oper), j + 1 < ops.size → ops[j]? = some oj → (listed.setIfInBounds i true).getD j true = true → ∀ e ∈ oj.after, Region.binds .any e = true → (listed.setIfInBounds i true).getD e.on true = true := by
  intro j oj hj hoj hl e he hb
  by_cases e1 : i = e.on
  · rw [← e1]; exact listed_eq _
  · rw [listed_ne e1]
    by_cases e2 : i = j
    · subst e2
      rw [ho] at hoj
      injection hoj with hoj
      subst hoj
      exact listed_in (hr e he hb)
    · rw [listed_ne e2] at hl
      exact shut j oj hj hoj hl e he hb
/-- the frames after value v of operation i, which is one of the reading ones. -/
theorem Inv.head {m : List Bool} {aF a' : Act} {listed : Array Bool} (h : Inv ops m aF listed a') {i : Nat} {o : Oper} {v : Value} (ho : ops[i]? = some o) (hr : ∀ e ∈ o.after, Region.binds .any e = true → listed.getD e.on false = true)
    (hv : ∀ s, o.dst = some s → s < aF.tmps.size → aF.tmps[s]? = some v) : Inv ops m aF (listed.setIfInBounds i true) (a'.put o.dst v) := by
  have keep : ∀ (s j : Nat) (oj : Oper), o.dst ≠ some s → ops[j]? = some oj → oj.dst = some s → listed.getD j true = false → (listed.setIfInBounds i true).getD j true = false := by
    intro s j oj hne hj hdj hl
    rw [listed_ne (fun e => hne (by subst e; rw [ho] at hj; injection hj with hj; rw [hj]; exact hdj))]
    exact hl
  cases hds : o.dst with
  | none =>
    refine ⟨h.defers, h.size, fun s => ?_, shut_step h.shut ho hr⟩
    rcases h.slot s with e | ⟨j, oj, hj0, hj, hdj, hl⟩
    · exact .inl e
    · exact .inr ⟨j, oj, hj0, hj, hdj, keep s j oj (by rw [hds]; simp) hj hdj hl⟩
  | some d =>
    refine ⟨h.defers, by simp only [Act.put, Array.size_setIfInBounds]; exact h.size, fun s => ?_, shut_step h.shut ho hr⟩
    by_cases e : d = s
    · subst e
      left
      by_cases hlt : d < aF.tmps.size
      · rw [hv d hds hlt]
        simp only [Act.put, Array.getElem?_setIfInBounds_self]
        rw [if_pos (by rw [h.size]; exact hlt)]
      · have hlt' : aF.tmps.size ≤ d := Nat.le_of_not_lt hlt
        rw [Array.getElem?_eq_none (by simp only [Act.put, Array.size_setIfInBounds]; rw [h.size]; exact hlt'), Array.getElem?_eq_none hlt']
    · have e1 : (a'.put (some d) v).tmps[s]? = a'.tmps[s]? := by simp only [Act.put]; exact Array.getElem?_setIfInBounds_ne e
      rw [e1]
      rcases h.slot s with e2 | ⟨j, oj, hj0, hj, hdj, hl⟩
      · exact .inl e2
      · exact .inr ⟨j, oj, hj0, hj, hdj, keep s j oj (by rw [hds]; simpa using e) hj hdj hl⟩
/-- .. which is one of the chain. -/
theorem Inv.tail {m : List Bool} {aF a' : Act} {listed : Array Bool} (h : Inv ops m aF listed a') {i : Nat} {o : Oper} {v : Value} (ho : ops[i]? = some o) (hr : ∀ e ∈ o.after, Region.binds .any e = true → listed.getD e.on false = true)
    (hm : m.getD i false = false) : Inv ops m (aF.put o.dst v) (listed.setIfInBounds i true) (a'.put o.dst v) := by
  have keep : ∀ (j : Nat), m.getD j false = true → listed.getD j true = false → (listed.setIfInBounds i true).getD j true = false := by
    intro j hj hl
    rw [listed_ne (fun e => by subst e; rw [hm] at hj; cases hj)]
    exact hl
  cases hds : o.dst with
  | none =>
    refine ⟨h.defers, h.size, fun s => ?_, shut_step h.shut ho hr⟩
    rcases h.slot s with e | ⟨j, oj, hj0, hj, hdj, hl⟩
    · exact .inl e
    · exact .inr ⟨j, oj, hj0, hj, hdj, keep j hj0 hl⟩
  | some d =>
    refine ⟨h.defers, by simp only [Act.put, Array.size_setIfInBounds]; exact h.size, fun s => ?_, shut_step h.shut ho hr⟩
    by_cases e : d = s
    · subst e
      left
      simp only [Act.put, Array.getElem?_setIfInBounds_self, h.size]
    · have e1 : (a'.put (some d) v).tmps[s]? = a'.tmps[s]? := by simp only [Act.put]; exact Array.getElem?_setIfInBounds_ne e
      have e3 : (aF.put (some d) v).tmps[s]? = aF.tmps[s]? := by simp only [Act.put]; exact Array.getElem?_setIfInBounds_ne e
      rw [e1, e3]
      rcases h.slot s with e2 | ⟨j, oj, hj0, hj, hdj, hl⟩
      · exact .inl e2
      · exact .inr ⟨j, oj, hj0, hj, hdj, keep j hj0 hl⟩
theorem Inv.all {m : List Bool} (hd : okB ops = true) {aF a' : Act} {listed : Array Bool} (h : Inv ops m aF listed a') {z : Oper} (hz : ops[ops.size - 1]? = some z) (hr : ∀ e ∈ z.after, Region.binds .any e = true → listed.getD e.on true = true) :
    ∀ j, j + 1 < ops.size → listed.getD j true = true := by
  intro j hj
  suffices H : ∀ n j, ops.size - 1 - j ≤ n → j + 1 < ops.size → listed.getD j true = true from H _ j (Nat.le_refl _) hj
  intro n
  induction n with
  | zero => intro j h1 h2; omega
  | succ n ih =>
    intro j h1 h2
    have hoj : ops[j]? = some ops[j] := Array.getElem?_eq_getElem (by omega)
    obtain ⟨k, ok, hk, hok, hb⟩ := wait_true (ok_at hd hoj).wait h2
    have hks : k < ops.size := (Array.getElem?_eq_some_iff.1 hok).1
    obtain ⟨e, he, hbb, rfl⟩ := bindB_true hb
    by_cases hkl : k + 1 < ops.size
    · exact h.shut k ok hkl hok (ih k (by omega) hkl) e he hbb
    · have ek : k = ops.size - 1 := by omega
      subst ek
      rw [hz] at hok
      injection hok with hok
      subst hok
      exact hr e he hbb
theorem ready_ne (hd : okB ops = true) {listed : Array Bool} (hs : listed.size = ops.size) {k : Nat} (hk : k < ops.size) (hl0 : listed.getD k true = false) : Region.ready .any ops listed ≠ [] := by
  intro hnil
  have H : ∀ n j, j < n → j < ops.size → listed.getD j true = true := by
    intro n
    induction n with
    | zero => intro j h; omega
    | succ n ihn =>
      intro j hj hjs
      cases hl : listed.getD j true
      · exfalso
        have ho : ops[j]? = some ops[j] := Array.getElem?_eq_getElem hjs
        have : j ∈ Region.ready .any ops listed := mem_ready.2 ⟨hl, _, ho, fun e he hb => by
          have hb' := Array.all_eq_true'.1 (ok_at hd ho).back e he
          simp only [hb, Bool.not_true, Bool.false_or, decide_eq_true_eq] at hb'
          exact listed_out (by omega) (ihn e.on (by omega) (by omega))⟩
        rw [hnil] at this
        cases this
      · rfl
  rw [H ops.size k (by omega) hk] at hl0
  cases hl0
theorem cnt_lt {listed : Array Bool} {i : Nat} (hlt : i < ops.size) (hl : listed.getD i true = false) : ((List.range ops.size).countP fun j => !(listed.setIfInBounds i true).getD j true) < ((List.range ops.size).countP fun j => !listed.getD j true) := by
  have h1 : ∀ j, (!(listed.setIfInBounds i true).getD j true) = true → (!listed.getD j true) = true := by
    intro j hj
    by_cases ej : i = j
    · subst ej; rw [listed_eq] at hj; simp at hj
    · rw [listed_ne ej] at hj; exact hj
  have h2 : ∀ (l : List Nat), i ∈ l → l.countP (fun j => !(listed.setIfInBounds i true).getD j true) < l.countP (fun j => !listed.getD j true) := by
    intro l
    induction l with
    | nil => intro h; cases h
    | cons x l ihl =>
      intro hx
      have hle : l.countP (fun j => !(listed.setIfInBounds i true).getD j true) ≤ l.countP (fun j => !listed.getD j true) := List.countP_mono_left (fun j _ hj => h1 j hj)
      rw [List.countP_cons, List.countP_cons]
      by_cases ex : x = i
      · subst ex
        rw [listed_eq, hl]
        simp only [Bool.not_true, Bool.not_false, if_true, Bool.false_eq_true, if_false]
        omega
      · have hil : i ∈ l := by
          rcases List.mem_cons.1 hx with h | h
          · exact absurd h.symm ex
          · exact h
        have := ihl hil
        rw [listed_ne (fun h => ex h.symm)]
        omega
  exact h2 _ (List.mem_range.2 hlt)
theorem chain_head {i : Nat} {o : Oper} {T : List (Nat × Oper)} (h : chainB ops ((i, o) :: T) = true) : ∀ (j : Nat) (oj : Oper), (j, oj) ∈ T → ∃ k ok, (k, ok) ∈ (i, o) :: T ∧ bindB oj k = true := by
  induction T generalizing i o with
  | nil => intro j oj hj; cases hj
  | cons x T ih =>
    obtain ⟨i2, o2⟩ := x
    simp only [chainB, Bool.and_eq_true] at h
    intro j oj hj
    rcases List.mem_cons.1 hj with e | hj
    · injection e with e1 e2
      subst e1 e2
      exact ⟨i, o, List.mem_cons_self, h.1⟩
    · obtain ⟨k, ok, hk, hb⟩ := ih h.2 j oj hj
      exact ⟨k, ok, List.mem_cons_of_mem _ hk, hb⟩
theorem chain_last : ∀ {T : List (Nat × Oper)} {i : Nat} {o : Oper}, chainB ops [(i, o)] = true → i + 1 = ops.size := by
  intro T i o h
  simpa [chainB] using h

theorem any_chain {m : List Bool} {Q : Exit → Act → World → Prop} {U : Nat → Value} (hd : okS ops = true) (hh : headB ops m = true) (hlast : m.getD (ops.size - 1) false = false) :
    ∀ (fuel : Nat) (listed : Array Bool) (a' aF : Act) (w' : World) (T : List (Nat × Oper)), listed.size = ops.size → Inv ops m aF listed a' → ((List.range ops.size).countP fun j => !listed.getD j true) ≤ fuel →
      chainB ops T = true → (∀ i o, (i, o) ∈ T → ops[i]? = some o ∧ listed.getD i true = false ∧ m.getD i false = false) → (∀ i o, ops[i]? = some o → m.getD i false = false → listed.getD i true = false → (i, o) ∈ T) → T.Pairwise (fun a b => a.1 < b.1) →
      (∀ (i : Nat) (o : Oper), ops[i]? = some o → m.getD i false = true → ∀ w1, S w1 → (execOp aF.eval o).run P w1 = .ok (.value (U i)) w1) →
      (∀ (i : Nat) (o : Oper) (s : Nat), ops[i]? = some o → m.getD i false = true → o.dst = some s → s < aF.tmps.size → aF.tmps[s]? = some (U i)) →
      S w' → chainW P S ops Q (T.map (·.2)) aF w' → wpAny P .any ops Q fuel listed a' w' := by
  intro fuel
  induction fuel with
  | zero =>
    intro listed a' aF w' T hs hi hc hT hTm hTa hTs hq hval hS hW
    exfalso
    cases T with
    | nil => simp [chainB] at hT
    | cons x T =>
      obtain ⟨i, o⟩ := x
      obtain ⟨ho, hl, _⟩ := hTm i o List.mem_cons_self
      have := List.countP_eq_zero.1 (Nat.le_zero.1 hc) i (List.mem_range.2 (Array.getElem?_eq_some_iff.1 ho).1)
      simp [hl] at this
  | succ fuel ih =>
    intro listed a' aF w' T hs hi hc hT hTm hTa hTs hq hval hS hW
    obtain ⟨t, o0, T', rfl⟩ : ∃ t o0 T', T = (t, o0) :: T' := by
      cases T with
      | nil => simp [chainB] at hT
      | cons x T => exact ⟨x.1, x.2, T, rfl⟩
    obtain ⟨ho0, hl0, hm0⟩ := hTm t o0 List.mem_cons_self
    have ht : t < ops.size := (Array.getElem?_eq_some_iff.1 ho0).1
    refine ⟨fun hnil => absurd hnil (ready_ne (okS_ok hd) hs ht hl0), fun i hir => ?_⟩
    obtain ⟨hl, o, ho, hr⟩ := mem_ready.1 hir
    have hlt : i < ops.size := (Array.getElem?_eq_some_iff.1 ho).1
    have hd' := ok_at (okS_ok hd) ho
    have hex := hi.exec hd ho hr
    have hcnt := cnt_lt (ops := ops) hlt hl
    unfold wpOp
    simp only [ho]
    rw [if_pos (by simp [Region.wanted, hd'.guard])]
    cases hm : m.getD i false
    · -- one of the chain: it is the first that is left
      have hin := hTa i o ho hm hl
      have hit : i = t ∧ o = o0 := by
        rcases List.mem_cons.1 hin with e | hin
        · injection e with e1 e2; exact ⟨e1, e2⟩
        · exfalso
          obtain ⟨k, ok, hk, hb⟩ := chain_head hT i o hin
          obtain ⟨e, he, hbb, rfl⟩ := bindB_true hb
          have := hTm e.on ok hk
          rw [listed_in (hr e he hbb)] at this
          cases this.2.1
      obtain ⟨rfl, rfl⟩ := hit
      cases T' with
      | nil =>
        have hlastI := chain_last (T := []) hT
        have ei : i = ops.size - 1 := by omega
        have hz : ops[ops.size - 1]? = some o := by rw [← ei]; exact ho
        have hall := hi.all (okS_ok hd) hz (fun e he hb => listed_in (hr e he hb))
        have ha := hi.done hall hlast
        subst ha
        have hW' : wpList P ops Q [o] a' w' := hW
        simp only [wpList, Region.wanted, hd'.guard, if_true] at hW'
        rcases hW' with hW' | hW'
        · left
          refine Oper.wp_mono (fun a'' w'' hqq => ?_) hW'
          have hnil : Region.ready .any ops (listed.setIfInBounds i true) = [] := by
            apply List.eq_nil_iff_forall_not_mem.2
            intro j hj
            obtain ⟨hlj, oj, hoj, _⟩ := mem_ready.1 hj
            have hjs := (Array.getElem?_eq_some_iff.1 hoj).1
            by_cases ej : i = j
            · subst ej; rw [listed_eq] at hlj; cases hlj
            · rw [listed_ne ej, hall j (by omega)] at hlj; cases hlj
          cases fuel with
          | zero => exact ⟨hnil, hqq⟩
          | succ f => exact ⟨fun _ => hqq, fun k hk => by rw [hnil] at hk; cases hk⟩
        · exact .inr hW'
      | cons x T' =>
        left
        have hW' : mov P o aF w' (fun v w2 => S w2 ∧ chainW P S ops Q ((x :: T').map (·.2)) (aF.put o.dst v) w2) := hW
        unfold mov at hW'
        unfold Oper.wp
        rw [hex]
        refine movUpon_upon (fun v w2 hg => ?_) hW'
        refine ih _ _ (aF.put o.dst v) _ (x :: T') (by simp [hs]) (hi.tail ho hr hm) (by omega) ?_ ?_ ?_ (List.Pairwise.of_cons hTs) ?_ ?_ hg.1 hg.2
        · simp only [chainB, Bool.and_eq_true] at hT; exact hT.2
        · intro j oj hj
          obtain ⟨h1, h2, h3⟩ := hTm j oj (List.mem_cons_of_mem _ hj)
          have : i < j := (List.pairwise_cons.1 hTs).1 (j, oj) hj
          exact ⟨h1, by rw [listed_ne (by omega)]; exact h2, h3⟩
        · intro j oj h1 h2 h3
          by_cases e : i = j
          · subst e; rw [listed_eq] at h3; cases h3
          · rw [listed_ne e] at h3
            rcases List.mem_cons.1 (hTa j oj h1 h2 h3) with e2 | h4
            · injection e2 with e2; exact absurd e2.symm e
            · exact h4
        · intro j oj hoj hmj w1 hw1
          rw [← hq j oj hoj hmj w1 hw1]
          congr 1
          refine execOp_congr oj (notDS_select (ok_at (okS_ok hd) hoj).plain) fun y hy => ?_
          cases y with
          | tmp s =>
            simp only [Act.eval, Array.getD_eq_getD_getElem?]
            cases hds : o.dst with
            | none => rfl
            | some d =>
              by_cases ed : d = s
              · exfalso
                subst ed
                have hsees := Array.all_eq_true'.1 (okS_sees hd hoj) _ hy
                have := List.all_eq_true.1 hsees i (List.mem_range.2 hlt)
                simp only [ho, hds, decide_true, Bool.not_true, Bool.false_or] at this
                obtain ⟨e, he, hb, e2⟩ := bindB_true this
                have := (head_at hh hoj hmj).2 e he hb
                rw [e2, hm] at this
                cases this
              · congr 1
                simp only [Act.put]; exact Array.getElem?_setIfInBounds_ne ed
          | _ => rfl
        · intro j oj s hoj hmj hdj hsz
          have hne : o.dst ≠ some s := by
            intro e
            have h1 := List.all_eq_true.1 hd'.apart j (List.mem_range.2 (Array.getElem?_eq_some_iff.1 hoj).1)
            simp only [hoj, hdj, e, decide_true, Bool.not_true, Bool.or_false, Option.isNone_some, decide_eq_true_eq] at h1
            subst h1; rw [hm] at hmj; cases hmj
          have hs2 : s < aF.tmps.size := by
            revert hsz
            cases o.dst <;> simp [Act.put]
          rw [← hval j oj s hoj hmj hdj hs2]
          cases hds : o.dst with
          | none => rfl
          | some d => simp only [Act.put]; exact Array.getElem?_setIfInBounds_ne (fun e => hne (by rw [hds, e]))
    · -- one of the reading ones
      left
      unfold Oper.wp
      rw [hex, hq i o ho hm w' hS]
      show wpAny P .any ops Q fuel (listed.setIfInBounds i true) (a'.put o.dst (U i)) w'
      refine ih _ _ aF _ ((t, o0) :: T') (by simp [hs]) (hi.head ho hr (fun s hds hsz => hval i o s ho hm hds hsz)) (by omega) hT ?_ ?_ hTs hq hval hS hW
      · intro j oj hj
        obtain ⟨h1, h2, h3⟩ := hTm j oj hj
        exact ⟨h1, by rw [listed_ne (fun e => by subst e; rw [hm] at h3; cases h3)]; exact h2, h3⟩
      · intro j oj h1 h2 h3
        refine hTa j oj h1 h2 ?_
        rw [listed_ne (fun e => by subst e; rw [hm] at h2; cases h2)] at h3
        exact h3
/-- where the picked ones stand. -/
theorem pick_index {m : List Bool} {l : List Oper} {j : Nat} {o : Oper} (h : ((pickM m 0 l).map (·.2))[j]? = some o) : ∃ i, (pickM m 0 l)[j]? = some (i, o) ∧ l[i]? = some o ∧ m[i]? = some true := by
  rw [List.getElem?_map] at h
  cases hp : (pickM m 0 l)[j]? with
  | none => rw [hp] at h; cases h
  | some x =>
    rw [hp] at h
    obtain ⟨i, o'⟩ := x
    simp only [Option.map_some, Option.some.injEq] at h
    subst h
    have := pick_mem.1 (List.mem_of_getElem? hp)
    exact ⟨i, rfl, by simpa using this.2.1, by simpa using this.2.2⟩
end Chain

open Chain in
/-- a region that draws: 'm' says which operations read alone; they are walked first, over the class S of worlds; then the others, one behind the other. -/
theorem wp_region_chain {P : Program} {id : Nat} {Q : Exit → Act → World → Prop} {a : Act} {w : World} {l : List Oper} (m : List Bool) (S : World → Prop) (hm : P.follows .mixedOrders = true)
    (hB : (Chain.okS l.toArray && (headB l.toArray m && (chainB l.toArray (pickM (m.map (!·)) 0 l) && (decide (m.length = l.length) && !(m.getD (l.length - 1) false))))) = true) (hS : S w.drew)
    (h : wpQuiet P l.toArray S (fun a' => chainW P S l.toArray Q ((pickM (m.map (!·)) 0 l).map (·.2)) a' w.drew) ((pickM m 0 l).map (·.2)) a) : (Code.region id l.toArray true).wp P Q a w := by
  simp only [Bool.and_eq_true, decide_eq_true_eq, Bool.not_eq_true'] at hB
  obtain ⟨hd, hh, hc, hml, hlast⟩ := hB
  have hget : ∀ i, i < l.length → (m[i]? = some true ↔ m.getD i false = true) := by
    intro i hi
    rw [List.getD_eq_getElem?_getD, List.getElem?_eq_getElem (by omega)]
    simp
  have hgetN : ∀ i, i < l.length → ((m.map (!·))[i]? = some true ↔ m.getD i false = false) := by
    intro i hi
    rw [List.getD_eq_getElem?_getD, List.getElem?_map, List.getElem?_eq_getElem (by omega)]
    simp
  have hg : ∀ o ∈ (pickM m 0 l).map (·.2), o.guard = none := by
    intro o ho
    obtain ⟨⟨i, o'⟩, hi, rfl⟩ := List.mem_map.1 ho
    have := pick_mem.1 hi
    exact (Tail.ok_at (okS_ok hd) (i := i) (o := o') (by simpa using this.2.1)).guard
  obtain ⟨vs, e, h3, h4⟩ := Tail.vals _ a hg h
  have hlenH : ((pickM m 0 l).map (·.2)).length = (pickM m 0 l).length := by simp
  -- the value of place i
  have hU : ∃ U : Nat → Value, ∀ (j i : Nat) (o : Oper), (pickM m 0 l)[j]? = some (i, o) → vs[j]? = some (U i) := by
    refine ⟨fun i => vs.getD ((pickM m 0 l).findIdx (fun x => x.1 == i)) undef, fun j i o hj => ?_⟩
    have hjl : j < (pickM m 0 l).length := (List.getElem?_eq_some_iff.1 hj).1
    have hfi : (pickM m 0 l).findIdx (fun x => x.1 == i) = j := by
      have hs := pick_sorted m 0 l
      have hle : (pickM m 0 l).findIdx (fun x => x.1 == i) ≤ j := by
        rcases Nat.lt_or_ge j ((pickM m 0 l).findIdx (fun x => x.1 == i)) with hlt | hge
        · exfalso
          have := List.not_of_lt_findIdx hlt
          have e2 := (List.getElem?_eq_some_iff.1 hj).2
          rw [e2] at this
          simp at this
        · exact hge
      rcases Nat.lt_or_ge ((pickM m 0 l).findIdx (fun x => x.1 == i)) j with hlt | hge
      · exfalso
        have hlt2 : (pickM m 0 l).findIdx (fun x => x.1 == i) < (pickM m 0 l).length := by omega
        have h5 := List.findIdx_getElem (w := hlt2) (p := fun x : Nat × Oper => x.1 == i) (xs := pickM m 0 l)
        have h6 := List.pairwise_iff_getElem.1 hs _ _ hlt2 hjl hlt
        have e2 := (List.getElem?_eq_some_iff.1 hj).2
        rw [e2] at h6
        simp only [beq_iff_eq] at h5
        omega
      · omega
    simp only [hfi]
    rw [List.getD_eq_getElem?_getD, List.getElem?_eq_getElem (by omega)]
    rfl
  obtain ⟨U, hU⟩ := hU
  have hof : ∀ (i : Nat) (o : Oper), l[i]? = some o → m.getD i false = true → ∃ j : Nat, (pickM m 0 l)[j]? = some (i, o) := by
    intro i o ho hmi
    have hil : i < l.length := (List.getElem?_eq_some_iff.1 ho).1
    exact List.mem_iff_getElem?.1 (pick_mem.2 ⟨Nat.zero_le _, by simpa using ho, by simpa using (hget i hil).2 hmi⟩)
  have hidx : ∀ (j j2 i i2 : Nat) (o o2 : Oper), (pickM m 0 l)[j]? = some (i, o) → (pickM m 0 l)[j2]? = some (i2, o2) → j ≤ j2 → i ≤ i2 := by
    intro j j2 i i2 o o2 hj hj2 hle
    rcases Nat.lt_or_ge j j2 with hlt | hge
    · have h6 := List.pairwise_iff_getElem.1 (pick_sorted m 0 l) _ _ (List.getElem?_eq_some_iff.1 hj).1 (List.getElem?_eq_some_iff.1 hj2).1 hlt
      rw [(List.getElem?_eq_some_iff.1 hj).2, (List.getElem?_eq_some_iff.1 hj2).2] at h6
      exact Nat.le_of_lt h6
    · have : j = j2 := by omega
      subst this
      rw [hj] at hj2
      injection hj2 with hj2
      injection hj2 with hj2
      omega
  have hval : ∀ (i : Nat) (o : Oper) (s : Nat), l[i]? = some o → m.getD i false = true → o.dst = some s → s < a.tmps.size → (Tail.putAll ((pickM m 0 l).map (·.2)) vs a).tmps[s]? = some (U i) := by
    intro i o s ho hmi hds hs
    obtain ⟨j, hj⟩ := hof i o ho hmi
    refine Tail.putAll_val _ _ _ j o (U i) s (by rw [List.getElem?_map, hj]; rfl) (hU j i o hj) hds hs ?_
    intro j2 oj hj2 hdj
    obtain ⟨i2, hi2, hl2, _⟩ := pick_index hj2
    have h1 := List.all_eq_true.1 (Tail.ok_at (okS_ok hd) (i := i) (o := o) (by simpa using ho)).apart i2 (List.mem_range.2 (by have := (List.getElem?_eq_some_iff.1 hl2).1; simpa using this))
    have hl2' : (l.toArray)[i2]? = some oj := by simpa using hl2
    simp only [hl2', hdj, hds, decide_true, Bool.not_true, Bool.or_false, Option.isNone_some, decide_eq_true_eq] at h1
    subst h1
    have a1 := hidx j2 j i2 i2 _ _ hi2 hj
    rcases Nat.lt_trichotomy j j2 with hlt | heq | hgt
    · have h6 := List.pairwise_iff_getElem.1 (pick_sorted m 0 l) _ _ (List.getElem?_eq_some_iff.1 hj).1 (List.getElem?_eq_some_iff.1 hi2).1 hlt
      rw [(List.getElem?_eq_some_iff.1 hj).2, (List.getElem?_eq_some_iff.1 hi2).2] at h6
      simp at h6
    · exact heq.symm
    · have h6 := List.pairwise_iff_getElem.1 (pick_sorted m 0 l) _ _ (List.getElem?_eq_some_iff.1 hi2).1 (List.getElem?_eq_some_iff.1 hj).1 hgt
      rw [(List.getElem?_eq_some_iff.1 hj).2, (List.getElem?_eq_some_iff.1 hi2).2] at h6
      simp at h6
  refine wp_region_any hm (any_chain (S := S) (U := U) (m := m) hd hh (by simpa using hlast) _ _ _ (Tail.putAll ((pickM m 0 l).map (·.2)) vs a) _ (pickM (m.map (!·)) 0 l) (by simp) ⟨(Tail.putAll_defers _ _ _).symm, (Tail.putAll_size _ _ _).symm, fun s => ?_, fun j oj hj hoj hl => ?_⟩ ?_ hc ?_ ?_ (pick_sorted _ _ _) ?_ ?_ hS h4)
  · by_cases hex : ∃ (j : Nat) (oj : Oper), m.getD j false = true ∧ l[j]? = some oj ∧ oj.dst = some s
    · obtain ⟨j, oj, hj, hoj, hdj⟩ := hex
      have hjl := (List.getElem?_eq_some_iff.1 hoj).1
      refine .inr ⟨j, oj, hj, by simpa using hoj, hdj, ?_⟩
      simp [Array.getD_eq_getD_getElem?, hjl]
    · left
      rw [Tail.putAll_other]
      intro o ho hds
      obtain ⟨⟨i, o'⟩, hi, rfl⟩ := List.mem_map.1 ho
      have h5 := pick_mem.1 hi
      have hil : i < l.length := by have := (List.getElem?_eq_some_iff.1 h5.2.1).1; omega
      exact hex ⟨i, o', (hget i hil).1 (by simpa using h5.2.2), by simpa using h5.2.1, hds⟩
  · have hjl : j < l.length := by simp at hj; omega
    simp [Array.getD_eq_getD_getElem?, hjl] at hl
  · exact Nat.le_trans (List.countP_le_length) (by simp)
  · intro i o hi
    have h5 := pick_mem.1 hi
    have hl5 : l[i]? = some o := by simpa using h5.2.1
    have hil : i < l.length := (List.getElem?_eq_some_iff.1 hl5).1
    refine ⟨by simpa using hl5, by simp [Array.getD_eq_getD_getElem?, hil], (hgetN i hil).1 (by simpa using h5.2.2)⟩
  · intro i o ho hmi _
    have ho' : l[i]? = some o := by simpa using ho
    have hil : i < l.length := (List.getElem?_eq_some_iff.1 ho').1
    exact pick_mem.2 ⟨Nat.zero_le _, by simpa using ho', by simpa using (hgetN i hil).2 hmi⟩
  · intro i o ho hmi w1 hw1
    have ho' : l[i]? = some o := by simpa using ho
    obtain ⟨j, hj⟩ := hof i o ho' hmi
    have hq := h3 j o (U i) (by rw [List.getElem?_map, hj]; rfl) (hU j i o hj) w1 hw1
    have hd' := Tail.ok_at (okS_ok hd) ho
    have hex : execOp (Tail.putAll ((pickM m 0 l).map (·.2)) vs a).eval o = execOp (Tail.putAll (((pickM m 0 l).map (·.2)).take j) (vs.take j) a).eval o := by
      refine execOp_congr o (Tail.notDS_select hd'.plain) fun x hx => ?_
      cases x with
      | tmp s =>
        have hs := Array.all_eq_true'.1 (okS_sees hd ho) _ hx
        simp only [Act.eval, Array.getD_eq_getD_getElem?]
        congr 1
        have hsplit : Tail.putAll ((pickM m 0 l).map (·.2)) vs a = Tail.putAll (((pickM m 0 l).map (·.2)).drop j) (vs.drop j) (Tail.putAll (((pickM m 0 l).map (·.2)).take j) (vs.take j) a) := by
          rw [← Tail.putAll_append _ _ _ _ _ (by rw [List.length_take, List.length_take, e]), List.take_append_drop, List.take_append_drop]
        rw [hsplit]
        refine Tail.putAll_other _ _ _ s ?_
        intro o2 ho2 hd2
        obtain ⟨j2, hj2⟩ := List.mem_iff_getElem?.1 ho2
        rw [List.getElem?_drop] at hj2
        obtain ⟨i2, hi2, hl2, _⟩ := pick_index hj2
        have hl2' : (l.toArray)[i2]? = some o2 := by simpa using hl2
        have := List.all_eq_true.1 hs i2 (List.mem_range.2 (Array.getElem?_eq_some_iff.1 hl2').1)
        simp only [hl2', hd2, decide_true, Bool.not_true, Bool.false_or] at this
        obtain ⟨e, he, hb, e2⟩ := Tail.bindB_true this
        have hb' := Array.all_eq_true'.1 hd'.back e he
        simp only [hb, Bool.not_true, Bool.false_or, decide_eq_true_eq] at hb'
        have := hidx j (j + j2) i i2 _ _ hj hi2 (by omega)
        omega
      | _ => rfl
    unfold Oper.quietAt at hq
    rw [← hex] at hq
    have hsimple := (head_at hh ho hmi).1
    generalize hrr : (execOp (Tail.putAll ((pickM m 0 l).map (·.2)) vs a).eval o).run P w1 = r at hq
    cases r with
    | ok n w2 =>
      obtain ⟨v, rfl⟩ := simple_val hsimple hrr
      simp only [Oper.quietUpon] at hq
      rw [hq.1, hq.2]
    | halt x w2 => exact hq.elim
  · intro i o s ho hmi hds hs
    rw [Tail.putAll_size] at hs
    exact hval i o s (by simpa using ho) hmi hds hs

/-- a world in which all that lay in w is as it was. -/
structure Kept (w : World) where
  W : World
  ok : Below w.heap.size w W
theorem Kept.rd {w : World} {a : Addr} {v : Value} (h : w.cell? a = some v) : ∀ x : Kept w, x.W.cell? a = some v := fun x => (x.ok.cell (World.block_lt_of_cell? w a h)).trans h
theorem Kept.start (w : World) : ∃ x : Kept w, w.drew = x.W := ⟨⟨w.drew, (Below.refl _ _).drew⟩, rfl⟩
theorem Kept.mk' {w w' : World} (h : Below w.heap.size w w') : ∃ x : Kept w, w' = x.W := ⟨⟨w', h⟩, rfl⟩

/-- one step of the chain. -/
theorem chain_step {P : Program} {S : World → Prop} {ops : Array Oper} {Q : Exit → Act → World → Prop} {o o2 : Oper} {T : List Oper} {a : Act} {w : World}
    (h : ∀ K : Act → World → Prop, (∀ a w, S w ∧ Chain.chainW P S ops Q (o2 :: T) a w → K a w) → Chain.mov P o a w (fun v w2 => K (a.put o.dst v) w2)) : Chain.chainW P S ops Q (o :: o2 :: T) a w := by
  unfold Chain.chainW
  exact h (fun a w => S w ∧ Chain.chainW P S ops Q (o2 :: T) a w) (fun _ _ h => h)
end Go.Proofs.YthjkgbcomjiejadGreatDoor
namespace Go.Proofs.YthjkgbcomjiejadGreatDoor
open Go Go.RowKit
set_option linter.unusedVariables false

namespace Stage
open Tail Chain
variable {P : Program} {ops : Array Oper} {S : World → Prop}

def pickC : List Nat → Nat → Nat → List Oper → List (Nat × Oper)
  | c :: cs, x, k, o :: l => bif c == x then (k, o) :: pickC cs x (k + 1) l else pickC cs x (k + 1) l
  | _, _, _, _ => []
theorem pick_mem : ∀ {cs : List Nat} {x k : Nat} {l : List Oper} {i : Nat} {o : Oper}, (i, o) ∈ pickC cs x k l ↔ k ≤ i ∧ l[i - k]? = some o ∧ cs[i - k]? = some x
  | [], x, k, l, i, o => by simp [pickC]
  | c :: cs, x, k, [], i, o => by simp [pickC]
  | c :: cs, x, k, o' :: l, i, o => by
    have step : (k + 1 ≤ i ∧ l[i - (k + 1)]? = some o ∧ cs[i - (k + 1)]? = some x) ↔ (k < i ∧ (o' :: l)[i - k]? = some o ∧ (c :: cs)[i - k]? = some x) := by
      constructor
      · rintro ⟨h1, h2, h3⟩
        have e : i - k = (i - (k + 1)) + 1 := by omega
        rw [e]; exact ⟨by omega, by simpa using h2, by simpa using h3⟩
      · rintro ⟨h1, h2, h3⟩
        have e : i - k = (i - (k + 1)) + 1 := by omega
        rw [e] at h2 h3
        exact ⟨by omega, by simpa using h2, by simpa using h3⟩
    unfold pickC
    cases hc : c == x
    · simp only [cond_false, pick_mem, step]
      have hne : c ≠ x := by simpa using hc
      constructor
      · rintro ⟨h1, h2⟩; exact ⟨by omega, h2⟩
      · rintro ⟨h1, h2, h3⟩
        refine ⟨?_, h2, h3⟩
        rcases Nat.lt_or_ge k i with h | h
        · exact h
        · exfalso
          have : i - k = 0 := by omega
          rw [this] at h3
          simp at h3
          exact hne h3
    · have he : c = x := by simpa using hc
      simp only [cond_true, List.mem_cons, Prod.mk.injEq, pick_mem, step]
      constructor
      · rintro (⟨rfl, rfl⟩ | ⟨h1, h2⟩)
        · simp [he]
        · exact ⟨by omega, h2⟩
      · rintro ⟨h1, h2, h3⟩
        rcases Nat.lt_or_ge k i with h | h
        · exact .inr ⟨h, h2, h3⟩
        · have e : i = k := by omega
          subst e
          simp at h2
          exact .inl ⟨rfl, h2.symm⟩
theorem pick_sorted : ∀ (cs : List Nat) (x k : Nat) (l : List Oper), (pickC cs x k l).Pairwise fun a b => a.1 < b.1
  | [], x, k, l => by simp [pickC]
  | c :: cs, x, k, [] => by simp [pickC]
  | c :: cs, x, k, o' :: l => by
    unfold pickC
    cases hc : c == x
    · simp only [cond_false]; exact pick_sorted cs x (k + 1) l
    · simp only [cond_true]
      refine List.Pairwise.cons ?_ (pick_sorted cs x (k + 1) l)
      rintro ⟨i, o⟩ h
      have := (pick_mem.1 h).1
      simp; omega

/-- the stages that are left: each with its reading operations and the one that closes it. -/
def stages (cs : List Nat) (l : List Oper) : Nat → Nat → List (List Oper × List Oper)
  | 0, k => [((pickC cs (2 * k) 0 l).map (·.2), (pickC cs (2 * k + 1) 0 l).map (·.2))]
  | n + 1, k => ((pickC cs (2 * k) 0 l).map (·.2), (pickC cs (2 * k + 1) 0 l).map (·.2)) :: stages cs l n (k + 1)
def stageW (P : Program) (S : World → Prop) (ops : Array Oper) (Q : Exit → Act → World → Prop) : List (List Oper × List Oper) → Act → World → Prop
  | [], _, _ => False
  | [(H, T)], a, w => wpQuiet P ops S (fun a' => wpList P ops Q T a' w) H a
  | (H, T) :: x :: rest, a, w => wpQuiet P ops S (fun a' => match T with
    | [t] => mov P t a' w (fun v w2 => S w2 ∧ stageW P S ops Q (x :: rest) (a'.put t.dst v) w2)
    | _ => False) H a

/-- the static look: heads are simple and wait for nothing of a later code; what is of a later stage waits for one that is no earlier than the stage's door; each stage has one that closes it, the last stage the last operation. -/
def lookB (ops : Array Oper) (cs : List Nat) (n : Nat) : Bool :=
  decide (cs.length = ops.size) && ((List.range ops.size).all fun i => match ops[i]?, cs[i]? with
    | some o, some c => (decide (c % 2 = 1) || (simpleB o.op && (o.after.all fun e => !Region.binds .any e || decide (cs.getD e.on 0 ≤ c)))) &&
        ((decide (c < 2) || (o.after.any fun e => Region.binds .any e && decide (2 * (c / 2) ≤ cs.getD e.on 0 + 1))) && (decide (c ≤ 2 * n + 1) && (!decide (c = 2 * n + 1) || (decide (i + 1 = ops.size) || (decide (i + 2 = ops.size) && ((List.range i).all (bindB o) && (match ops[i + 1]? with | some z => bindB z i | none => false)))))))
    | _, _ => false)
theorem look_at {cs : List Nat} {n : Nat} (h : lookB ops cs n = true) {i : Nat} {o : Oper} (ho : ops[i]? = some o) : ∃ c, cs[i]? = some c ∧ (c % 2 = 1 ∨ (simpleB o.op = true ∧ ∀ e ∈ o.after, Region.binds .any e = true → cs.getD e.on 0 ≤ c)) ∧
    (c < 2 ∨ ∃ e ∈ o.after, Region.binds .any e = true ∧ 2 * (c / 2) ≤ cs.getD e.on 0 + 1) ∧ c ≤ 2 * n + 1 ∧ (c = 2 * n + 1 → i + 1 = ops.size ∨ (i + 2 = ops.size ∧ (∀ j, j < i → bindB o j = true) ∧ ∃ z, ops[i + 1]? = some z ∧ bindB z i = true)) := by
  simp only [lookB, Bool.and_eq_true, decide_eq_true_eq] at h
  have hlt : i < ops.size := (Array.getElem?_eq_some_iff.1 ho).1
  obtain ⟨c, hc⟩ : ∃ c, cs[i]? = some c := ⟨_, List.getElem?_eq_getElem (by omega)⟩
  have h1 := List.all_eq_true.1 h.2 i (List.mem_range.2 hlt)
  simp only [ho, hc, Bool.and_eq_true, Bool.or_eq_true, decide_eq_true_eq] at h1
  refine ⟨c, hc, ?_, ?_, h1.2.2.1, ?_⟩
  · rcases h1.1 with h2 | h2
    · exact .inl h2
    · refine .inr ⟨h2.1, fun e he hb => ?_⟩
      have := Array.all_eq_true'.1 h2.2 e he
      simpa [hb] using this
  · rcases h1.2.1 with h2 | h2
    · exact .inl h2
    · obtain ⟨e, he, hb⟩ := Array.any_eq_true'.1 h2
      simp only [Bool.and_eq_true, decide_eq_true_eq] at hb
      exact .inr ⟨e, he, hb.1, hb.2⟩
  · intro e
    have h2 := h1.2.2.2
    simp only [e, decide_true, Bool.not_true, Bool.false_eq_true, false_or] at h2
    rcases h2 with h2 | h2
    · exact .inl h2
    · refine .inr ⟨h2.1, fun j hj => List.all_eq_true.1 h2.2.1 j (List.mem_range.2 hj), ?_⟩
      cases hz : ops[i + 1]? with
      | none => rw [hz] at h2; simp at h2
      | some z => rw [hz] at h2; exact ⟨z, rfl, h2.2.2⟩

/-- heads are walked: their values stand in the frame behind. -/
theorem extend {cs : List Nat} {n x : Nat} {l : List Oper} {a : Act} {Qf : Act → Prop} (hd : okB l.toArray = true) (hlook : lookB l.toArray cs n = true) (hlast : cs[l.length - 1]? = some (2 * n + 1)) (hx : x % 2 = 0) (h : wpQuiet P l.toArray S Qf ((pickC cs x 0 l).map (·.2)) a) :
    ∃ (U : Nat → Value) (aF : Act), Qf aF ∧ aF.defers = a.defers ∧ aF.tmps.size = a.tmps.size ∧ (∀ s, (∀ i o, (i, o) ∈ pickC cs x 0 l → o.dst ≠ some s) → aF.tmps[s]? = a.tmps[s]?) ∧
      (∀ i o s, (i, o) ∈ pickC cs x 0 l → o.dst = some s → s < a.tmps.size → aF.tmps[s]? = some (U i)) ∧ (∀ i o, (i, o) ∈ pickC cs x 0 l → ∀ w1, S w1 → (execOp aF.eval o).run P w1 = .ok (.value (U i)) w1) := by
  generalize hL : pickC cs x 0 l = L at h
  have hmem : ∀ i o, (i, o) ∈ L → l[i]? = some o ∧ cs[i]? = some x := fun i o hi => by rw [← hL] at hi; have := pick_mem.1 hi; simpa using this.2
  have hsort : L.Pairwise fun a b => a.1 < b.1 := by rw [← hL]; exact pick_sorted cs x 0 l
  have hg : ∀ o ∈ L.map (·.2), o.guard = none := by
    intro o ho
    obtain ⟨⟨i, o'⟩, hi, rfl⟩ := List.mem_map.1 ho
    exact (Tail.ok_at hd (i := i) (o := o') (by simpa using (hmem i o' hi).1)).guard
  obtain ⟨vs, e, h3, h4⟩ := Tail.vals _ a hg h
  have hlenL : (L.map (·.2)).length = L.length := by simp
  have hpos : ∀ (j j2 i i2 : Nat) (o o2 : Oper), L[j]? = some (i, o) → L[j2]? = some (i2, o2) → (j < j2 → i < i2) := by
    intro j j2 i i2 o o2 hj hj2 hlt
    have h6 := List.pairwise_iff_getElem.1 hsort _ _ (List.getElem?_eq_some_iff.1 hj).1 (List.getElem?_eq_some_iff.1 hj2).1 hlt
    rw [(List.getElem?_eq_some_iff.1 hj).2, (List.getElem?_eq_some_iff.1 hj2).2] at h6
    exact h6
  have huniq : ∀ (j j2 i : Nat) (o o2 : Oper), L[j]? = some (i, o) → L[j2]? = some (i, o2) → j = j2 := by
    intro j j2 i o o2 hj hj2
    rcases Nat.lt_trichotomy j j2 with h | h | h
    · have := hpos j j2 i i o o2 hj hj2 h; omega
    · exact h
    · have := hpos j2 j i i o2 o hj2 hj h; omega
  have hU : ∃ U : Nat → Value, ∀ (j i : Nat) (o : Oper), L[j]? = some (i, o) → vs[j]? = some (U i) := by
    refine ⟨fun i => vs.getD (L.findIdx (fun y => y.1 == i)) undef, fun j i o hj => ?_⟩
    have hjl : j < L.length := (List.getElem?_eq_some_iff.1 hj).1
    have hfl : L.findIdx (fun y => y.1 == i) < L.length := List.findIdx_lt_length_of_exists ⟨(i, o), List.mem_of_getElem? hj, by simp⟩
    have h5 := List.findIdx_getElem (w := hfl) (p := fun y : Nat × Oper => y.1 == i) (xs := L)
    simp only [beq_iff_eq] at h5
    have hfi : L.findIdx (fun y => y.1 == i) = j := by
      refine huniq _ _ i (L[L.findIdx (fun y => y.1 == i)].2) o ?_ hj
      rw [List.getElem?_eq_getElem hfl]
      congr 1
      exact Prod.ext h5 rfl
    simp only [hfi]
    rw [List.getD_eq_getElem?_getD, List.getElem?_eq_getElem (by omega)]
    rfl
  obtain ⟨U, hU⟩ := hU
  refine ⟨U, Tail.putAll (L.map (·.2)) vs a, h4, Tail.putAll_defers _ _ _, Tail.putAll_size _ _ _, ?_, ?_, ?_⟩
  · intro s hs
    refine Tail.putAll_other _ _ _ s ?_
    intro o ho
    obtain ⟨⟨i, o'⟩, hi, rfl⟩ := List.mem_map.1 ho
    exact hs i o' hi
  · intro i o s hi hds hs
    obtain ⟨j, hj⟩ := List.mem_iff_getElem?.1 hi
    refine Tail.putAll_val _ _ _ j o (U i) s (by rw [List.getElem?_map, hj]; rfl) (hU j i o hj) hds hs ?_
    intro j2 oj hj2 hdj
    rw [List.getElem?_map] at hj2
    cases hp : L[j2]? with
    | none => rw [hp] at hj2; cases hj2
    | some y =>
      obtain ⟨i2, o2⟩ := y
      rw [hp] at hj2
      simp only [Option.map_some, Option.some.injEq] at hj2
      subst hj2
      have hl2 := (hmem i2 o2 (List.mem_of_getElem? hp)).1
      have h1 := List.all_eq_true.1 (Tail.ok_at hd (i := i) (o := o) (by simpa using (hmem i o hi).1)).apart i2 (List.mem_range.2 (by have := (List.getElem?_eq_some_iff.1 hl2).1; simpa using this))
      have hl2' : (l.toArray)[i2]? = some o2 := by simpa using hl2
      simp only [hl2', hdj, hds, decide_true, Bool.not_true, Bool.or_false, Option.isNone_some, decide_eq_true_eq] at h1
      subst h1
      exact huniq _ _ i2 _ _ hp hj
  · intro i o hi w1 hw1
    obtain ⟨j, hj⟩ := List.mem_iff_getElem?.1 hi
    have hli := (hmem i o hi).1
    have ho : (l.toArray)[i]? = some o := by simpa using hli
    have hq := h3 j o (U i) (by rw [List.getElem?_map, hj]; rfl) (hU j i o hj) w1 hw1
    have hd' := Tail.ok_at hd ho
    have hex : execOp (Tail.putAll (L.map (·.2)) vs a).eval o = execOp (Tail.putAll ((L.map (·.2)).take j) (vs.take j) a).eval o := by
      refine execOp_congr o (Tail.notDS_select hd'.plain) fun y hy => ?_
      cases y with
      | tmp s =>
        have hs := Array.all_eq_true'.1 hd'.sees _ hy
        simp only [Act.eval, Array.getD_eq_getD_getElem?]
        congr 1
        have hsplit : Tail.putAll (L.map (·.2)) vs a = Tail.putAll ((L.map (·.2)).drop j) (vs.drop j) (Tail.putAll ((L.map (·.2)).take j) (vs.take j) a) := by
          rw [← Tail.putAll_append _ _ _ _ _ (by rw [List.length_take, List.length_take, e]), List.take_append_drop, List.take_append_drop]
        rw [hsplit]
        refine Tail.putAll_other _ _ _ s ?_
        intro o2 ho2 hd2
        obtain ⟨j2, hj2⟩ := List.mem_iff_getElem?.1 ho2
        rw [List.getElem?_drop, List.getElem?_map] at hj2
        cases hp : L[j + j2]? with
        | none => rw [hp] at hj2; cases hj2
        | some y =>
          obtain ⟨i2, o3⟩ := y
          rw [hp] at hj2
          simp only [Option.map_some, Option.some.injEq] at hj2
          subst hj2
          have hl2 := (hmem i2 o3 (List.mem_of_getElem? hp)).1
          have hl2' : (l.toArray)[i2]? = some o3 := by simpa using hl2
          have := List.all_eq_true.1 hs i2 (List.mem_range.2 (by
            have h9 := (Array.getElem?_eq_some_iff.1 hl2').1
            have h10 := (hmem i2 o3 (List.mem_of_getElem? hp)).2
            simp only [List.size_toArray] at h9 ⊢
            by_cases h11 : i2 = l.length - 1
            · rw [h11, hlast] at h10; injection h10 with h10; omega
            · omega))
          simp only [hl2', hd2, decide_true, Bool.not_true, Bool.false_or] at this
          obtain ⟨e, he, hb, e2⟩ := Tail.bindB_true this
          have hb' := Array.all_eq_true'.1 hd'.back e he
          simp only [hb, Bool.not_true, Bool.false_or, decide_eq_true_eq] at hb'
          rcases Nat.eq_zero_or_pos j2 with h0 | h0
          · subst h0
            rw [Nat.add_zero, hj] at hp
            injection hp with hp
            injection hp with hp _
            omega
          · have := hpos j (j + j2) i i2 _ _ hj hp (by omega)
            omega
      | _ => rfl
    unfold Oper.quietAt at hq
    rw [← hex] at hq
    obtain ⟨c, hc, hs, _⟩ := look_at hlook ho
    have hcx : c = x := by have := (hmem i o hi).2; rw [hc] at this; injection this
    have hsimple : simpleB o.op = true := by
      rcases hs with h5 | h5
      · omega
      · exact h5.1
    generalize hrr : (execOp (Tail.putAll (L.map (·.2)) vs a).eval o).run P w1 = r at hq
    cases r with
    | ok nx w2 =>
      obtain ⟨v, rfl⟩ := simple_val hsimple hrr
      simp only [Oper.quietUpon] at hq
      rw [hq.1, hq.2]
    | halt y w2 => exact hq.elim

/-- within stage k: what has been read stands in aF; the stage's closing one and all of later stages are to come. -/
structure Inv (ops : Array Oper) (cs : List Nat) (k : Nat) (aF : Act) (listed : Array Bool) (a' : Act) : Prop where
  defers : a'.defers = aF.defers
  size : a'.tmps.size = aF.tmps.size
  slot : ∀ s : Nat, a'.tmps[s]? = aF.tmps[s]? ∨ ∃ (j : Nat) (oj : Oper) (c : Nat), cs[j]? = some c ∧ c % 2 = 0 ∧ c ≤ 2 * k ∧ ops[j]? = some oj ∧ oj.dst = some s ∧ listed.getD j true = false
  shut : ∀ (j : Nat) (oj : Oper), j + 1 < ops.size → ops[j]? = some oj → listed.getD j true = true → ∀ e ∈ oj.after, Region.binds .any e = true → listed.getD e.on true = true
  later : ∀ (j c : Nat), cs[j]? = some c → 2 * k + 1 ≤ c → listed.getD j true = false
  doors : ∀ (j c : Nat), cs[j]? = some c → c % 2 = 1 → c < 2 * k + 1 → listed.getD j true = true
theorem stages_head (cs : List Nat) (l : List Oper) (n k : Nat) : ∃ rest, stages cs l n k = ((pickC cs (2 * k) 0 l).map (·.2), (pickC cs (2 * k + 1) 0 l).map (·.2)) :: rest ∧ (n = 0 → rest = []) ∧ (∀ m, n = m + 1 → rest = stages cs l m (k + 1)) := by
  cases n with
  | zero => exact ⟨[], rfl, fun _ => rfl, fun m h => by omega⟩
  | succ n => exact ⟨_, rfl, fun h => by omega, fun m h => by have : m = n := by omega
                                                              subst this; rfl⟩
/-- what stands at the door of stage k. -/
def Door (P : Program) (S : World → Prop) (l : List Oper) (cs : List Nat) (Q : Exit → Act → World → Prop) (n k : Nat) (aF : Act) (w : World) : Prop :=
  (k = n → wpList P l.toArray Q ((pickC cs (2 * k + 1) 0 l).map (·.2)) aF w) ∧
  (k < n → ∃ t, (pickC cs (2 * k + 1) 0 l).map (·.2) = [t] ∧ mov P t aF w (fun v w2 => S w2 ∧ stageW P S l.toArray Q (stages cs l (n - k - 1) (k + 1)) (aF.put t.dst v) w2))
theorem door_of {l : List Oper} {cs : List Nat} {Q : Exit → Act → World → Prop} {n k : Nat} (hk : k ≤ n) {a : Act} {w : World} (h : stageW P S l.toArray Q (stages cs l (n - k) k) a w) :
    wpQuiet P l.toArray S (fun a' => Door P S l cs Q n k a' w) ((pickC cs (2 * k) 0 l).map (·.2)) a := by
  have mono : ∀ (l0 : List Oper) (a0 : Act) (A B : Act → Prop), (∀ x, A x → B x) → wpQuiet P l.toArray S A l0 a0 → wpQuiet P l.toArray S B l0 a0 := by
    intro l0
    induction l0 with
    | nil => intro a0 A B h1 h2; exact h1 _ h2
    | cons o l0 ih =>
      intro a0 A B h1 h2
      unfold wpQuiet at h2 ⊢
      split
      · rename_i hw
        rw [if_pos hw] at h2
        exact Oper.quiet_mono (fun a1 h3 => ih _ A B h1 h3) h2
      · rename_i hw
        rw [if_neg hw] at h2
        exact ih _ A B h1 h2
  obtain ⟨rest, e, e0, e1⟩ := stages_head cs l (n - k) k
  rw [e] at h
  rcases Nat.eq_zero_or_pos (n - k) with h0 | h0
  · rw [e0 h0] at h
    have hkn : k = n := by omega
    unfold stageW at h
    exact mono _ _ _ _ (fun x hx => ⟨fun _ => hx, fun hlt => by omega⟩) h
  · obtain ⟨m, hm⟩ : ∃ m, n - k = m + 1 := ⟨n - k - 1, by omega⟩
    have er := e1 m hm
    obtain ⟨r2, e2, _, _⟩ := stages_head cs l m (k + 1)
    rw [er, e2] at h
    unfold stageW at h
    refine mono _ _ _ _ (fun x hx => ⟨fun hkn => by omega, fun _ => ?_⟩) h
    simp only at hx
    split at hx
    · rename_i t ht
      refine ⟨t, ht, ?_⟩
      rw [show n - k - 1 = m by omega, e2]
      exact hx
    · exact hx.elim

theorem any_stage {l : List Oper} {cs : List Nat} {n : Nat} {Q : Exit → Act → World → Prop} (hd : okB l.toArray = true) (hlook : lookB l.toArray cs n = true) (hlast : cs[l.length - 1]? = some (2 * n + 1)) (hne : 0 < l.length) :
    ∀ (fuel : Nat) (listed : Array Bool) (a' aF : Act) (w' : World) (k : Nat) (U : Nat → Value), k ≤ n → listed.size = l.length → Inv l.toArray cs k aF listed a' → ((List.range l.toArray.size).countP fun j => !listed.getD j true) ≤ fuel →
      (∀ (i : Nat) (o : Oper) (c : Nat), l[i]? = some o → cs[i]? = some c → c % 2 = 0 → c ≤ 2 * k → ∀ w1, S w1 → (execOp aF.eval o).run P w1 = .ok (.value (U i)) w1) →
      (∀ (i : Nat) (o : Oper) (c s : Nat), l[i]? = some o → cs[i]? = some c → c % 2 = 0 → c ≤ 2 * k → o.dst = some s → s < aF.tmps.size → aF.tmps[s]? = some (U i)) →
      S w' → Door P S l cs Q n k aF w' → wpAny P .any l.toArray Q fuel listed a' w' := by
  have hcl : cs.length = l.length := by
    simp only [lookB, Bool.and_eq_true, decide_eq_true_eq] at hlook
    simpa using hlook.1
  have hcode : ∀ (i : Nat), i < l.length → cs[i]? = some (cs.getD i 0) := fun i hi => by rw [List.getD_eq_getElem?_getD, List.getElem?_eq_getElem (by omega)]; rfl
  intro fuel
  induction fuel with
  | zero =>
    intro listed a' aF w' k U hk hs hi hc hq hval hS hD
    exfalso
    have h1 := hi.later (l.length - 1) _ hlast (by omega)
    have := List.countP_eq_zero.1 (Nat.le_zero.1 hc) (l.length - 1) (List.mem_range.2 (by simp; omega))
    simp [h1] at this
  | succ fuel ih =>
    intro listed a' aF w' k U hk hs hi hc hq hval hS hD
    have hl0 := hi.later (l.length - 1) _ hlast (by omega)
    refine ⟨fun hnil => absurd hnil (ready_ne hd (by simpa using hs) (k := l.length - 1) (by simp; omega) hl0), fun i hir => ?_⟩
    obtain ⟨hl, o, ho, hr⟩ := mem_ready.1 hir
    have ho' : l[i]? = some o := by simpa using ho
    have hlt : i < l.length := (List.getElem?_eq_some_iff.1 ho').1
    have hd' := ok_at hd ho
    obtain ⟨c, hci, hsim, hblk, hcn, hcl2⟩ := look_at hlook ho
    have hcnt := cnt_lt (ops := l.toArray) (listed := listed) (by simpa using hlt) hl
    have hback : ∀ e ∈ o.after, Region.binds .any e = true → e.on < i := by
      intro e he hb
      have hb' := Array.all_eq_true'.1 hd'.back e he
      simpa [hb] using hb'
    have hex : execOp a'.eval o = execOp aF.eval o := by
      refine execOp_congr o (notDS_select hd'.plain) fun x hx => ?_
      cases x with
      | tmp s =>
        have hs := Array.all_eq_true'.1 hd'.sees _ hx
        simp only [Act.eval, Array.getD_eq_getD_getElem?]
        rcases hi.slot s with e | ⟨j, oj, cj, hc1, hc2, _, hj, hdj, hlj⟩
        · rw [e]
        · exfalso
          have := List.all_eq_true.1 hs j (List.mem_range.2 (by
            have h9 := (Array.getElem?_eq_some_iff.1 hj).1
            simp only [List.size_toArray] at h9 ⊢
            by_cases h11 : j = l.length - 1
            · rw [h11, hlast] at hc1; injection hc1 with hc1; omega
            · omega))
          simp only [hj, hdj, decide_true, Bool.not_true, Bool.false_or] at this
          obtain ⟨e, he, hb, rfl⟩ := bindB_true this
          rw [listed_in (hr e he hb)] at hlj
          cases hlj
      | _ => rfl
    unfold wpOp
    simp only [ho]
    rw [if_pos (by simp [Region.wanted, hd'.guard])]
    rcases Nat.lt_trichotomy c (2 * k + 1) with hcc | hcc | hcc
    · -- a head (a door of an earlier stage is done)
      have hce : c % 2 = 0 := by
        rcases Nat.mod_two_eq_zero_or_one c with h | h
        · exact h
        · exfalso
          rw [hi.doors i c hci h hcc] at hl
          cases hl
      left
      unfold Oper.wp
      rw [hex, hq i o c ho' hci hce (by omega) w' hS]
      show wpAny P .any l.toArray Q fuel (listed.setIfInBounds i true) (a'.put o.dst (U i)) w'
      refine ih _ _ aF _ k U hk (by simp [hs]) ⟨?_, ?_, ?_, shut_step hi.shut ho hr, ?_, ?_⟩ (by omega) hq hval hS hD
      · cases o.dst <;> exact hi.defers
      · cases o.dst with
        | none => exact hi.size
        | some d => simp only [Act.put, Array.size_setIfInBounds]; exact hi.size
      · intro s
        by_cases hds : o.dst = some s
        · left
          rw [hds]
          by_cases hlt2 : s < aF.tmps.size
          · rw [hval i o c s ho' hci hce (by omega) hds hlt2]
            simp only [Act.put, Array.getElem?_setIfInBounds_self]
            rw [if_pos (by rw [hi.size]; exact hlt2)]
          · rw [Array.getElem?_eq_none (by simp only [Act.put, Array.size_setIfInBounds]; rw [hi.size]; omega), Array.getElem?_eq_none (by omega)]
        · have e1 : (a'.put o.dst (U i)).tmps[s]? = a'.tmps[s]? := by
            cases hd2 : o.dst with
            | none => rfl
            | some d => simp only [Act.put]; exact Array.getElem?_setIfInBounds_ne (fun e => hds (by rw [hd2, e]))
          rw [e1]
          rcases hi.slot s with e | ⟨j, oj, cj, h1, h2, h3, hj, hdj, hlj⟩
          · exact .inl e
          · refine .inr ⟨j, oj, cj, h1, h2, h3, hj, hdj, ?_⟩
            rw [listed_ne (fun e => by subst e; rw [ho] at hj; injection hj with hj; subst hj; exact hds hdj)]
            exact hlj
      · intro j cj hj hge
        rw [listed_ne (fun e => by subst e; rw [hci] at hj; injection hj; omega)]
        exact hi.later j cj hj hge
      · intro j cj hj h1 h2
        by_cases e : i = j
        · subst e; exact listed_eq _
        · rw [listed_ne e]; exact hi.doors j cj hj h1 h2
    · -- the door
      subst hcc
      have hmemd : (i, o) ∈ pickC cs (2 * k + 1) 0 l := pick_mem.2 ⟨Nat.zero_le _, by simpa using ho', by simpa using hci⟩
      rcases Nat.lt_or_ge k n with hkn | hkn
      · obtain ⟨t, ht, hmov⟩ := hD.2 hkn
        have hone : pickC cs (2 * k + 1) 0 l = [(i, o)] ∧ t = o := by
          generalize pickC cs (2 * k + 1) 0 l = L at hmemd ht
          cases L with
          | nil => cases hmemd
          | cons x L =>
            cases L with
            | nil =>
              simp only [List.mem_singleton] at hmemd
              subst hmemd
              simp only [List.map_cons, List.map_nil, List.cons.injEq, and_true] at ht
              exact ⟨rfl, ht.symm⟩
            | cons y L => simp at ht
        obtain ⟨hone, rfl⟩ := hone
        left
        unfold Oper.wp
        unfold mov at hmov
        rw [hex]
        refine movUpon_upon (fun v w2 hg => ?_) hmov
        obtain ⟨hS2, hW2⟩ := hg
        obtain ⟨U2, aF2, hD2, hdef2, hsz2, hoth, hval2, hq2⟩ := extend hd hlook hlast (by omega) (door_of (n := n) (k := k + 1) (by omega) (by rw [show n - (k + 1) = n - k - 1 by omega]; exact hW2))
        have hput : ∀ (b : Act) (s : Nat), t.dst ≠ some s → (b.put t.dst v).tmps[s]? = b.tmps[s]? := by
          intro b s hne2
          cases hd2 : t.dst with
          | none => rfl
          | some d => simp only [Act.put]; exact Array.getElem?_setIfInBounds_ne (fun e => hne2 (by rw [hd2, e]))
        have hpsz : ∀ b : Act, (b.put t.dst v).tmps.size = b.tmps.size := by
          intro b; cases t.dst with
          | none => rfl
          | some d => simp [Act.put]
        have hpdf : ∀ b : Act, (b.put t.dst v).defers = b.defers := by
          intro b; cases t.dst <;> rfl
        have hnew : ∀ i2 o2, (i2, o2) ∈ pickC cs (2 * (k + 1)) 0 l → l[i2]? = some o2 ∧ cs[i2]? = some (2 * (k + 1)) := fun i2 o2 h => by have := pick_mem.1 h; simpa using this.2
        -- a slot that an old head reads or writes is neither the door's nor a new head's
        have hdstne : ∀ (j : Nat) (oj o2 : Oper) (j2 s : Nat), l[j]? = some oj → l[j2]? = some o2 → j ≠ j2 → oj.dst = some s → o2.dst ≠ some s := by
          intro j oj o2 j2 s hj hj2 hne2 h1 h2
          have ha := List.all_eq_true.1 (ok_at hd (i := j) (o := oj) (by simpa using hj)).apart j2 (List.mem_range.2 (by have := (List.getElem?_eq_some_iff.1 hj2).1; simpa using this))
          have hj2' : (l.toArray)[j2]? = some o2 := by simpa using hj2
          simp only [hj2', h1, h2, decide_true, Bool.not_true, Bool.or_false, Option.isNone_some, decide_eq_true_eq] at ha
          exact hne2 ha.symm
        refine ih _ _ aF2 _ (k + 1) (fun j => if cs[j]? = some (2 * (k + 1)) then U2 j else U j) (by omega) (by simp [hs]) ⟨by rw [hdef2, hpdf, hpdf]; exact hi.defers, by rw [hsz2, hpsz, hpsz]; exact hi.size, ?_, shut_step hi.shut ho hr, ?_, ?_⟩ (by omega) ?_ ?_ hS2 hD2
        · intro s
          by_cases hw : ∃ i2 o2, (i2, o2) ∈ pickC cs (2 * (k + 1)) 0 l ∧ o2.dst = some s
          · obtain ⟨i2, o2, hm2, hd2⟩ := hw
            obtain ⟨h1, h2⟩ := hnew i2 o2 hm2
            refine .inr ⟨i2, o2, _, h2, by omega, Nat.le_refl _, by simpa using h1, hd2, ?_⟩
            rw [listed_ne (fun e => by subst e; rw [hci] at h2; injection h2; omega)]
            exact hi.later i2 _ h2 (by omega)
          · have e2 : aF2.tmps[s]? = (aF.put t.dst v).tmps[s]? := hoth s (fun i2 o2 hm2 hd2 => hw ⟨i2, o2, hm2, hd2⟩)
            rw [e2]
            by_cases hds : t.dst = some s
            · left
              rw [hds]
              simp only [Act.put, Array.getElem?_setIfInBounds_self, hi.size]
            · rw [hput _ _ hds, hput _ _ hds]
              rcases hi.slot s with e | ⟨j, oj, cj, h1, h2, h3, hj, hdj, hlj⟩
              · exact .inl e
              · refine .inr ⟨j, oj, cj, h1, h2, by omega, hj, hdj, ?_⟩
                rw [listed_ne (fun e => by subst e; rw [hci] at h1; injection h1; omega)]
                exact hlj
        · intro j cj hj hge
          rw [listed_ne (fun e => by subst e; rw [hci] at hj; injection hj; omega)]
          exact hi.later j cj hj (by omega)
        · intro j cj hj h1 h2
          by_cases e : i = j
          · subst e; exact listed_eq _
          · rw [listed_ne e]
            rcases Nat.lt_or_ge cj (2 * k + 1) with h3 | h3
            · exact hi.doors j cj hj h1 h3
            · exfalso
              have hcj : cj = 2 * k + 1 := by omega
              subst hcj
              have hjl : j < l.length := by have := (List.getElem?_eq_some_iff.1 hj).1; omega
              have hmj : (j, l[j]) ∈ pickC cs (2 * k + 1) 0 l := pick_mem.2 ⟨Nat.zero_le _, by simp [List.getElem?_eq_getElem hjl], by simpa using hj⟩
              rw [hone] at hmj
              simp only [List.mem_singleton, Prod.mk.injEq] at hmj
              exact e hmj.1.symm
        · intro j oj cj hj hcj h1 h2 w1 hw1
          by_cases hnw : cs[j]? = some (2 * (k + 1))
          · rw [if_pos hnw]
            exact hq2 j oj (pick_mem.2 ⟨Nat.zero_le _, by simpa using hj, by simpa using hnw⟩) w1 hw1
          · rw [if_neg hnw]
            have hle : cj ≤ 2 * k := by
              rcases Nat.lt_or_ge (2 * k) cj with h3 | h3
              · exfalso
                have : cj = 2 * (k + 1) := by omega
                subst this
                exact hnw hcj
              · exact h3
            rw [← hq j oj cj hj hcj h1 hle w1 hw1]
            congr 1
            have hdj := ok_at hd (i := j) (o := oj) (by simpa using hj)
            obtain ⟨c2, hc2, hs2, _⟩ := look_at hlook (i := j) (o := oj) (by simpa using hj)
            rw [hcj] at hc2
            injection hc2 with hc2
            subst hc2
            have hbnd : ∀ e ∈ oj.after, Region.binds .any e = true → cs.getD e.on 0 ≤ cj := by
              rcases hs2 with h5 | h5
              · omega
              · exact h5.2
            refine execOp_congr oj (notDS_select hdj.plain) fun y hy => ?_
            cases y with
            | tmp s =>
              simp only [Act.eval, Array.getD_eq_getD_getElem?]
              congr 1
              have hsees := Array.all_eq_true'.1 hdj.sees _ hy
              have nob : ∀ (j2 : Nat) (o2 : Oper) (c2 : Nat), l[j2]? = some o2 → cs[j2]? = some c2 → cj < c2 → c2 ≤ 2 * n → o2.dst ≠ some s := by
                intro j2 o2 c2 hj2 hcj2 hlt2 hle2 hd2
                have hj2' : (l.toArray)[j2]? = some o2 := by simpa using hj2
                have := List.all_eq_true.1 hsees j2 (List.mem_range.2 (by
                  have h9 := (Array.getElem?_eq_some_iff.1 hj2').1
                  have h10 := hcj2
                  simp only [List.size_toArray] at h9 ⊢
                  by_cases h11 : j2 = l.length - 1
                  · rw [h11, hlast] at h10; injection h10 with h10; omega
                  · omega))
                simp only [hj2', hd2, decide_true, Bool.not_true, Bool.false_or] at this
                obtain ⟨e, he, hb, e2⟩ := bindB_true this
                have := hbnd e he hb
                rw [e2, List.getD_eq_getElem?_getD, hcj2] at this
                simp at this
                omega
              rw [hoth s (fun i2 o2 hm2 => nob i2 o2 _ (hnew i2 o2 hm2).1 (hnew i2 o2 hm2).2 (by omega) (by omega)), hput aF s (nob i t _ ho' hci (by omega) (by omega))]
            | _ => rfl
        · intro j oj cj s hj hcj h1 h2 hds hsz
          rw [hsz2, hpsz] at hsz
          by_cases hnw : cs[j]? = some (2 * (k + 1))
          · rw [if_pos hnw]
            exact hval2 j oj s (pick_mem.2 ⟨Nat.zero_le _, by simpa using hj, by simpa using hnw⟩) hds (by rw [hpsz]; exact hsz)
          · rw [if_neg hnw]
            have hle : cj ≤ 2 * k := by
              rcases Nat.lt_or_ge (2 * k) cj with h3 | h3
              · exfalso
                have : cj = 2 * (k + 1) := by omega
                subst this
                exact hnw hcj
              · exact h3
            rw [hoth s (fun i2 o2 hm2 => hdstne j oj o2 i2 s hj (hnew i2 o2 hm2).1 (fun e => by subst e; exact hnw (hnew j o2 hm2).2) hds), hput aF s (hdstne j oj t i s hj ho' (fun e => by subst e; rw [hcj] at hci; injection hci; omega) hds)]
            exact hval j oj cj s hj hcj h1 hle hds hsz
      · -- the last one of all
        have hkn' : k = n := by omega
        subst hkn'
        have hW' := hD.1 rfl
        have hmem2 : ∀ (j : Nat) (oj : Oper), (j, oj) ∈ pickC cs (2 * k + 1) 0 l ↔ l[j]? = some oj ∧ cs[j]? = some (2 * k + 1) := by intro j oj; rw [pick_mem]; simp
        have hso := pick_sorted cs (2 * k + 1) 0 l
        have hwhere : ∀ (j : Nat) (oj : Oper), l[j]? = some oj → cs[j]? = some (2 * k + 1) → j + 1 = l.length ∨ j + 2 = l.length := by
          intro j oj hj hcj
          obtain ⟨c3, hc3, _, _, _, hl3⟩ := look_at hlook (i := j) (o := oj) (by simpa using hj)
          rw [hcj] at hc3
          injection hc3 with hc3
          rcases hl3 hc3.symm with h | h
          · left; simpa using h
          · right; simpa using h.1
        have hframe : (∀ (j cj : Nat), cs[j]? = some cj → cj % 2 = 0 → listed.getD j true = true) → a' = aF := by
          intro hdone
          obtain ⟨h1, h2, h3, _, _, _⟩ := hi
          cases a'; cases aF
          simp only at h1 h2 h3
          subst h1
          congr
          apply Array.ext_getElem?
          intro s
          rcases h3 s with e | ⟨j, oj, cj, hcj, hev, _, hj, _, hlj⟩
          · exact e
          · rw [hdone j cj hcj hev] at hlj; cases hlj
        rcases hcl2 rfl with hiz | ⟨hiz, hbj, z, hzz, hzb⟩
        · have hiz' : i + 1 = l.length := by simpa using hiz
          have ei : i = l.toArray.size - 1 := by omega
          have hz : l.toArray[l.toArray.size - 1]? = some o := by rw [← ei]; exact ho
          have hall : ∀ j, j + 1 < l.toArray.size → listed.getD j true = true := by
            have I : Chain.Inv l.toArray [] a' listed a' := ⟨rfl, rfl, fun s => .inl rfl, hi.shut⟩
            exact I.all hd hz (fun e he hb => listed_in (hr e he hb))
          have ha : a' = aF := hframe (fun j cj hcj hev => by
            have hjl : j < cs.length := (List.getElem?_eq_some_iff.1 hcj).1
            by_cases e : j + 1 < l.toArray.size
            · exact hall j e
            · have e2 : j = i := by simp at e; omega
              subst e2
              rw [hci] at hcj; injection hcj; omega)
          subst ha
          have hone : (pickC cs (2 * k + 1) 0 l).map (·.2) = [o] := by
            have huni : ∀ y ∈ pickC cs (2 * k + 1) 0 l, y = (i, o) := by
              rintro ⟨j, oj⟩ hj
              obtain ⟨hj1, hj2⟩ := (hmem2 j oj).1 hj
              rcases hwhere j oj hj1 hj2 with h | h
              · have e : j = i := by omega
                subst e
                rw [ho'] at hj1
                injection hj1 with hj1
                rw [hj1]
              · exfalso
                have h5 := hi.later j _ hj2 (Nat.le_refl _)
                rw [hall j (by simp; omega)] at h5
                cases h5
            generalize pickC cs (2 * k + 1) 0 l = L at hmemd huni hso
            cases L with
            | nil => cases hmemd
            | cons x L =>
              cases L with
              | nil => rw [huni x List.mem_cons_self]; rfl
              | cons y L =>
                exfalso
                have h6 := (List.pairwise_cons.1 hso).1 y List.mem_cons_self
                rw [huni x List.mem_cons_self, huni y (List.mem_cons_of_mem _ List.mem_cons_self)] at h6
                exact Nat.lt_irrefl _ h6
          rw [hone] at hW'
          simp only [wpList, Region.wanted, hd'.guard, if_true] at hW'
          rcases hW' with hW' | hW'
          · left
            refine Oper.wp_mono (fun a'' w'' hqq => ?_) hW'
            have hnil : Region.ready .any l.toArray (listed.setIfInBounds i true) = [] := by
              apply List.eq_nil_iff_forall_not_mem.2
              intro j hj
              obtain ⟨hlj, oj, hoj, _⟩ := mem_ready.1 hj
              have hjs := (Array.getElem?_eq_some_iff.1 hoj).1
              by_cases ej : i = j
              · subst ej; rw [listed_eq] at hlj; cases hlj
              · rw [listed_ne ej, hall j (by omega)] at hlj; cases hlj
            cases fuel with
            | zero => exact ⟨hnil, hqq⟩
            | succ f => exact ⟨fun _ => hqq, fun k hk => by rw [hnil] at hk; cases hk⟩
          · exact .inr hW'
        · have hiz' : i + 2 = l.length := by simpa using hiz
          have hzl : l[i + 1]? = some z := by simpa using hzz
          have hcz : cs[i + 1]? = some (2 * k + 1) := by rw [show i + 1 = l.length - 1 by omega]; exact hlast
          have hall : ∀ j, j < i → listed.getD j true = true := by
            intro j hj
            obtain ⟨e, he, hb, rfl⟩ := bindB_true (hbj j hj)
            exact listed_in (hr e he hb)
          have hlz : listed.getD (i + 1) true = false := hi.later (i + 1) _ hcz (Nat.le_refl _)
          have ha : a' = aF := hframe (fun j cj hcj hev => by
            have hjl : j < cs.length := (List.getElem?_eq_some_iff.1 hcj).1
            rcases Nat.lt_trichotomy j i with h | h | h
            · exact hall j h
            · subst h; rw [hci] at hcj; injection hcj; omega
            · have e2 : j = i + 1 := by omega
              subst e2; rw [hcz] at hcj; injection hcj; omega)
          subst ha
          have hgz := (ok_at hd hzz).guard
          have htwo : (pickC cs (2 * k + 1) 0 l).map (·.2) = [o, z] := by
            have huni : ∀ y ∈ pickC cs (2 * k + 1) 0 l, y = (i, o) ∨ y = (i + 1, z) := by
              rintro ⟨j, oj⟩ hj
              obtain ⟨hj1, hj2⟩ := (hmem2 j oj).1 hj
              rcases hwhere j oj hj1 hj2 with h | h
              · have e : j = i + 1 := by omega
                subst e
                rw [hzl] at hj1
                injection hj1 with hj1
                right; rw [hj1]
              · have e : j = i := by omega
                subst e
                rw [ho'] at hj1
                injection hj1 with hj1
                left; rw [hj1]
            have hmz : (i + 1, z) ∈ pickC cs (2 * k + 1) 0 l := (hmem2 _ _).2 ⟨hzl, hcz⟩
            generalize pickC cs (2 * k + 1) 0 l = L at hmemd hmz huni hso
            cases L with
            | nil => cases hmemd
            | cons x L =>
              cases L with
              | nil =>
                exfalso
                simp only [List.mem_singleton] at hmemd hmz
                rw [← hmemd] at hmz
                injection hmz with h5 _
                omega
              | cons y L =>
                have h6 := (List.pairwise_cons.1 hso).1 y List.mem_cons_self
                have hx := huni x List.mem_cons_self
                have hy := huni y (List.mem_cons_of_mem _ List.mem_cons_self)
                have hxo : x = (i, o) := by
                  rcases hx with hx | hx
                  · exact hx
                  · exfalso
                    rcases hy with hy | hy <;> rw [hx, hy] at h6 <;> simp at h6 <;> omega
                have hyo : y = (i + 1, z) := by
                  rcases hy with hy | hy
                  · exfalso; rw [hxo, hy] at h6; simp at h6
                  · exact hy
                cases L with
                | nil => rw [hxo, hyo]; rfl
                | cons v L =>
                  exfalso
                  have h7 := (List.pairwise_cons.1 (List.pairwise_cons.1 hso).2).1 v List.mem_cons_self
                  rcases huni v (List.mem_cons_of_mem _ (List.mem_cons_of_mem _ List.mem_cons_self)) with hv | hv <;> rw [hyo, hv] at h7 <;> simp at h7 <;> omega
          rw [htwo] at hW'
          simp only [wpList, Region.wanted, hd'.guard, hgz, if_true] at hW'
          rcases hW' with hW' | hW'
          · left
            refine Oper.wp_mono (fun a'' w'' hqq => ?_) hW'
            have hlz1 : (listed.setIfInBounds i true).getD (i + 1) true = false := by rw [listed_ne (by omega)]; exact hlz
            have hpos : 0 < ((List.range l.toArray.size).countP fun j => !(listed.setIfInBounds i true).getD j true) := List.countP_pos_iff.2 ⟨i + 1, List.mem_range.2 (by simp; omega), by rw [hlz1]; rfl⟩
            obtain ⟨f, rfl⟩ : ∃ f, fuel = f + 1 := ⟨fuel - 1, by omega⟩
            refine ⟨fun hnil => absurd hnil (ready_ne hd (by simp [hs]) (k := i + 1) (by simp; omega) hlz1), fun j hj => ?_⟩
            obtain ⟨hlj, oj, hoj, _⟩ := mem_ready.1 hj
            have hjs : j < l.length := by have := (Array.getElem?_eq_some_iff.1 hoj).1; simpa using this
            have ej : j = i + 1 := by
              rcases Nat.lt_trichotomy j i with h | h | h
              · rw [listed_ne (by omega), hall j h] at hlj; cases hlj
              · subst h; rw [listed_eq] at hlj; cases hlj
              · omega
            subst ej
            rw [hzz] at hoj
            injection hoj with hoj
            subst hoj
            unfold wpOp
            simp only [hzz]
            rw [if_pos (by simp [Region.wanted, hgz])]
            rcases hqq with hqq | hqq
            · left
              refine Oper.wp_mono (fun a3 w3 hq3 => ?_) hqq
              have hnil : Region.ready .any l.toArray ((listed.setIfInBounds i true).setIfInBounds (i + 1) true) = [] := by
                apply List.eq_nil_iff_forall_not_mem.2
                intro j2 hj2
                obtain ⟨hlj2, oj2, hoj2, _⟩ := mem_ready.1 hj2
                have hjs2 : j2 < l.length := by have := (Array.getElem?_eq_some_iff.1 hoj2).1; simpa using this
                by_cases e1 : i + 1 = j2
                · subst e1; rw [listed_eq] at hlj2; cases hlj2
                · rw [listed_ne e1] at hlj2
                  by_cases e2 : i = j2
                  · subst e2; rw [listed_eq] at hlj2; cases hlj2
                  · rw [listed_ne e2, hall j2 (by omega)] at hlj2; cases hlj2
              cases f with
              | zero => exact ⟨hnil, hq3⟩
              | succ f => exact ⟨fun _ => hq3, fun k hk => by rw [hnil] at hk; cases hk⟩
            · exact .inr hqq
          · exact .inr hW'
    · -- of a later stage: it waits for one that is not done
      exfalso
      rcases hblk with h5 | ⟨e, he, hb, hge⟩
      · omega
      · have hon := hback e he hb
        have hu := hi.later e.on _ (hcode e.on (by omega)) (by omega)
        rw [listed_in (hr e he hb)] at hu
        cases hu
end Stage

open Stage in
/-- a region that draws, in stages: 'cs' gives each operation 2k (it reads, at stage k) or 2k + 1 (it closes stage k). -/
theorem wp_region_stages {P : Program} {id : Nat} {Q : Exit → Act → World → Prop} {a : Act} {w : World} {l : List Oper} (cs : List Nat) (n : Nat) (S : World → Prop) (hm : P.follows .mixedOrders = true)
    (hB : (Tail.okB l.toArray && (lookB l.toArray cs n && (decide (cs[l.length - 1]? = some (2 * n + 1)) && decide (0 < l.length)))) = true) (hS : S w.drew)
    (h : stageW P S l.toArray Q (stages cs l n 0) a w.drew) : (Code.region id l.toArray true).wp P Q a w := by
  simp only [Bool.and_eq_true, decide_eq_true_eq] at hB
  obtain ⟨hd, hlook, hlast, hne⟩ := hB
  obtain ⟨U, aF, hD, hdef, hsz, hoth, hval, hq⟩ := extend hd hlook hlast (x := 2 * 0) (by omega) (door_of (n := n) (k := 0) (Nat.zero_le _) h)
  have hin : ∀ (i : Nat) (o : Oper) (c : Nat), l[i]? = some o → cs[i]? = some c → c % 2 = 0 → c ≤ 2 * 0 → (i, o) ∈ pickC cs (2 * 0) 0 l := by
    intro i o c hi hc h1 h2
    have : c = 2 * 0 := by omega
    subst this
    exact pick_mem.2 ⟨Nat.zero_le _, by simpa using hi, by simpa using hc⟩
  refine wp_region_any hm (any_stage hd hlook hlast hne _ _ _ aF _ 0 U (Nat.zero_le _) (by simp) ⟨hdef.symm, hsz.symm, fun s => ?_, fun j oj hj hoj hl => ?_, fun j c hj hge => ?_, fun j c hj h1 h2 => by omega⟩ ?_ (fun i o c hi hc h1 h2 w1 hw1 => hq i o (hin i o c hi hc h1 h2) w1 hw1) (fun i o c s hi hc h1 h2 hds hs => hval i o s (hin i o c hi hc h1 h2) hds (by rw [← hsz]; exact hs)) hS hD)
  · by_cases hw : ∃ i2 o2, (i2, o2) ∈ pickC cs (2 * 0) 0 l ∧ o2.dst = some s
    · obtain ⟨i2, o2, hm2, hd2⟩ := hw
      have h5 := (pick_mem.1 hm2).2
      have hl5 : l[i2]? = some o2 := by simpa using h5.1
      have hil := (List.getElem?_eq_some_iff.1 hl5).1
      refine .inr ⟨i2, o2, _, by simpa using h5.2, by omega, by omega, by simpa using hl5, hd2, ?_⟩
      simp [Array.getD_eq_getD_getElem?, hil]
    · exact .inl (hoth s (fun i2 o2 hm2 hd2 => hw ⟨i2, o2, hm2, hd2⟩)).symm
  · have hjl : j < l.length := by simp at hj; omega
    simp [Array.getD_eq_getD_getElem?, hjl] at hl
  · have hjl : j < l.length := by
      have h5 := (List.getElem?_eq_some_iff.1 hj).1
      simp only [lookB, Bool.and_eq_true, decide_eq_true_eq] at hlook
      have := hlook.1
      simp at this
      omega
    simp [Array.getD_eq_getD_getElem?, hjl]
  · exact Nat.le_trans (List.countP_le_length) (by simp)
end Go.Proofs.YthjkgbcomjiejadGreatDoor
namespace Go.Proofs.YthjkgbcomjiejadGreatDoor
open Go.RowKit
set_option linter.unusedVariables false
theorem quiet_mono {P : Program} {ops : Array Oper} {S : World → Prop} : ∀ (l0 : List Oper) (a0 : Act) (A B : Act → Prop), (∀ x, A x → B x) → wpQuiet P ops S A l0 a0 → wpQuiet P ops S B l0 a0
  | [], a0, A, B, h1, h2 => h1 _ h2
  | o :: l0, a0, A, B, h1, h2 => by
    unfold wpQuiet at h2 ⊢
    split
    · rename_i hw
      rw [if_pos hw] at h2
      exact Oper.quiet_mono (fun a1 h3 => quiet_mono l0 _ A B h1 h3) h2
    · rename_i hw
      rw [if_neg hw] at h2
      exact quiet_mono l0 _ A B h1 h2
theorem stage_more {P : Program} {S : World → Prop} {ops : Array Oper} {Q : Exit → Act → World → Prop} {H : List Oper} {t : Oper} {x : List Oper × List Oper} {rest : List (List Oper × List Oper)} {a : Act} {w : World}
    (h : wpQuiet P ops S (fun a' => ∀ K : Act → World → Prop, (∀ a w, S w ∧ Stage.stageW P S ops Q (x :: rest) a w → K a w) → Chain.mov P t a' w (fun v w2 => K (a'.put t.dst v) w2)) H a) : Stage.stageW P S ops Q ((H, [t]) :: x :: rest) a w := by
  unfold Stage.stageW
  exact quiet_mono _ _ _ _ (fun a' h => h (fun a w => S w ∧ Stage.stageW P S ops Q (x :: rest) a w) (fun _ _ h => h)) h
theorem stage_last {P : Program} {S : World → Prop} {ops : Array Oper} {Q : Exit → Act → World → Prop} {H T : List Oper} {a : Act} {w : World} (h : wpQuiet P ops S (fun a' => wpList P ops Q T a' w) H a) : Stage.stageW P S ops Q [(H, T)] a w := by
  unfold Stage.stageW
  exact h
theorem mov_append {P : Program} {o : Oper} {a : Act} {V V2 : World} {G : Value → World → Prop} {s x : Operand} {t : TypeId} {v u v' : Value} (hop : o.op = .call { callee := .builtin .append, args := #[s, x], argTypes := #[t, t] }) (hs : a.eval s = v) (hx : a.eval x = u)
    (hrun : (Builtin.append_ #[t, t] o.type #[v, u]).run P V = .ok v' V2) (h : G v' V2) : Chain.mov P o a V G := by
  have e : (execOp a.eval o).run P V = .ok (.value v') V2 := by simp [execOp, hop, resolve, invoke, builtin, hs, hx, hrun, Result.andThen]
  unfold Chain.mov
  rw [e]
  exact h
/-- a world in which all of w below B is as it was. -/
structure KB (B : Nat) (w : World) where
  W : World
  ok : Below B w W
theorem KB.rd {B : Nat} {w : World} {a : Addr} {v : Value} (h : w.cell? a = some v) (hB : a.block < B) : ∀ x : KB B w, x.W.cell? a = some v := fun x => (x.ok.cell hB).trans h
theorem KB.start (B : Nat) (w : World) : ∃ x : KB B w, w.drew = x.W := ⟨⟨w.drew, (Below.refl _ _).drew⟩, rfl⟩
theorem KB.mk' {B : Nat} {w w' : World} (h : Below B w w') : ∃ x : KB B w, w' = x.W := ⟨⟨w', h⟩, rfl⟩
end Go.Proofs.YthjkgbcomjiejadGreatDoor
