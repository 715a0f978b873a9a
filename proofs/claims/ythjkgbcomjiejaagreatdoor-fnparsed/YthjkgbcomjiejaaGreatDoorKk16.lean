/-
  A region that draws its order, all of whose operations but the last read alone (or call what reads alone), and whose last one comes behind all others and may write: one walk of the text's order serves every order. It names no function of the program.
-/
import Derived.BigQuiet
import Derived.Below
import Derived.Deep.Draws
namespace Go.Proofs.YthjkgbcomjiejaaGreatDoor
open Go Go.RowKit
set_option linter.unusedVariables false

namespace Tail
variable {P : Program} {ops : Array Oper} {C : World → Prop}

def notDS : Op → Bool
  | .defer _ => false
  | .select _ _ => false
  | _ => true
theorem notDS_select {o : Op} (h : notDS o = true) : ∀ cs b, o ≠ .select cs b := by intro cs b e; subst e; cases h
def bindB (o : Oper) (j : Nat) : Bool := o.after.any fun e => Region.binds .any e && decide (e.on = j)
def seesB (ops : Array Oper) (o : Oper) (x : Operand) : Bool :=
  match x with
  | .tmp s => (List.range (ops.size - 1)).all fun j => match ops[j]? with
    | some oj => !decide (oj.dst = some s) || bindB o j
    | none => true
  | _ => true
def apartB (ops : Array Oper) (i : Nat) (o : Oper) : Bool :=
  (List.range ops.size).all fun j => decide (j = i) || (match ops[j]? with
    | some oj => oj.dst.isNone || !decide (oj.dst = o.dst)
    | none => true)
/-- somebody behind place i waits for it. -/
def waitB (ops : Array Oper) (i : Nat) : Bool :=
  decide (i + 1 = ops.size) || ((List.range ops.size).any fun k => decide (i < k) && (match ops[k]? with | some ok => bindB ok i | none => false))
structure At (ops : Array Oper) (i : Nat) (o : Oper) : Prop where
  guard : o.guard = none
  plain : notDS o.op = true
  back : (o.after.all fun e => !Region.binds .any e || decide (e.on < i)) = true
  sees : (o.op.operands.all (seesB ops o)) = true
  apart : apartB ops i o = true
  wait : waitB ops i = true
def okB (ops : Array Oper) : Bool := (List.range ops.size).all fun i => match ops[i]? with
  | some o => o.guard.isNone && (notDS o.op && ((o.after.all fun e => !Region.binds .any e || decide (e.on < i)) && (o.op.operands.all (seesB ops o) && (apartB ops i o && waitB ops i))))
  | none => true
theorem ok_at (h : okB ops = true) {i : Nat} {o : Oper} (ho : ops[i]? = some o) : At ops i o := by
  have hlt : i < ops.size := (Array.getElem?_eq_some_iff.1 ho).1
  have h1 := List.all_eq_true.1 h i (List.mem_range.2 hlt)
  simp only [ho, Bool.and_eq_true, Option.isNone_iff_eq_none] at h1
  exact ⟨h1.1, h1.2.1, h1.2.2.1, h1.2.2.2.1, h1.2.2.2.2.1, h1.2.2.2.2.2⟩
theorem bindB_true {o : Oper} {j : Nat} (h : bindB o j = true) : ∃ e ∈ o.after, Region.binds .any e = true ∧ e.on = j := by
  obtain ⟨e, he, hb⟩ := Array.any_eq_true'.1 h
  simp only [Bool.and_eq_true, decide_eq_true_eq] at hb
  exact ⟨e, he, hb.1, hb.2⟩
theorem wait_true {i : Nat} (h : waitB ops i = true) (hi : i + 1 < ops.size) : ∃ k ok, i < k ∧ ops[k]? = some ok ∧ bindB ok i = true := by
  unfold waitB at h
  simp only [Bool.or_eq_true, decide_eq_true_eq] at h
  rcases h with h | h
  · omega
  · obtain ⟨k, hk, h2⟩ := List.any_eq_true.1 h
    simp only [Bool.and_eq_true, decide_eq_true_eq] at h2
    cases ho : ops[k]? with
    | none => rw [ho] at h2; simp at h2
    | some ok => rw [ho] at h2; exact ⟨k, ok, h2.1, ho, h2.2⟩

theorem listed_ne {listed : Array Bool} {i j : Nat} (h : i ≠ j) (d : Bool) : (listed.setIfInBounds i true).getD j d = listed.getD j d := by
  simp only [Array.getD_eq_getD_getElem?, Array.getElem?_setIfInBounds_ne h]
theorem listed_eq {listed : Array Bool} (i : Nat) : (listed.setIfInBounds i true).getD i true = true := by
  simp only [Array.getD_eq_getD_getElem?]
  by_cases h : i < listed.size
  · simp [h]
  · rw [Array.getElem?_eq_none (by simp; omega)]; rfl
theorem listed_in {listed : Array Bool} {j : Nat} (h : listed.getD j false = true) : listed.getD j true = true := by
  simp only [Array.getD_eq_getD_getElem?] at *
  cases e : listed[j]? <;> simp_all
theorem listed_out {listed : Array Bool} {j : Nat} (hj : j < listed.size) (h : listed.getD j true = true) : listed.getD j false = true := by
  simp only [Array.getD_eq_getD_getElem?] at *
  rw [Array.getElem?_eq_getElem hj] at *
  exact h

def putAll : List Oper → List Value → Act → Act
  | o :: os, v :: vs, a => putAll os vs (a.put o.dst v)
  | _, _, a => a
theorem putAll_defers (os : List Oper) (vs : List Value) (a : Act) : (putAll os vs a).defers = a.defers := by
  induction os generalizing vs a with
  | nil => rfl
  | cons o os ih =>
    cases vs with
    | nil => rfl
    | cons v vs => rw [putAll, ih]; cases o.dst <;> rfl
theorem putAll_size (os : List Oper) (vs : List Value) (a : Act) : (putAll os vs a).tmps.size = a.tmps.size := by
  induction os generalizing vs a with
  | nil => rfl
  | cons o os ih =>
    cases vs with
    | nil => rfl
    | cons v vs => rw [putAll, ih]; cases o.dst <;> simp [Act.put]
theorem putAll_other (os : List Oper) (vs : List Value) (a : Act) (s : Nat) (h : ∀ o ∈ os, o.dst ≠ some s) : (putAll os vs a).tmps[s]? = a.tmps[s]? := by
  induction os generalizing vs a with
  | nil => rfl
  | cons o os ih =>
    cases vs with
    | nil => rfl
    | cons v vs =>
      rw [putAll, ih _ _ (fun o' ho' => h o' (List.mem_cons_of_mem _ ho'))]
      have := h o (List.mem_cons_self)
      cases hd : o.dst with
      | none => rfl
      | some d => simp only [Act.put]; exact Array.getElem?_setIfInBounds_ne (fun e => this (by rw [hd, e]))
theorem putAll_val (os : List Oper) (vs : List Value) (a : Act) (i : Nat) (o : Oper) (v : Value) (s : Nat) (ho : os[i]? = some o) (hv : vs[i]? = some v) (hd : o.dst = some s) (hs : s < a.tmps.size)
    (hap : ∀ j oj, os[j]? = some oj → oj.dst = some s → j = i) : (putAll os vs a).tmps[s]? = some v := by
  induction os generalizing vs a i with
  | nil => simp at ho
  | cons o' os ih =>
    cases vs with
    | nil => simp at hv
    | cons v' vs =>
      cases i with
      | zero =>
        simp at ho hv
        subst ho hv
        rw [putAll, putAll_other]
        · rw [hd]; simp only [Act.put]; rw [Array.getElem?_setIfInBounds_self, if_pos hs]
        · intro o2 h2 hd2
          obtain ⟨j, hj⟩ := List.mem_iff_getElem?.1 h2
          have := hap (j + 1) o2 (by simpa using hj) hd2
          omega
      | succ i =>
        rw [putAll]
        refine ih vs _ i (by simpa using ho) (by simpa using hv) (by cases o'.dst <;> simpa [Act.put] using hs) ?_
        intro j oj hj hdj
        have := hap (j + 1) oj (by simpa using hj) hdj
        omega
theorem putAll_append (os os2 : List Oper) (vs vs2 : List Value) (a : Act) (h : os.length = vs.length) : putAll (os ++ os2) (vs ++ vs2) a = putAll os2 vs2 (putAll os vs a) := by
  induction os generalizing vs a with
  | nil => cases vs with
    | nil => rfl
    | cons v vs => simp at h
  | cons o os ih =>
    cases vs with
    | nil => simp at h
    | cons v vs => exact ih vs _ (by simpa using h)

/-- the values that a quiet walk has found. -/
theorem vals {Qf : Act → Prop} : ∀ (l : List Oper) (a : Act), (∀ o ∈ l, o.guard = none) → wpQuiet P ops C Qf l a →
    ∃ vs : List Value, vs.length = l.length ∧ (∀ (i : Nat) (o : Oper) (v : Value), l[i]? = some o → vs[i]? = some v → ∀ w, C w → o.quietAt P (putAll (l.take i) (vs.take i) a) C w v) ∧ Qf (putAll l vs a)
  | [], a, _, h => ⟨[], rfl, fun i o v ho => by simp at ho, h⟩
  | o :: l, a, hg, h => by
    unfold wpQuiet at h
    rw [if_pos (by simp [Region.wanted, hg o List.mem_cons_self])] at h
    obtain ⟨v, h1, h2⟩ := h
    obtain ⟨vs, e, h3, h4⟩ := vals l _ (fun o' ho' => hg o' (List.mem_cons_of_mem _ ho')) h2
    refine ⟨v :: vs, by simp [e], fun i o' v' ho hv => ?_, h4⟩
    cases i with
    | zero => simp at ho hv; subst ho hv; exact h1
    | succ i => exact h3 i o' v' (by simpa using ho) (by simpa using hv)

structure Inv (ops : Array Oper) (aF : Act) (listed : Array Bool) (a' : Act) : Prop where
  defers : a'.defers = aF.defers
  size : a'.tmps.size = aF.tmps.size
  slot : ∀ s : Nat, a'.tmps[s]? = aF.tmps[s]? ∨ ∃ (j : Nat) (oj : Oper), j + 1 < ops.size ∧ ops[j]? = some oj ∧ oj.dst = some s ∧ listed.getD j true = false
  shut : ∀ (j : Nat) (oj : Oper), j + 1 < ops.size → ops[j]? = some oj → listed.getD j true = true → ∀ e ∈ oj.after, Region.binds .any e = true → listed.getD e.on true = true

theorem Inv.done {aF a' : Act} {listed : Array Bool} (h : Inv ops aF listed a') (hall : ∀ j, j + 1 < ops.size → listed.getD j true = true) : a' = aF := by
  obtain ⟨h1, h2, h3, _⟩ := h
  cases a'; cases aF
  simp only at h1 h2 h3
  subst h1
  congr
  apply Array.ext_getElem?
  intro s
  rcases h3 s with e | ⟨j, oj, hj, _, _, hl⟩
  · exact e
  · rw [hall j hj] at hl; cases hl
theorem Inv.exec (hd : okB ops = true) {aF a' : Act} {listed : Array Bool} (h : Inv ops aF listed a') {i : Nat} {o : Oper} (ho : ops[i]? = some o) (hr : ∀ e ∈ o.after, Region.binds .any e = true → listed.getD e.on false = true) : execOp a'.eval o = execOp aF.eval o := by
  have hd' := ok_at hd ho
  refine execOp_congr o (notDS_select hd'.plain) fun x hx => ?_
  cases x with
  | tmp s =>
    have hs := Array.all_eq_true'.1 hd'.sees _ hx
    simp only [Act.eval, Array.getD_eq_getD_getElem?]
    rcases h.slot s with e | ⟨j, oj, hjl, hj, hdj, hl⟩
    · rw [e]
    · exfalso
      have := List.all_eq_true.1 hs j (List.mem_range.2 (by omega))
      simp only [hj, hdj, decide_true, Bool.not_true, Bool.false_or] at this
      obtain ⟨e, he, hb, rfl⟩ := bindB_true this
      rw [listed_in (hr e he hb)] at hl
      cases hl
  | _ => rfl
/-- when the last one is ready, all others are done. -/
theorem Inv.all (hd : okB ops = true) {aF a' : Act} {listed : Array Bool} (h : Inv ops aF listed a') {z : Oper} (hz : ops[ops.size - 1]? = some z) (hr : ∀ e ∈ z.after, Region.binds .any e = true → listed.getD e.on true = true) :
    ∀ j, j + 1 < ops.size → listed.getD j true = true := by
  intro j hj
  suffices H : ∀ n j, ops.size - 1 - j ≤ n → j + 1 < ops.size → listed.getD j true = true from H _ j (Nat.le_refl _) hj
  intro n
  induction n with
  | zero => intro j h1 h2; omega
  | succ n ih =>
    intro j h1 h2
    have hoj : ops[j]? = some ops[j] := Array.getElem?_eq_getElem (by omega)
    obtain ⟨k, ok, hk, hok, hb⟩ := wait_true (ok_at hd hoj).wait h2
    have hks : k < ops.size := (Array.getElem?_eq_some_iff.1 hok).1
    obtain ⟨e, he, hbb, rfl⟩ := bindB_true hb
    by_cases hkl : k + 1 < ops.size
    · exact h.shut k ok hkl hok (ih k (by omega) hkl) e he hbb
    · have ek : k = ops.size - 1 := by omega
      subst ek
      rw [hz] at hok
      injection hok with hok
      subst hok
      exact hr e he hbb
theorem Inv.step (hd : okB ops = true) {aF a' : Act} {listed : Array Bool} (h : Inv ops aF listed a') {i : Nat} {o : Oper} {v : Value} (hi : i + 1 < ops.size) (ho : ops[i]? = some o) (hr : ∀ e ∈ o.after, Region.binds .any e = true → listed.getD e.on false = true)
    (hv : ∀ s, o.dst = some s → s < aF.tmps.size → aF.tmps[s]? = some v) : Inv ops aF (listed.setIfInBounds i true) (a'.put o.dst v) := by
  have shut : ∀ (j : Nat) (oj : Oper), j + 1 < ops.size → ops[j]? = some oj → (listed.setIfInBounds i true).getD j true = true → ∀ e ∈ oj.after, Region.binds .any e = true → (listed.setIfInBounds i true).getD e.on true = true := by
    intro j oj hj hoj hl e he hb
    by_cases e1 : i = e.on
    · rw [← e1]; exact listed_eq _
    · rw [listed_ne e1]
      by_cases e2 : i = j
      · subst e2
        rw [ho] at hoj
        injection hoj with hoj
        subst hoj
        exact listed_in (hr e he hb)
      · rw [listed_ne e2] at hl
        exact h.shut j oj hj hoj hl e he hb
  have keep : ∀ (s j : Nat) (oj : Oper), o.dst ≠ some s → ops[j]? = some oj → oj.dst = some s → listed.getD j true = false → (listed.setIfInBounds i true).getD j true = false := by
    intro s j oj hne hj hdj hl
    rw [listed_ne (fun e => hne (by subst e; rw [ho] at hj; injection hj with hj; rw [hj]; exact hdj))]
    exact hl
  cases hds : o.dst with
  | none =>
    refine ⟨h.defers, h.size, fun s => ?_, shut⟩
    rcases h.slot s with e | ⟨j, oj, hj0, hj, hdj, hl⟩
    · exact .inl e
    · exact .inr ⟨j, oj, hj0, hj, hdj, keep s j oj (by rw [hds]; simp) hj hdj hl⟩
  | some d =>
    refine ⟨h.defers, by simp only [Act.put, Array.size_setIfInBounds]; exact h.size, fun s => ?_, shut⟩
    by_cases e : d = s
    · subst e
      left
      by_cases hlt : d < aF.tmps.size
      · rw [hv d hds hlt]
        simp only [Act.put, Array.getElem?_setIfInBounds_self]
        rw [if_pos (by rw [h.size]; exact hlt)]
      · have hlt' : aF.tmps.size ≤ d := Nat.le_of_not_lt hlt
        rw [Array.getElem?_eq_none (by simp only [Act.put, Array.size_setIfInBounds]; rw [h.size]; exact hlt'), Array.getElem?_eq_none hlt']
    · have e1 : (a'.put (some d) v).tmps[s]? = a'.tmps[s]? := by simp only [Act.put]; exact Array.getElem?_setIfInBounds_ne e
      rw [e1]
      rcases h.slot s with e2 | ⟨j, oj, hj0, hj, hdj, hl⟩
      · exact .inl e2
      · exact .inr ⟨j, oj, hj0, hj, hdj, keep s j oj (by rw [hds]; simpa using e) hj hdj hl⟩

theorem any_tail {aF : Act} {vs : List Value} {Q : Exit → Act → World → Prop} {z : Oper} (hd : okB ops = true) (hz : ops[ops.size - 1]? = some z)
    (hvl : vs.length + 1 = ops.size)
    (hval : ∀ (i : Nat) (o : Oper) (v : Value) (s : Nat), i + 1 < ops.size → ops[i]? = some o → vs[i]? = some v → o.dst = some s → s < aF.tmps.size → aF.tmps[s]? = some v)
    (hv : ∀ (i : Nat) (o : Oper) (v : Value), i + 1 < ops.size → ops[i]? = some o → vs[i]? = some v → ∀ w', C w' → o.quietAt P aF C w' v)
    (hlast : ∀ w', C w' → z.wp P aF w' (fun a w => Q .normal a w) Q ∨ (z.asks P aF w' ∧ LetsOut Q)) :
    ∀ (fuel : Nat) (listed : Array Bool) (a' : Act) (w' : World), listed.size = ops.size → Inv ops aF listed a' → ((List.range ops.size).countP fun j => !listed.getD j true) ≤ fuel →
      listed.getD (ops.size - 1) true = false → C w' → wpAny P .any ops Q fuel listed a' w' := by
  have hpos : 0 < ops.size := by omega
  intro fuel
  induction fuel with
  | zero =>
    intro listed a' w' hs hi hc hm hC
    have := List.countP_eq_zero.1 (Nat.le_zero.1 hc) (ops.size - 1) (List.mem_range.2 (by omega))
    simp [hm] at this
  | succ fuel ih =>
    intro listed a' w' hs hi hc hm hC
    have hready : Region.ready .any ops listed = [] → False := by
      intro hnil
      -- the least unlisted operation is ready
      have H : ∀ n j, j < n → j < ops.size → listed.getD j true = true := by
        intro n
        induction n with
        | zero => intro j h; omega
        | succ n ihn =>
          intro j hj hjs
          cases hl : listed.getD j true
          · exfalso
            have ho : ops[j]? = some ops[j] := Array.getElem?_eq_getElem hjs
            have : j ∈ Region.ready .any ops listed := mem_ready.2 ⟨hl, _, ho, fun e he hb => by
              have hb' := Array.all_eq_true'.1 (ok_at hd ho).back e he
              simp only [hb, Bool.not_true, Bool.false_or, decide_eq_true_eq] at hb'
              exact listed_out (by omega) (ihn e.on (by omega) (by omega))⟩
            rw [hnil] at this
            cases this
          · rfl
      have := H ops.size (ops.size - 1) (by omega) (by omega)
      rw [hm] at this; cases this
    refine ⟨fun hnil => (hready hnil).elim, fun i hir => ?_⟩
    obtain ⟨hl, o, ho, hr⟩ := mem_ready.1 hir
    have hlt : i < ops.size := (Array.getElem?_eq_some_iff.1 ho).1
    have hd' := ok_at hd ho
    have hex := hi.exec hd ho hr
    unfold wpOp
    simp only [ho]
    rw [if_pos (by simp [Region.wanted, hd'.guard])]
    by_cases e : i + 1 = ops.size
    · have ei : i = ops.size - 1 := by omega
      subst ei
      rw [hz] at ho
      injection ho with ho
      subst ho
      have hall := hi.all hd hz (fun e he hb => listed_in (hr e he hb))
      have ha := hi.done hall
      subst ha
      rcases hlast w' hC with hlast | hlast
      case inr => exact .inr hlast
      refine .inl (Oper.wp_mono (fun a'' w'' hq => ?_) hlast)
      have hnil : Region.ready .any ops (listed.setIfInBounds (ops.size - 1) true) = [] := by
        apply List.eq_nil_iff_forall_not_mem.2
        intro j hj
        obtain ⟨hlj, oj, hoj, _⟩ := mem_ready.1 hj
        have hjs := (Array.getElem?_eq_some_iff.1 hoj).1
        by_cases ej : ops.size - 1 = j
        · subst ej; rw [listed_eq] at hlj; cases hlj
        · rw [listed_ne ej, hall j (by omega)] at hlj; cases hlj
      cases fuel with
      | zero => exact ⟨hnil, hq⟩
      | succ f => exact ⟨fun _ => hq, fun k hk => by rw [hnil] at hk; cases hk⟩
    · obtain ⟨v, hvi⟩ : ∃ v, vs[i]? = some v := ⟨_, List.getElem?_eq_getElem (by omega)⟩
      left
      refine Oper.wp_of_quiet (K := fun a'' => a'' = a'.put o.dst v) hC (fun a'' w'' hC2 ha => ?_) ⟨v, fun w1 hw1 => ?_, rfl⟩
      · subst ha
        refine ih _ _ _ (by simp [hs]) (hi.step hd (by omega) ho hr (fun s hds hs => hval i o v s (by omega) ho hvi hds hs)) ?_ (by rw [listed_ne (by omega)]; exact hm) hC2
        have hcnt : ((List.range ops.size).countP fun j => !(listed.setIfInBounds i true).getD j true) < ((List.range ops.size).countP fun j => !listed.getD j true) := by
          have h1 : ∀ j, (!(listed.setIfInBounds i true).getD j true) = true → (!listed.getD j true) = true := by
            intro j hj
            by_cases ej : i = j
            · subst ej; rw [listed_eq] at hj; simp at hj
            · rw [listed_ne ej] at hj; exact hj
          have h2 : ∀ (l : List Nat), i ∈ l → l.countP (fun j => !(listed.setIfInBounds i true).getD j true) < l.countP (fun j => !listed.getD j true) := by
            intro l
            induction l with
            | nil => intro h; cases h
            | cons x l ihl =>
              intro hx
              have hle : l.countP (fun j => !(listed.setIfInBounds i true).getD j true) ≤ l.countP (fun j => !listed.getD j true) := List.countP_mono_left (fun j _ hj => h1 j hj)
              rw [List.countP_cons, List.countP_cons]
              by_cases ex : x = i
              · subst ex
                rw [listed_eq, hl]
                simp only [Bool.not_true, Bool.not_false, if_true, Bool.false_eq_true, if_false]
                omega
              · have hil : i ∈ l := by
                  rcases List.mem_cons.1 hx with h | h
                  · exact absurd h.symm ex
                  · exact h
                have := ihl hil
                rw [listed_ne (fun h => ex h.symm)]
                omega
          exact h2 _ (List.mem_range.2 hlt)
        omega
      · have := hv i o v (by omega) ho hvi w1 hw1
        unfold Oper.quietAt at this ⊢
        rw [hex]
        exact this
end Tail

/-- a region that draws, with a last operation that may write: the others are walked in the text's order, over the class C of worlds; then the last one is met in whatever world of C. -/
theorem wp_region_tail {P : Program} {id : Nat} {Q : Exit → Act → World → Prop} {a : Act} {w : World} {l : List Oper} (n : Nat) (C : World → Prop) (hm : P.follows .mixedOrders = true) (hB : (Tail.okB l.toArray && decide (n + 1 = l.length)) = true) (hC : C w.drew)
    (h : wpQuiet P l.toArray C (fun a' => ∀ w', C w' → wpList P l.toArray Q (l.drop n) a' w') (l.take n) a) : (Code.region id l.toArray true).wp P Q a w := by
  simp only [Bool.and_eq_true, decide_eq_true_eq] at hB
  obtain ⟨hd, hn⟩ := hB
  have hoz : l[n]? = some l[n] := List.getElem?_eq_getElem (by omega)
  have hg : ∀ o ∈ l.take n, o.guard = none := by
    intro o ho
    obtain ⟨i, hi⟩ := List.mem_iff_getElem?.1 (List.mem_of_mem_take ho)
    exact (Tail.ok_at hd (i := i) (o := o) (by simpa using hi)).guard
  obtain ⟨vs, e, h3, h4⟩ := Tail.vals (l.take n) a hg h
  have hlen : (l.take n).length = n := by simp; omega
  have htk : ∀ i, i < n → (l.take n)[i]? = l[i]? := fun i hi => by rw [List.getElem?_take, if_pos hi]
  have hval : ∀ (i : Nat) (o : Oper) (v : Value) (s : Nat), i < n → l[i]? = some o → vs[i]? = some v → o.dst = some s → s < a.tmps.size → (Tail.putAll (l.take n) vs a).tmps[s]? = some v := by
    intro i o v s hi ho hv hds hs
    refine Tail.putAll_val _ _ _ i o v s (by rw [htk i hi]; exact ho) hv hds hs ?_
    intro j oj hj hdj
    have hjn : j < n := by have := (List.getElem?_eq_some_iff.1 hj).1; omega
    rw [htk j hjn] at hj
    have h1 := List.all_eq_true.1 (Tail.ok_at hd (i := i) (o := o) (by simpa using ho)).apart j (List.mem_range.2 (by simp; omega))
    have hj' : (l.toArray)[j]? = some oj := by simpa using hj
    simp only [hj', hdj, hds, decide_true, Bool.not_true, Bool.or_false, Option.isNone_some, decide_eq_true_eq] at h1
    exact h1
  refine wp_region_any hm (Tail.any_tail (C := C) (aF := Tail.putAll (l.take n) vs a) (vs := vs) (z := l[n]) hd (by simp [← hn]) (by simp; omega) ?_ ?_ ?_ _ _ _ _ (by simp) ⟨(Tail.putAll_defers _ _ _).symm, (Tail.putAll_size _ _ _).symm, fun s => ?_, fun j oj hj hoj hl => ?_⟩ ?_ ?_ hC)
  · intro i o v s hi ho hv hds hs
    rw [Tail.putAll_size] at hs
    exact hval i o v s (by simp at hi; omega) (by simpa using ho) hv hds hs
  · intro i o v hi ho hv w' hw'
    have hin : i < n := by simp at hi; omega
    have ho' : l[i]? = some o := by simpa using ho
    have hq := h3 i o v (by rw [htk i hin]; exact ho') hv w' hw'
    unfold Oper.quietAt at hq ⊢
    have hd' := Tail.ok_at hd ho
    have hex : execOp (Tail.putAll (l.take n) vs a).eval o = execOp (Tail.putAll ((l.take n).take i) (vs.take i) a).eval o := by
      refine execOp_congr o (Tail.notDS_select hd'.plain) fun x hx => ?_
      cases x with
      | tmp s =>
        have hs := Array.all_eq_true'.1 hd'.sees _ hx
        simp only [Act.eval, Array.getD_eq_getD_getElem?]
        congr 1
        have hsplit : Tail.putAll (l.take n) vs a = Tail.putAll ((l.take n).drop i) (vs.drop i) (Tail.putAll ((l.take n).take i) (vs.take i) a) := by
          rw [← Tail.putAll_append _ _ _ _ _ (by simp; omega), List.take_append_drop, List.take_append_drop]
        rw [hsplit]
        refine Tail.putAll_other _ _ _ s ?_
        intro o2 ho2 hd2
        obtain ⟨j, hj⟩ := List.mem_iff_getElem?.1 ho2
        rw [List.getElem?_drop] at hj
        have hjn : i + j < n := by have := (List.getElem?_eq_some_iff.1 hj).1; omega
        rw [htk _ hjn] at hj
        have hj' : (l.toArray)[i + j]? = some o2 := by simpa using hj
        have := List.all_eq_true.1 hs (i + j) (List.mem_range.2 (by simp; omega))
        simp only [hj', hd2, decide_true, Bool.not_true, Bool.false_or] at this
        obtain ⟨e, he, hb, e2⟩ := Tail.bindB_true this
        have hb' := Array.all_eq_true'.1 hd'.back e he
        simp only [hb, Bool.not_true, Bool.false_or, decide_eq_true_eq] at hb'
        omega
      | _ => rfl
    rw [hex]
    exact hq
  · intro w' hw'
    have := h4 w' hw'
    have hdrop : l.drop n = [l[n]] := by
      rw [List.drop_eq_getElem_cons (by omega), List.drop_eq_nil_of_le (by omega)]
    rw [hdrop] at this
    have hgz := (Tail.ok_at hd (i := n) (o := l[n]) (by simp)).guard
    simp only [wpList, Region.wanted, hgz] at this
    simpa using this
  · by_cases hex : ∃ (j : Nat) (oj : Oper), j < n ∧ l[j]? = some oj ∧ oj.dst = some s
    · obtain ⟨j, oj, hj, hoj, hdj⟩ := hex
      refine .inr ⟨j, oj, by simp; omega, by simpa using hoj, hdj, ?_⟩
      simp [Array.getD_eq_getD_getElem?, show j < l.length by omega]
    · left
      rw [Tail.putAll_other]
      intro o ho hds
      obtain ⟨j, hj⟩ := List.mem_iff_getElem?.1 ho
      have hjn : j < n := by have := (List.getElem?_eq_some_iff.1 hj).1; omega
      rw [htk j hjn] at hj
      exact hex ⟨j, o, hjn, hj, hds⟩
  · have : j < l.length := by simp at hj; omega
    simp [Array.getD_eq_getD_getElem?, this] at hl
  · exact Nat.le_trans (List.countP_le_length) (by simp)
  · simp [Array.getD_eq_getD_getElem?, show l.length - 1 < l.length by omega]
end Go.Proofs.YthjkgbcomjiejaaGreatDoor
