/-
  A region that draws its order, in a round of a range over a function: each operation has one value, whatever the order; memory stays in a class of worlds till the last operation, which comes behind all others. It names no function of the program.
-/
import Derived.OrdersIn
import Derived.TacticsIn
namespace Go.Proofs.YthjkgbcomjiejabGreatDoor
open Go
set_option linter.unusedVariables false
variable {F : Fence} {n : Nat} {P : Program} {ops : Array Oper}

def notDS : Op → Bool
  | .defer _ => false
  | .select _ _ => false
  | _ => true
theorem notDS_defer {o : Op} (h : notDS o = true) : ∀ c, o ≠ .defer c := by intro c e; subst e; cases h
theorem notDS_select {o : Op} (h : notDS o = true) : ∀ cs b, o ≠ .select cs b := by intro cs b e; subst e; cases h
def bindB (o : Oper) (j : Nat) : Bool := o.after.any fun e => Region.binds .any e && decide (e.on = j)
def seesB (ops : Array Oper) (o : Oper) (x : Operand) : Bool :=
  match x with
  | .tmp s => (List.range ops.size).all fun j => match ops[j]? with
    | some oj => !decide (oj.dst = some s) || bindB o j
    | none => true
  | _ => true
def apartB (ops : Array Oper) (i : Nat) (o : Oper) : Bool :=
  (List.range ops.size).all fun j => decide (j = i) || (match ops[j]? with
    | some oj => oj.dst.isNone || !decide (oj.dst = o.dst)
    | none => true)
structure DetAt (ops : Array Oper) (i : Nat) (o : Oper) : Prop where
  guard : o.guard = none
  plain : notDS o.op = true
  back : (o.after.all fun e => !Region.binds .any e || decide (e.on < i)) = true
  sees : (o.op.operands.all (seesB ops o)) = true
  apart : apartB ops i o = true
  last : (!decide (i + 1 = ops.size) || (List.range i).all (bindB o)) = true
def detB (ops : Array Oper) : Bool := (List.range ops.size).all fun i => match ops[i]? with
  | some o => o.guard.isNone && (notDS o.op && ((o.after.all fun e => !Region.binds .any e || decide (e.on < i)) && (o.op.operands.all (seesB ops o) && (apartB ops i o && (!decide (i + 1 = ops.size) || (List.range i).all (bindB o))))))
  | none => true
theorem det_at (h : detB ops = true) {i : Nat} {o : Oper} (ho : ops[i]? = some o) : DetAt ops i o := by
  have hlt : i < ops.size := (Array.getElem?_eq_some_iff.1 ho).1
  have h1 := List.all_eq_true.1 h i (List.mem_range.2 hlt)
  simp only [ho, Bool.and_eq_true, Option.isNone_iff_eq_none] at h1
  exact ⟨h1.1, h1.2.1, h1.2.2.1, h1.2.2.2.1, h1.2.2.2.2.1, h1.2.2.2.2.2⟩
theorem bindB_true {o : Oper} {j : Nat} (h : bindB o j = true) : ∃ e ∈ o.after, Region.binds .any e = true ∧ e.on = j := by
  obtain ⟨e, he, hb⟩ := Array.any_eq_true'.1 h
  simp only [Bool.and_eq_true, decide_eq_true_eq] at hb
  exact ⟨e, he, hb.1, hb.2⟩

theorem cnt_drop (p : Nat → Bool) (n i : Nat) (hi : i < n) (hp : p i = true) : ((List.range n).countP fun j => p j && j != i) + 1 = (List.range n).countP p := by
  induction n with
  | zero => omega
  | succ n ih =>
    rw [List.range_succ, List.countP_append, List.countP_append]
    by_cases e : i = n
    · subst e
      have h1 : (List.range i).countP (fun j => p j && j != i) = (List.range i).countP p := by
        apply List.countP_congr
        intro j hj
        have := List.mem_range.1 hj
        simp; omega
      rw [h1]
      simp [hp]
    · have := ih (by omega)
      have h2 : ([n].countP fun j => p j && j != i) = [n].countP p := by
        have : n ≠ i := fun h => e h.symm
        simp [this]
      omega

def cntU (ops : Array Oper) (listed : Array Bool) : Nat := (List.range ops.size).countP fun j => !listed.getD j true
theorem listed_ne {listed : Array Bool} {i j : Nat} (h : i ≠ j) (d : Bool) : (listed.setIfInBounds i true).getD j d = listed.getD j d := by
  simp only [Array.getD_eq_getD_getElem?, Array.getElem?_setIfInBounds_ne h]
theorem listed_eq {listed : Array Bool} (i : Nat) : (listed.setIfInBounds i true).getD i true = true := by
  simp only [Array.getD_eq_getD_getElem?]
  by_cases h : i < listed.size
  · simp [h]
  · rw [Array.getElem?_eq_none (by simp; omega)]; rfl
theorem listed_in {listed : Array Bool} {j : Nat} (h : listed.getD j false = true) : listed.getD j true = true := by
  simp only [Array.getD_eq_getD_getElem?] at *
  cases e : listed[j]? <;> simp_all
theorem listed_out {listed : Array Bool} {j : Nat} (hj : j < listed.size) (h : listed.getD j true = true) : listed.getD j false = true := by
  simp only [Array.getD_eq_getD_getElem?] at *
  rw [Array.getElem?_eq_getElem hj] at *
  exact h
theorem cntU_drop {listed : Array Bool} {i : Nat} (hi : i < ops.size) (h : listed.getD i true = false) : cntU ops (listed.setIfInBounds i true) + 1 = cntU ops listed := by
  unfold cntU
  rw [← cnt_drop (fun j => !listed.getD j true) ops.size i hi (by simp [h])]
  congr 1
  apply List.countP_congr
  intro j _
  by_cases e : j = i
  · subst e; rw [listed_eq]; simp
  · rw [listed_ne (fun h => e h.symm)]; simp [e]
theorem all_of_nil (hd : detB ops = true) {listed : Array Bool} (hs : listed.size = ops.size) (h : Region.ready .any ops listed = []) (j : Nat) : j < ops.size → listed.getD j true = true := by
  induction j using Nat.strongRecOn with
  | _ j ih =>
    intro hj
    cases hl : listed.getD j true
    · exfalso
      have ho : ops[j]? = some ops[j] := Array.getElem?_eq_getElem hj
      have hd' := det_at hd ho
      have : j ∈ Region.ready .any ops listed := mem_ready.2 ⟨hl, _, ho, fun e he hb => by
        have hb' := Array.all_eq_true'.1 hd'.back e he
        simp only [hb, Bool.not_true, Bool.false_or, decide_eq_true_eq] at hb'
        exact listed_out (by omega) (ih e.on hb' (by omega))⟩
      rw [h] at this
      cases this
    · rfl

/-- one operation ends in value v and a world of the class. -/
def Gv (F : Fence) (n : Nat) (P : Program) (C : World → Prop) (v : Value) : Result Next → Prop
  | .ok (.value u) w' => u = v ∧ C w'
  | .ok .skip w' => v = undef ∧ C w'
  | .ok (.enter f args) w' => (F.depth.isSome = true → 1 ≤ n) ∧ CallsIn F (n - 1) P f args w' (fun e w'' => e = .returned v ∧ C w'')
  | _ => False
theorem Gv.upon {C : World → Prop} {v : Value} {r : Result Next} (h : Gv F n P C v r) {o : Oper} {a : Act} {next : Act → World → Prop} {Q : Exit → Act → World → Prop} (hn : ∀ w', C w' → next (a.put o.dst v) w') : o.uponIn F n P a next Q r := by
  cases r with
  | ok x w' =>
    cases x <;> simp only [Gv] at h <;> simp only [Oper.uponIn]
    case value u => obtain ⟨rfl, hc⟩ := h; exact hn _ hc
    case skip => obtain ⟨rfl, hc⟩ := h; exact hn _ hc
    case enter f args => exact ⟨h.1, h.2.mono fun e w'' ⟨he, hc⟩ => by subst he; exact hn _ hc⟩
  | halt x w' => exact h.elim

def putAll : List Oper → List Value → Act → Act
  | o :: os, v :: vs, a => putAll os vs (a.put o.dst v)
  | _, _, a => a

/-- the frame in which all values stand. -/
structure Full (ops : Array Oper) (vs : Array Value) (a aF : Act) : Prop where
  defers : aF.defers = a.defers
  size : aF.tmps.size = a.tmps.size
  slot : ∀ s : Nat, a.tmps[s]? = aF.tmps[s]? ∨ ∃ (j : Nat) (oj : Oper), ops[j]? = some oj ∧ oj.dst = some s
  val : ∀ (i : Nat) (o : Oper) (v : Value) (s : Nat), ops[i]? = some o → vs[i]? = some v → o.dst = some s → s < aF.tmps.size → aF.tmps[s]? = some v

structure DInv (ops : Array Oper) (aF : Act) (listed : Array Bool) (a' : Act) : Prop where
  defers : a'.defers = aF.defers
  size : a'.tmps.size = aF.tmps.size
  slot : ∀ s : Nat, a'.tmps[s]? = aF.tmps[s]? ∨ ∃ (j : Nat) (oj : Oper), ops[j]? = some oj ∧ oj.dst = some s ∧ listed.getD j true = false

theorem DInv.step {vs : Array Value} {a aF a' : Act} {listed : Array Bool} (hf : Full ops vs a aF) (h : DInv ops aF listed a') {i : Nat} {o : Oper} {v : Value} (ho : ops[i]? = some o) (hv : vs[i]? = some v) : DInv ops aF (listed.setIfInBounds i true) (a'.put o.dst v) := by
  have keep : ∀ (s j : Nat) (oj : Oper), o.dst ≠ some s → ops[j]? = some oj → oj.dst = some s → listed.getD j true = false → (listed.setIfInBounds i true).getD j true = false := by
    intro s j oj hne hj hdj hl
    rw [listed_ne (fun e => hne (by subst e; rw [ho] at hj; injection hj with hj; rw [hj]; exact hdj))]
    exact hl
  cases hd : o.dst with
  | none =>
    refine ⟨h.defers, h.size, fun s => ?_⟩
    rcases h.slot s with e | ⟨j, oj, hj, hdj, hl⟩
    · exact .inl e
    · exact .inr ⟨j, oj, hj, hdj, keep s j oj (by rw [hd]; simp) hj hdj hl⟩
  | some d =>
    refine ⟨h.defers, by simp only [Act.put, Array.size_setIfInBounds]; exact h.size, fun s => ?_⟩
    by_cases e : d = s
    · subst e
      left
      by_cases hlt : d < aF.tmps.size
      · rw [hf.val i o v d ho hv hd hlt]
        simp only [Act.put, Array.getElem?_setIfInBounds_self]
        rw [if_pos (by rw [h.size]; exact hlt)]
      · have hlt' : aF.tmps.size ≤ d := Nat.le_of_not_lt hlt
        rw [Array.getElem?_eq_none (by simp only [Act.put, Array.size_setIfInBounds]; rw [h.size]; exact hlt'), Array.getElem?_eq_none hlt']
    · have e1 : (a'.put (some d) v).tmps[s]? = a'.tmps[s]? := by simp only [Act.put]; exact Array.getElem?_setIfInBounds_ne e
      rw [e1]
      rcases h.slot s with e2 | ⟨j, oj, hj, hdj, hl⟩
      · exact .inl e2
      · exact .inr ⟨j, oj, hj, hdj, keep s j oj (by rw [hd]; simpa using e) hj hdj hl⟩
theorem DInv.done {aF a' : Act} {listed : Array Bool} (h : DInv ops aF listed a') (hall : ∀ j, j < ops.size → listed.getD j true = true) : a' = aF := by
  obtain ⟨h1, h2, h3⟩ := h
  cases a'; cases aF
  simp only at h1 h2 h3
  subst h1
  congr
  apply Array.ext_getElem?
  intro s
  rcases h3 s with e | ⟨j, oj, hj, _, hl⟩
  · exact e
  · rw [hall j (Array.getElem?_eq_some_iff.1 hj).1] at hl; cases hl
theorem DInv.exec (hd : detB ops = true) {aF a' : Act} {listed : Array Bool} (h : DInv ops aF listed a') {i : Nat} {o : Oper} (ho : ops[i]? = some o) (hr : ∀ e ∈ o.after, Region.binds .any e = true → listed.getD e.on false = true) : execOp a'.eval o = execOp aF.eval o := by
  have hd' := det_at hd ho
  refine execOp_congr o (notDS_select hd'.plain) fun x hx => ?_
  cases x with
  | tmp s =>
    have hs := Array.all_eq_true'.1 hd'.sees _ hx
    simp only [Act.eval, Array.getD_eq_getD_getElem?]
    rcases h.slot s with e | ⟨j, oj, hj, hdj, hl⟩
    · rw [e]
    · exfalso
      have := List.all_eq_true.1 hs j (List.mem_range.2 (Array.getElem?_eq_some_iff.1 hj).1)
      simp only [hj, hdj, decide_true, Bool.not_true, Bool.false_or] at this
      obtain ⟨e, he, hb, rfl⟩ := bindB_true this
      rw [listed_in (hr e he hb)] at hl
      cases hl
  | _ => rfl

theorem any_det {l : Nat} {vs : Array Value} {a aF : Act} {C C2 : World → Prop} {Q : Exit → Act → World → Prop} (hfn : ∀ f, F.fn f) (hd : detB ops = true) (hsz : vs.size = ops.size) (h1 : 1 ≤ ops.size) (hf : Full ops vs a aF)
    (hv : ∀ (i : Nat) (o : Oper) (v : Value), i + 1 < ops.size → ops[i]? = some o → vs[i]? = some v → ∀ w', C w' → Gv F n P C v ((execOp aF.eval o).run P w'))
    (hlast : ∀ (o : Oper) (v : Value), ops[ops.size - 1]? = some o → vs[ops.size - 1]? = some v → ∀ w', C w' → Gv F n P C2 v ((execOp aF.eval o).run P w'))
    (hQ : ∀ w', C2 w' → Q .normal aF w') :
    ∀ (fuel : Nat) (listed : Array Bool) (a' : Act) (w' : World), listed.size = ops.size → DInv ops aF listed a' → cntU ops listed ≤ fuel →
      ((listed.getD (ops.size - 1) true = false ∧ C w') ∨ ((∀ j, j < ops.size → listed.getD j true = true) ∧ C2 w')) → wpAnyIn (F.inRound l) n P .any ops Q fuel listed a' w' := by
  intro fuel
  induction fuel with
  | zero =>
    intro listed a' w' hs hi hc hw
    have hall : ∀ j, j < ops.size → listed.getD j true = true := by
      intro j hj
      have := List.countP_eq_zero.1 (Nat.le_zero.1 hc) j (List.mem_range.2 hj)
      simpa using this
    rcases hw with ⟨h, _⟩ | ⟨_, h2⟩
    · rw [hall _ (by omega)] at h; cases h
    · refine ⟨?_, by rw [hi.done hall]; exact hQ _ h2⟩
      apply List.eq_nil_iff_forall_not_mem.2
      intro j hj
      obtain ⟨hl, o, ho, _⟩ := mem_ready.1 hj
      rw [hall j (Array.getElem?_eq_some_iff.1 ho).1] at hl; cases hl
  | succ fuel ih =>
    intro listed a' w' hs hi hc hw
    refine ⟨fun hnil => ?_, fun i hir => ?_⟩
    · have hall := all_of_nil hd hs hnil
      rcases hw with ⟨h, _⟩ | ⟨_, h2⟩
      · rw [hall _ (by omega)] at h; cases h
      · rw [hi.done (fun j hj => hall j hj)]; exact hQ _ h2
    · obtain ⟨hl, o, ho, hr⟩ := mem_ready.1 hir
      have hlt : i < ops.size := (Array.getElem?_eq_some_iff.1 ho).1
      have hd' := det_at hd ho
      obtain ⟨v, hvi⟩ : ∃ v, vs[i]? = some v := ⟨_, Array.getElem?_eq_getElem (by omega)⟩
      rcases hw with ⟨hm, hC⟩ | ⟨hall, _⟩
      · have hex := hi.exec hd ho hr
        have hcnt := cntU_drop (ops := ops) hlt hl
        unfold wpOpIn
        simp only [ho]
        rw [if_pos (by simp [Region.wanted, hd'.guard])]
        refine ⟨fun f _ => hfn f, ?_⟩
        rw [show (F.inRound l).round = some l from rfl, Oper.semAt_some l _ o (notDS_defer hd'.plain), hex]
        by_cases e : i + 1 = ops.size
        · have ei : i = ops.size - 1 := by omega
          have hg := hlast o v (by rw [← ei]; exact ho) (by rw [← ei]; exact hvi) w' hC
          refine Gv.upon (F := F.inRound l) hg fun w2 hC2 => ih _ _ _ (by simp [hs]) (hi.step hf ho hvi) (by omega) (.inr ⟨fun j hj => ?_, hC2⟩)
          by_cases ej : i = j
          · subst ej; exact listed_eq _
          · rw [listed_ne ej]
            have hb := hd'.last
            simp only [e, decide_true, Bool.not_true, Bool.false_or] at hb
            obtain ⟨ed, he, hbb, rfl⟩ := bindB_true (List.all_eq_true.1 hb j (List.mem_range.2 (by omega)))
            exact listed_in (hr ed he hbb)
        · have hg := hv i o v (by omega) ho hvi w' hC
          refine Gv.upon (F := F.inRound l) hg fun w2 hC2 => ih _ _ _ (by simp [hs]) (hi.step hf ho hvi) (by omega) (.inl ⟨?_, hC2⟩)
          rw [listed_ne (by omega)]; exact hm
      · rw [hall i hlt] at hl; cases hl
theorem putAll_defers (os : List Oper) (vs : List Value) (a : Act) : (putAll os vs a).defers = a.defers := by
  induction os generalizing vs a with
  | nil => rfl
  | cons o os ih =>
    cases vs with
    | nil => rfl
    | cons v vs => rw [putAll, ih]; cases o.dst <;> rfl
theorem putAll_size (os : List Oper) (vs : List Value) (a : Act) : (putAll os vs a).tmps.size = a.tmps.size := by
  induction os generalizing vs a with
  | nil => rfl
  | cons o os ih =>
    cases vs with
    | nil => rfl
    | cons v vs => rw [putAll, ih]; cases o.dst <;> simp [Act.put]
theorem putAll_other (os : List Oper) (vs : List Value) (a : Act) (s : Nat) (h : ∀ o ∈ os, o.dst ≠ some s) : (putAll os vs a).tmps[s]? = a.tmps[s]? := by
  induction os generalizing vs a with
  | nil => rfl
  | cons o os ih =>
    cases vs with
    | nil => rfl
    | cons v vs =>
      rw [putAll, ih _ _ (fun o' ho' => h o' (List.mem_cons_of_mem _ ho'))]
      have := h o (List.mem_cons_self)
      cases hd : o.dst with
      | none => rfl
      | some d => simp only [Act.put]; exact Array.getElem?_setIfInBounds_ne (fun e => this (by rw [hd, e]))
theorem putAll_val (os : List Oper) (vs : List Value) (a : Act) (i : Nat) (o : Oper) (v : Value) (s : Nat) (ho : os[i]? = some o) (hv : vs[i]? = some v) (hd : o.dst = some s) (hs : s < a.tmps.size)
    (hap : ∀ j oj, os[j]? = some oj → oj.dst = some s → j = i) : (putAll os vs a).tmps[s]? = some v := by
  induction os generalizing vs a i with
  | nil => simp at ho
  | cons o' os ih =>
    cases vs with
    | nil => simp at hv
    | cons v' vs =>
      cases i with
      | zero =>
        simp at ho hv
        subst ho hv
        rw [putAll, putAll_other]
        · rw [hd]; simp only [Act.put]; rw [Array.getElem?_setIfInBounds_self, if_pos hs]
        · intro o2 h2 hd2
          obtain ⟨j, hj⟩ := List.mem_iff_getElem?.1 h2
          have := hap (j + 1) o2 (by simpa using hj) hd2
          omega
      | succ i =>
        rw [putAll]
        refine ih vs _ i (by simpa using ho) (by simpa using hv) (by cases o'.dst <;> simpa [Act.put] using hs) ?_
        intro j oj hj hdj
        have := hap (j + 1) oj (by simpa using hj) hdj
        omega
theorem full_putAll (hd : detB ops = true) (vs : Array Value) (a : Act) : Full ops vs a (putAll ops.toList vs.toList a) := by
  refine ⟨putAll_defers _ _ _, putAll_size _ _ _, fun s => ?_, fun i o v s ho hv hds hs => ?_⟩
  · by_cases h : ∃ (j : Nat) (oj : Oper), ops[j]? = some oj ∧ oj.dst = some s
    · exact .inr h
    · left
      rw [putAll_other]
      intro o ho e
      obtain ⟨j, hj⟩ := List.mem_iff_getElem?.1 ho
      exact h ⟨j, o, by simpa using hj, e⟩
  · rw [putAll_size] at hs
    refine putAll_val _ _ _ i o v s (by simpa using ho) (by simpa using hv) hds hs ?_
    intro j oj hj hdj
    have ho2 : ops[j]? = some oj := by simpa using hj
    have h1 := List.all_eq_true.1 (det_at hd ho).apart j (List.mem_range.2 (Array.getElem?_eq_some_iff.1 ho2).1)
    simp only [ho2, hdj, hds, decide_true, Bool.not_true, Bool.or_false, Option.isNone_some, decide_eq_true_eq] at h1
    exact h1

theorem wpIn_region_det {l id : Nat} {vs : Array Value} {a : Act} {w : World} {Q : Exit → Act → World → Prop} (C C2 : World → Prop) (aF : Act) (hfn : ∀ f, F.fn f) (hm : P.follows .mixedOrders = true) (hd : detB ops = true) (hsz : vs.size = ops.size) (h1 : 1 ≤ ops.size) (haF : putAll ops.toList vs.toList a = aF)
    (hC : C w.drew)
    (hv : ∀ (i : Nat) (o : Oper) (v : Value), i + 1 < ops.size → ops[i]? = some o → vs[i]? = some v → ∀ w', C w' → Gv F n P C v ((execOp aF.eval o).run P w'))
    (hlast : ∀ (o : Oper) (v : Value), ops[ops.size - 1]? = some o → vs[ops.size - 1]? = some v → ∀ w', C w' → Gv F n P C2 v ((execOp aF.eval o).run P w'))
    (hQ : ∀ w', C2 w' → Q .normal aF w') : (Code.region id ops true).wpIn (F.inRound l) n P Q a w := by
  have hf := full_putAll hd vs a
  rw [haF] at hf
  refine wpIn_region_any hm (any_det hfn hd hsz h1 hf hv hlast hQ _ _ _ _ (by simp) ⟨hf.defers.symm, hf.size.symm, fun s => ?_⟩ ?_ (.inl ⟨?_, hC⟩))
  · rcases hf.slot s with e | ⟨j, oj, hj, hdj⟩
    · exact .inl e
    · refine .inr ⟨j, oj, hj, hdj, ?_⟩
      have := (Array.getElem?_eq_some_iff.1 hj).1
      simp [Array.getD_eq_getD_getElem?, this]
  · exact Nat.le_trans (List.countP_le_length) (by simp)
  · simp [Array.getD_eq_getD_getElem?, show ops.size - 1 < ops.size by omega]
def GvL (F : Fence) (n : Nat) (P : Program) (aF : Act) (C C2 : World → Prop) : List Oper → List Value → Prop
  | [o], [v] => ∀ w', C w' → Gv F n P C2 v ((execOp aF.eval o).run P w')
  | o :: o2 :: os, v :: v2 :: vs => (∀ w', C w' → Gv F n P C v ((execOp aF.eval o).run P w')) ∧ GvL F n P aF C C2 (o2 :: os) (v2 :: vs)
  | _, _ => False
theorem GvL.spec {aF : Act} {C C2 : World → Prop} : ∀ {os : List Oper} {vs : List Value}, GvL F n P aF C C2 os vs →
    (vs.length = os.length ∧ 1 ≤ os.length) ∧ (∀ (i : Nat) (o : Oper) (v : Value), i + 1 < os.length → os[i]? = some o → vs[i]? = some v → ∀ w', C w' → Gv F n P C v ((execOp aF.eval o).run P w')) ∧
    (∀ (o : Oper) (v : Value), os[os.length - 1]? = some o → vs[os.length - 1]? = some v → ∀ w', C w' → Gv F n P C2 v ((execOp aF.eval o).run P w'))
  | [o], [v], h => by
    refine ⟨⟨rfl, Nat.le_refl _⟩, fun i o' v' hi => by simp at hi, fun o' v' ho hv => ?_⟩
    simp at ho hv
    subst ho hv
    exact h
  | o :: o2 :: os, v :: v2 :: vs, h => by
    obtain ⟨h1, h2⟩ := h
    obtain ⟨⟨e1, e2⟩, h3, h4⟩ := GvL.spec h2
    refine ⟨⟨by simp at e1 ⊢; exact e1, by simp⟩, fun i o' v' hi ho hv => ?_, fun o' v' ho hv => ?_⟩
    · cases i with
      | zero => simp at ho hv; subst ho hv; exact h1
      | succ i => exact h3 i o' v' (by simp at hi ⊢; omega) (by simpa using ho) (by simpa using hv)
    · exact h4 o' v' (by simpa using ho) (by simpa using hv)
  | [], _, h => by simp [GvL] at h
  | [_], [], h => by simp [GvL] at h
  | [_], _ :: _ :: _, h => by simp [GvL] at h
  | _ :: _ :: _, [], h => by simp [GvL] at h
  | _ :: _ :: _, [_], h => by simp [GvL] at h
theorem wpIn_region_dets {l id : Nat} {os : List Oper} {vs : List Value} {a : Act} {w : World} {Q : Exit → Act → World → Prop} (C C2 : World → Prop) (aF : Act) (hfn : ∀ f, F.fn f) (hm : P.follows .mixedOrders = true) (hd : detB os.toArray = true) (haF : putAll os vs a = aF)
    (hC : C w.drew) (hv : GvL F n P aF C C2 os vs) (hQ : ∀ w', C2 w' → Q .normal aF w') : (Code.region id os.toArray true).wpIn (F.inRound l) n P Q a w := by
  obtain ⟨⟨e1, e2⟩, h3, h4⟩ := hv.spec
  exact wpIn_region_det (vs := vs.toArray) C C2 aF hfn hm hd (by simpa using e1) (by simpa using e2) (by simpa using haF) hC (by simpa using h3) (by simpa using h4) hQ
end Go.Proofs.YthjkgbcomjiejabGreatDoor
