/-
  A region that draws its order, some of whose operations read alone (whatever else has been done), and whose others (calls that make memory, what is built of them, the last store) come one behind the other: one walk, the reading ones ahead, serves every order. It names no function of the program.
-/
import Derived.Test.YthjkgbcomjiejaaGreatDoorKk16
namespace Go.Proofs.YthjkgbcomjiejaaGreatDoor
open Go Go.RowKit
set_option linter.unusedVariables false

namespace Chain
open Tail
variable {P : Program} {ops : Array Oper} {S : World → Prop}
/-- each operand's slot is written by no operation that may come behind (the last one included). -/
def seesS (ops : Array Oper) (o : Oper) (x : Operand) : Bool :=
  match x with
  | .tmp s => (List.range ops.size).all fun j => match ops[j]? with
    | some oj => !decide (oj.dst = some s) || bindB o j
    | none => true
  | _ => true
def okS (ops : Array Oper) : Bool := okB ops && (List.range ops.size).all fun i => match ops[i]? with
  | some o => o.op.operands.all (seesS ops o)
  | none => true
theorem okS_ok (h : okS ops = true) : okB ops = true := (Bool.and_eq_true_iff.1 h).1
theorem okS_sees (h : okS ops = true) {i : Nat} {o : Oper} (ho : ops[i]? = some o) : (o.op.operands.all (seesS ops o)) = true := by
  have h1 := List.all_eq_true.1 (Bool.and_eq_true_iff.1 h).2 i (List.mem_range.2 (Array.getElem?_eq_some_iff.1 ho).1)
  simpa only [ho] using h1

def simpleB : Op → Bool
  | .move _ | .assign _ | .build .. | .load .. | .nilCheck _ | .binOp .. | .unOp .. | .convert .. | .slice .. | .fieldAddr .. | .field .. | .indexAddr .. | .index .. | .extract .. => true
  | .call c => match c.callee with | .builtin .min => true | .builtin .len => true | .builtin .cap => true | _ => false
  | _ => false
theorem run_v {P : Program} {s : Sem Value} {w w' : World} {n : Next} (h : Sem.run P (do pure (Next.value (← s))) w = .ok n w') : ∃ v, n = .value v := by
  rw [Sem.run_bind] at h
  cases hr : Sem.run P s w with
  | ok x w1 => rw [hr] at h; simp at h; exact ⟨x, h.1.symm⟩
  | halt x w1 => rw [hr] at h; simp [Result.andThen] at h
theorem simple_val {P : Program} {ρ : Operand → Value} {o : Oper} {w w' : World} {n : Next} (hs : simpleB o.op = true) (h : Sem.run P (execOp ρ o) w = .ok n w') : ∃ v, n = .value v := by
  unfold execOp at h
  cases ho : o.op <;> rw [ho] at hs h <;> first | (exfalso; simp [simpleB] at hs; done) | skip
  case move => simp at h; exact ⟨_, h.1.symm⟩
  case assign => simp at h; exact ⟨_, h.1.symm⟩
  case call c =>
    obtain ⟨cal, args, ats⟩ := c
    cases cal with
    | builtin b =>
      cases b <;> first | (exfalso; simp [simpleB] at hs; done) | skip
      all_goals exact run_v h
    | _ => simp [simpleB] at hs
  case nilCheck x =>
    simp only at h
    split at h
    · simp [runtimePanic] at h
    · simp [runtimePanic] at h
    · simp [runtimePanic] at h
    · split at h
      · simp [runtimePanic] at h
      · simp only [Sem.run_bind] at h
        cases hr : Sem.run P program w with
        | ok x1 w1 =>
          simp only [hr, Result.andThen_ok] at h
          generalize Sem.run P (nilAhead _ _ _ _) w1 = r at h
          cases r with
          | ok x2 w2 =>
            simp only [Result.andThen_ok] at h
            split at h
            · simp [unsupported, Result.andThen] at h
            · simp at h; exact ⟨_, h.1.symm⟩
          | halt x2 w2 => simp [Result.andThen] at h
        | halt x1 w1 => simp [hr, Result.andThen] at h
      · simp at h; exact ⟨_, h.1.symm⟩
    · simp at h; exact ⟨_, h.1.symm⟩
  all_goals exact run_v h

def pickM : List Bool → Nat → List Oper → List (Nat × Oper)
  | true :: m, k, o :: l => (k, o) :: pickM m (k + 1) l
  | false :: m, k, _ :: l => pickM m (k + 1) l
  | _, _, _ => []
theorem pick_mem : ∀ {m : List Bool} {k : Nat} {l : List Oper} {i : Nat} {o : Oper}, (i, o) ∈ pickM m k l ↔ k ≤ i ∧ l[i - k]? = some o ∧ m[i - k]? = some true
  | [], k, l, i, o => by simp [pickM]
  | b :: m, k, [], i, o => by cases b <;> simp [pickM]
  | true :: m, k, o' :: l, i, o => by
    simp only [pickM, List.mem_cons, Prod.mk.injEq, pick_mem]
    constructor
    · rintro (⟨rfl, rfl⟩ | ⟨h1, h2, h3⟩)
      · simp
      · have e : i - k = (i - (k + 1)) + 1 := by omega
        rw [e]; exact ⟨by omega, by simpa using h2, by simpa using h3⟩
    · rintro ⟨h1, h2, h3⟩
      by_cases e : i = k
      · subst e; simp at h2; exact .inl ⟨rfl, h2.symm⟩
      · have e2 : i - k = (i - (k + 1)) + 1 := by omega
        rw [e2] at h2 h3
        exact .inr ⟨by omega, by simpa using h2, by simpa using h3⟩
  | false :: m, k, o' :: l, i, o => by
    simp only [pickM, pick_mem]
    constructor
    · rintro ⟨h1, h2, h3⟩
      have e : i - k = (i - (k + 1)) + 1 := by omega
      rw [e]; exact ⟨by omega, by simpa using h2, by simpa using h3⟩
    · rintro ⟨h1, h2, h3⟩
      by_cases e : i = k
      · subst e; simp at h3
      · have e2 : i - k = (i - (k + 1)) + 1 := by omega
        rw [e2] at h2 h3
        exact ⟨by omega, by simpa using h2, by simpa using h3⟩
theorem pick_sorted : ∀ (m : List Bool) (k : Nat) (l : List Oper), (pickM m k l).Pairwise fun a b => a.1 < b.1
  | [], k, l => by simp [pickM]
  | b :: m, k, [] => by cases b <;> simp [pickM]
  | true :: m, k, o' :: l => by
    simp only [pickM]
    refine List.Pairwise.cons ?_ (pick_sorted m (k + 1) l)
    rintro ⟨i, o⟩ h
    have := (pick_mem.1 h).1
    simp; omega
  | false :: m, k, o' :: l => by simp only [pickM]; exact pick_sorted m (k + 1) l

/-- one operation of the chain. -/
def movUpon (P : Program) (G : Value → World → Prop) : Result Next → Prop
  | .ok (.value v) w2 => G v w2
  | .ok .skip w2 => G undef w2
  | .ok (.enter f args) w2 => Calls P f args w2 (fun e w3 => ∃ v, e = .returned v ∧ G v w3)
  | _ => False
def mov (P : Program) (o : Oper) (a : Act) (w : World) (G : Value → World → Prop) : Prop := movUpon P G ((execOp a.eval o).run P w)
theorem movUpon_mono {G G' : Value → World → Prop} (h : ∀ v w, G v w → G' v w) {r : Result Next} (hh : movUpon P G r) : movUpon P G' r := by
  cases r with
  | ok n w =>
    cases n <;> simp only [movUpon] at hh ⊢
    case value v => exact h _ _ hh
    case skip => exact h _ _ hh
    case enter f args => exact hh.mono fun e w3 ⟨v, he, hg⟩ => ⟨v, he, h _ _ hg⟩
  | halt x w => exact hh
theorem movUpon_upon {G : Value → World → Prop} {o : Oper} {a : Act} {K : Act → World → Prop} {Q : Exit → Act → World → Prop} (h : ∀ v w, G v w → K (a.put o.dst v) w) {r : Result Next} (hh : movUpon P G r) : o.upon P a K Q r := by
  cases r with
  | ok n w =>
    cases n <;> simp only [movUpon] at hh <;> simp only [Oper.upon]
    case value v => exact h _ _ hh
    case skip => exact h _ _ hh
    case enter f args => exact hh.mono fun e w3 ⟨v, he, hg⟩ => by subst he; exact h _ _ hg
  | halt x w => exact hh.elim

def chainW (P : Program) (S : World → Prop) (ops : Array Oper) (Q : Exit → Act → World → Prop) : List Oper → Act → World → Prop
  | [], a, w => Q .normal a w
  | [z], a, w => wpList P ops Q [z] a w
  | o :: o2 :: T, a, w => mov P o a w (fun v w2 => S w2 ∧ chainW P S ops Q (o2 :: T) (a.put o.dst v) w2)

/-- each of the chain waits for the one ahead of it; the last one is the region's last. -/
def chainB (ops : Array Oper) : List (Nat × Oper) → Bool
  | [] => false
  | [(i, _)] => decide (i + 1 = ops.size)
  | (i, _) :: (j, o) :: T => bindB o i && chainB ops ((j, o) :: T)
def headB (ops : Array Oper) (m : List Bool) : Bool := (List.range ops.size).all fun i => match ops[i]? with
  | some o => !(m.getD i false) || (simpleB o.op && (o.after.all fun e => !Region.binds .any e || m.getD e.on false))
  | none => true
theorem head_at {m : List Bool} (h : headB ops m = true) {i : Nat} {o : Oper} (ho : ops[i]? = some o) (hm : m.getD i false = true) : simpleB o.op = true ∧ ∀ e ∈ o.after, Region.binds .any e = true → m.getD e.on false = true := by
  have hlt : i < ops.size := (Array.getElem?_eq_some_iff.1 ho).1
  have h1 := List.all_eq_true.1 h i (List.mem_range.2 hlt)
  simp only [ho, hm, Bool.not_true, Bool.false_or, Bool.and_eq_true] at h1
  refine ⟨h1.1, fun e he hb => ?_⟩
  have := Array.all_eq_true'.1 h1.2 e he
  simpa [hb] using this

structure Inv (ops : Array Oper) (m : List Bool) (aF : Act) (listed : Array Bool) (a' : Act) : Prop where
  defers : a'.defers = aF.defers
  size : a'.tmps.size = aF.tmps.size
  slot : ∀ s : Nat, a'.tmps[s]? = aF.tmps[s]? ∨ ∃ (j : Nat) (oj : Oper), m.getD j false = true ∧ ops[j]? = some oj ∧ oj.dst = some s ∧ listed.getD j true = false
  shut : ∀ (j : Nat) (oj : Oper), j + 1 < ops.size → ops[j]? = some oj → listed.getD j true = true → ∀ e ∈ oj.after, Region.binds .any e = true → listed.getD e.on true = true

theorem Inv.done {m : List Bool} {aF a' : Act} {listed : Array Bool} (h : Inv ops m aF listed a') (hall : ∀ j, j + 1 < ops.size → listed.getD j true = true) (hlast : m.getD (ops.size - 1) false = false) : a' = aF := by
  obtain ⟨h1, h2, h3, _⟩ := h
  cases a'; cases aF
  simp only at h1 h2 h3
  subst h1
  congr
  apply Array.ext_getElem?
  intro s
  rcases h3 s with e | ⟨j, oj, hm, hj, _, hl⟩
  · exact e
  · have hjs := (Array.getElem?_eq_some_iff.1 hj).1
    by_cases e : j + 1 < ops.size
    · rw [hall j e] at hl; cases hl
    · have : j = ops.size - 1 := by omega
      subst this; rw [hlast] at hm; cases hm
theorem Inv.exec {m : List Bool} (hd : okS ops = true) {aF a' : Act} {listed : Array Bool} (h : Inv ops m aF listed a') {i : Nat} {o : Oper} (ho : ops[i]? = some o) (hr : ∀ e ∈ o.after, Region.binds .any e = true → listed.getD e.on false = true) : execOp a'.eval o = execOp aF.eval o := by
  have hd' := ok_at (okS_ok hd) ho
  refine execOp_congr o (notDS_select hd'.plain) fun x hx => ?_
  cases x with
  | tmp s =>
    have hs := Array.all_eq_true'.1 (okS_sees hd ho) _ hx
    simp only [Act.eval, Array.getD_eq_getD_getElem?]
    rcases h.slot s with e | ⟨j, oj, _, hj, hdj, hl⟩
    · rw [e]
    · exfalso
      have := List.all_eq_true.1 hs j (List.mem_range.2 (Array.getElem?_eq_some_iff.1 hj).1)
      simp only [hj, hdj, decide_true, Bool.not_true, Bool.false_or] at this
      obtain ⟨e, he, hb, rfl⟩ := bindB_true this
      rw [listed_in (hr e he hb)] at hl
      cases hl
  | _ => rfl
theorem shut_step {listed : Array Bool} (shut : ∀ (j : Nat) (oj : Oper), j + 1 < ops.size → ops[j]? = some oj → listed.getD j true = true → ∀ e ∈ oj.after, Region.binds .any e = true → listed.getD e.on true = true)
    {i : Nat} {o : Oper} (ho : ops[i]? = some o) (hr : ∀ e ∈ o.after, Region.binds .any e = true → listed.getD e.on false = true) :
    ∀ (j : Nat) (oj : Oper), j + 1 < ops.size → ops[j]? = some oj → (listed.setIfInBounds i true).getD j true = true → ∀ e ∈ oj.after, Region.binds .any e = true → (listed.setIfInBounds i true).getD e.on true = true := by
  intro j oj hj hoj hl e he hb
  by_cases e1 : i = e.on
  · rw [← e1]; exact listed_eq _
  · rw [listed_ne e1]
    by_cases e2 : i = j
    · subst e2
      rw [ho] at hoj
      injection hoj with hoj
      subst hoj
      exact listed_in (hr e he hb)
    · rw [listed_ne e2] at hl
      exact shut j oj hj hoj hl e he hb
/-- the frames after value v of operation i, which is one of the reading ones. -/
theorem Inv.head {m : List Bool} {aF a' : Act} {listed : Array Bool} (h : Inv ops m aF listed a') {i : Nat} {o : Oper} {v : Value} (ho : ops[i]? = some o) (hr : ∀ e ∈ o.after, Region.binds .any e = true → listed.getD e.on false = true)
    (hv : ∀ s, o.dst = some s → s < aF.tmps.size → aF.tmps[s]? = some v) : Inv ops m aF (listed.setIfInBounds i true) (a'.put o.dst v) := by
  have keep : ∀ (s j : Nat) (oj : Oper), o.dst ≠ some s → ops[j]? = some oj → oj.dst = some s → listed.getD j true = false → (listed.setIfInBounds i true).getD j true = false := by
    intro s j oj hne hj hdj hl
    rw [listed_ne (fun e => hne (by subst e; rw [ho] at hj; injection hj with hj; rw [hj]; exact hdj))]
    exact hl
  cases hds : o.dst with
  | none =>
    refine ⟨h.defers, h.size, fun s => ?_, shut_step h.shut ho hr⟩
    rcases h.slot s with e | ⟨j, oj, hj0, hj, hdj, hl⟩
    · exact .inl e
    · exact .inr ⟨j, oj, hj0, hj, hdj, keep s j oj (by rw [hds]; simp) hj hdj hl⟩
  | some d =>
    refine ⟨h.defers, by simp only [Act.put, Array.size_setIfInBounds]; exact h.size, fun s => ?_, shut_step h.shut ho hr⟩
    by_cases e : d = s
    · subst e
      left
      by_cases hlt : d < aF.tmps.size
      · rw [hv d hds hlt]
        simp only [Act.put, Array.getElem?_setIfInBounds_self]
        rw [if_pos (by rw [h.size]; exact hlt)]
      · have hlt' : aF.tmps.size ≤ d := Nat.le_of_not_lt hlt
        rw [Array.getElem?_eq_none (by simp only [Act.put, Array.size_setIfInBounds]; rw [h.size]; exact hlt'), Array.getElem?_eq_none hlt']
    · have e1 : (a'.put (some d) v).tmps[s]? = a'.tmps[s]? := by simp only [Act.put]; exact Array.getElem?_setIfInBounds_ne e
      rw [e1]
      rcases h.slot s with e2 | ⟨j, oj, hj0, hj, hdj, hl⟩
      · exact .inl e2
      · exact .inr ⟨j, oj, hj0, hj, hdj, keep s j oj (by rw [hds]; simpa using e) hj hdj hl⟩
/-- .. which is one of the chain. -/
theorem Inv.tail {m : List Bool} {aF a' : Act} {listed : Array Bool} (h : Inv ops m aF listed a') {i : Nat} {o : Oper} {v : Value} (ho : ops[i]? = some o) (hr : ∀ e ∈ o.after, Region.binds .any e = true → listed.getD e.on false = true)
    (hm : m.getD i false = false) : Inv ops m (aF.put o.dst v) (listed.setIfInBounds i true) (a'.put o.dst v) := by
  have keep : ∀ (j : Nat), m.getD j false = true → listed.getD j true = false → (listed.setIfInBounds i true).getD j true = false := by
    intro j hj hl
    rw [listed_ne (fun e => by subst e; rw [hm] at hj; cases hj)]
    exact hl
  cases hds : o.dst with
  | none =>
    refine ⟨h.defers, h.size, fun s => ?_, shut_step h.shut ho hr⟩
    rcases h.slot s with e | ⟨j, oj, hj0, hj, hdj, hl⟩
    · exact .inl e
    · exact .inr ⟨j, oj, hj0, hj, hdj, keep j hj0 hl⟩
  | some d =>
    refine ⟨h.defers, by simp only [Act.put, Array.size_setIfInBounds]; exact h.size, fun s => ?_, shut_step h.shut ho hr⟩
    by_cases e : d = s
    · subst e
      left
      simp only [Act.put, Array.getElem?_setIfInBounds_self, h.size]
    · have e1 : (a'.put (some d) v).tmps[s]? = a'.tmps[s]? := by simp only [Act.put]; exact Array.getElem?_setIfInBounds_ne e
      have e3 : (aF.put (some d) v).tmps[s]? = aF.tmps[s]? := by simp only [Act.put]; exact Array.getElem?_setIfInBounds_ne e
      rw [e1, e3]
      rcases h.slot s with e2 | ⟨j, oj, hj0, hj, hdj, hl⟩
      · exact .inl e2
      · exact .inr ⟨j, oj, hj0, hj, hdj, keep j hj0 hl⟩
theorem Inv.all {m : List Bool} (hd : okB ops = true) {aF a' : Act} {listed : Array Bool} (h : Inv ops m aF listed a') {z : Oper} (hz : ops[ops.size - 1]? = some z) (hr : ∀ e ∈ z.after, Region.binds .any e = true → listed.getD e.on true = true) :
    ∀ j, j + 1 < ops.size → listed.getD j true = true := by
  intro j hj
  suffices H : ∀ n j, ops.size - 1 - j ≤ n → j + 1 < ops.size → listed.getD j true = true from H _ j (Nat.le_refl _) hj
  intro n
  induction n with
  | zero => intro j h1 h2; omega
  | succ n ih =>
    intro j h1 h2
    have hoj : ops[j]? = some ops[j] := Array.getElem?_eq_getElem (by omega)
    obtain ⟨k, ok, hk, hok, hb⟩ := wait_true (ok_at hd hoj).wait h2
    have hks : k < ops.size := (Array.getElem?_eq_some_iff.1 hok).1
    obtain ⟨e, he, hbb, rfl⟩ := bindB_true hb
    by_cases hkl : k + 1 < ops.size
    · exact h.shut k ok hkl hok (ih k (by omega) hkl) e he hbb
    · have ek : k = ops.size - 1 := by omega
      subst ek
      rw [hz] at hok
      injection hok with hok
      subst hok
      exact hr e he hbb
theorem ready_ne (hd : okB ops = true) {listed : Array Bool} (hs : listed.size = ops.size) {k : Nat} (hk : k < ops.size) (hl0 : listed.getD k true = false) : Region.ready .any ops listed ≠ [] := by
  intro hnil
  have H : ∀ n j, j < n → j < ops.size → listed.getD j true = true := by
    intro n
    induction n with
    | zero => intro j h; omega
    | succ n ihn =>
      intro j hj hjs
      cases hl : listed.getD j true
      · exfalso
        have ho : ops[j]? = some ops[j] := Array.getElem?_eq_getElem hjs
        have : j ∈ Region.ready .any ops listed := mem_ready.2 ⟨hl, _, ho, fun e he hb => by
          have hb' := Array.all_eq_true'.1 (ok_at hd ho).back e he
          simp only [hb, Bool.not_true, Bool.false_or, decide_eq_true_eq] at hb'
          exact listed_out (by omega) (ihn e.on (by omega) (by omega))⟩
        rw [hnil] at this
        cases this
      · rfl
  rw [H ops.size k (by omega) hk] at hl0
  cases hl0
theorem cnt_lt {listed : Array Bool} {i : Nat} (hlt : i < ops.size) (hl : listed.getD i true = false) : ((List.range ops.size).countP fun j => !(listed.setIfInBounds i true).getD j true) < ((List.range ops.size).countP fun j => !listed.getD j true) := by
  have h1 : ∀ j, (!(listed.setIfInBounds i true).getD j true) = true → (!listed.getD j true) = true := by
    intro j hj
    by_cases ej : i = j
    · subst ej; rw [listed_eq] at hj; simp at hj
    · rw [listed_ne ej] at hj; exact hj
  have h2 : ∀ (l : List Nat), i ∈ l → l.countP (fun j => !(listed.setIfInBounds i true).getD j true) < l.countP (fun j => !listed.getD j true) := by
    intro l
    induction l with
    | nil => intro h; cases h
    | cons x l ihl =>
      intro hx
      have hle : l.countP (fun j => !(listed.setIfInBounds i true).getD j true) ≤ l.countP (fun j => !listed.getD j true) := List.countP_mono_left (fun j _ hj => h1 j hj)
      rw [List.countP_cons, List.countP_cons]
      by_cases ex : x = i
      · subst ex
        rw [listed_eq, hl]
        simp only [Bool.not_true, Bool.not_false, if_true, Bool.false_eq_true, if_false]
        omega
      · have hil : i ∈ l := by
          rcases List.mem_cons.1 hx with h | h
          · exact absurd h.symm ex
          · exact h
        have := ihl hil
        rw [listed_ne (fun h => ex h.symm)]
        omega
  exact h2 _ (List.mem_range.2 hlt)
theorem chain_head {i : Nat} {o : Oper} {T : List (Nat × Oper)} (h : chainB ops ((i, o) :: T) = true) : ∀ (j : Nat) (oj : Oper), (j, oj) ∈ T → ∃ k ok, (k, ok) ∈ (i, o) :: T ∧ bindB oj k = true := by
  induction T generalizing i o with
  | nil => intro j oj hj; cases hj
  | cons x T ih =>
    obtain ⟨i2, o2⟩ := x
    simp only [chainB, Bool.and_eq_true] at h
    intro j oj hj
    rcases List.mem_cons.1 hj with e | hj
    · injection e with e1 e2
      subst e1 e2
      exact ⟨i, o, List.mem_cons_self, h.1⟩
    · obtain ⟨k, ok, hk, hb⟩ := ih h.2 j oj hj
      exact ⟨k, ok, List.mem_cons_of_mem _ hk, hb⟩
theorem chain_last : ∀ {T : List (Nat × Oper)} {i : Nat} {o : Oper}, chainB ops [(i, o)] = true → i + 1 = ops.size := by
  intro T i o h
  simpa [chainB] using h

theorem any_chain {m : List Bool} {Q : Exit → Act → World → Prop} {U : Nat → Value} (hd : okS ops = true) (hh : headB ops m = true) (hlast : m.getD (ops.size - 1) false = false) :
    ∀ (fuel : Nat) (listed : Array Bool) (a' aF : Act) (w' : World) (T : List (Nat × Oper)), listed.size = ops.size → Inv ops m aF listed a' → ((List.range ops.size).countP fun j => !listed.getD j true) ≤ fuel →
      chainB ops T = true → (∀ i o, (i, o) ∈ T → ops[i]? = some o ∧ listed.getD i true = false ∧ m.getD i false = false) → (∀ i o, ops[i]? = some o → m.getD i false = false → listed.getD i true = false → (i, o) ∈ T) → T.Pairwise (fun a b => a.1 < b.1) →
      (∀ (i : Nat) (o : Oper), ops[i]? = some o → m.getD i false = true → ∀ w1, S w1 → (execOp aF.eval o).run P w1 = .ok (.value (U i)) w1) →
      (∀ (i : Nat) (o : Oper) (s : Nat), ops[i]? = some o → m.getD i false = true → o.dst = some s → s < aF.tmps.size → aF.tmps[s]? = some (U i)) →
      S w' → chainW P S ops Q (T.map (·.2)) aF w' → wpAny P .any ops Q fuel listed a' w' := by
  intro fuel
  induction fuel with
  | zero =>
    intro listed a' aF w' T hs hi hc hT hTm hTa hTs hq hval hS hW
    exfalso
    cases T with
    | nil => simp [chainB] at hT
    | cons x T =>
      obtain ⟨i, o⟩ := x
      obtain ⟨ho, hl, _⟩ := hTm i o List.mem_cons_self
      have := List.countP_eq_zero.1 (Nat.le_zero.1 hc) i (List.mem_range.2 (Array.getElem?_eq_some_iff.1 ho).1)
      simp [hl] at this
  | succ fuel ih =>
    intro listed a' aF w' T hs hi hc hT hTm hTa hTs hq hval hS hW
    obtain ⟨t, o0, T', rfl⟩ : ∃ t o0 T', T = (t, o0) :: T' := by
      cases T with
      | nil => simp [chainB] at hT
      | cons x T => exact ⟨x.1, x.2, T, rfl⟩
    obtain ⟨ho0, hl0, hm0⟩ := hTm t o0 List.mem_cons_self
    have ht : t < ops.size := (Array.getElem?_eq_some_iff.1 ho0).1
    refine ⟨fun hnil => absurd hnil (ready_ne (okS_ok hd) hs ht hl0), fun i hir => ?_⟩
    obtain ⟨hl, o, ho, hr⟩ := mem_ready.1 hir
    have hlt : i < ops.size := (Array.getElem?_eq_some_iff.1 ho).1
    have hd' := ok_at (okS_ok hd) ho
    have hex := hi.exec hd ho hr
    have hcnt := cnt_lt (ops := ops) hlt hl
    unfold wpOp
    simp only [ho]
    rw [if_pos (by simp [Region.wanted, hd'.guard])]
    cases hm : m.getD i false
    · -- one of the chain: it is the first that is left
      have hin := hTa i o ho hm hl
      have hit : i = t ∧ o = o0 := by
        rcases List.mem_cons.1 hin with e | hin
        · injection e with e1 e2; exact ⟨e1, e2⟩
        · exfalso
          obtain ⟨k, ok, hk, hb⟩ := chain_head hT i o hin
          obtain ⟨e, he, hbb, rfl⟩ := bindB_true hb
          have := hTm e.on ok hk
          rw [listed_in (hr e he hbb)] at this
          cases this.2.1
      obtain ⟨rfl, rfl⟩ := hit
      cases T' with
      | nil =>
        have hlastI := chain_last (T := []) hT
        have ei : i = ops.size - 1 := by omega
        have hz : ops[ops.size - 1]? = some o := by rw [← ei]; exact ho
        have hall := hi.all (okS_ok hd) hz (fun e he hb => listed_in (hr e he hb))
        have ha := hi.done hall hlast
        subst ha
        have hW' : wpList P ops Q [o] a' w' := hW
        simp only [wpList, Region.wanted, hd'.guard, if_true] at hW'
        rcases hW' with hW' | hW'
        · left
          refine Oper.wp_mono (fun a'' w'' hqq => ?_) hW'
          have hnil : Region.ready .any ops (listed.setIfInBounds i true) = [] := by
            apply List.eq_nil_iff_forall_not_mem.2
            intro j hj
            obtain ⟨hlj, oj, hoj, _⟩ := mem_ready.1 hj
            have hjs := (Array.getElem?_eq_some_iff.1 hoj).1
            by_cases ej : i = j
            · subst ej; rw [listed_eq] at hlj; cases hlj
            · rw [listed_ne ej, hall j (by omega)] at hlj; cases hlj
          cases fuel with
          | zero => exact ⟨hnil, hqq⟩
          | succ f => exact ⟨fun _ => hqq, fun k hk => by rw [hnil] at hk; cases hk⟩
        · exact .inr hW'
      | cons x T' =>
        left
        have hW' : mov P o aF w' (fun v w2 => S w2 ∧ chainW P S ops Q ((x :: T').map (·.2)) (aF.put o.dst v) w2) := hW
        unfold mov at hW'
        unfold Oper.wp
        rw [hex]
        refine movUpon_upon (fun v w2 hg => ?_) hW'
        refine ih _ _ (aF.put o.dst v) _ (x :: T') (by simp [hs]) (hi.tail ho hr hm) (by omega) ?_ ?_ ?_ (List.Pairwise.of_cons hTs) ?_ ?_ hg.1 hg.2
        · simp only [chainB, Bool.and_eq_true] at hT; exact hT.2
        · intro j oj hj
          obtain ⟨h1, h2, h3⟩ := hTm j oj (List.mem_cons_of_mem _ hj)
          have : i < j := (List.pairwise_cons.1 hTs).1 (j, oj) hj
          exact ⟨h1, by rw [listed_ne (by omega)]; exact h2, h3⟩
        · intro j oj h1 h2 h3
          by_cases e : i = j
          · subst e; rw [listed_eq] at h3; cases h3
          · rw [listed_ne e] at h3
            rcases List.mem_cons.1 (hTa j oj h1 h2 h3) with e2 | h4
            · injection e2 with e2; exact absurd e2.symm e
            · exact h4
        · intro j oj hoj hmj w1 hw1
          rw [← hq j oj hoj hmj w1 hw1]
          congr 1
          refine execOp_congr oj (notDS_select (ok_at (okS_ok hd) hoj).plain) fun y hy => ?_
          cases y with
          | tmp s =>
            simp only [Act.eval, Array.getD_eq_getD_getElem?]
            cases hds : o.dst with
            | none => rfl
            | some d =>
              by_cases ed : d = s
              · exfalso
                subst ed
                have hsees := Array.all_eq_true'.1 (okS_sees hd hoj) _ hy
                have := List.all_eq_true.1 hsees i (List.mem_range.2 hlt)
                simp only [ho, hds, decide_true, Bool.not_true, Bool.false_or] at this
                obtain ⟨e, he, hb, e2⟩ := bindB_true this
                have := (head_at hh hoj hmj).2 e he hb
                rw [e2, hm] at this
                cases this
              · congr 1
                simp only [Act.put]; exact Array.getElem?_setIfInBounds_ne ed
          | _ => rfl
        · intro j oj s hoj hmj hdj hsz
          have hne : o.dst ≠ some s := by
            intro e
            have h1 := List.all_eq_true.1 hd'.apart j (List.mem_range.2 (Array.getElem?_eq_some_iff.1 hoj).1)
            simp only [hoj, hdj, e, decide_true, Bool.not_true, Bool.or_false, Option.isNone_some, decide_eq_true_eq] at h1
            subst h1; rw [hm] at hmj; cases hmj
          have hs2 : s < aF.tmps.size := by
            revert hsz
            cases o.dst <;> simp [Act.put]
          rw [← hval j oj s hoj hmj hdj hs2]
          cases hds : o.dst with
          | none => rfl
          | some d => simp only [Act.put]; exact Array.getElem?_setIfInBounds_ne (fun e => hne (by rw [hds, e]))
    · -- one of the reading ones
      left
      unfold Oper.wp
      rw [hex, hq i o ho hm w' hS]
      show wpAny P .any ops Q fuel (listed.setIfInBounds i true) (a'.put o.dst (U i)) w'
      refine ih _ _ aF _ ((t, o0) :: T') (by simp [hs]) (hi.head ho hr (fun s hds hsz => hval i o s ho hm hds hsz)) (by omega) hT ?_ ?_ hTs hq hval hS hW
      · intro j oj hj
        obtain ⟨h1, h2, h3⟩ := hTm j oj hj
        exact ⟨h1, by rw [listed_ne (fun e => by subst e; rw [hm] at h3; cases h3)]; exact h2, h3⟩
      · intro j oj h1 h2 h3
        refine hTa j oj h1 h2 ?_
        rw [listed_ne (fun e => by subst e; rw [hm] at h2; cases h2)] at h3
        exact h3
/-- where the picked ones stand. -/
theorem pick_index {m : List Bool} {l : List Oper} {j : Nat} {o : Oper} (h : ((pickM m 0 l).map (·.2))[j]? = some o) : ∃ i, (pickM m 0 l)[j]? = some (i, o) ∧ l[i]? = some o ∧ m[i]? = some true := by
  rw [List.getElem?_map] at h
  cases hp : (pickM m 0 l)[j]? with
  | none => rw [hp] at h; cases h
  | some x =>
    rw [hp] at h
    obtain ⟨i, o'⟩ := x
    simp only [Option.map_some, Option.some.injEq] at h
    subst h
    have := pick_mem.1 (List.mem_of_getElem? hp)
    exact ⟨i, rfl, by simpa using this.2.1, by simpa using this.2.2⟩
end Chain

open Chain in
/-- a region that draws: 'm' says which operations read alone; they are walked first, over the class S of worlds; then the others, one behind the other. -/
theorem wp_region_chain {P : Program} {id : Nat} {Q : Exit → Act → World → Prop} {a : Act} {w : World} {l : List Oper} (m : List Bool) (S : World → Prop) (hm : P.follows .mixedOrders = true)
    (hB : (Chain.okS l.toArray && (headB l.toArray m && (chainB l.toArray (pickM (m.map (!·)) 0 l) && (decide (m.length = l.length) && !(m.getD (l.length - 1) false))))) = true) (hS : S w.drew)
    (h : wpQuiet P l.toArray S (fun a' => chainW P S l.toArray Q ((pickM (m.map (!·)) 0 l).map (·.2)) a' w.drew) ((pickM m 0 l).map (·.2)) a) : (Code.region id l.toArray true).wp P Q a w := by
  simp only [Bool.and_eq_true, decide_eq_true_eq, Bool.not_eq_true'] at hB
  obtain ⟨hd, hh, hc, hml, hlast⟩ := hB
  have hget : ∀ i, i < l.length → (m[i]? = some true ↔ m.getD i false = true) := by
    intro i hi
    rw [List.getD_eq_getElem?_getD, List.getElem?_eq_getElem (by omega)]
    simp
  have hgetN : ∀ i, i < l.length → ((m.map (!·))[i]? = some true ↔ m.getD i false = false) := by
    intro i hi
    rw [List.getD_eq_getElem?_getD, List.getElem?_map, List.getElem?_eq_getElem (by omega)]
    simp
  have hg : ∀ o ∈ (pickM m 0 l).map (·.2), o.guard = none := by
    intro o ho
    obtain ⟨⟨i, o'⟩, hi, rfl⟩ := List.mem_map.1 ho
    have := pick_mem.1 hi
    exact (Tail.ok_at (okS_ok hd) (i := i) (o := o') (by simpa using this.2.1)).guard
  obtain ⟨vs, e, h3, h4⟩ := Tail.vals _ a hg h
  have hlenH : ((pickM m 0 l).map (·.2)).length = (pickM m 0 l).length := by simp
  -- the value of place i
  have hU : ∃ U : Nat → Value, ∀ (j i : Nat) (o : Oper), (pickM m 0 l)[j]? = some (i, o) → vs[j]? = some (U i) := by
    refine ⟨fun i => vs.getD ((pickM m 0 l).findIdx (fun x => x.1 == i)) undef, fun j i o hj => ?_⟩
    have hjl : j < (pickM m 0 l).length := (List.getElem?_eq_some_iff.1 hj).1
    have hfi : (pickM m 0 l).findIdx (fun x => x.1 == i) = j := by
      have hs := pick_sorted m 0 l
      have hle : (pickM m 0 l).findIdx (fun x => x.1 == i) ≤ j := by
        rcases Nat.lt_or_ge j ((pickM m 0 l).findIdx (fun x => x.1 == i)) with hlt | hge
        · exfalso
          have := List.not_of_lt_findIdx hlt
          have e2 := (List.getElem?_eq_some_iff.1 hj).2
          rw [e2] at this
          simp at this
        · exact hge
      rcases Nat.lt_or_ge ((pickM m 0 l).findIdx (fun x => x.1 == i)) j with hlt | hge
      · exfalso
        have hlt2 : (pickM m 0 l).findIdx (fun x => x.1 == i) < (pickM m 0 l).length := by omega
        have h5 := List.findIdx_getElem (w := hlt2) (p := fun x : Nat × Oper => x.1 == i) (xs := pickM m 0 l)
        have h6 := List.pairwise_iff_getElem.1 hs _ _ hlt2 hjl hlt
        have e2 := (List.getElem?_eq_some_iff.1 hj).2
        rw [e2] at h6
        simp only [beq_iff_eq] at h5
        omega
      · omega
    simp only [hfi]
    rw [List.getD_eq_getElem?_getD, List.getElem?_eq_getElem (by omega)]
    rfl
  obtain ⟨U, hU⟩ := hU
  have hof : ∀ (i : Nat) (o : Oper), l[i]? = some o → m.getD i false = true → ∃ j : Nat, (pickM m 0 l)[j]? = some (i, o) := by
    intro i o ho hmi
    have hil : i < l.length := (List.getElem?_eq_some_iff.1 ho).1
    exact List.mem_iff_getElem?.1 (pick_mem.2 ⟨Nat.zero_le _, by simpa using ho, by simpa using (hget i hil).2 hmi⟩)
  have hidx : ∀ (j j2 i i2 : Nat) (o o2 : Oper), (pickM m 0 l)[j]? = some (i, o) → (pickM m 0 l)[j2]? = some (i2, o2) → j ≤ j2 → i ≤ i2 := by
    intro j j2 i i2 o o2 hj hj2 hle
    rcases Nat.lt_or_ge j j2 with hlt | hge
    · have h6 := List.pairwise_iff_getElem.1 (pick_sorted m 0 l) _ _ (List.getElem?_eq_some_iff.1 hj).1 (List.getElem?_eq_some_iff.1 hj2).1 hlt
      rw [(List.getElem?_eq_some_iff.1 hj).2, (List.getElem?_eq_some_iff.1 hj2).2] at h6
      exact Nat.le_of_lt h6
    · have : j = j2 := by omega
      subst this
      rw [hj] at hj2
      injection hj2 with hj2
      injection hj2 with hj2
      omega
  have hval : ∀ (i : Nat) (o : Oper) (s : Nat), l[i]? = some o → m.getD i false = true → o.dst = some s → s < a.tmps.size → (Tail.putAll ((pickM m 0 l).map (·.2)) vs a).tmps[s]? = some (U i) := by
    intro i o s ho hmi hds hs
    obtain ⟨j, hj⟩ := hof i o ho hmi
    refine Tail.putAll_val _ _ _ j o (U i) s (by rw [List.getElem?_map, hj]; rfl) (hU j i o hj) hds hs ?_
    intro j2 oj hj2 hdj
    obtain ⟨i2, hi2, hl2, _⟩ := pick_index hj2
    have h1 := List.all_eq_true.1 (Tail.ok_at (okS_ok hd) (i := i) (o := o) (by simpa using ho)).apart i2 (List.mem_range.2 (by have := (List.getElem?_eq_some_iff.1 hl2).1; simpa using this))
    have hl2' : (l.toArray)[i2]? = some oj := by simpa using hl2
    simp only [hl2', hdj, hds, decide_true, Bool.not_true, Bool.or_false, Option.isNone_some, decide_eq_true_eq] at h1
    subst h1
    have a1 := hidx j2 j i2 i2 _ _ hi2 hj
    rcases Nat.lt_trichotomy j j2 with hlt | heq | hgt
    · have h6 := List.pairwise_iff_getElem.1 (pick_sorted m 0 l) _ _ (List.getElem?_eq_some_iff.1 hj).1 (List.getElem?_eq_some_iff.1 hi2).1 hlt
      rw [(List.getElem?_eq_some_iff.1 hj).2, (List.getElem?_eq_some_iff.1 hi2).2] at h6
      simp at h6
    · exact heq.symm
    · have h6 := List.pairwise_iff_getElem.1 (pick_sorted m 0 l) _ _ (List.getElem?_eq_some_iff.1 hi2).1 (List.getElem?_eq_some_iff.1 hj).1 hgt
      rw [(List.getElem?_eq_some_iff.1 hj).2, (List.getElem?_eq_some_iff.1 hi2).2] at h6
      simp at h6
  refine wp_region_any hm (any_chain (S := S) (U := U) (m := m) hd hh (by simpa using hlast) _ _ _ (Tail.putAll ((pickM m 0 l).map (·.2)) vs a) _ (pickM (m.map (!·)) 0 l) (by simp) ⟨(Tail.putAll_defers _ _ _).symm, (Tail.putAll_size _ _ _).symm, fun s => ?_, fun j oj hj hoj hl => ?_⟩ ?_ hc ?_ ?_ (pick_sorted _ _ _) ?_ ?_ hS h4)
  · by_cases hex : ∃ (j : Nat) (oj : Oper), m.getD j false = true ∧ l[j]? = some oj ∧ oj.dst = some s
    · obtain ⟨j, oj, hj, hoj, hdj⟩ := hex
      have hjl := (List.getElem?_eq_some_iff.1 hoj).1
      refine .inr ⟨j, oj, hj, by simpa using hoj, hdj, ?_⟩
      simp [Array.getD_eq_getD_getElem?, hjl]
    · left
      rw [Tail.putAll_other]
      intro o ho hds
      obtain ⟨⟨i, o'⟩, hi, rfl⟩ := List.mem_map.1 ho
      have h5 := pick_mem.1 hi
      have hil : i < l.length := by have := (List.getElem?_eq_some_iff.1 h5.2.1).1; omega
      exact hex ⟨i, o', (hget i hil).1 (by simpa using h5.2.2), by simpa using h5.2.1, hds⟩
  · have hjl : j < l.length := by simp at hj; omega
    simp [Array.getD_eq_getD_getElem?, hjl] at hl
  · exact Nat.le_trans (List.countP_le_length) (by simp)
  · intro i o hi
    have h5 := pick_mem.1 hi
    have hl5 : l[i]? = some o := by simpa using h5.2.1
    have hil : i < l.length := (List.getElem?_eq_some_iff.1 hl5).1
    refine ⟨by simpa using hl5, by simp [Array.getD_eq_getD_getElem?, hil], (hgetN i hil).1 (by simpa using h5.2.2)⟩
  · intro i o ho hmi _
    have ho' : l[i]? = some o := by simpa using ho
    have hil : i < l.length := (List.getElem?_eq_some_iff.1 ho').1
    exact pick_mem.2 ⟨Nat.zero_le _, by simpa using ho', by simpa using (hgetN i hil).2 hmi⟩
  · intro i o ho hmi w1 hw1
    have ho' : l[i]? = some o := by simpa using ho
    obtain ⟨j, hj⟩ := hof i o ho' hmi
    have hq := h3 j o (U i) (by rw [List.getElem?_map, hj]; rfl) (hU j i o hj) w1 hw1
    have hd' := Tail.ok_at (okS_ok hd) ho
    have hex : execOp (Tail.putAll ((pickM m 0 l).map (·.2)) vs a).eval o = execOp (Tail.putAll (((pickM m 0 l).map (·.2)).take j) (vs.take j) a).eval o := by
      refine execOp_congr o (Tail.notDS_select hd'.plain) fun x hx => ?_
      cases x with
      | tmp s =>
        have hs := Array.all_eq_true'.1 (okS_sees hd ho) _ hx
        simp only [Act.eval, Array.getD_eq_getD_getElem?]
        congr 1
        have hsplit : Tail.putAll ((pickM m 0 l).map (·.2)) vs a = Tail.putAll (((pickM m 0 l).map (·.2)).drop j) (vs.drop j) (Tail.putAll (((pickM m 0 l).map (·.2)).take j) (vs.take j) a) := by
          rw [← Tail.putAll_append _ _ _ _ _ (by rw [List.length_take, List.length_take, e]), List.take_append_drop, List.take_append_drop]
        rw [hsplit]
        refine Tail.putAll_other _ _ _ s ?_
        intro o2 ho2 hd2
        obtain ⟨j2, hj2⟩ := List.mem_iff_getElem?.1 ho2
        rw [List.getElem?_drop] at hj2
        obtain ⟨i2, hi2, hl2, _⟩ := pick_index hj2
        have hl2' : (l.toArray)[i2]? = some o2 := by simpa using hl2
        have := List.all_eq_true.1 hs i2 (List.mem_range.2 (Array.getElem?_eq_some_iff.1 hl2').1)
        simp only [hl2', hd2, decide_true, Bool.not_true, Bool.false_or] at this
        obtain ⟨e, he, hb, e2⟩ := Tail.bindB_true this
        have hb' := Array.all_eq_true'.1 hd'.back e he
        simp only [hb, Bool.not_true, Bool.false_or, decide_eq_true_eq] at hb'
        have := hidx j (j + j2) i i2 _ _ hj hi2 (by omega)
        omega
      | _ => rfl
    unfold Oper.quietAt at hq
    rw [← hex] at hq
    have hsimple := (head_at hh ho hmi).1
    generalize hrr : (execOp (Tail.putAll ((pickM m 0 l).map (·.2)) vs a).eval o).run P w1 = r at hq
    cases r with
    | ok n w2 =>
      obtain ⟨v, rfl⟩ := simple_val hsimple hrr
      simp only [Oper.quietUpon] at hq
      rw [hq.1, hq.2]
    | halt x w2 => exact hq.elim
  · intro i o s ho hmi hds hs
    rw [Tail.putAll_size] at hs
    exact hval i o s (by simpa using ho) hmi hds hs

/-- a world in which all that lay in w is as it was. -/
structure Kept (w : World) where
  W : World
  ok : Below w.heap.size w W
theorem Kept.rd {w : World} {a : Addr} {v : Value} (h : w.cell? a = some v) : ∀ x : Kept w, x.W.cell? a = some v := fun x => (x.ok.cell (World.block_lt_of_cell? w a h)).trans h
theorem Kept.start (w : World) : ∃ x : Kept w, w.drew = x.W := ⟨⟨w.drew, (Below.refl _ _).drew⟩, rfl⟩
theorem Kept.mk' {w w' : World} (h : Below w.heap.size w w') : ∃ x : Kept w, w' = x.W := ⟨⟨w', h⟩, rfl⟩

/-- one step of the chain. -/
theorem chain_step {P : Program} {S : World → Prop} {ops : Array Oper} {Q : Exit → Act → World → Prop} {o o2 : Oper} {T : List Oper} {a : Act} {w : World}
    (h : ∀ K : Act → World → Prop, (∀ a w, S w ∧ Chain.chainW P S ops Q (o2 :: T) a w → K a w) → Chain.mov P o a w (fun v w2 => K (a.put o.dst v) w2)) : Chain.chainW P S ops Q (o :: o2 :: T) a w := by
  unfold Chain.chainW
  exact h (fun a w => S w ∧ Chain.chainW P S ops Q (o2 :: T) a w) (fun _ _ h => h)
end Go.Proofs.YthjkgbcomjiejaaGreatDoor
