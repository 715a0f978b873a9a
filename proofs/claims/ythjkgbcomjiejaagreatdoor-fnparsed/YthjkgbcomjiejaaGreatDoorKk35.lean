/-
  Plain mathematics of parsing: the parser's state, its steps, and that what comes out of them is a tree. It names no function of the program.
-/
import Derived.Test.YthjkgbcomjiejaaGreatDoorKk34
namespace Go.Proofs.YthjkgbcomjiejaaGreatDoor
open Go.RowKit
set_option linter.unusedVariables false

/-- the nodes so far, where the lexeme of each stands, and the place that the next one hangs on. -/
structure Pz where
  l : List Nd
  q : List Int
  t : Nat
def pz0 : Pz := ⟨[], [], 0⟩
/-- the byte that closes a block. -/
def shI (k : Int) : Int := if k = 3 then 41 else if k = 4 then 93 else if k = 5 then 125 else -1
/-- the kind of block that a byte opens. -/
def opK (c : Int) : Int := if c = 40 then 3 else if c = 91 then 4 else 5
/-- the node that a lexeme begins. -/
def ndX (x : Lx) (d : Int) : Nd := if x.k = 3 then ⟨d, opK (bt x.s 0), ByteArray.empty⟩ else if x.k = 5 then ⟨d, 6, ByteArray.empty⟩ else ⟨d, x.k, x.s⟩
theorem ndX_d (x : Lx) (d : Int) : (ndX x d).d = d := by unfold ndX; split; rfl; split <;> rfl
def stepZ (z : Pz) (x : Lx) : Except (Int × Int) Pz :=
  if x.k = 4 then
    if shI (knd z.l z.t) = (bt x.s 0 : Int) then
      if whl z.l z.t z.l.length = true then .ok ⟨z.l, z.q, unq z.l (par z.l (z.t - 1))⟩ else .error (5, x.a)
    else .error (2, x.a)
  else if x.k = 2 ∧ knd z.l z.t = 6 then .error (4, x.a)
  else if 12 < dep z.l z.t + 1 then .error (6, x.a)
  else .ok ⟨z.l ++ [ndX x (dep z.l z.t + 1)], z.q ++ [x.a], if 3 ≤ (ndX x (dep z.l z.t + 1)).k then z.l.length + 1 else unq z.l z.t⟩
def runZ : List Lx → Pz → Except (Int × Int) Pz
  | [], z => .ok z
  | x :: r, z => match stepZ z x with
    | .ok z' => runZ r z'
    | .error e => .error e
theorem runZ_cons {x : Lx} {r : List Lx} {z z' : Pz} (h : stepZ z x = .ok z') : runZ (x :: r) z = runZ r z' := by simp only [runZ, h]
theorem runZ_bad {x : Lx} {r : List Lx} {z : Pz} {e : Int × Int} (h : stepZ z x = .error e) : runZ (x :: r) z = .error e := by simp only [runZ, h]
def endZ (z : Pz) : Except (Int × Int) (List Nd) :=
  if z.t = 0 then .ok z.l else .error (if knd z.l z.t = 6 then 4 else 3, z.q.getD (z.t - 1) 0)
/-- what ParseTree tells. -/
def prsA (s : ByteArray) : List Nd × Int × Int :=
  if (lxA s).2 = -1 then
    match runZ (lxA s).1 pz0 with
    | .error e => ([], e.1, e.2)
    | .ok z => match endZ z with
      | .error e => ([], e.1, e.2)
      | .ok l => (l, 0, -1)
  else ([], 1, (lxA s).2)
/-- place i is t or on the way from t to the root. -/
def OnW (l : List Nd) (t i : Nat) : Prop := i = t ∨ (∃ j, j ∈ anc l t ∧ i = j + 1) ∨ i = 0
theorem OnW.up {l : List Nd} {t i : Nat} (h : OnW l (par l t) i) : OnW l (t + 1) i := by
  rcases h with rfl | ⟨j, hj, rfl⟩ | rfl
  · cases hp : par l t with
    | zero => exact .inr (.inr rfl)
    | succ p =>
      refine .inr (.inl ⟨p, ?_, rfl⟩)
      rw [anc_succ, hp, anc_succ]
      simp
  · refine .inr (.inl ⟨j, ?_, rfl⟩)
    rw [anc_succ]; simp [hj]
  · exact .inr (.inr rfl)
theorem OnW.down {l : List Nd} {t i : Nat} (h : OnW l (t + 1) i) : i = t + 1 ∨ OnW l (par l t) i := by
  rcases h with rfl | ⟨j, hj, rfl⟩ | rfl
  · exact .inl rfl
  · rw [anc_succ] at hj
    rcases List.mem_append.1 hj with h | h
    · exact .inr (.inr (.inl ⟨j, h, rfl⟩))
    · simp at h; subst h; exact .inl rfl
  · exact .inr (.inr (.inr rfl))
/-- what is so of the parser's state ahead of each lexeme. -/
structure PzOk (z : Pz) : Prop where
  len : z.q.length = z.l.length
  up : UpTo z.l z.l.length
  tip : z.t ≤ z.l.length
  hold : hld z.l z.t = true
  low : ∀ m, z.t < m → m ≤ z.l.length → dep z.l z.t < dep z.l m
  lone : knd z.l z.t = 6 → kidsN z.l z.t z.l.length = []
  quo : ∀ i, OnW z.l z.t i → i ≠ z.t → knd z.l i = 6 → ∃ j, kidsN z.l i z.l.length = [j] ∧ knd z.l (j + 1) ≠ 2
  whole : ∀ i, i ≤ z.l.length → ¬ OnW z.l z.t i → whl z.l i z.l.length = true
theorem PzOk.zero : PzOk pz0 := by
  refine ⟨rfl, UpTo.zero _, Nat.le_refl _, hld_zero _, fun m h1 h2 => ?_, fun h => ?_, fun i h1 h2 => ?_, fun i h1 h2 => ?_⟩
  · simp [pz0] at h1 h2; omega
  · simp [pz0, knd_zero] at h
  · simp [pz0, OnW, anc_zero] at h1 h2; omega
  · simp [pz0] at h1; subst h1; exact whl_zero _ _
theorem whl_quote {l : List Nd} {i n j : Nat} (hk : knd l i = 6) (h : kidsN l i n = [j]) (hj : knd l (j + 1) ≠ 2) : whl l i n = true := by
  unfold whl
  rw [if_pos hk, h]
  simp [plainN, hj]
/-- out of the quotes, all of which are whole: the places behind stay above, what is left is whole. -/
theorem PzOk.unq {l : List Nd} {q : List Int} (hlen : q.length = l.length) (hup : UpTo l l.length) : ∀ t, t ≤ l.length → hld l t = true → (∀ m, t < m → m ≤ l.length → dep l t < dep l m) →
    (∀ i, OnW l t i → knd l i = 6 → ∃ j, kidsN l i l.length = [j] ∧ knd l (j + 1) ≠ 2) → (∀ i, i ≤ l.length → ¬ OnW l t i → whl l i l.length = true) → PzOk ⟨l, q, Go.Proofs.YthjkgbcomjiejaaGreatDoor.unq l t⟩ := by
  intro t
  induction t using Nat.strongRecOn with
  | _ t ih =>
    intro ht hh hlow hquo hwhl
    by_cases h6 : knd l t = 6
    · cases t with
      | zero => rw [knd_zero] at h6; omega
      | succ t =>
        have hp := par_le l t
        have hhang := (hup t (by omega)).2
        rw [unq_go h6]
        refine ih (par l t) (by omega) (by omega) hhang.2 (fun m h1 h2 => ?_) (fun i hi hk => hquo i hi.up hk) (fun i hi hn => ?_)
        · have hd := hhang.1
          rcases Nat.lt_trichotomy m (t + 1) with h | h | h
          · have := climb_over (l := l) (d := dep l (t + 1)) t m h1 (by omega)
            omega
          · subst h; omega
          · have := hlow m h h2; omega
        · by_cases e : i = t + 1
          · subst e
            obtain ⟨j, h1, h2⟩ := hquo (t + 1) (.inl rfl) h6
            exact whl_quote h6 h1 h2
          · refine hwhl i hi fun hon => ?_
            rcases hon.down with h | h
            · exact e h
            · exact hn h
    · rw [unq_stop h6]
      exact ⟨hlen, hup, ht, hh, hlow, fun h => (h6 h).elim, fun i h1 h2 h3 => hquo i h1 h3, hwhl⟩
/-- a bracket shut. -/
theorem PzOk.shut {z : Pz} (h : PzOk z) (h0 : z.t ≠ 0) (hw : whl z.l z.t z.l.length = true) : PzOk ⟨z.l, z.q, Go.Proofs.YthjkgbcomjiejaaGreatDoor.unq z.l (par z.l (z.t - 1))⟩ := by
  obtain ⟨l, q, t⟩ := z
  cases t with
  | zero => exact (h0 rfl).elim
  | succ t =>
    have htip : t + 1 ≤ l.length := h.tip
    have hp := par_le l t
    have hhang : hang l t := (h.up t (by show t < l.length; omega)).2
    have hlow : ∀ m, t + 1 < m → m ≤ l.length → dep l (t + 1) < dep l m := h.low
    show PzOk ⟨l, q, Go.Proofs.YthjkgbcomjiejaaGreatDoor.unq l (par l t)⟩
    refine PzOk.unq (l := l) (q := q) h.len h.up (par l t) (by omega) hhang.2 (fun m h1 h2 => ?_) (fun i hi hk => ?_) (fun i hi hn => ?_)
    · have hd := hhang.1
      rcases Nat.lt_trichotomy m (t + 1) with h3 | h3 | h3
      · have := climb_over (l := l) (d := dep l (t + 1)) t m h1 (by omega)
        omega
      · subst h3; omega
      · have := hlow m h3 h2; omega
    · refine h.quo i hi.up (fun e => ?_) hk
      have e : i = t + 1 := e
      rcases hi with h3 | ⟨j, hj, h3⟩ | h3
      · omega
      · have := anc_lt _ j hj; omega
      · omega
    · by_cases e : i = t + 1
      · subst e; exact hw
      · refine h.whole i hi fun hon => ?_
        rcases hon.down with h3 | h3
        · exact e h3
        · exact hn h3
theorem ndX_good {x : Lx} (hx : LxGd x) (h4 : x.k ≠ 4) {d : Int} (h0 : 0 ≤ d) (h12 : d ≤ 12) : nodB (ndX x d) = true := by
  have hb := hx.bd
  unfold nodB
  rw [ndX_d]
  have hd : inB d 0 12 = true := inB_true.2 ⟨h0, h12⟩
  rw [hd, Bool.true_and]
  unfold ndX
  by_cases h3 : x.k = 3
  · rw [if_pos h3]
    have : 3 ≤ opK (bt x.s 0) ∧ opK (bt x.s 0) ≤ 5 := by unfold opK; split; omega; split <;> omega
    rw [if_pos this.1, Bool.and_eq_true]
    exact ⟨inB_true.2 ⟨by show 0 ≤ opK (bt x.s 0); omega, by show opK (bt x.s 0) ≤ 6; omega⟩, by simp⟩
  · rw [if_neg h3]
    by_cases h5 : x.k = 5
    · rw [if_pos h5, if_pos (by show (3 : Int) ≤ 6; omega), Bool.and_eq_true]
      exact ⟨inB_true.2 ⟨by show (0 : Int) ≤ 6; omega, by show (6 : Int) ≤ 6; omega⟩, by simp⟩
    · rw [if_neg h5, if_neg (by show ¬ 3 ≤ x.k; omega), Bool.and_eq_true]
      refine ⟨inB_true.2 ⟨by show 0 ≤ x.k; omega, by show x.k ≤ 6; omega⟩, ?_⟩
      show oneB x.k x.s (lxA x.s).1 = true
      rw [hx.self (by omega)]
      simp [oneB]
theorem ndX_kind {x : Lx} (hx : LxGd x) (h4 : x.k ≠ 4) (d : Int) : (ndX x d).k = (if x.k = 3 then opK (bt x.s 0) else if x.k = 5 then 6 else x.k) := by
  unfold ndX; split; rfl; split <;> rfl
/-- a node more. -/
theorem PzOk.add {z : Pz} (h : PzOk z) {x : Lx} (hx : LxGd x) (h4 : x.k ≠ 4) (hn : ¬ (x.k = 2 ∧ knd z.l z.t = 6)) (hd : ¬ 12 < dep z.l z.t + 1) :
    PzOk ⟨z.l ++ [ndX x (dep z.l z.t + 1)], z.q ++ [x.a], if 3 ≤ (ndX x (dep z.l z.t + 1)).k then z.l.length + 1 else Go.Proofs.YthjkgbcomjiejaaGreatDoor.unq z.l z.t⟩ := by
  obtain ⟨l, q, t⟩ := z
  have htip : t ≤ l.length := h.tip
  have hup : UpTo l l.length := h.up
  have hhold : hld l t = true := h.hold
  have hlow : ∀ m, t < m → m ≤ l.length → dep l t < dep l m := h.low
  have hlone : knd l t = 6 → kidsN l t l.length = [] := h.lone
  have hquo : ∀ i, OnW l t i → i ≠ t → knd l i = 6 → ∃ j, kidsN l i l.length = [j] ∧ knd l (j + 1) ≠ 2 := h.quo
  have hwhole : ∀ i, i ≤ l.length → ¬ OnW l t i → whl l i l.length = true := h.whole
  have hlen : q.length = l.length := h.len
  have hn : ¬ (x.k = 2 ∧ knd l t = 6) := hn
  have hd : ¬ 12 < dep l t + 1 := hd
  have hdt := (hup.dep (i := t) htip)
  obtain ⟨n, hnd⟩ : ∃ n, ndX x (dep l t + 1) = n := ⟨_, rfl⟩
  have hngood : nodB n = true := by rw [← hnd]; exact ndX_good hx h4 (by omega) (by omega)
  have hdn : n.d = dep l t + 1 := by rw [← hnd]; exact ndX_d _ _
  have hkn : n.k = 2 → x.k = 2 := by
    intro e
    rw [← hnd, ndX_kind hx h4] at e
    have : 3 ≤ opK (bt x.s 0) := by unfold opK; split; omega; split <;> omega
    split at e
    · omega
    · split at e <;> omega
  show PzOk ⟨l ++ [ndX x (dep l t + 1)], q ++ [x.a], if 3 ≤ (ndX x (dep l t + 1)).k then l.length + 1 else Go.Proofs.YthjkgbcomjiejaaGreatDoor.unq l t⟩
  rw [hnd]
  have hat : (l ++ [n])[l.length]? = some n := by simp
  have hL : (l ++ [n]).length = l.length + 1 := by simp
  have hdl : dep (l ++ [n]) (l.length + 1) = dep l t + 1 := by rw [dep_succ hat, hdn]
  have hkl : knd (l ++ [n]) (l.length + 1) = n.k := knd_succ hat
  have hpar : par (l ++ [n]) l.length = t := by
    unfold par
    rw [hdl, climb_app _ (Nat.le_refl _)]
    exact climb_is (by omega) _ htip fun m h1 h2 => by have := hlow m h1 h2; omega
  have hhang : hang (l ++ [n]) l.length := by
    unfold hang
    rw [hpar, hdl, dep_app htip, hld_app htip]
    exact ⟨rfl, hhold⟩
  have hup' : UpTo (l ++ [n]) (l ++ [n]).length := by
    rw [hL]
    exact (UpTo.app (Nat.le_refl _) hup).succ hat hngood hhang
  have hkids : ∀ i, i ≠ t → kidsN (l ++ [n]) i (l.length + 1) = kidsN l i l.length := by
    intro i hi
    rw [kidsN_no (by rw [hpar]; exact fun e => hi e.symm), kidsN_app (Nat.le_refl _)]
  have hkidt : kidsN (l ++ [n]) t (l.length + 1) = kidsN l t l.length ++ [l.length] := by
    rw [kidsN_yes hpar, kidsN_app (Nat.le_refl _)]
  have hwhl : ∀ i, i ≤ l.length → i ≠ t → whl (l ++ [n]) i (l.length + 1) = whl l i l.length := by
    intro i hi hne
    unfold whl
    rw [hkids i hne, knd_app hi, plainN_app (fun j hj => (kidsN_mem hj).1)]
  have hquo' : ∀ i, OnW l t i → knd l i = 6 → ∃ j, kidsN (l ++ [n]) i (l.length + 1) = [j] ∧ knd (l ++ [n]) (j + 1) ≠ 2 := by
    intro i hi hk
    by_cases e : i = t
    · subst e
      refine ⟨l.length, by rw [hkidt, hlone hk]; rfl, ?_⟩
      rw [hkl]
      exact fun h2 => hn ⟨hkn h2, hk⟩
    · obtain ⟨j, h1, h2⟩ := hquo i hi e hk
      have hjl := (kidsN_mem (l := l) (i := i) (m := l.length) (j := j) (by rw [h1]; simp)).1
      exact ⟨j, by rw [hkids i e, h1], by rw [knd_app (by omega)]; exact h2⟩
  have hon : ∀ i, OnW (l ++ [n]) t i ↔ OnW l t i := by
    intro i
    unfold OnW
    rw [anc_app t htip]
  have hwl : ∀ i, i ≤ l.length → ¬ OnW l t i → whl (l ++ [n]) i (l.length + 1) = true := by
    intro i hi hne
    rw [hwhl i hi (fun e => hne (.inl e))]
    exact hwhole i hi hne
  have hlow' : ∀ m, t < m → m ≤ l.length + 1 → dep (l ++ [n]) t < dep (l ++ [n]) m := by
    intro m h1 h2
    rw [dep_app htip]
    by_cases e : m = l.length + 1
    · subst e; rw [hdl]; omega
    · rw [dep_app (by omega)]; exact hlow m h1 (by omega)
  by_cases h3 : 3 ≤ n.k
  · rw [if_pos h3]
    have hnb := (nodB_bd hngood).1
    refine ⟨by simp [hlen], hup', by rw [hL]; exact Nat.le_refl _, ?_, fun m h1 h2 => ?_, fun hk => ?_, fun i hi hne hk => ?_, fun i hi hne => ?_⟩
    · show hld (l ++ [n]) (l.length + 1) = true
      unfold hld
      rw [hkl, inB_true.2 ⟨h3, hnb.2⟩, Bool.or_true]
    · have h1 : l.length + 1 < m := h1
      have h2 : m ≤ (l ++ [n]).length := h2
      omega
    · show kidsN (l ++ [n]) (l.length + 1) (l ++ [n]).length = []
      rw [hL]; exact kidsN_low _ _
    · show ∃ j, kidsN (l ++ [n]) i (l ++ [n]).length = [j] ∧ _
      rw [hL]
      have hi : OnW (l ++ [n]) (l.length + 1) i := hi
      have hk : knd (l ++ [n]) i = 6 := hk
      rcases hi.down with e | e
      · exact (hne e).elim
      · rw [hpar] at e
        have e' := (hon i).1 e
        have hil : i ≤ l.length := by
          rcases e' with h5 | ⟨j, hj, h5⟩ | h5
          · omega
          · have := anc_lt _ j hj; omega
          · omega
        rw [knd_app hil] at hk
        exact hquo' i e' hk
    · show whl (l ++ [n]) i (l ++ [n]).length = true
      have hi : i ≤ (l ++ [n]).length := hi
      rw [hL] at hi ⊢
      have hne : ¬ OnW (l ++ [n]) (l.length + 1) i := hne
      by_cases e : i = l.length + 1
      · exact (hne (.inl e)).elim
      · exact hwl i (by omega) fun h5 => hne (OnW.up (by rw [hpar]; exact (hon i).2 h5))
  · rw [if_neg h3]
    have := PzOk.unq (l := l ++ [n]) (q := q ++ [x.a]) (by simp [hlen]) hup' t (by rw [hL]; omega) (by rw [hld_app htip]; exact hhold) (by rw [hL]; exact hlow') (fun i hi hk => by
        rw [hL]
        have e' := (hon i).1 hi
        have hil : i ≤ l.length := by
          rcases e' with h5 | ⟨j, hj, h5⟩ | h5
          · omega
          · have := anc_lt _ j hj; omega
          · omega
        rw [knd_app hil] at hk
        exact hquo' i e' hk) (fun i hi hne => by
        rw [hL] at hi ⊢
        by_cases e : i = l.length + 1
        · subst e
          have hnb := (nodB_bd hngood).1
          unfold whl
          rw [hkl, if_neg (by omega), if_neg (by omega)]
        · exact hwl i (by omega) fun h5 => hne ((hon i).2 h5))
    rw [unq_app t htip] at this
    exact this
theorem stepZ_ok {z z' : Pz} {x : Lx} (h : PzOk z) (hx : LxGd x) (hs : stepZ z x = .ok z') : PzOk z' := by
  unfold stepZ at hs
  split at hs
  · split at hs
    · rename_i hsh
      split at hs
      · rename_i hw
        injection hs with hs
        subst hs
        refine h.shut (fun e => ?_) hw
        rw [e, knd_zero] at hsh
        have hb : bt x.s 0 < 256 := bt_lt _ _
        simp [shI] at hsh
      · cases hs
    · cases hs
  · rename_i h4
    split at hs
    · cases hs
    · rename_i hn
      split at hs
      · cases hs
      · rename_i hd
        injection hs with hs
        subst hs
        exact h.add hx h4 hn hd
theorem stepZ_len {z z' : Pz} {x : Lx} (hs : stepZ z x = .ok z') : z'.l.length ≤ z.l.length + 1 := by
  unfold stepZ at hs
  split at hs
  · split at hs
    · split at hs
      · injection hs with hs; subst hs; exact Nat.le_succ _
      · cases hs
    · cases hs
  · split at hs
    · cases hs
    · split at hs
      · cases hs
      · injection hs with hs; subst hs; simp
theorem runZ_ok : ∀ (xs : List Lx) (z z' : Pz), PzOk z → (∀ x ∈ xs, LxGd x) → runZ xs z = .ok z' → PzOk z' ∧ z'.l.length ≤ z.l.length + xs.length
  | [], z, z', h, hx, hr => by
    simp only [runZ] at hr
    injection hr with hr
    subst hr
    exact ⟨h, by simp⟩
  | x :: r, z, z', h, hx, hr => by
    simp only [runZ] at hr
    cases hs : stepZ z x with
    | error e => rw [hs] at hr; cases hr
    | ok z1 =>
      rw [hs] at hr
      have h1 := stepZ_ok h (hx x (by simp)) hs
      have h2 := stepZ_len hs
      have h3 := runZ_ok r z1 z' h1 (fun y hy => hx y (by simp [hy])) hr
      exact ⟨h3.1, by have := h3.2; simp; omega⟩
/-- whatever is parsed is a tree. -/
theorem prsA_tree (s : ByteArray) : TrOk (prsA s).1 := by
  have hnil : TrOk [] := UpTo.ok (by simp) (UpTo.zero _) fun i hi => by simp at hi; subst hi; exact whl_zero _ _
  unfold prsA
  split
  · cases hr : runZ (lxA s).1 pz0 with
    | error e => exact hnil
    | ok z =>
      obtain ⟨h1, h2⟩ := runZ_ok _ _ _ PzOk.zero (lxA_good s).1 hr
      simp only
      unfold endZ
      by_cases ht : z.t = 0
      · rw [if_pos ht]
        have hlen := lxA_len s
        have h2 : z.l.length ≤ 0 + (lxA s).1.length := h2
        refine UpTo.ok (by show z.l.length ≤ 200; omega) h1.up fun i hi => ?_
        by_cases e : i = 0
        · subst e; exact whl_zero _ _
        · refine h1.whole i hi fun hon => ?_
          rw [ht] at hon
          rcases hon with h5 | ⟨j, hj, _⟩ | h5
          · exact e h5
          · rw [anc_zero] at hj; cases hj
          · exact e h5
      · rw [if_neg ht]; exact hnil
  · exact hnil
theorem prsA_bad (s : ByteArray) : (prsA s).2.1 ≠ 0 → (prsA s).1 = [] := by
  unfold prsA
  split
  · cases runZ (lxA s).1 pz0 with
    | error e => intro _; rfl
    | ok z =>
      simp only
      cases endZ z with
      | error e => intro _; rfl
      | ok l => intro h; exact (h rfl).elim
  · intro _; rfl
end Go.Proofs.YthjkgbcomjiejaaGreatDoor
