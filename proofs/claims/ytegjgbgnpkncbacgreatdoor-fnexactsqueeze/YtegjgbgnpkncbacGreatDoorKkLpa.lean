/-
  The lexemes of a tree, place by place. Plain mathematics.
-/
import Derived.Test.YtegjgbgnpkncbacGreatDoorKk39
import Derived.Test.YtegjgbgnpkncbacGreatDoorKk22
namespace Go.Proofs.YtegjgbgnpkncbacGreatDoor
open Go.RowKit
set_option linter.unusedVariables false

theorem fm_congr {α β : Type} {l : List α} {f g : α → List β} (h : ∀ x ∈ l, f x = g x) : l.flatMap f = l.flatMap g := by
  induction l with
  | nil => rfl
  | cons a r ih => rw [List.flatMap_cons, List.flatMap_cons, h a (by simp), ih fun x hx => h x (by simp [hx])]
def opS (k : Int) : ByteArray := if k = 3 then ⟨#[40]⟩ else if k = 4 then ⟨#[91]⟩ else ⟨#[123]⟩
def clS (k : Int) : ByteArray := if k = 3 then ⟨#[41]⟩ else if k = 4 then ⟨#[93]⟩ else ⟨#[125]⟩
/-- what is written ahead of a node's children. -/
def hdL (x : Nd) : List Lx := if x.k ≤ 2 then [⟨x.k, x.s, 0⟩] else if x.k = 6 then [⟨5, ⟨#[39]⟩, 0⟩] else [⟨3, opS x.k, 0⟩]
/-- what is written behind them. -/
def tlL (x : Nd) : List Lx := if 3 ≤ x.k ∧ x.k ≤ 5 then [⟨4, clS x.k, 0⟩] else []
def lexF (l : List Nd) : Nat → Nat → List Lx
  | 0, _ => []
  | f + 1, i => hdL (nAt l i) ++ ((kidsN l i l.length).flatMap (fun x => lexF l f (x + 1)) ++ tlL (nAt l i))
theorem lexF_fuel (l : List Nd) : ∀ (f g i : Nat), i ≤ l.length → l.length + 1 - i ≤ f → l.length + 1 - i ≤ g → lexF l f i = lexF l g i := by
  intro f
  induction f with
  | zero => intro g i h1 h2 h3; omega
  | succ f ih =>
    intro g i h1 h2 h3
    obtain ⟨g, rfl⟩ : ∃ h, g = h + 1 := ⟨g - 1, by omega⟩
    simp only [lexF]
    congr 2
    apply fm_congr
    intro x hx
    have := kidsN_mem hx
    exact ih g (x + 1) (by omega) (by omega) (by omega)
/-- the lexemes of the node at place i and of all that is in it. -/
def lexP (l : List Nd) (i : Nat) : List Lx := lexF l (l.length + 1 - i) i
/-- those of its children among the first m nodes. -/
def lexK (l : List Nd) (i m : Nat) : List Lx := (kidsN l i m).flatMap (fun x => lexP l (x + 1))
theorem lexP_eq {l : List Nd} {i : Nat} (hi : i ≤ l.length) : lexP l i = hdL (nAt l i) ++ (lexK l i l.length ++ tlL (nAt l i)) := by
  obtain ⟨f, hf⟩ : ∃ f, l.length + 1 - i = f + 1 := ⟨l.length - i, by omega⟩
  unfold lexP lexK
  rw [hf]
  simp only [lexF]
  congr 2
  apply fm_congr
  intro x hx
  have := kidsN_mem hx
  exact lexF_fuel l f _ (x + 1) (by omega) (by omega) (by omega)
theorem lexK_zero (l : List Nd) (i : Nat) : lexK l i i = [] := by unfold lexK; rw [kidsN_low]; rfl
theorem lexK_step {l : List Nd} {i a : Nat} (h : par l a = i) : lexK l i (a + 1) = lexK l i a ++ lexP l (a + 1) := by
  unfold lexK
  rw [kidsN_yes h, List.flatMap_append]
  simp
theorem lexK_same {l : List Nd} {i a b : Nat} (h : kidsN l i a = kidsN l i b) : lexK l i a = lexK l i b := by unfold lexK; rw [h]
section
variable {l : List Nd} (hup : UpTo l l.length)
include hup
/-- from child to child. -/
theorem UpTo.chain {i : Nat} (hi : i ≤ l.length) (P : Nat → Prop) (h0 : P i) (hs : ∀ a, i ≤ a → a < l.length → par l a = i → P a → P (endp l (a + 1) - 1)) : P (endp l i - 1) ∧ kidsN l i (endp l i - 1) = kidsN l i l.length := by
  have main : ∀ (f a : Nat), l.length - a ≤ f → i ≤ a → a ≤ l.length → P a → ((a < l.length ∧ par l a = i) ∨ (kidsN l i a = kidsN l i l.length ∧ a + 1 = endp l i)) → P (endp l i - 1) ∧ kidsN l i (endp l i - 1) = kidsN l i l.length := by
    intro f
    induction f with
    | zero =>
      intro a hf hia ha hp hc
      rcases hc with ⟨h1, _⟩ | ⟨h1, h2⟩
      · omega
      · rw [← h2]; exact ⟨hp, h1⟩
    | succ f ih =>
      intro a hf hia ha hp hc
      rcases hc with ⟨h1, h2⟩ | ⟨h1, h2⟩
      · have hn := hup.next h1 h2
        have hg := endp_gt l (a + 1)
        have hl := endp_le (l := l) (i := a + 1) (by omega)
        refine ih (endp l (a + 1) - 1) (by omega) (by omega) (by omega) (hs a hia h1 h2 hp) ?_
        rcases hn.2 with h | ⟨h, h'⟩
        · exact .inl h
        · exact .inr ⟨h, by rw [← h']; omega⟩
      · rw [← h2]; exact ⟨hp, h1⟩
  refine main (l.length - i) i (Nat.le_refl _) (Nat.le_refl _) hi h0 ?_
  rcases hup.first hi with h | ⟨h1, h2⟩
  · exact .inl h
  · exact .inr ⟨by rw [h1, kidsN_low], h2.symm⟩
omit hup in
theorem hdL_len (x : Nd) : (hdL x).length = 1 := by unfold hdL; split; rfl; split <;> rfl
omit hup in
theorem tlL_len (x : Nd) : (tlL x).length ≤ 1 := by unfold tlL; split <;> simp
theorem UpTo.lexP_len : ∀ (f i : Nat), i ≤ l.length → l.length - i ≤ f → (lexP l i).length ≤ 2 * (endp l i - i) ∧ (lexK l i l.length).length ≤ 2 * (endp l i - 1 - i) := by
  intro f
  induction f using Nat.strongRecOn with
  | _ f ih =>
    intro i h1 h2
    have hc := hup.chain h1 (fun a => i ≤ a ∧ (lexK l i a).length ≤ 2 * (a - i)) ⟨Nat.le_refl _, by rw [lexK_zero]; simp⟩ (fun a ha han hp ⟨_, hP⟩ => by
      have hn := (hup.next han hp).1
      have hg := endp_gt l (a + 1)
      have hr := (ih (l.length - (a + 1)) (by omega) (a + 1) (by omega) (Nat.le_refl _)).1
      refine ⟨by omega, ?_⟩
      rw [lexK_same hn, lexK_step hp, List.length_append]
      omega)
    have hk : (lexK l i l.length).length ≤ 2 * (endp l i - 1 - i) := by rw [← lexK_same hc.2]; exact hc.1.2
    have hgt := endp_gt l i
    refine ⟨?_, hk⟩
    rw [lexP_eq h1, List.length_append, List.length_append, hdL_len]
    have := tlL_len (nAt l i)
    omega
theorem UpTo.lexK_le {i a : Nat} (hi : i ≤ l.length) (ha : a ≤ l.length) : (lexK l i a).length ≤ 2 * l.length := by
  obtain ⟨r, hr⟩ := kids_pre (l := l) (i := i) (a := a) l.length ha
  have h1 := (hup.lexP_len (l.length - i) i hi (Nat.le_refl _)).2
  have h2 := endp_le hi
  have h3 : lexK l i l.length = lexK l i a ++ r.flatMap (fun x => lexP l (x + 1)) := by unfold lexK; rw [hr, List.flatMap_append]
  rw [h3, List.length_append] at h1
  omega
theorem UpTo.lexP_le {i : Nat} (hi : i ≤ l.length) : (lexP l i).length ≤ 2 * (l.length + 1) := by
  have h1 := (hup.lexP_len (l.length - i) i hi (Nat.le_refl _)).1
  have h2 := endp_le hi
  omega
/-- the Texts are short. -/
theorem UpTo.lexF_size (f : Nat) : ∀ i, 1 ≤ i → i ≤ l.length → ∀ y ∈ lexF l f i, y.s.size ≤ 2000 := by
  induction f with
  | zero => intro i _ _ y hy; simp [lexF] at hy
  | succ f ih =>
    intro i h1 h2 y hy
    simp only [lexF, List.mem_append] at hy
    rcases hy with hy | hy | hy
    · obtain ⟨i', rfl⟩ : ∃ i', i = i' + 1 := ⟨i - 1, by omega⟩
      obtain ⟨⟨x, hx, hn⟩, _⟩ := hup i' (by omega)
      rw [nAt_succ hx] at hy
      unfold hdL at hy
      split at hy
      · rename_i hk
        simp at hy
        rw [hy]
        unfold nodB at hn
        simp only [Bool.and_eq_true] at hn
        have h3 := hn.2.2
        rw [if_neg (by omega)] at h3
        show x.s.size ≤ 2000
        apply Classical.byContradiction
        intro h4
        have : (lxA x.s).1 = [] := by unfold lxA; rw [if_pos (by omega)]
        rw [this] at h3
        cases h3
      · split at hy
        · simp at hy; rw [hy]; decide
        · simp at hy; rw [hy]; unfold opS; split; decide; split <;> decide
    · obtain ⟨x, hx, hy⟩ := List.mem_flatMap.1 hy
      have := kidsN_mem hx
      exact ih (x + 1) (by omega) (by omega) y hy
    · unfold tlL at hy
      split at hy
      · simp at hy; rw [hy]; unfold clS; split; decide; split <;> decide
      · simp at hy
theorem UpTo.lexK_size {i a : Nat} (ha : a ≤ l.length) : ∀ y ∈ lexK l i a, y.s.size ≤ 2000 := by
  intro y hy
  obtain ⟨x, hx, hy⟩ := List.mem_flatMap.1 hy
  have := kidsN_mem hx
  exact hup.lexF_size _ (x + 1) (by omega) (by omega) y hy
end
end Go.Proofs.YtegjgbgnpkncbacGreatDoor
