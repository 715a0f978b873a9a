/-
  Whether what hangs on a branch is what its kind asks for; a list planted.
-/
import Derived.Test.YtlcplgfjicifeaaGreatDoorQt16
import Derived.Test.YtlcplgfjicifeaaGreatDoorQt21
import Derived.Test.YtlcplgfjicifeaaGreatDoorQt01
namespace Go.Proofs.YtlcplgfjicifeaaGreatDoor
open Go.RowKit
set_option linter.unusedVariables false

theorem fm_congr {α β : Type} {l : List α} {f g : α → List β} (h : ∀ x ∈ l, f x = g x) : l.flatMap f = l.flatMap g := by
  induction l with
  | nil => rfl
  | cons a r ih => rw [List.flatMap_cons, List.flatMap_cons, h a (by simp), ih fun x hx => h x (by simp [hx])]
def opS (k : Int) : ByteArray := if k = 3 then ⟨#[40]⟩ else if k = 4 then ⟨#[91]⟩ else ⟨#[123]⟩
def clS (k : Int) : ByteArray := if k = 3 then ⟨#[41]⟩ else if k = 4 then ⟨#[93]⟩ else ⟨#[125]⟩
/-- what is written ahead of a node's children. -/
def hdL (x : Nd) : List Lx := if x.k ≤ 2 then [⟨x.k, x.s, 0⟩] else if x.k = 6 then [⟨5, ⟨#[39]⟩, 0⟩] else [⟨3, opS x.k, 0⟩]
/-- what is written behind them. -/
def tlL (x : Nd) : List Lx := if 3 ≤ x.k ∧ x.k ≤ 5 then [⟨4, clS x.k, 0⟩] else []
def lexF (l : List Nd) : Nat → Nat → List Lx
  | 0, _ => []
  | f + 1, i => hdL (nAt l i) ++ ((kidsN l i l.length).flatMap (fun x => lexF l f (x + 1)) ++ tlL (nAt l i))
theorem lexF_fuel (l : List Nd) : ∀ (f g i : Nat), i ≤ l.length → l.length + 1 - i ≤ f → l.length + 1 - i ≤ g → lexF l f i = lexF l g i := by
  intro f
  induction f with
  | zero => intro g i h1 h2 h3; omega
  | succ f ih =>
    intro g i h1 h2 h3
    obtain ⟨g, rfl⟩ : ∃ h, g = h + 1 := ⟨g - 1, by omega⟩
    simp only [lexF]
    congr 2
    apply fm_congr
    intro x hx
    have := kidsN_mem hx
    exact ih g (x + 1) (by omega) (by omega) (by omega)
/-- the lexemes of the node at place i and of all that is in it. -/
def lexP (l : List Nd) (i : Nat) : List Lx := lexF l (l.length + 1 - i) i
/-- those of its children among the first m nodes. -/
def lexK (l : List Nd) (i m : Nat) : List Lx := (kidsN l i m).flatMap (fun x => lexP l (x + 1))
theorem lexP_eq {l : List Nd} {i : Nat} (hi : i ≤ l.length) : lexP l i = hdL (nAt l i) ++ (lexK l i l.length ++ tlL (nAt l i)) := by
  obtain ⟨f, hf⟩ : ∃ f, l.length + 1 - i = f + 1 := ⟨l.length - i, by omega⟩
  unfold lexP lexK
  rw [hf]
  simp only [lexF]
  congr 2
  apply fm_congr
  intro x hx
  have := kidsN_mem hx
  exact lexF_fuel l f _ (x + 1) (by omega) (by omega) (by omega)
theorem lexK_zero (l : List Nd) (i : Nat) : lexK l i i = [] := by unfold lexK; rw [kidsN_low]; rfl
theorem lexK_step {l : List Nd} {i a : Nat} (h : par l a = i) : lexK l i (a + 1) = lexK l i a ++ lexP l (a + 1) := by
  unfold lexK
  rw [kidsN_yes h, List.flatMap_append]
  simp
theorem lexK_same {l : List Nd} {i a b : Nat} (h : kidsN l i a = kidsN l i b) : lexK l i a = lexK l i b := by unfold lexK; rw [h]
section
variable {l : List Nd} (hup : UpTo l l.length)
include hup
/-- from child to child. -/
theorem UpTo.chain {i : Nat} (hi : i ≤ l.length) (P : Nat → Prop) (h0 : P i) (hs : ∀ a, i ≤ a → a < l.length → par l a = i → P a → P (endp l (a + 1) - 1)) : P (endp l i - 1) ∧ kidsN l i (endp l i - 1) = kidsN l i l.length := by
  have main : ∀ (f a : Nat), l.length - a ≤ f → i ≤ a → a ≤ l.length → P a → ((a < l.length ∧ par l a = i) ∨ (kidsN l i a = kidsN l i l.length ∧ a + 1 = endp l i)) → P (endp l i - 1) ∧ kidsN l i (endp l i - 1) = kidsN l i l.length := by
    intro f
    induction f with
    | zero =>
      intro a hf hia ha hp hc
      rcases hc with ⟨h1, _⟩ | ⟨h1, h2⟩
      · omega
      · rw [← h2]; exact ⟨hp, h1⟩
    | succ f ih =>
      intro a hf hia ha hp hc
      rcases hc with ⟨h1, h2⟩ | ⟨h1, h2⟩
      · have hn := hup.next h1 h2
        have hg := endp_gt l (a + 1)
        have hl := endp_le (l := l) (i := a + 1) (by omega)
        refine ih (endp l (a + 1) - 1) (by omega) (by omega) (by omega) (hs a hia h1 h2 hp) ?_
        rcases hn.2 with h | ⟨h, h'⟩
        · exact .inl h
        · exact .inr ⟨h, by rw [← h']; omega⟩
      · rw [← h2]; exact ⟨hp, h1⟩
  refine main (l.length - i) i (Nat.le_refl _) (Nat.le_refl _) hi h0 ?_
  rcases hup.first hi with h | ⟨h1, h2⟩
  · exact .inl h
  · exact .inr ⟨by rw [h1, kidsN_low], h2.symm⟩
omit hup in
theorem hdL_len (x : Nd) : (hdL x).length = 1 := by unfold hdL; split; rfl; split <;> rfl
omit hup in
theorem tlL_len (x : Nd) : (tlL x).length ≤ 1 := by unfold tlL; split <;> simp
theorem UpTo.lexP_len : ∀ (f i : Nat), i ≤ l.length → l.length - i ≤ f → (lexP l i).length ≤ 2 * (endp l i - i) ∧ (lexK l i l.length).length ≤ 2 * (endp l i - 1 - i) := by
  intro f
  induction f using Nat.strongRecOn with
  | _ f ih =>
    intro i h1 h2
    have hc := hup.chain h1 (fun a => i ≤ a ∧ (lexK l i a).length ≤ 2 * (a - i)) ⟨Nat.le_refl _, by rw [lexK_zero]; simp⟩ (fun a ha han hp ⟨_, hP⟩ => by
      have hn := (hup.next han hp).1
      have hg := endp_gt l (a + 1)
      have hr := (ih (l.length - (a + 1)) (by omega) (a + 1) (by omega) (Nat.le_refl _)).1
      refine ⟨by omega, ?_⟩
      rw [lexK_same hn, lexK_step hp, List.length_append]
      omega)
    have hk : (lexK l i l.length).length ≤ 2 * (endp l i - 1 - i) := by rw [← lexK_same hc.2]; exact hc.1.2
    have hgt := endp_gt l i
    refine ⟨?_, hk⟩
    rw [lexP_eq h1, List.length_append, List.length_append, hdL_len]
    have := tlL_len (nAt l i)
    omega
theorem UpTo.lexK_le {i a : Nat} (hi : i ≤ l.length) (ha : a ≤ l.length) : (lexK l i a).length ≤ 2 * l.length := by
  obtain ⟨r, hr⟩ := kids_pre (l := l) (i := i) (a := a) l.length ha
  have h1 := (hup.lexP_len (l.length - i) i hi (Nat.le_refl _)).2
  have h2 := endp_le hi
  have h3 : lexK l i l.length = lexK l i a ++ r.flatMap (fun x => lexP l (x + 1)) := by unfold lexK; rw [hr, List.flatMap_append]
  rw [h3, List.length_append] at h1
  omega
theorem UpTo.lexP_le {i : Nat} (hi : i ≤ l.length) : (lexP l i).length ≤ 2 * (l.length + 1) := by
  have h1 := (hup.lexP_len (l.length - i) i hi (Nat.le_refl _)).1
  have h2 := endp_le hi
  omega
/-- the Texts are short. -/
theorem UpTo.lexF_size (f : Nat) : ∀ i, 1 ≤ i → i ≤ l.length → ∀ y ∈ lexF l f i, y.s.size ≤ 2000 := by
  induction f with
  | zero => intro i _ _ y hy; simp [lexF] at hy
  | succ f ih =>
    intro i h1 h2 y hy
    simp only [lexF, List.mem_append] at hy
    rcases hy with hy | hy | hy
    · obtain ⟨i', rfl⟩ : ∃ i', i = i' + 1 := ⟨i - 1, by omega⟩
      obtain ⟨⟨x, hx, hn⟩, _⟩ := hup i' (by omega)
      rw [nAt_succ hx] at hy
      unfold hdL at hy
      split at hy
      · rename_i hk
        simp at hy
        rw [hy]
        unfold nodB at hn
        simp only [Bool.and_eq_true] at hn
        have h3 := hn.2.2
        rw [if_neg (by omega)] at h3
        show x.s.size ≤ 2000
        apply Classical.byContradiction
        intro h4
        have : (lxA x.s).1 = [] := by unfold lxA; rw [if_pos (by omega)]
        rw [this] at h3
        cases h3
      · split at hy
        · simp at hy; rw [hy]; decide
        · simp at hy; rw [hy]; unfold opS; split; decide; split <;> decide
    · obtain ⟨x, hx, hy⟩ := List.mem_flatMap.1 hy
      have := kidsN_mem hx
      exact ih (x + 1) (by omega) (by omega) y hy
    · unfold tlL at hy
      split at hy
      · simp at hy; rw [hy]; unfold clS; split; decide; split <;> decide
      · simp at hy
theorem UpTo.lexK_size {i a : Nat} (ha : a ≤ l.length) : ∀ y ∈ lexK l i a, y.s.size ≤ 2000 := by
  intro y hy
  obtain ⟨x, hx, hy⟩ := List.mem_flatMap.1 hy
  have := kidsN_mem hx
  exact hup.lexF_size _ (x + 1) (by omega) (by omega) y hy
end
end Go.Proofs.YtlcplgfjicifeaaGreatDoor
namespace Go.Proofs.YtlcplgfjicifeaaGreatDoor
open Go.RowKit
set_option linter.unusedVariables false

structure Sy where
  r : Int
  q : Int
  c : Int
  h : Int
  g : Int
/-- the first k numbers of a style are of 0 .. 3. -/
def Sy.ok (s : Sy) : Bool := inB s.r 0 3 && (inB s.q 0 3 && (inB s.c 0 3 && (inB s.h 0 3 && inB s.g 0 1)))
theorem Sy.ok_iff {s : Sy} : s.ok = true ↔ (0 ≤ s.r ∧ s.r ≤ 3) ∧ (0 ≤ s.q ∧ s.q ≤ 3) ∧ (0 ≤ s.c ∧ s.c ≤ 3) ∧ (0 ≤ s.h ∧ s.h ≤ 3) ∧ (0 ≤ s.g ∧ s.g ≤ 1) := by
  simp only [Sy.ok, Bool.and_eq_true, inB_true]
def Sy.vs (s : Sy) : List Int := [s.r, s.q, s.c, s.h, s.g]
def Sy.val (s : Sy) : Value := .agg #[.int .i64 s.r, .int .i64 s.q, .int .i64 s.c, .int .i64 s.h, .int .i64 s.g]
def Sy.of (s : Sy) (k : Int) : Int := if k = 3 then s.r else if k = 4 then s.q else s.c
/-- one digit. -/
def dgS (k : Int) : ByteArray := if k = 0 then ⟨#[48]⟩ else if k = 1 then ⟨#[49]⟩ else if k = 2 then ⟨#[50]⟩ else ⟨#[51]⟩
theorem dgS_size (k : Int) : (dgS k).size = 1 := by unfold dgS; split; rfl; split; rfl; split <;> rfl
end Go.Proofs.YtlcplgfjicifeaaGreatDoor
namespace Go.Proofs.YtlcplgfjicifeaaGreatDoor
open Go.RowKit
set_option linter.unusedVariables false

def tT (s : ByteArray) : Tk := ⟨0, s, 0, 0⟩
def tL : Tk := ⟨4, ByteArray.empty, 0, 0⟩
def tE : Tk := ⟨3, ByteArray.empty, 0, 0⟩
def tG (d o : Int) : Tk := ⟨2, ByteArray.empty, d, o⟩
def tK (o : Int) : Tk := ⟨1, ByteArray.empty, 1, o⟩
/-- the Off of the blank behind child n (from 1 on), number p of those that are no notes. -/
def offB (s : Sy) (k : Int) (n p : Nat) : Int := if k = 5 then ((p : Int) % 2) else if k = 3 ∧ s.r % 2 = 0 ∧ (n : Int) ≤ s.h then 2 else 0
/-- what stands behind child n of a block. -/
def ptL (s : Sy) (k : Int) (note last : Bool) (n p : Nat) : List Tk := if note then [tL] else if last then [] else [tK (offB s k n p)]
theorem ptL_len (s : Sy) (k : Int) (note last : Bool) (n p : Nat) : (ptL s k note last n p).length ≤ 1 := by
  unfold ptL; split; simp; split <;> simp
def isN (l : List Nd) (c : Nat) : Bool := decide (knd l (c + 1) = 2)
/-- number of those that are no notes, behind child c. -/
def pl1 (l : List Nd) (c p : Nat) : Nat := if isN l c then p else p + 1
/-- the tokens of some children of a block of Kind k with tot children, n and p of them ahead. -/
def kidT (s : Sy) (l : List Nd) (g : Nat → List Tk) (k : Int) (tot : Nat) : List Nat → Nat → Nat → List Tk
  | [], _, _ => []
  | c :: cs, n, p => g (c + 1) ++ (ptL s k (isN l c) (decide (n + 1 = tot)) (n + 1) (pl1 l c p) ++ kidT s l g k tot cs (n + 1) (pl1 l c p))
def plE (l : List Nd) : List Nat → Nat → Nat
  | [], p => p
  | c :: cs, p => plE l cs (pl1 l c p)
theorem plE_app (l : List Nd) (c : Nat) : ∀ (ks : List Nat) (p : Nat), plE l (ks ++ [c]) p = pl1 l c (plE l ks p)
  | [], p => rfl
  | x :: ks, p => plE_app l c ks (pl1 l x p)
theorem plE_le (l : List Nd) : ∀ (ks : List Nat) (p : Nat), plE l ks p ≤ p + ks.length
  | [], p => Nat.le_refl _
  | x :: ks, p => by
    have := plE_le l ks (pl1 l x p)
    have h : pl1 l x p ≤ p + 1 := by unfold pl1; split <;> omega
    simp only [plE, List.length_cons]
    omega
theorem kidT_snoc (s : Sy) (l : List Nd) (g : Nat → List Tk) (k : Int) (tot c : Nat) : ∀ (ks : List Nat) (n p : Nat),
    kidT s l g k tot (ks ++ [c]) n p = kidT s l g k tot ks n p ++ (g (c + 1) ++ ptL s k (isN l c) (decide (n + ks.length + 1 = tot)) (n + ks.length + 1) (pl1 l c (plE l ks p)))
  | [], n, p => by simp [kidT, plE]
  | x :: ks, n, p => by
    simp only [List.cons_append, kidT, kidT_snoc s l g k tot c ks (n + 1) (pl1 l x p), List.append_assoc, plE, List.length_cons]
    rw [show n + 1 + ks.length = n + (ks.length + 1) by omega]
theorem kidT_congr {s : Sy} {l : List Nd} {g g' : Nat → List Tk} {k : Int} {tot : Nat} : ∀ (ks : List Nat) (n p : Nat), (∀ c ∈ ks, g (c + 1) = g' (c + 1)) → kidT s l g k tot ks n p = kidT s l g' k tot ks n p
  | [], n, p, _ => rfl
  | x :: ks, n, p, h => by
    simp only [kidT]
    rw [h x (by simp), kidT_congr ks (n + 1) _ fun c hc => h c (by simp [hc])]
theorem kidT_len (s : Sy) (l : List Nd) (g : Nat → List Tk) (k : Int) (tot : Nat) : ∀ (ks : List Nat) (n p : Nat), (kidT s l g k tot ks n p).length ≤ (ks.map (fun c => (g (c + 1)).length + 1)).sum
  | [], n, p => by simp [kidT]
  | x :: ks, n, p => by
    have h1 := kidT_len s l g k tot ks (n + 1) (pl1 l x p)
    have h2 := ptL_len s k (isN l x) (decide (n + 1 = tot)) (n + 1) (pl1 l x p)
    simp only [kidT, List.length_append, List.map_cons, List.sum_cons]
    omega
theorem fmT_len (g : Nat → List Tk) : ∀ (ks : List Nat), (ks.flatMap fun c => g (c + 1)).length ≤ (ks.map (fun c => (g (c + 1)).length + 1)).sum
  | [] => by simp
  | x :: ks => by
    have h1 := fmT_len g ks
    simp only [List.flatMap_cons, List.length_append, List.map_cons, List.sum_cons]
    omega
def tkF (s : Sy) (l : List Nd) : Nat → Nat → List Tk
  | 0, _ => []
  | f + 1, i => if knd l i ≤ 2 then [tT (nAt l i).s] else if knd l i = 6 then tT ⟨#[39]⟩ :: (kidsN l i l.length).flatMap (fun c => tkF s l f (c + 1))
    else tG (s.of (knd l i) % 2) (1 + s.of (knd l i) / 2) :: tT (opS (knd l i)) :: (kidT s l (tkF s l f) (knd l i) (kidsN l i l.length).length (kidsN l i l.length) 0 0 ++ [tT (clS (knd l i)), tE])
theorem tkF_fuel (s : Sy) (l : List Nd) : ∀ (f g i : Nat), i ≤ l.length → l.length + 1 - i ≤ f → l.length + 1 - i ≤ g → tkF s l f i = tkF s l g i := by
  intro f
  induction f with
  | zero => intro g i h1 h2 h3; omega
  | succ f ih =>
    intro g i h1 h2 h3
    obtain ⟨g, rfl⟩ : ∃ h, g = h + 1 := ⟨g - 1, by omega⟩
    have hk : ∀ c ∈ kidsN l i l.length, tkF s l f (c + 1) = tkF s l g (c + 1) := by
      intro c hc
      have := kidsN_mem hc
      exact ih g (c + 1) (by omega) (by omega) (by omega)
    simp only [tkF]
    rw [kidT_congr _ _ _ hk, fm_congr hk]
/-- the tokens of the node at place i and of all that is in it. -/
def tkP (s : Sy) (l : List Nd) (i : Nat) : List Tk := tkF s l (l.length + 1 - i) i
/-- those of its first m children, as a block's. -/
def blT (s : Sy) (l : List Nd) (i m : Nat) : List Tk := kidT s l (tkP s l) (knd l i) (kidsN l i l.length).length ((kidsN l i l.length).take m) 0 0
def plT (l : List Nd) (i m : Nat) : Nat := plE l ((kidsN l i l.length).take m) 0
def quT (s : Sy) (l : List Nd) (i m : Nat) : List Tk := ((kidsN l i l.length).take m).flatMap (fun c => tkP s l (c + 1))
theorem tkP_fuel {s : Sy} {l : List Nd} {i f : Nat} (hi : i ≤ l.length) (hf : l.length + 1 - i ≤ f) : tkF s l f i = tkP s l i := tkF_fuel s l f _ i hi hf (Nat.le_refl _)
theorem tkP_leaf {s : Sy} {l : List Nd} {i : Nat} (hi : i ≤ l.length) (hk : knd l i ≤ 2) : tkP s l i = [tT (nAt l i).s] := by
  obtain ⟨f, hf⟩ : ∃ f, l.length + 1 - i = f + 1 := ⟨l.length - i, by omega⟩
  unfold tkP
  rw [hf]
  simp only [tkF]
  rw [if_pos hk]
theorem tkP_quote {s : Sy} {l : List Nd} {i : Nat} (hi : i ≤ l.length) (hk : knd l i = 6) : tkP s l i = tT ⟨#[39]⟩ :: quT s l i (kidsN l i l.length).length := by
  obtain ⟨f, hf⟩ : ∃ f, l.length + 1 - i = f + 1 := ⟨l.length - i, by omega⟩
  unfold quT
  rw [List.take_length]
  conv => lhs; unfold tkP
  rw [hf]
  simp only [tkF]
  rw [if_neg (by omega), if_pos hk]
  congr 1
  refine fm_congr fun c hc => ?_
  have := kidsN_mem hc
  exact tkP_fuel (by omega) (by omega)
theorem tkP_block {s : Sy} {l : List Nd} {i : Nat} (hi : i ≤ l.length) (h3 : 3 ≤ knd l i) (h5 : knd l i ≤ 5) :
    tkP s l i = tG (s.of (knd l i) % 2) (1 + s.of (knd l i) / 2) :: tT (opS (knd l i)) :: (blT s l i (kidsN l i l.length).length ++ [tT (clS (knd l i)), tE]) := by
  obtain ⟨f, hf⟩ : ∃ f, l.length + 1 - i = f + 1 := ⟨l.length - i, by omega⟩
  unfold blT
  rw [List.take_length]
  conv => lhs; unfold tkP
  rw [hf]
  simp only [tkF]
  rw [if_neg (by omega), if_neg (by omega)]
  congr 3
  refine kidT_congr _ _ _ fun c hc => ?_
  have := kidsN_mem hc
  exact tkP_fuel (by omega) (by omega)
theorem blT_zero (s : Sy) (l : List Nd) (i : Nat) : blT s l i 0 = [] := rfl
theorem blT_succ {s : Sy} {l : List Nd} {i m c : Nat} (h : (kidsN l i l.length)[m]? = some c) :
    blT s l i (m + 1) = blT s l i m ++ (tkP s l (c + 1) ++ ptL s (knd l i) (isN l c) (decide (m + 1 = (kidsN l i l.length).length)) (m + 1) (pl1 l c (plT l i m))) ∧ plT l i (m + 1) = pl1 l c (plT l i m) := by
  have hm := (List.getElem?_eq_some_iff.1 h).1
  have e : (kidsN l i l.length).take (m + 1) = (kidsN l i l.length).take m ++ [c] := by rw [List.take_add_one, h]; rfl
  have e2 : ((kidsN l i l.length).take m).length = m := by rw [List.length_take]; omega
  unfold blT plT
  rw [e, kidT_snoc, plE_app, e2, Nat.zero_add]
  exact ⟨rfl, rfl⟩
theorem quT_succ {s : Sy} {l : List Nd} {i m c : Nat} (h : (kidsN l i l.length)[m]? = some c) : quT s l i (m + 1) = quT s l i m ++ tkP s l (c + 1) := by
  unfold quT
  rw [List.take_add_one, h, List.flatMap_append]
  simp
/-- the tokens of the first m nodes of Depth 0, with lines between. -/
def toT (s : Sy) (l : List Nd) : Nat → List Tk
  | 0 => []
  | m + 1 => toT s l m ++ ((if m = 0 then [] else List.replicate (s.g.toNat + 1) tL) ++ (match (kidsN l 0 l.length)[m]? with | some c => tkP s l (c + 1) | none => []))
theorem toT_succ {s : Sy} {l : List Nd} {m c : Nat} (h : (kidsN l 0 l.length)[m]? = some c) : toT s l (m + 1) = toT s l m ++ ((if m = 0 then [] else List.replicate (s.g.toNat + 1) tL) ++ tkP s l (c + 1)) := by
  simp only [toT, h]
def kwt (s : Sy) (l : List Nd) (ks : List Nat) : Nat := (ks.map (fun c => (tkP s l (c + 1)).length + 1)).sum
theorem kwt_snoc (s : Sy) (l : List Nd) (ks : List Nat) (c : Nat) : kwt s l (ks ++ [c]) = kwt s l ks + ((tkP s l (c + 1)).length + 1) := by
  unfold kwt; simp
theorem kwt_take (s : Sy) (l : List Nd) (ks : List Nat) (m : Nat) : kwt s l (ks.take m) ≤ kwt s l ks := by
  have e : kwt s l ks = kwt s l (ks.take m) + kwt s l (ks.drop m) := by
    unfold kwt; rw [← List.sum_append, ← List.map_append, List.take_append_drop]
  omega
section
variable {l : List Nd} (hup : UpTo l l.length) (s : Sy)
include hup
theorem UpTo.tk_len : ∀ (f i : Nat), i ≤ l.length → l.length - i ≤ f → (1 ≤ i → (tkP s l i).length + 1 ≤ 5 * (endp l i - i)) ∧ kwt s l (kidsN l i l.length) ≤ 5 * (endp l i - 1 - i) := by
  intro f
  induction f using Nat.strongRecOn with
  | _ f ih =>
    intro i h1 h2
    have hc := hup.chain h1 (fun a => i ≤ a ∧ kwt s l (kidsN l i a) ≤ 5 * (a - i)) ⟨Nat.le_refl _, by rw [kidsN_low]; simp [kwt]⟩ (fun a ha han hp ⟨_, hP⟩ => by
      have hn := (hup.next han hp).1
      have hg := endp_gt l (a + 1)
      have hr := (ih (l.length - (a + 1)) (by omega) (a + 1) (by omega) (Nat.le_refl _)).1 (by omega)
      refine ⟨by omega, ?_⟩
      rw [hn, kidsN_yes hp, kwt_snoc]
      omega)
    have hk : kwt s l (kidsN l i l.length) ≤ 5 * (endp l i - 1 - i) := by rw [← hc.2]; exact hc.1.2
    have hgt := endp_gt l i
    refine ⟨fun h0 => ?_, hk⟩
    by_cases hleaf : Go.Proofs.YtlcplgfjicifeaaGreatDoor.knd l i ≤ 2
    · rw [tkP_leaf h1 hleaf]
      simp only [List.length_cons, List.length_nil]
      omega
    · by_cases hq : Go.Proofs.YtlcplgfjicifeaaGreatDoor.knd l i = 6
      · rw [tkP_quote h1 hq]
        have h3 : (quT s l i (kidsN l i l.length).length).length ≤ kwt s l (kidsN l i l.length) := by
          unfold quT; rw [List.take_length]; exact fmT_len (tkP s l) _
        simp only [List.length_cons]
        omega
      · have hb := hup.knd h1
        rw [tkP_block h1 (by omega) (by omega)]
        have h3 : (blT s l i (kidsN l i l.length).length).length ≤ kwt s l (kidsN l i l.length) := by
          unfold blT; rw [List.take_length]; exact kidT_len s l (tkP s l) _ _ _ _ _
        simp only [List.length_cons, List.length_append, List.length_nil]
        omega
theorem UpTo.tkP_le {i : Nat} (h0 : 1 ≤ i) (hi : i ≤ l.length) : (tkP s l i).length ≤ 5 * l.length := by
  have h1 := (hup.tk_len s (l.length - i) i hi (Nat.le_refl _)).1 h0
  have h2 := endp_le hi
  omega
theorem UpTo.kwt_le {i : Nat} (hi : i ≤ l.length) (m : Nat) : kwt s l ((kidsN l i l.length).take m) ≤ 5 * l.length := by
  have h1 := (hup.tk_len s (l.length - i) i hi (Nat.le_refl _)).2
  have h2 := endp_le hi
  have h3 := kwt_take s l (kidsN l i l.length) m
  omega
theorem UpTo.blT_le {i : Nat} (hi : i ≤ l.length) (m : Nat) : (blT s l i m).length ≤ 5 * l.length := by
  have h1 := hup.kwt_le s hi m
  have h2 : (blT s l i m).length ≤ kwt s l ((kidsN l i l.length).take m) := kidT_len s l (tkP s l) _ _ _ _ _
  omega
theorem UpTo.quT_le {i : Nat} (hi : i ≤ l.length) (m : Nat) : (quT s l i m).length ≤ 5 * l.length := by
  have h1 := hup.kwt_le s hi m
  have h2 : (quT s l i m).length ≤ kwt s l ((kidsN l i l.length).take m) := fmT_len (tkP s l) _
  omega
theorem UpTo.toT_le (h2 : s.g ≤ 1) (m : Nat) (hm : m ≤ (kidsN l 0 l.length).length) : (toT s l m).length ≤ 2 * m + 5 * l.length := by
  have key : ∀ m, m ≤ (kidsN l 0 l.length).length → (toT s l m).length ≤ 2 * m + kwt s l ((kidsN l 0 l.length).take m) := by
    intro m
    induction m with
    | zero => intro _; simp [toT]
    | succ m ih =>
      intro hm
      have hat := List.getElem?_eq_getElem (show m < (kidsN l 0 l.length).length by omega)
      have h5 := ih (by omega)
      rw [toT_succ hat, List.take_add_one, hat, Option.toList_some, kwt_snoc, List.length_append, List.length_append]
      split
      · simp only [List.length_nil]; omega
      · rw [List.length_replicate]; omega
  have h3 := key m hm
  have h4 := hup.kwt_le s (Nat.zero_le _) m
  omega
end
end Go.Proofs.YtlcplgfjicifeaaGreatDoor
namespace Go.Proofs.YtlcplgfjicifeaaGreatDoor
open Go.RowKit
set_option linter.unusedVariables false

theorem plainN_step {l : List Nd} {ks : List Nat} {j x : Nat} (h : ks[j]? = some x) : plainN l (ks.take (j + 1)) = plainN l (ks.take j) + (if knd l (x + 1) = 2 then 0 else 1) := by
  unfold plainN
  rw [List.take_add_one, h, List.countP_append]
  by_cases hk : knd l (x + 1) = 2 <;> simp [hk]
def evB (n : Nat) : Bool := decide (n % 2 = 0)
theorem evB_succ (n : Nat) : evB (n + 1) = !evB n := by
  unfold evB
  by_cases h : n % 2 = 0
  · simp [h]; omega
  · simp [h]; omega
set_option maxHeartbeats 1000000 in
theorem even_any {w : World} {B k : Nat} {l : List Nd} {ps : Nat → Nat} {vs : Nat → Value} (h : Fo w B l k ps vs) (i : Nat) (hi : i ≤ k) (h200 : k ≤ 1000) :
    Calls Tryz.prog 180 #[ptr (ps i)] w fun e w' => e = .returned (.bool (evB (plainN l (kidsN l i k)))) ∧ w = w' := by
  have H := Lib.hid h
  clear h
  obtain ⟨A, c, hv, hkid⟩ := H.out.kid hi
  have hcell := H.out.cells hi
  rw [hv] at hcell
  obtain ⟨_, _, _, _, _, c5, cl⟩ := hcell
  have hlen := kidsN_len l i k
  obtain ⟨ks, hks⟩ : ∃ ks, kidsN l i k = ks := ⟨_, rfl⟩
  have HM := Lib.hid (show ∀ x ∈ ks, x < k from fun x hx => (kidsN_mem (by rw [hks]; exact hx)).1)
  rw [hks] at hkid c5 hlen ⊢
  have HKID := Lib.hid hkid
  clear hkid hks hv
  unfold ptr
  go_enter Tryz.func180, Tryz.ntmps180
  go_wp2
  clear c5 cl
  go_loopw [3, 11] (fun ev iv wr => ∃ j : Nat, j ≤ ks.length ∧ iv = .int .i64 j ∧ ev = .bool (evB (plainN l (ks.take j))) ∧ wr = w) (fun _ iv _ => ks.length - (intOf iv).toNat)
  case atStart => exact ⟨0, Nat.zero_le _, rfl, rfl, rfl⟩
  case round =>
    obtain ⟨j, hj, rfl, rfl, rfl⟩ := hrel
    by_cases hjl : j < ks.length
    · have hx := List.getElem?_eq_getElem hjl
      obtain ⟨x, hx'⟩ : ∃ x, ks[j] = x := ⟨_, rfl⟩
      rw [hx'] at hx
      obtain ⟨g, rfl, hgl, cg⟩ := HKID.out j x hx
      have hxk := HM.out x (List.mem_of_getElem? hx)
      obtain ⟨_, d1, _, _, _, _, dl⟩ := H.out.cells (show x + 1 ≤ k by omega)
      have HST := Lib.hid (plainN_step (l := l) hx)
      unfold ptr at cg
      clear hx hx'
      by_cases h2 : knd l (x + 1) = 2
      · have HE := Lib.hid (show evB (plainN l (ks.take (j + 1))) = evB (plainN l (ks.take j)) by rw [HST.out, if_pos h2]; rfl)
        rw [h2] at d1
        go_wp2
        go_roundw
        case rel => exact ⟨j + 1, by omega, by go_num, by rw [HE.out], trivial⟩
        case measure => simp [intOf]; omega
      · have HE := Lib.hid (show evB (plainN l (ks.take (j + 1))) = !evB (plainN l (ks.take j)) by rw [HST.out, if_neg h2, evB_succ])
        have b1 : (knd l (x + 1) == 2) = false := by simpa using h2
        have b2 : (knd l (x + 1) != 2) = true := by simpa using h2
        clear h2
        go_wp2
        go_roundw
        case rel => exact ⟨j + 1, by omega, by go_num, by rw [HE.out], trivial⟩
        case measure => simp [intOf]; omega
    · have e : ks.take j = ks := List.take_of_length_le (by omega)
      rw [e]
      go_wp2
      go_ret
      exact ⟨rfl, rfl⟩
set_option maxHeartbeats 1000000 in
theorem whole_any {w : World} {B k : Nat} {l : List Nd} {ps : Nat → Nat} {vs : Nat → Value} (h : Fo w B l k ps vs) (i : Nat) (hi : i ≤ k) (h200 : k ≤ 1000) :
    Calls Tryz.prog 137 #[ptr (ps i)] w fun e w' => e = .returned (.bool (whl l i k)) ∧ w = w' := by
  have H := Lib.hid h
  clear h
  obtain ⟨A, c, hv, hkid⟩ := H.out.kid hi
  have hcell := H.out.cells hi
  rw [hv] at hcell
  obtain ⟨_, c1, _, _, _, c5, cl⟩ := hcell
  have hlen := kidsN_len l i k
  unfold ptr
  by_cases h6 : knd l i = 6
  · obtain ⟨ks, hks⟩ : ∃ ks, kidsN l i k = ks := ⟨_, rfl⟩
    have HM := Lib.hid (show ∀ x ∈ ks, x < k from fun x hx => (kidsN_mem (by rw [hks]; exact hx)).1)
    have HI := Lib.hid (show whl l i k = (decide (ks.length = 1) && decide (plainN l ks = 1)) by unfold whl; rw [if_pos h6, hks])
    rw [hks] at hkid c5 hlen
    rw [h6] at c1
    clear hks hv h6
    by_cases h1 : ks.length = 1
    · match ks, h1 with
      | [x], _ =>
        obtain ⟨g, rfl, hgl, cg⟩ := hkid 0 x rfl
        have hxk := HM.out x (by simp)
        obtain ⟨_, d1, _, _, _, _, dl⟩ := H.out.cells (show x + 1 ≤ k by omega)
        unfold ptr at cg
        by_cases h2 : knd l (x + 1) = 2
        · have HE := Lib.hid (show whl l i k = false by rw [HI.out]; simp [plainN, h2])
          rw [h2] at d1
          clear hkid
          simp only [List.length_cons, List.length_nil, Nat.zero_add] at c5
          go_enter Tryz.func137, Tryz.ntmps137
          go_wp2
          go_ret
          rw [HE.out]
          exact ⟨rfl, rfl⟩
        · have HE := Lib.hid (show whl l i k = true by rw [HI.out]; simp [plainN, h2])
          have b1 : (knd l (x + 1) == 2) = false := by simpa using h2
          have b2 : (knd l (x + 1) != 2) = true := by simpa using h2
          clear hkid h2
          simp only [List.length_cons, List.length_nil, Nat.zero_add] at c5
          go_enter Tryz.func137, Tryz.ntmps137
          go_wp2
          go_ret
          rw [HE.out]
          exact ⟨rfl, rfl⟩
    · have HE := Lib.hid (show whl l i k = false by rw [HI.out]; simp [h1])
      have b1 : ((ks.length : Int) == 1) = false := by simp; omega
      clear hkid h1
      go_enter Tryz.func137, Tryz.ntmps137
      go_wp2
      go_ret
      rw [HE.out]
      exact ⟨rfl, rfl⟩
  · have b6 : (knd l i == 6) = false := by simpa using h6
    by_cases h5 : knd l i = 5
    · have HI := Lib.hid (show whl l i k = evB (plainN l (kidsN l i k)) by unfold whl; rw [if_neg h6, if_pos h5]; rfl)
      rw [h5] at c1 b6
      clear h5 h6 hkid c5
      go_enter Tryz.func137, Tryz.ntmps137
      go_wp2_with fail
      refine (even_any H.out i hi h200).mono ?_
      rintro e w' ⟨rfl, rfl⟩
      go_wp2
      go_ret
      rw [HI.out]
      exact ⟨rfl, rfl⟩
    · have HI := Lib.hid (show whl l i k = true by unfold whl; rw [if_neg h6, if_neg h5])
      have b5 : (knd l i == 5) = false := by simpa using h5
      clear h5 h6 hkid c5
      go_enter Tryz.func137, Tryz.ntmps137
      go_wp2
      go_ret
      rw [HI.out]
      exact ⟨rfl, rfl⟩
end Go.Proofs.YtlcplgfjicifeaaGreatDoor
