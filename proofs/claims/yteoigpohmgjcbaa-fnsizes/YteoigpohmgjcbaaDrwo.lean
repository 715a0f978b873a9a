/-
  The draws: a list of tokens that may be no stream.
-/
import Derived.Test.YteoigpohmgjcbaaDrwl
import Derived.Lib.SmallJoins
namespace Go.Proofs.Yteoigpohmgjcbaa
open Go.RowKit
set_option linter.unusedVariables false

/-- what a drawn list is. -/
def LsPost (w : World) (p : Nat) (A : Option Addr) (n c : Nat) (e : Ending) (w' : World) : Prop :=
  ∃ A' c' l, e = .returned (.slice A' l.length c') ∧ l.length ≤ 500 ∧ (∀ b, A'.map (·.block) = some b → w.heap.size ≤ b ∧ b < w'.heap.size) ∧ TS w' A' l ∧ (∀ t, t ∈ l → t.s.size ≤ 41) ∧ Cur w' p A n c ∧ w.grownBy w' (some p)
theorem Dr.ls {w : World} {p : Nat} {A : Option Addr} {n c : Nat} {v : Value} {l : List Tk} {wr : World} (h : Dr w p A n c v l wr) (hl : l.length ≤ 500) : LsPost w p A n c (.returned v) wr := by
  obtain ⟨_, A', c', rfl, hb, hts⟩ := toks_of_own h.own
  exact ⟨A', c', l, rfl, hl, hb, hts, h.short, h.cur, h.grown⟩
theorem TS.tail {w : World} {g : Nat} {l : List Tk} (h : TS w (some ⟨g, 0, none⟩) l) : TS w (some ⟨g, 4, none⟩) l.tail := by
  intro i t ht
  have ht' : l[i + 1]? = some t := by rw [← ht]; cases l <;> simp
  obtain ⟨hb, hc⟩ := h.get ht'
  refine ⟨g, 4, rfl, hb, ?_⟩
  rw [show 4 + i * 4 = 0 + (i + 1) * 4 by omega]
  exact hc
def lenOfV : Value → Nat
  | .slice _ n _ => n
  | _ => 0

set_option maxHeartbeats 2000000 in
set_option maxRecDepth 100000 in
theorem l02DrawLoose_any (p : Nat) (A : Option Addr) (n c : Nat) (w : World) (hm : n ≤ 1048576) (hb : BS w A n) (hne : ∀ b, A.map (·.block) = some b → b ≠ p) (hAlt : ∀ b, A.map (·.block) = some b → b < w.heap.size) (hc : Cur w p A n c) :
    Calls Try.prog 67 #[.pointer (some ⟨p, 0, none⟩), .slice A n c] w (LsPost w p A n c) := by
  have hp := hc.lt
  have HB := Lib.hid hb
  have HNE := Lib.hid hne
  have HAL := Lib.hid hAlt
  have HC := Lib.hid hc
  clear hb hne hAlt hc
  obtain ⟨i0, hi, hz0, hz1, hz2⟩ := info_parts infoTok
  go_enter Try.func67, Try.ntmps67
  go_wp2_with fail
  refine (l01Size_any A n c 60 w hm (by decide) (by decide)).mono ?_
  rintro e w0 ⟨⟨x, rfl, hx1, hx2⟩, rfl⟩
  go_wp2_with fail
  refine (l01Below_any x p A n c w hm hx1 (by omega) HB.out HNE.out HC.out).mono ?_
  rintro e w1 ⟨⟨v1, ⟨y, rfl, hy⟩, rfl⟩, hc1, hg1⟩
  have HC1 := Lib.hid hc1
  have HG1 := Lib.hid hg1
  have hz1' := hg1.size
  clear hc1 hg1
  go_wp2_with fail
  refine (l02DrawStream_any y p A n c w1 hm (by omega) (HB.out.grown HNE.out HG1.out) HNE.out (fun b hb => Nat.lt_of_lt_of_le (HAL.out b hb) hz1') HC1.out).mono ?_
  rintro e w2 ⟨v, l, rfl, hll, hdr⟩
  have hD : Dr w p A n c v l w2 := ⟨Joins.ownsRow_le hdr.own hz1', hdr.short, hdr.cur, gB_tr HG1.out hdr.grown⟩
  have HD := Lib.hid hD
  have hl72 : l.length ≤ 72 := by omega
  obtain ⟨_, AA, cA, rfl, _, _⟩ := toks_of_own hD.own
  have hz4 := hD.grown.size
  clear hdr hD hll HC1 HG1
  go_wp2_with fail
  refine (l01Once_any 12 p A n c w2 hm (by decide) (by decide) (HD.out.bs HB.out HNE.out) HNE.out HD.out.cur).mono ?_
  rintro e w3 ⟨⟨v3, ⟨x3, rfl⟩, rfl⟩, hc3, hg3⟩
  have HD3 := Lib.hid (HD.out.go hp hc3 hg3)
  clear hc3 hg3 HD
  cases x3
  · go_wp2
    go_ret
    exact HD3.out.ls (by omega)
  · go_wp2_with fail
    refine (l01Below_any 4 p A n c w3 hm (by decide) (by decide) (HD3.out.bs HB.out HNE.out) HNE.out HD3.out.cur).mono ?_
    rintro e w4 ⟨⟨v4, ⟨x4, rfl, hx4⟩, rfl⟩, hc4, hg4⟩
    have HD4 := Lib.hid (HD3.out.go hp hc4 hg4)
    have hz5 := HD4.out.grown.size
    clear hc4 hg4 HD3
    have hx4' : x4 = 0 ∨ x4 = 1 ∨ x4 = 2 ∨ x4 = 3 := by omega
    clear hx4
    rcases hx4' with rfl | rfl | rfl | rfl
    · go_wp2_with fail
      refine (l01DrawLoose_any p A n c w4 hm (HD4.out.bs HB.out HNE.out) HNE.out (fun b hb => Nat.lt_of_lt_of_le (HAL.out b hb) hz5) HD4.out.cur).mono ?_
      rintro e w5 ⟨⟨v5, ⟨t, rfl, ht41⟩, rfl⟩, hc5, hg5⟩
      have HD5 := Lib.hid (HD4.out.go hp hc5 hg5)
      have hz6 := HD5.out.grown.size
      clear hc5 hg5 HD4
      go_wp2_with (at_builtin; refine wpList_append_own _ rfl _ _ 26 rfl w.heap.size 45 i0 (.agg #[.int .i64 0, .string ByteArray.empty, .int .i64 0, .int .i64 0]) 4 40 Try.underlying26 hi hz0 hz1 hz2 rfl (by decide) _ l.length _ rfl (HD5.out.own.alloc _) ⟨w5.heap.size, 0, none⟩ 1 1 [.int .i64 t.k, .string t.s, .int .i64 t.d, .int .i64 t.o] rfl rfl (cell_four_at w5 _ rfl _ _ _ _ _) (by simp [Value.oneCell']) (by simp only [maxLen]; omega) (by omega) (by simp; omega) ?_)
      intro v' w6 hown6 hgrow6 _
      have HD6 := Lib.hid (Dr.app (t := t) hp HD5.out ht41 hown6 hgrow6)
      clear hown6 hgrow6
      go_wp2
      go_ret
      exact HD6.out.ls (by rw [List.length_append]; show l.length + 1 ≤ 500; omega)
    · by_cases hl0 : 0 < l.length
      · have hown := HD4.out.own
        obtain ⟨g, cap, hv⟩ := Joins.ownsRow_form hown hl0
        injection hv with hv1 hv2 hv3
        subst hv1
        have hts := (toks_of_own hown)
        obtain ⟨_, A2, c2, hv', hbl, hts⟩ := hts
        injection hv' with hv1' hv2' hv3'
        subst hv1'
        have HTS := Lib.hid hts
        have HBL := Lib.hid hbl
        clear hv2 hv3 hv2' hv3' hts hbl hown
        by_cases hc1 : cA = 1
        · subst hc1
          have hle : l.length ≤ 1 := by
            rcases HD4.out.own.2 with ⟨h, _⟩ | ⟨g', c', cur, h, _, _, h1, _⟩
            · cases h
            · injection h with _ _ h; omega
          go_wp2
          go_ret
          exact ⟨some ⟨g, 0, none⟩, 0, [], rfl, by simp, fun b hb => HBL.out b hb, TS.nil _ _, fun t ht => by simp at ht, HD4.out.cur, HD4.out.grown⟩
        · go_wp2
          go_ret
          refine ⟨some ⟨g, 4, none⟩, cA - 1, l.tail, ?_, by rw [List.length_tail]; omega, fun b hb => HBL.out b (by simpa using hb), HTS.out.tail, fun t ht => HD4.out.short t (List.mem_of_mem_tail ht), HD4.out.cur, HD4.out.grown⟩
          rw [List.length_tail]
          rfl
      · go_wp2
        go_ret
        exact HD4.out.ls (by omega)
    · go_wp2_with fail
      go_loopw [5] (fun v wr => ∃ l : List Tk, l.length ≤ 402 ∧ lenOfV v = l.length ∧ (∃ B d, v = .slice B l.length d) ∧ Dr w p A n c v l wr) (fun v _ => 402 - lenOfV v)
      case atStart => exact ⟨l, by omega, rfl, ⟨_, _, rfl⟩, HD4.out⟩
      case round =>
        clear HD4 hl72
        obtain ⟨l, hl4, hlen, ⟨B, d, rfl⟩, hdr⟩ := hrel
        have HD := Lib.hid hdr
        have hgs := hdr.grown.size
        clear hdr hlen
        go_wp2_with fail
        refine (l01Below_any 3 p A n c wr hm (by decide) (by decide) (HD.out.bs HB.out HNE.out) HNE.out HD.out.cur).mono ?_
        rintro e w7 ⟨⟨v7, ⟨x7, rfl, hx7⟩, rfl⟩, hc7, hg7⟩
        have HD7 := Lib.hid (HD.out.go hp hc7 hg7)
        have hz7 := HD7.out.grown.size
        clear hc7 hg7 HD
        by_cases hlt : l.length < 399 + x7
        · go_wp2_with (at_builtin; refine wpList_append_own _ rfl _ _ 26 rfl w.heap.size 45 i0 (.agg #[.int .i64 0, .string ByteArray.empty, .int .i64 0, .int .i64 0]) 4 40 Try.underlying26 hi hz0 hz1 hz2 rfl (by decide) _ l.length _ rfl (HD7.out.own.alloc _) ⟨w7.heap.size, 0, none⟩ 1 1 [.int .i64 0, .string ⟨#[122]⟩, .int .i64 0, .int .i64 0] rfl rfl (cell_four_at w7 _ rfl _ _ _ _ _) (by simp [Value.oneCell']) (by simp only [maxLen]; omega) (by omega) (by simp; omega) ?_)
          intro v' w8 hown8 hgrow8 _
          have HD8 := Lib.hid (Dr.app (t := ⟨0, ⟨#[122]⟩, 0, 0⟩) hp HD7.out (by decide) hown8 hgrow8)
          clear hown8 hgrow8
          go_wp2
          obtain ⟨hl8, B8, d8, rfl, _, _⟩ := toks_of_own HD8.out.own
          go_roundw
          case rel => exact ⟨l ++ [⟨0, ⟨#[122]⟩, 0, 0⟩], by rw [List.length_append]; show l.length + 1 ≤ 402; omega, rfl, ⟨_, _, rfl⟩, HD8.out⟩
          case measure => simp [lenOfV] <;> omega
        · go_wp2
          go_ret
          exact HD7.out.ls (by omega)
    · go_wp2_with fail
      refine (l01Below_any 2 p A n c w4 hm (by decide) (by decide) (HD4.out.bs HB.out HNE.out) HNE.out HD4.out.cur).mono ?_
      rintro e w5 ⟨⟨v5, ⟨x5, rfl, hx5⟩, rfl⟩, hc5, hg5⟩
      have HD5 := Lib.hid (HD4.out.go hp hc5 hg5)
      have hz6 := HD5.out.grown.size
      clear hc5 hg5 HD4
      go_wp2_with fail
      go_loopw [5, 7] (fun v kv wr => ∃ (k : Nat) (l : List Tk), k ≤ 12 + x5 ∧ kv = .int .i64 k ∧ l.length ≤ 72 + k ∧ Dr w p A n c v l wr) (fun _ kv _ => 12 + x5 - (intOf kv).toNat)
      case atStart => exact ⟨0, l, Nat.zero_le _, rfl, by omega, HD5.out⟩
      case round =>
        clear HD5 hl72
        obtain ⟨k, l, hkq, rfl, hll, hdr⟩ := hrel
        have HD := Lib.hid hdr
        have hgs := hdr.grown.size
        clear hdr
        by_cases hlt2 : k < 12 + x5
        · go_wp2_with (at_builtin; refine wpList_append_own _ rfl _ _ 26 rfl w.heap.size 45 i0 (.agg #[.int .i64 0, .string ByteArray.empty, .int .i64 0, .int .i64 0]) 4 40 Try.underlying26 hi hz0 hz1 hz2 rfl (by decide) u5 l.length _ rfl (HD.out.own.alloc _) ⟨wr.heap.size, 0, none⟩ 1 1 [.int .i64 2, .string ⟨#[]⟩, .int .i64 0, .int .i64 0] rfl rfl (cell_four_at wr _ rfl _ _ _ _ _) (by simp [Value.oneCell']) (by simp only [maxLen]; omega) (by omega) (by simp; omega) ?_)
          intro v' w8 hown8 hgrow8 _
          have HD8 := Lib.hid (Dr.app (t := ⟨2, ⟨#[]⟩, 0, 0⟩) hp HD.out (by decide) hown8 hgrow8)
          clear hown8 hgrow8
          go_wp2
          go_roundw
          case rel => exact ⟨k + 1, l ++ [⟨2, ⟨#[]⟩, 0, 0⟩], by omega, by go_num, by rw [List.length_append]; exact Nat.succ_le_succ hll, HD8.out⟩
          case measure => simp [intOf] <;> omega
        · go_wp2_with fail
          go_loopw [5, 8] (fun v kv wr => ∃ (k : Nat) (l : List Tk), k ≤ 12 + x5 ∧ kv = .int .i64 k ∧ l.length ≤ 85 + k ∧ Dr w p A n c v l wr) (fun _ kv _ => 12 + x5 - (intOf kv).toNat)
          case atStart => exact ⟨0, l, Nat.zero_le _, rfl, by omega, HD.out⟩
          case round =>
            clear HD hgs hll
            obtain ⟨k, l, hkq, rfl, hll, hdr⟩ := hrel
            have HD := Lib.hid hdr
            have hgs := hdr.grown.size
            clear hdr
            by_cases hlt2 : k < 12 + x5
            · go_wp2_with (at_builtin; refine wpList_append_own _ rfl _ _ 26 rfl w.heap.size 45 i0 (.agg #[.int .i64 0, .string ByteArray.empty, .int .i64 0, .int .i64 0]) 4 40 Try.underlying26 hi hz0 hz1 hz2 rfl (by decide) u5 l.length _ rfl (HD.out.own.alloc _) ⟨wr.heap.size, 0, none⟩ 1 1 [.int .i64 3, .string ⟨#[]⟩, .int .i64 0, .int .i64 0] rfl rfl (cell_four_at wr _ rfl _ _ _ _ _) (by simp [Value.oneCell']) (by simp only [maxLen]; omega) (by omega) (by simp; omega) ?_)
              intro v' w8 hown8 hgrow8 _
              have HD8 := Lib.hid (Dr.app (t := ⟨3, ⟨#[]⟩, 0, 0⟩) hp HD.out (by decide) hown8 hgrow8)
              clear hown8 hgrow8
              go_wp2
              go_roundw
              case rel => exact ⟨k + 1, l ++ [⟨3, ⟨#[]⟩, 0, 0⟩], by omega, by go_num, by rw [List.length_append]; exact Nat.succ_le_succ hll, HD8.out⟩
              case measure => simp [intOf] <;> omega
            · go_wp2
              go_ret
              exact HD.out.ls (by omega)
end Go.Proofs.Yteoigpohmgjcbaa
