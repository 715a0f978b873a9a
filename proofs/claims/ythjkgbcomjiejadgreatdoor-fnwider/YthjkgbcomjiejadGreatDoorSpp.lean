/-
  The model's printer: a token is put.
-/
import Derived.Test.YthjkgbcomjiejadGreatDoorSpr
namespace Go.Proofs.YthjkgbcomjiejadGreatDoor
open Go.RowKit
set_option linter.unusedVariables false

/-- what the model's put leaves. -/
def QPost (B p : Nat) (W : Int) (w : World) (v : Value) (s : Pr) (e : Ending) (w' : World) : Prop := e = .returned v ∧ Chg B w w' ∧ ∃ vW vM, QA w' B p W s vW vM
theorem infoSMark : (Tryz.prog.info? 248).map (fun i => (i.zero, i.size, i.bytes)) = some (some (.agg #[.int .i64 0, .int .i64 0]), 2, 16) := by kernel_rfl
/-- a mark is laid on the stack, at a step of a region that draws. -/
theorem step_smark {ops : Array Oper} {o : Oper} {a : Act} {K : Act → World → Prop} {Q : Exit → Act → World → Prop} {E : Prop} (hgd : o.guard = none) (s x : Operand)
    (ho : o.op = .call { callee := .builtin .append, args := #[s, x], argTypes := #[184, 184] }) {w0 w : World} {B p : Nat} {cs : List Value} {vW vM : Value} {out : List UInt8} {ms : List (Nat × Nat)} (m : Nat × Nat)
    (hP : PM w0 B p 186 248 cs vW vM out ms) (hB : B ≤ w0.heap.size) (hl : ms.length ≤ 1000) (hw : w = w0.alloc (.cells #[.int .i64 m.1, .int .i64 m.2] 248)) (hs : a.eval s = vM) (hx : a.eval x = .slice (some ⟨w0.heap.size, 0, none⟩) 1 1)
    (h : ∀ g cap w', PM w' B p 186 248 cs vW (.slice (some ⟨g, 0, none⟩) (ms.length + 1) cap) out (ms ++ [m]) → Chg B w0 w' → K (a.put o.dst (.slice (some ⟨g, 0, none⟩) (ms.length + 1) cap)) w') :
    if Region.wanted o (yielded ops a.tmps) = true then Oper.wp Tryz.prog o a w K Q else E := by
  subst hw
  obtain ⟨i0, hi, hz0, hz1, hz2⟩ := info_parts infoSMark
  refine step_append_lies _ hgd s x 184 ho B 248 i0 (.agg #[.int .i64 0, .int .i64 0]) 2 16 Tryz.underlying184 hi hz0 hz1 hz2 rfl (by decide) vM ms.length (mf ms) hs (hP.alloc _).mks ⟨w0.heap.size, 0, none⟩ 1 1 [.int .i64 m.1, .int .i64 m.2] hx rfl ?_ (by simp [Value.oneCell']) (by decide) (by simp only [maxLen]; omega) (by omega) (by simp; omega) _ rfl ?_
  · intro j u hj
    have hN := BlkL.new w0 248 [.int .i64 m.1, .int .i64 m.2]
    have ha : (⟨w0.heap.size, 0, none⟩ : Addr).add j = ⟨w0.heap.size, j, none⟩ := by unfold Addr.add; by_cases h0 : j = 0 <;> simp [h0]
    rw [ha]
    exact (hN.cell j).trans hj
  · intro g cap w' hown hg _ _
    refine h g cap w' ?_ (((Chg.refl B w0).alloc _).trans ((hP.alloc _).chg_ms hg))
    refine (hP.alloc _).put_ms hg ?_
    rw [List.length_append, mf_append]
    exact hown
/-- a byte is appended, at a step of a region that draws. -/
theorem step_byte {ops : Array Oper} {o : Oper} {a : Act} {K : Act → World → Prop} {Q : Exit → Act → World → Prop} {E : Prop} (hgd : o.guard = none) (s x : Operand)
    (ho : o.op = .call { callee := .builtin .append, args := #[s, x], argTypes := #[22, 22] }) {w0 w : World} {B p : Nat} {tp tm : TypeId} {cs : List Value} {vW vM : Value} {out : List UInt8} {ms : List (Nat × Nat)} (b : UInt8)
    (hP : PM w0 B p tp tm cs vW vM out ms) (hB : B ≤ w0.heap.size) (hl : out.length ≤ 1000000000) (hw : w = w0.alloc (.cells #[.int .u8 b.toNat] 5)) (hs : a.eval s = vW) (hx : a.eval x = .slice (some ⟨w0.heap.size, 0, none⟩) 1 1)
    (h : ∀ g cap w', PM w' B p tp tm cs (.slice (some ⟨g, 0, none⟩) (out.length + 1) cap) vM (out ++ [b]) ms → Chg B w0 w' → (∀ q xs, BlkL w0 q 38 xs → BlkL w' q 38 xs) → K (a.put o.dst (.slice (some ⟨g, 0, none⟩) (out.length + 1) cap)) w') :
    if Region.wanted o (yielded ops a.tmps) = true then Oper.wp Tryz.prog o a w K Q else E := by
  subst hw
  obtain ⟨i0, hi, hz0, hz1, hz2⟩ := info_parts infoByte
  refine step_append_lies _ hgd s x 22 ho B 5 i0 (.int .u8 0) 1 1 Tryz.underlying22 hi hz0 hz1 hz2 rfl (by decide) vW out.length (Lib.byteCells out) hs (hP.alloc _).own ⟨w0.heap.size, 0, none⟩ 1 1 [.int .u8 b.toNat] hx rfl (cell_one_new _ _ _) (by simp [Value.oneCell']) (by decide) (by simp only [maxLen]; omega) (by omega) (by simp; omega) _ rfl ?_
  intro g cap w' hown hg _ _
  exact h g cap w' (hP.byte hg hown) (((Chg.refl B w0).alloc _).trans ((hP.alloc _).chg_out hg)) (fun q xs hb => (hb.alloc _).grown hg (fun e => own_blk hP.own hb (by decide) e.symm))
theorem QA.push {w : World} {B p : Nat} {W : Int} {s : Pr} {vW vM v' : Value} {ms' : List (Nat × Nat)} (h : PM w B p 186 248 (qcs W s vW vM) vW v' s.out ms') :
    QA (w.setCell ⟨p, 3, none⟩ v') B p W { s with ms := ms' } vW v' ∧ Chg B w (w.setCell ⟨p, 3, none⟩ v') := ⟨h.set 3 v', h.chg_set 3 v'⟩
theorem QA.out2 {w : World} {B p : Nat} {W : Int} {s : Pr} {vW vM v' : Value} {out' : List UInt8} (h : PM w B p 186 248 (qcs W s vW vM) v' vM out' s.ms) :
    QA (w.setCell ⟨p, 4, none⟩ v') B p W { s with out := out' } v' vM ∧ Chg B w (w.setCell ⟨p, 4, none⟩ v') := ⟨h.set 4 v', h.chg_set 4 v'⟩
theorem QA.fin {w : World} {B p : Nat} {W : Int} {s : Pr} {n : Nat} {vW vM : Value} (h : QA w B p W s vW vM) :
    QA ((w.setCell ⟨p, 1, none⟩ (.int .i64 n)).setCell ⟨p, 2, none⟩ (.int .i64 0)) B p W { s with col := n, pend := 0 } vW vM ∧ Chg B w ((w.setCell ⟨p, 1, none⟩ (.int .i64 n)).setCell ⟨p, 2, none⟩ (.int .i64 0)) :=
  ⟨(PM.set h 1 _).set 2 _, (PM.chg_set h 1 _).trans ((PM.set h 1 _).chg_set 2 _)⟩
/-- the printer with its blanks and i bytes of the text written. -/
def Pr.tx (s : Pr) (x : ByteArray) (i : Nat) : Pr := { s with out := s.out ++ List.replicate s.pend 32 ++ x.data.toList.take i }

set_option maxHeartbeats 2000000 in
set_option maxRecDepth 100000 in
theorem sPut_any {w : World} {B p : Nat} {W z : Int} {s : Pr} {t : Tk} {vW vM : Value} (h : QA w B p W s vW vM) (hs : s.Sm) (hB : B ≤ w.heap.size) (hW0 : 0 ≤ W) (hW1 : W ≤ 1000) (ht : t.ok = true) :
    Calls Tryz.prog 174 #[.pointer (some ⟨p, 0, none⟩), .agg #[.int .i64 t.k, .string t.s, .int .i64 t.d, .int .i64 t.o], .int .i64 z] w (QPost B p W w (.bool (s.put W t z).2) (s.put W t z).1) := by
  have H := Lib.hid h
  have HS := Lib.hid hs
  have HT := Lib.hid ht
  have ho := t.o_bd ht
  have hsz := (t.s_bd ht).1
  obtain ⟨g, c, rfl, hg, h0, hx, hy⟩ := h.last hs.ne
  obtain ⟨c0, c1, c2, c3, c4, hp⟩ := h.cells
  have hlen := hs.len
  obtain ⟨n, hn⟩ : ∃ n, s.ms.length = n + 1 := ⟨s.ms.length - 1, by omega⟩
  rw [hn] at hx hy c3 hlen
  rw [Nat.add_sub_cancel] at hx hy
  have k0 := t.k_bd ht
  clear h hs ht hn h0
  go_enter Tryz.func174, Tryz.ntmps174
  go_wp2
  go_region
  have HBW := Lib.hid (show Bw w ((w.alloc (.cells #[.int .i64 t.k, .string t.s, .int .i64 t.d, .int .i64 t.o] 38)).alloc (.cells #[.int .i64 s.top.1, .int .i64 s.top.2] 248)).drew from Bw.a2 _ _ _)
  have hT := (BlkL.new w 38 [.int .i64 t.k, .string t.s, .int .i64 t.d, .int .i64 t.o]).alloc (.cells #[.int .i64 s.top.1, .int .i64 s.top.2] 248)
  have hP := BlkL.new (w.alloc (.cells #[.int .i64 t.k, .string t.s, .int .i64 t.d, .int .i64 t.o] 38)) 248 [.int .i64 s.top.1, .int .i64 s.top.2]
  rw [World.size_alloc] at hP
  have t0 : ((w.alloc (.cells #[.int .i64 t.k, .string t.s, .int .i64 t.d, .int .i64 t.o] 38)).alloc (.cells #[.int .i64 s.top.1, .int .i64 s.top.2] 248)).drew.cell? ⟨w.heap.size, 0, none⟩ = some (.int .i64 t.k) := (hT.cell 0).trans rfl
  have t1 : ((w.alloc (.cells #[.int .i64 t.k, .string t.s, .int .i64 t.d, .int .i64 t.o] 38)).alloc (.cells #[.int .i64 s.top.1, .int .i64 s.top.2] 248)).drew.cell? ⟨w.heap.size, 1, none⟩ = some (.string t.s) := (hT.cell 1).trans rfl
  have t2 : ((w.alloc (.cells #[.int .i64 t.k, .string t.s, .int .i64 t.d, .int .i64 t.o] 38)).alloc (.cells #[.int .i64 s.top.1, .int .i64 s.top.2] 248)).drew.cell? ⟨w.heap.size, 2, none⟩ = some (.int .i64 t.d) := (hT.cell 2).trans rfl
  have t3 : ((w.alloc (.cells #[.int .i64 t.k, .string t.s, .int .i64 t.d, .int .i64 t.o] 38)).alloc (.cells #[.int .i64 s.top.1, .int .i64 s.top.2] 248)).drew.cell? ⟨w.heap.size, 3, none⟩ = some (.int .i64 t.o) := (hT.cell 3).trans rfl
  have p0 : ((w.alloc (.cells #[.int .i64 t.k, .string t.s, .int .i64 t.d, .int .i64 t.o] 38)).alloc (.cells #[.int .i64 s.top.1, .int .i64 s.top.2] 248)).drew.cell? ⟨w.heap.size + 1, 0, none⟩ = some (.int .i64 s.top.1) := (hP.cell 0).trans rfl
  have p1 : ((w.alloc (.cells #[.int .i64 t.k, .string t.s, .int .i64 t.d, .int .i64 t.o] 38)).alloc (.cells #[.int .i64 s.top.1, .int .i64 s.top.2] 248)).drew.cell? ⟨w.heap.size + 1, 1, none⟩ = some (.int .i64 s.top.2) := (hP.cell 1).trans rfl
  have hz1 : ((w.alloc (.cells #[.int .i64 t.k, .string t.s, .int .i64 t.d, .int .i64 t.o] 38)).alloc (.cells #[.int .i64 s.top.1, .int .i64 s.top.2] 248)).drew.heap.size = w.heap.size + 2 := by show ((w.alloc _).alloc _).heap.size = _; simp
  have HTB := Lib.hid (show BlkL ((w.alloc (.cells #[.int .i64 t.k, .string t.s, .int .i64 t.d, .int .i64 t.o] 38)).alloc (.cells #[.int .i64 s.top.1, .int .i64 s.top.2] 248)).drew w.heap.size 38 [.int .i64 t.k, .string t.s, .int .i64 t.d, .int .i64 t.o] from hT)
  clear hT hP c0 c1 c2 c3 c4 hx hy
  generalize ((w.alloc (.cells #[.int .i64 t.k, .string t.s, .int .i64 t.d, .int .i64 t.o] 38)).alloc (.cells #[.int .i64 s.top.1, .int .i64 s.top.2] 248)).drew = w1 at *
  have H1 := Lib.hid (PM.below H.out HBW.out)
  obtain ⟨c0, c1, c2, c3, c4, hp1⟩ := QA.cells H1.out
  have cf := PM.frz H1.out
  have hcol := HS.out.col
  have hpend := HS.out.pend
  have hg1 : g < w1.heap.size := by omega
  have HBR := Lib.hid (show ∀ V, Bw w V → Calls Tryz.prog 195 #[.pointer (some ⟨p, 0, none⟩), .int .i64 t.o] V (fun e w' => e = .returned (.tuple #[]) ∧ Chg B V w' ∧ ∃ vW vM, QA w' B p W (s.brk t.o) vW vM) from
    fun V hV => sBreak_any (PM.below H.out hV) HS.out (Nat.le_trans hB hV.size) ho.1 ho.2.1)
  have HRM := Lib.hid (show ∀ V, Bw w V → Calls Tryz.prog 194 #[.pointer (some ⟨p, 0, none⟩), .int .i64 z] V (fun e w' => e = .returned (.bool (s.room W z)) ∧ w' = V.drew) from
    fun V hV => sRoom_any (PM.below H.out hV) HS.out hW0 hW1)
  rcases k0 with hk | hk | hk | hk | hk
  · have HP := Lib.hid (show s.put W t z = (s.text t.s.data.toList, false) from by simp [Pr.put, hk])
    have hTb : BlkL w1 w.heap.size 38 [.int .i64 t.k, .string t.s, .int .i64 t.d, .int .i64 t.o] := HTB.out
    have HTB1 := Lib.hid hTb
    obtain ⟨i0, hi, hz0, hz1', hz2⟩ := info_parts infoByte
    have hout := HS.out.out
    have hpt : p ≠ w.heap.size := by omega
    have htp : w.heap.size ≠ p := by omega
    clear HBR HRM hTb
    go_wp2_with fail
    clear c0 c1 c2 c3 c4 cf t0 t1 t2 t3 p0 p1 hk
    go_loopw [9] (fun i wr => ∃ k : Nat, k ≤ s.pend ∧ i = .int .i64 k ∧ (∃ v vM, QA wr B p W (s.bl k) v vM) ∧ Chg B w1 wr ∧ BlkL wr w.heap.size 38 [.int .i64 t.k, .string t.s, .int .i64 t.d, .int .i64 t.o]) (fun i _ => s.pend - (intOf i).toNat)
    case atStart => exact ⟨0, Nat.zero_le _, rfl, ⟨_, _, by unfold Pr.bl; rw [List.replicate_zero, List.append_nil]; exact H1.out⟩, Chg.refl _ _, HTB1.out⟩
    case round =>
      obtain ⟨k, hkk, rfl, ⟨v, vM, hv⟩, hch, htb⟩ := hrel
      obtain ⟨c0, c1, c2, c3, c4, hpr⟩ := hv.cells
      replace c2 : wr.cell? ⟨p, 2, none⟩ = some (.int .i64 s.pend) := c2
      have HV := Lib.hid hv
      have HC := Lib.hid hch
      have HTBR := Lib.hid htb
      have hz := hch.size
      have hol : (s.bl k).out.length ≤ 100200000 := by simp [Pr.bl]; omega
      clear hv hch htb
      by_cases hlt : k < s.pend
      · go_wp2_with (at_builtin; refine wpList_append_own_at _ rfl _ _ 22 rfl B 5 i0 (.int .u8 0) 1 1 Tryz.underlying22 hi hz0 hz1' hz2 rfl (by decide) v _ _ rfl (PM.alloc HV.out _).own ⟨wr.heap.size, 0, none⟩ 1 1 [.int .u8 32] rfl rfl (cell_one_new _ _ _) (by simp [Value.oneCell']) (by simp only [maxLen]; omega) (by omega) (by simp; omega) ?_)
        intro v' w3 hown3 hgrow3 _ _
        obtain ⟨A3, n3, rfl, _⟩ := own_slice1 hown3
        have hq := PM.byte (b := 32) HV.out hgrow3 hown3
        have HC3 := Lib.hid (PM.chg_out (PM.alloc HV.out _) hgrow3)
        have HT3 := Lib.hid ((HTBR.out.alloc _).grown hgrow3 (fun e => own_blk (PM.own HV.out) HTBR.out (by decide) e.symm))
        obtain ⟨d0, d1, d2, d3, d4, hp3⟩ := QA.cells' hq
        have d5 := PM.frz hq
        have HQ := Lib.hid hq
        clear hq hgrow3 hown3 c0 c1 c2 c3 c4
        go_wp2
        obtain ⟨r1, r2⟩ := QA.out2 HQ.out
        go_roundw
        case rel => exact ⟨k + 1, by omega, by go_num, ⟨_, _, by rw [show s.bl (k + 1) = { s.bl k with out := (s.bl k).out ++ [32] } from by unfold Pr.bl; rw [List.replicate_succ', ← List.append_assoc]]; exact r1⟩, HC.out.trans (((Chg.refl B wr).alloc _).trans (HC3.out.trans r2)), HT3.out.far (by exact htp) _⟩
        case measure => simp [intOf] <;> omega
      · have hkn : k = s.pend := by omega
        subst hkn
        go_wp2_with fail
        clear c0 c1 c2 c3 c4
        go_loopw [10] (fun i wr => ∃ k : Nat, k ≤ t.s.size ∧ i = .int .i64 k ∧ (∃ v vM, QA wr B p W (s.tx t.s k) v vM) ∧ Chg B w1 wr ∧ BlkL wr w.heap.size 38 [.int .i64 t.k, .string t.s, .int .i64 t.d, .int .i64 t.o]) (fun i _ => t.s.size - (intOf i).toNat)
        case atStart => exact ⟨0, Nat.zero_le _, rfl, ⟨v, vM, by unfold Pr.tx; rw [List.take_zero, List.append_nil]; exact HV.out⟩, HC.out, HTBR.out⟩
        case round =>
          clear HV HC HTBR hz hol
          obtain ⟨k, hkk, rfl, ⟨v, vM, hv⟩, hch, htb⟩ := hrel
          obtain ⟨c0, c1, c2, c3, c4, hpr⟩ := hv.cells
          have t1 : wr.cell? ⟨w.heap.size, 1, none⟩ = some (.string t.s) := (htb.cell 1).trans rfl
          have htl := htb.lt
          have HV := Lib.hid hv
          have HC := Lib.hid hch
          have HTBR := Lib.hid htb
          have hz := hch.size
          have hol : (s.tx t.s k).out.length ≤ 100200000 := by
            have : (t.s.data.toList.take k).length ≤ 40 := by rw [List.length_take, Array.length_toList]; exact Nat.le_trans (Nat.min_le_right _ _) hsz
            simp only [Pr.tx, List.length_append, List.length_replicate]; omega
          by_cases hlt : k < t.s.size
          · have HTK := Lib.hid (take_snoc t.s k hlt)
            clear hv hch htb
            have hzB : B ≤ wr.drew.heap.size := by show B ≤ wr.heap.size; omega
            have hol2 : (s.tx t.s k).out.length ≤ 1000000000 := by omega
            go_wp2_with fail
            go_region_law (refine step_byte rfl _ _ rfl (w0 := wr.drew) t.s[k] (PM.drew HV.out) hzB hol2 rfl rfl rfl ?_; intro g2 cap w5 hq hc htk; have q4 := (QA.cells' hq).2.2.2.2.1; have q6 := (QA.cells' hq).2.2.2.2.2; have qf := PM.frz hq; have HQ := Lib.hid hq; have HC3 := Lib.hid hc; have HT3 := Lib.hid (htk _ _ (show BlkL wr.drew w.heap.size 38 _ from HTBR.out)); clear hq hc htk)
            all_goals
              obtain ⟨r1, r2⟩ := QA.out2 HQ.out
              go_wp2
              go_roundw
              case rel => exact ⟨k + 1, by omega, by go_num, ⟨_, _, by rw [show s.tx t.s (k + 1) = { s.tx t.s k with out := (s.tx t.s k).out ++ [t.s[k]] } from by unfold Pr.tx; rw [HTK.out, ← List.append_assoc]]; exact r1⟩, HC.out.trans ((Chg.drew (Chg.refl B wr)).trans (HC3.out.trans r2)), HT3.out.far (by exact htp) _⟩
              case measure => simp [intOf] <;> omega
          · have hkn : k = t.s.size := by omega
            subst hkn
            have cf := PM.frz HV.out
            replace c1 : wr.cell? ⟨p, 1, none⟩ = some (.int .i64 s.col) := c1
            replace c2 : wr.cell? ⟨p, 2, none⟩ = some (.int .i64 s.pend) := c2
            clear hv hch htb
            go_wp2
            go_region
            go_wp2
            go_ret
            rw [HP.out]
            obtain ⟨r1, r2⟩ := QA.fin (n := s.col + s.pend + t.s.size) HV.out
            rw [Int.natCast_add, Int.natCast_add] at r1 r2
            refine ⟨rfl, ((Chg.of_below HBW.out).trans (HC.out.trans r2)).drew, v, vM, PM.drew ?_⟩
            rw [show (s.text t.s.data.toList, false).1 = ({ s.tx t.s t.s.size with col := s.col + s.pend + t.s.size, pend := 0 } : Pr) from by simp only [Pr.text, Pr.tx]; rw [Array.length_toList, List.take_of_length_le (by rw [Array.length_toList]; exact Nat.le_refl _)]; rfl]
            exact r1
  · have hd := d_bd1 HT.out hk
    obtain ⟨d, hd'⟩ := Int.eq_ofNat_of_zero_le hd.1
    have hd9 : d ≤ 9 := by omega
    have HD := Lib.hid hd'
    rw [hd'] at t2
    clear hd' hd
    have hkind : s.top.1 = 0 ∨ s.top.1 = 1 ∨ s.top.1 = 2 := by have := HS.out.kind; omega
    have HSTY := Lib.hid (show s.put W t z = if s.stays W z = true then ({ s with pend := s.pend + t.d.toNat }, false) else (s.brk t.o, true) from by simp [Pr.put, hk])
    rcases hkind with hkd | hkd | hkd
    · have HP := Lib.hid (show s.put W t z = ({ s with pend := s.pend + t.d.toNat }, false) from by rw [HSTY.out]; simp [Pr.stays, hkd])
      clear HSTY HRM HBR
      go_wp2
      go_region
      go_wp2
      go_ret
      rw [HP.out, HD.out]
      obtain ⟨r1, r2⟩ := QA.pend (n := s.pend + d) (H1.out)
      rw [Int.natCast_add] at r1 r2
      exact ⟨rfl, ((Chg.of_below HBW.out).trans r2).drew, _, _, PM.drew r1⟩
    · have HP := Lib.hid (show s.put W t z = (s.brk t.o, true) from by rw [HSTY.out]; simp [Pr.stays, hkd])
      clear HSTY HRM
      go_wp2_with fail
      refine (HBR.out _ HBW.out).mono ?_
      rintro e w2 ⟨rfl, hc2, vW2, vM2, hp2⟩
      have HC2 := Lib.hid ((Chg.of_below HBW.out).trans hc2)
      have HP2 := Lib.hid hp2
      clear hc2 hp2 c0 c1 c2 c3 c4 cf t0 t1 t2 t3 p0 p1 HBR
      go_wp2
      go_ret
      rw [HP.out]
      exact ⟨rfl, HC2.out, _, _, HP2.out⟩
    · cases hroom : s.room W z
      · have HP := Lib.hid (show s.put W t z = (s.brk t.o, true) from by rw [HSTY.out]; simp [Pr.stays, hkd, hroom])
        clear HSTY
        go_wp2_with fail
        refine (HRM.out _ HBW.out).mono ?_
        rintro e w2 ⟨rfl, rfl⟩
        rw [hroom]
        clear HRM
        have HBD := Lib.hid (show Bw w w1.drew from Below.drew HBW.out)
        go_wp2_with fail
        refine (HBR.out _ HBD.out).mono ?_
        rintro e w2 ⟨rfl, hc2, vW2, vM2, hp2⟩
        have HC2 := Lib.hid ((Chg.of_below HBD.out).trans hc2)
        have HP2 := Lib.hid hp2
        clear hc2 hp2 c0 c1 c2 c3 c4 cf t0 t1 t2 t3 p0 p1 HBR
        go_wp2
        go_ret
        rw [HP.out]
        exact ⟨rfl, HC2.out, _, _, HP2.out⟩
      · have HP := Lib.hid (show s.put W t z = ({ s with pend := s.pend + t.d.toNat }, false) from by rw [HSTY.out]; simp [Pr.stays, hkd, hroom])
        clear HSTY HBR
        go_wp2_with fail
        refine (HRM.out _ HBW.out).mono ?_
        rintro e w2 ⟨rfl, rfl⟩
        rw [hroom]
        clear HRM
        go_wp2
        go_region
        go_wp2
        go_ret
        rw [HP.out, HD.out]
        obtain ⟨r1, r2⟩ := QA.pend (n := s.pend + d) H1.out
        rw [Int.natCast_add] at r1 r2
        exact ⟨rfl, ((Chg.of_below HBW.out).trans r2).drew.drew, _, _, PM.drew (PM.drew r1)⟩
  · clear HBR
    have h0 := ho.2.2 hk
    have HMB := Lib.hid (show BlkL (w1.alloc (.cells #[.int .i64 0, .int .i64 s.top.2] 248)).drew (w.heap.size + 2) 248 [.int .i64 0, .int .i64 s.top.2] from hz1 ▸ BlkL.new w1 248 [.int .i64 0, .int .i64 s.top.2])
    have HBA := Lib.hid (show Bw w (w1.alloc (.cells #[.int .i64 0, .int .i64 s.top.2] 248)).drew from Below.drew (Below.alloc HBW.out HBW.out.size _))
    obtain ⟨cc, hcc⟩ : ∃ cc : Nat, (s.col : Int) + s.pend + t.o = cc := ⟨((s.col : Int) + s.pend + t.o).toNat, by omega⟩
    cases hroom : s.room W z
    · go_wp2_with fail
      refine (HRM.out _ (Below.alloc HBW.out HBW.out.size _)).mono ?_
      rintro e w2 ⟨rfl, rfl⟩
      rw [hroom]
      clear HRM
      go_wp2
      have hTA : BlkL (w1.alloc (.cells #[.int .i64 0, .int .i64 s.top.2] 248)).drew w.heap.size 38 [.int .i64 t.k, .string t.s, .int .i64 t.d, .int .i64 t.o] := HTB.out.alloc _
      have HTA := Lib.hid hTA
      clear c0 c1 c2 c3 c4 cf t0 t1 t2 t3 p0 p1 hz1 hp1 hg1 H1 HTB hTA
      generalize (w1.alloc (.cells #[.int .i64 0, .int .i64 s.top.2] 248)).drew = w2 at *
      have H2a := PM.below H.out HBA.out
      obtain ⟨c0, c1, c2, c3, c4, hp2⟩ := QA.cells H2a
      have t2 : w2.cell? ⟨w.heap.size, 2, none⟩ = some (.int .i64 t.d) := (HTA.out.cell 2).trans rfl
      have t3 : w2.cell? ⟨w.heap.size, 3, none⟩ = some (.int .i64 t.o) := (HTA.out.cell 3).trans rfl
      have m0 : w2.cell? ⟨w.heap.size + 2, 0, none⟩ = some (.int .i64 0) := (HMB.out.cell 0).trans rfl
      have m1 : w2.cell? ⟨w.heap.size + 2, 1, none⟩ = some (.int .i64 s.top.2) := (HMB.out.cell 1).trans rfl
      have mf := HMB.out.frozen
      have ml := HMB.out.lt
      clear H2a
      go_region
      have hl2 : w.heap.size ≤ w.heap.size + 2 := by omega
      by_cases htd : t.d = 1
      · have bt : (t.d == 1) = true := by rw [htd]; rfl
        have HP := Lib.hid (show s.put W t z = ({ s with ms := s.ms ++ [(1, cc)] }, false) from by unfold Pr.put Pr.open; rw [hroom, hcc]; simp [hk, htd])
        clear htd
        go_wp2
        have hm2 := ((HMB.out.set 0 (.int .i64 2)).set 1 (.int .i64 cc)).set 0 (.int .i64 1)
        have HB3 := Lib.hid (show Bw w (((w2.setCell ⟨w.heap.size + 2, 0, none⟩ (.int .i64 2)).setCell ⟨w.heap.size + 2, 1, none⟩ (.int .i64 cc)).setCell ⟨w.heap.size + 2, 0, none⟩ (.int .i64 1)).drew from Below.drew (Below.setCell (p := ⟨w.heap.size + 2, 0, none⟩) (Below.setCell (p := ⟨w.heap.size + 2, 1, none⟩) (Below.setCell (p := ⟨w.heap.size + 2, 0, none⟩) HBA.out hl2 _) hl2 _) hl2 _))
        have n0 : (((w2.setCell ⟨w.heap.size + 2, 0, none⟩ (.int .i64 2)).setCell ⟨w.heap.size + 2, 1, none⟩ (.int .i64 cc)).setCell ⟨w.heap.size + 2, 0, none⟩ (.int .i64 1)).drew.cell? ⟨w.heap.size + 2, 0, none⟩ = some (.int .i64 1) := (hm2.cell 0).trans rfl
        have n1 : (((w2.setCell ⟨w.heap.size + 2, 0, none⟩ (.int .i64 2)).setCell ⟨w.heap.size + 2, 1, none⟩ (.int .i64 cc)).setCell ⟨w.heap.size + 2, 0, none⟩ (.int .i64 1)).drew.cell? ⟨w.heap.size + 2, 1, none⟩ = some (.int .i64 cc) := (hm2.cell 1).trans rfl
        have n2 : w.heap.size + 2 < (((w2.setCell ⟨w.heap.size + 2, 0, none⟩ (.int .i64 2)).setCell ⟨w.heap.size + 2, 1, none⟩ (.int .i64 cc)).setCell ⟨w.heap.size + 2, 0, none⟩ (.int .i64 1)).drew.heap.size := hm2.lt
        clear hm2 c0 c1 c2 c3 c4 t2 t3 m0 m1 mf ml hp2
        generalize (((w2.setCell ⟨w.heap.size + 2, 0, none⟩ (.int .i64 2)).setCell ⟨w.heap.size + 2, 1, none⟩ (.int .i64 cc)).setCell ⟨w.heap.size + 2, 0, none⟩ (.int .i64 1)).drew = w3 at *
        have H2 := Lib.hid (PM.below H.out HB3.out)
        have d4 := (QA.cells H2.out).2.2.2.1
        have d6 := (QA.cells H2.out).2.2.2.2.2
        have hz2 : B ≤ w3.drew.heap.size := Nat.le_trans hB HB3.out.size
        have hlen2 := HS.out.len
        go_region_law (refine step_smark rfl _ _ rfl (w0 := w3.drew) (1, cc) (PM.drew H2.out) hz2 hlen2 rfl rfl rfl ?_; intro g2 cap w5 hq hc; have q4 := (QA.cells' hq).2.2.2.1; have q6 := (QA.cells' hq).2.2.2.2.2; have qf := PM.frz hq; have HQ := Lib.hid hq; have HC := Lib.hid hc; clear hq hc)
        all_goals
          obtain ⟨r1, r2⟩ := QA.push HQ.out
          go_wp2
          go_ret
          rw [HP.out]
          exact ⟨rfl, (Chg.of_below HB3.out).trans ((Chg.drew (Chg.refl B w3)).trans (HC.out.trans r2)), _, _, r1⟩
      · have bt : (t.d == 1) = false := by simpa using htd
        have HP := Lib.hid (show s.put W t z = ({ s with ms := s.ms ++ [(2, cc)] }, false) from by unfold Pr.put Pr.open; rw [hroom, hcc]; simp [hk, htd])
        clear htd
        go_wp2
        have hm2 := (HMB.out.set 0 (.int .i64 2)).set 1 (.int .i64 cc)
        have HB3 := Lib.hid (show Bw w ((w2.setCell ⟨w.heap.size + 2, 0, none⟩ (.int .i64 2)).setCell ⟨w.heap.size + 2, 1, none⟩ (.int .i64 cc)).drew from Below.drew (Below.setCell (p := ⟨w.heap.size + 2, 1, none⟩) (Below.setCell (p := ⟨w.heap.size + 2, 0, none⟩) HBA.out hl2 _) hl2 _))
        have n0 : ((w2.setCell ⟨w.heap.size + 2, 0, none⟩ (.int .i64 2)).setCell ⟨w.heap.size + 2, 1, none⟩ (.int .i64 cc)).drew.cell? ⟨w.heap.size + 2, 0, none⟩ = some (.int .i64 2) := (hm2.cell 0).trans rfl
        have n1 : ((w2.setCell ⟨w.heap.size + 2, 0, none⟩ (.int .i64 2)).setCell ⟨w.heap.size + 2, 1, none⟩ (.int .i64 cc)).drew.cell? ⟨w.heap.size + 2, 1, none⟩ = some (.int .i64 cc) := (hm2.cell 1).trans rfl
        have n2 : w.heap.size + 2 < ((w2.setCell ⟨w.heap.size + 2, 0, none⟩ (.int .i64 2)).setCell ⟨w.heap.size + 2, 1, none⟩ (.int .i64 cc)).drew.heap.size := hm2.lt
        clear hm2 c0 c1 c2 c3 c4 t2 t3 m0 m1 mf ml hp2
        generalize ((w2.setCell ⟨w.heap.size + 2, 0, none⟩ (.int .i64 2)).setCell ⟨w.heap.size + 2, 1, none⟩ (.int .i64 cc)).drew = w3 at *
        have H2 := Lib.hid (PM.below H.out HB3.out)
        have d4 := (QA.cells H2.out).2.2.2.1
        have d6 := (QA.cells H2.out).2.2.2.2.2
        have hz2 : B ≤ w3.drew.heap.size := Nat.le_trans hB HB3.out.size
        have hlen2 := HS.out.len
        go_region_law (refine step_smark rfl _ _ rfl (w0 := w3.drew) (2, cc) (PM.drew H2.out) hz2 hlen2 rfl rfl rfl ?_; intro g2 cap w5 hq hc; have q4 := (QA.cells' hq).2.2.2.1; have q6 := (QA.cells' hq).2.2.2.2.2; have qf := PM.frz hq; have HQ := Lib.hid hq; have HC := Lib.hid hc; clear hq hc)
        all_goals
          obtain ⟨r1, r2⟩ := QA.push HQ.out
          go_wp2
          go_ret
          rw [HP.out]
          exact ⟨rfl, (Chg.of_below HB3.out).trans ((Chg.drew (Chg.refl B w3)).trans (HC.out.trans r2)), _, _, r1⟩
    · have HP := Lib.hid (show s.put W t z = ({ s with ms := s.ms ++ [(0, s.top.2)] }, false) from by unfold Pr.put Pr.open; rw [hroom]; simp [hk])
      go_wp2_with fail
      refine (HRM.out _ (Below.alloc HBW.out HBW.out.size _)).mono ?_
      rintro e w2 ⟨rfl, rfl⟩
      rw [hroom]
      clear HRM
      go_wp2
      have m0 : (w1.alloc (.cells #[.int .i64 0, .int .i64 s.top.2] 248)).drew.cell? ⟨w.heap.size + 2, 0, none⟩ = some (.int .i64 0) := (HMB.out.cell 0).trans rfl
      have m1 : (w1.alloc (.cells #[.int .i64 0, .int .i64 s.top.2] 248)).drew.cell? ⟨w.heap.size + 2, 1, none⟩ = some (.int .i64 s.top.2) := (HMB.out.cell 1).trans rfl
      have m2 : w.heap.size + 2 < (w1.alloc (.cells #[.int .i64 0, .int .i64 s.top.2] 248)).drew.heap.size := HMB.out.lt
      have HB2 := HBA
      generalize (w1.alloc (.cells #[.int .i64 0, .int .i64 s.top.2] 248)).drew = w2 at *
      clear c0 c1 c2 c3 c4 cf t0 t1 t2 t3 p0 p1 hz1
      have H2 := Lib.hid (PM.below H.out HB2.out)
      have d4 := (QA.cells H2.out).2.2.2.1
      have d6 := (QA.cells H2.out).2.2.2.2.2
      have hz2 : B ≤ w2.drew.heap.size := Nat.le_trans hB HB2.out.size
      have hlen2 := HS.out.len
      go_region_law (refine step_smark rfl _ _ rfl (w0 := w2.drew) (0, s.top.2) (PM.drew H2.out) hz2 hlen2 rfl rfl rfl ?_; intro g2 cap w5 hq hc; have q4 := (QA.cells' hq).2.2.2.1; have q6 := (QA.cells' hq).2.2.2.2.2; have qf := PM.frz hq; have HQ := Lib.hid hq; have HC := Lib.hid hc; clear hq hc)
      all_goals
        obtain ⟨r1, r2⟩ := QA.push HQ.out
        go_wp2
        go_ret
        rw [HP.out]
        exact ⟨rfl, (Chg.of_below HB2.out).trans ((Chg.drew (Chg.refl B w2)).trans (HC.out.trans r2)), _, _, r1⟩
  · have HP := Lib.hid (show s.put W t z = ({ s with ms := s.ms.dropLast }, false) from by simp [Pr.put, hk])
    obtain ⟨g', c', hv, hc, hpop⟩ := PM.pop H1.out HS.out.ne
    have hl0 := List.length_pos_iff.2 HS.out.ne
    injection hv with hv1 hv2 hv3
    injection hv1 with hv1
    injection hv1 with hv1
    subst hv1 hv3
    have HPP := Lib.hid hpop
    obtain ⟨q, hq⟩ : ∃ q, s.ms.length = q + 1 := ⟨s.ms.length - 1, by omega⟩
    have HQ := Lib.hid hq
    have hlen' := HS.out.len
    rw [hq] at c3 hc hlen'
    clear hpop hq hv2 HBR HRM hl0
    go_wp2
    go_region
    go_wp2
    go_ret
    rw [HP.out]
    have r1 := HPP.out
    rw [HQ.out, Nat.add_sub_cancel] at r1
    exact ⟨rfl, ((Chg.of_below HBW.out).trans (r1.chg_set 3 _)).drew, _, _, PM.drew (r1.set 3 _)⟩
  · have HP := Lib.hid (show s.put W t z = (s.brk t.o, true) from by simp [Pr.put, hk])
    clear HRM
    go_wp2_with fail
    refine (HBR.out _ HBW.out).mono ?_
    rintro e w2 ⟨rfl, hc2, vW2, vM2, hp2⟩
    have HC2 := Lib.hid ((Chg.of_below HBW.out).trans hc2)
    have HP2 := Lib.hid hp2
    clear hc2 hp2 c0 c1 c2 c3 c4 cf t0 t1 t2 t3 p0 p1 HBR
    go_wp2
    go_ret
    rw [HP.out]
    exact ⟨rfl, HC2.out, _, _, HP2.out⟩
end Go.Proofs.YthjkgbcomjiejadGreatDoor
